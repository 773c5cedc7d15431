import Derived.Test.YteekompojgbkhaaGreatKBqF
namespace Go.Proofs.YteekompojgbkhaaGreat
open Go.ChangeShapes Go.WideShapes Go.ChangeAt Go.RowKit Go.MuLone Go.RwLone
set_option linter.unusedVariables false
set_option linter.unusedSectionVars false
/-- A machine of the book: its kind (Insert, Remove, walk), its slot, its state, whether it is done, marked, begun. -/
structure On where
  kd : Nat
  sl : Int
  mi : MI
  mr : MR
  mw : MW
  dn : Bool
  mq : Bool
  bg : Bool
  t : TrP
/-- What is known of a walk of the book. -/
def WkOn (N nb : Int) (bk : Int → Int) (G : Gb) (o : On) : Prop := 0 ≤ o.t.k ∧ o.t.k < nb ∧ o.mw.code = 0 ∧ ((o.bg = false ∧ o.dn = false ∧ o.mw.st = 0 ∧ o.mw.src = o.t.k ∧ o.mw.slot = 0 ∧ o.mw.ended = false ∧ o.t.met = [] ∧ o.t.due = []) ∨ (o.bg = true ∧ o.dn = false ∧ o.mw.st = 2 ∧ WlkI N bk G o.mw o.t) ∨ (o.bg = true ∧ o.dn = true ∧ o.mw.st = 3 ∧ o.mw.ended = true))
structure OnOk (N nb : Int) (bk : Int → Int) (G : Gb) (o : On) : Prop where
  i : o.kd = 0 → InsI N bk G o.mi ∧ o.mi.sl = o.sl ∧ (o.dn = true ↔ o.mi.st = 4)
  r : o.kd = 1 → RemI N bk G o.mr ∧ o.mr.sl = o.sl ∧ o.mq = o.mr.ma ∧ (o.dn = true ↔ o.mr.st = 6)
  w : o.kd = 2 → WkOn N nb bk G o
  k : o.kd ≤ 2
/-- The book and all its machines. -/
structure BkI (N nb : Int) (bk : Int → Int) (S : AS) (x : XS) (G : Gb) (rows : Int → List Int) (all : List On) : Prop where
  l : Lnk N nb S x G
  g : GbInv N nb bk G
  r : RwOk N nb bk G rows
  n : RkOk N G
  ok : ∀ (i : Nat) (o : On), all[i]? = some o → OnOk N nb bk G o
  ne : ∀ (i j : Nat) (o p : On), all[i]? = some o → all[j]? = some p → i ≠ j → o.kd = p.kd → o.kd ≤ 1 → o.sl ≠ p.sl
section
variable {N nb : Int} {bk : Int → Int} {S S' : AS} {x x' : XS} {G G' : Gb} {rows rows' : Int → List Int} {all : List On}
theorem InsI.le2 {m : MI} (h : InsI N bk G m) (k : GbLe G G') (hW : m.st ≤ 3 → G'.W m.sl = G.W m.sl) (hi : G'.ins m.sl = G.ins m.sl) : InsI N bk G' m := ⟨h.lo, h.up, h.bu, h.st, fun e => hi.trans (h.on e), fun e => (hW (by omega)).trans (h.w0 e), fun e => (hW (by omega)).trans (h.w3 e), fun e => ⟨(h.dn e).1, hi.trans (h.dn e).2⟩⟩
theorem WkOn.le {o : On} (h : WkOn N nb bk G o) (k : GbLe G G') : WkOn N nb bk G' o := ⟨h.1, h.2.1, h.2.2.1, h.2.2.2.imp id (fun h => h.imp (fun h => ⟨h.1, h.2.1, h.2.2.1, h.2.2.2.le k⟩) id)⟩
theorem OnOk.le {o : On} (h : OnOk N nb bk G o) (k : GbLe G G') (h0 : o.kd = 0 → (o.mi.st ≤ 3 → G'.W o.sl = G.W o.sl) ∧ G'.ins o.sl = G.ins o.sl) (h1 : o.kd = 1 → G'.rem o.sl = G.rem o.sl) : OnOk N nb bk G' o := by
  refine ⟨fun e => ?_, fun e => ?_, fun e => (h.w e).le k, h.k⟩
  · have a := h.i e
    have b := h0 e
    rw [← a.2.1] at b
    exact ⟨a.1.le2 k b.1 b.2, a.2⟩
  · have a := h.r e
    have b := h1 e
    rw [← a.2.1] at b
    exact ⟨a.1.le k b, a.2⟩
/-- One machine steps, the others stay as they were. -/
theorem BkI.step (h : BkI N nb bk S x G rows all) {i : Nat} {o o' : On} (hi : all[i]? = some o) (hkd : o'.kd = o.kd) (hsl : o'.sl = o.sl) (hl : Lnk N nb S' x' G') (hg : GbInv N nb bk G') (hr : RwOk N nb bk G' rows') (hn : RkOk N G') (k : GbLe G G') (ho : OnOk N nb bk G' o') (h0 : ∀ p, OnOk N nb bk G p → (p.kd = o.kd → p.kd ≤ 1 → p.sl ≠ o.sl) → (p.kd = 0 → (p.mi.st ≤ 3 → G'.W p.sl = G.W p.sl) ∧ G'.ins p.sl = G.ins p.sl) ∧ (p.kd = 1 → G'.rem p.sl = G.rem p.sl)) : BkI N nb bk S' x' G' rows' (all.set i o') := by
  have hlt : i < all.length := (List.getElem?_eq_some_iff.1 hi).1
  have at_ : ∀ (j : Nat) (p : On), (all.set i o')[j]? = some p → (j = i ∧ p = o') ∨ (j ≠ i ∧ all[j]? = some p) := fun j p hp => by
    by_cases e : j = i
    · rw [e, List.getElem?_set_self hlt] at hp
      exact .inl ⟨e, by injection hp with hp; exact hp.symm⟩
    · rw [List.getElem?_set_ne (fun e2 => e e2.symm)] at hp
      exact .inr ⟨e, hp⟩
  refine ⟨hl, hg, hr, hn, fun j p hp => ?_, fun j1 j2 p q hp hq hne hk hle => ?_⟩
  · rcases at_ j p hp with e | e
    · rw [e.2]
      exact ho
    · have f := h0 p (h.ok j p e.2) (fun h2 h3 => h.ne j i p o e.2 hi e.1 h2 h3)
      exact (h.ok j p e.2).le k f.1 f.2
  · rcases at_ j1 p hp with e | e <;> rcases at_ j2 q hq with f | f
    · exact absurd (e.1.trans f.1.symm) hne
    · rw [e.2] at hk hle ⊢
      rw [hkd] at hk hle
      rw [hsl]
      exact h.ne i j2 o q hi f.2 (fun e2 => f.1 e2.symm) hk hle
    · rw [f.2] at hk ⊢
      rw [hkd] at hk
      rw [hsl]
      exact h.ne j1 i p o e.2 hi e.1 hk hle
    · exact h.ne j1 j2 p q e.2 f.2 hne hk hle
/-- A step of an Insert. -/
theorem BkI.ins (h : BkI N nb bk S x G rows all) (hN : N ≤ 4096) (hb : ∀ s, 0 ≤ bk s ∧ bk s < nb) {i : Nat} {o : On} (hi : all[i]? = some o) (h0 : o.kd = 0) : ∃ G' rows', BkI N nb bk (insP S x o.mi).2.1.S (insP S x o.mi).2.1.x G' rows' (all.set i { o with mi := (insP S x o.mi).2.2, dn := (insP S x o.mi).1 }) ∧ (((insP S x o.mi).1 = o.dn ∧ rows' = rows ∧ G'.ins = G.ins ∧ G'.rem = G.rem ∧ G'.rank = G.rank ∧ G'.ranks = G.ranks) ∨ ((insP S x o.mi).1 = true ∧ o.dn = false ∧ (insP S x o.mi).2.2.code = 0 ∧ rows' = (fun c => if c = bk o.sl then o.sl :: rows (bk o.sl) else rows c) ∧ G'.ins = updI G.ins o.sl 2 ∧ G'.rem = G.rem ∧ G'.rank = updI G.rank o.sl G.ranks ∧ G'.ranks = G.ranks + 1)) := by
  have ho := h.ok i o hi
  obtain ⟨a1, a2, a3⟩ := ho.i h0
  obtain ⟨G', k1, k2, k3, k4, k5, k6, k7⟩ := ins_go h.l h.g hN hb o.mi a1
  rw [a2] at k5 k6 k7
  have oth : ∀ d : Bool, (d = true ↔ (insP S x o.mi).2.2.st = 4) → OnOk N nb bk G' { o with mi := (insP S x o.mi).2.2, dn := d } := fun d hd => ⟨fun _ => ⟨k4, k7, hd⟩, fun e => (by have e : o.kd = 1 := e; omega), fun e => (by have e : o.kd = 2 := e; omega), ho.k⟩
  rcases k6 with ⟨e1, e2, e3, y, e4⟩ | ⟨e1, e2, e3, e4⟩ | ⟨e1, e2, e3, e4⟩
  · have od : o.dn = false := by
      cases hd : o.dn
      · rfl
      · have := a3.1 hd
        omega
    have o2 := oth (insP S x o.mi).1 ⟨fun e => (by rw [e1] at e; cases e), fun e => absurd e3 (by omega)⟩
    rcases e4 with rfl | rfl
    · exact ⟨_, rows, h.step hi rfl rfl k1 k2 h.r h.n k3 o2 (fun p hp hne => ⟨fun e => ⟨fun _ => k5 _ (hne (e.trans h0.symm) (by omega)), rfl⟩, fun _ => rfl⟩), .inl ⟨e1.trans od.symm, rfl, rfl, rfl, rfl, rfl⟩⟩
    · exact ⟨_, rows, h.step hi rfl rfl k1 k2 h.r h.n k3 o2 (fun p hp hne => ⟨fun e => ⟨fun _ => rfl, rfl⟩, fun _ => rfl⟩), .inl ⟨e1.trans od.symm, rfl, rfl, rfl, rfl, rfl⟩⟩
  · subst e4
    have o2 := oth (insP S x o.mi).1 ⟨fun _ => e3, fun _ => e1⟩
    exact ⟨_, rows, h.step hi rfl rfl k1 k2 h.r h.n k3 o2 (fun p hp hne => ⟨fun e => ⟨fun _ => rfl, rfl⟩, fun _ => rfl⟩), .inl ⟨e1.trans (a3.2 e2).symm, rfl, rfl, rfl, rfl, rfl⟩⟩
  · have od : o.dn = false := by
      cases hd : o.dn
      · rfl
      · have := a3.1 hd
        omega
    have o2 := oth (insP S x o.mi).1 ⟨fun _ => e3, fun _ => e1⟩
    have lo : 1 ≤ o.sl := by rw [← a2]; exact a1.lo
    have up : o.sl ≤ N := by rw [← a2]; exact a1.up
    have on : G.ins o.sl = 1 := by rw [← a2]; exact a1.on (by omega)
    have cd := (k4.dn e3).1
    subst e4
    exact ⟨_, _, h.step hi rfl rfl k1 k2 (h.r.push h.g o.sl lo up on) (h.n.push (bk o.sl) o.sl lo up on) k3 o2 (fun p hp hne => ⟨fun e => ⟨fun _ => rfl, updI_ne _ _ (hne (e.trans h0.symm) (by omega))⟩, fun _ => rfl⟩), .inr ⟨e1, od, cd, rfl, rfl, rfl, rfl, rfl⟩⟩
/-- A step of a Remove. -/
theorem BkI.rem (h : BkI N nb bk S x G rows all) (hN : N ≤ 4096) (hb : ∀ s, 0 ≤ bk s ∧ bk s < nb) {i : Nat} {o : On} (hi : all[i]? = some o) (h0 : o.kd = 1) : ∃ G' rows', BkI N nb bk (remP S x o.mr).2.1.S (remP S x o.mr).2.1.x G' rows' (all.set i { o with mr := (remP S x o.mr).2.2, dn := (remP S x o.mr).1, mq := (remP S x o.mr).2.2.ma }) ∧ ((remP S x o.mr).1 = true → (remP S x o.mr).2.2.ma = true ∧ (remP S x o.mr).2.2.co = 0) ∧ (o.dn = true → (remP S x o.mr).1 = true) ∧ G'.ins = G.ins ∧ G'.rank = G.rank ∧ G'.ranks = G.ranks ∧ (((remP S x o.mr).2.2.ma = o.mq ∧ rows' = rows ∧ G'.rem = G.rem) ∨ (o.mq = false ∧ (remP S x o.mr).2.2.ma = true ∧ rows' = (fun c => if c = bk o.sl then (rows (bk o.sl)).filter (fun u => !(u == o.sl)) else rows c) ∧ G'.rem = updI G.rem o.sl 2)) := by
  have ho := h.ok i o hi
  obtain ⟨a1, a2, a4, a3⟩ := ho.r h0
  have b0 : o.mr.bu = bk o.sl := by rw [← a2]; exact a1.g.2.2.2.symm
  obtain ⟨G', k1, k2, k3, k4, k5, k6, k7, k8, k9⟩ := rem_go h.l h.g hN hb o.mr a1
  rw [a2] at k7 k9
  have o2 : OnOk N nb bk G' { o with mr := (remP S x o.mr).2.2, dn := (remP S x o.mr).1, mq := (remP S x o.mr).2.2.ma } := ⟨fun e => (by have e : o.kd = 0 := e; omega), fun _ => ⟨k4, k7, rfl, k6⟩, fun e => (by have e : o.kd = 2 := e; omega), ho.k⟩
  have fin : (remP S x o.mr).1 = true → (remP S x o.mr).2.2.ma = true ∧ (remP S x o.mr).2.2.co = 0 := fun e => ⟨(k4.ob (by have := k6.1 e; omega)).1, k4.co (k6.1 e)⟩
  have st6 : ∀ m : MR, m.st = 6 → (remP S x m).1 = true := fun m e => by
    unfold remP
    rw [e]
    rfl
  have stay : o.dn = true → (remP S x o.mr).1 = true := fun e => st6 _ (a3.1 e)
  have oth : ∀ p, OnOk N nb bk G p → p.kd = 0 → (p.mi.st ≤ 3 → G'.W p.sl = G.W p.sl) ∧ G'.ins p.sl = G.ins p.sl := fun p hp e => ⟨fun e2 => k5.2.2.2 _ (by have := (hp.i e); rw [← this.2.1, this.1.on e2]; decide), by rw [k5.1]⟩
  rcases k9 with ⟨e1, e2⟩ | ⟨e1, e2, e3⟩
  · exact ⟨G', rows, h.step hi rfl rfl k1 k2 (h.r.bsm k5 e1) (h.n.bsm k5) k3 o2 (fun p hp hne => ⟨oth p hp, fun _ => by rw [e1]⟩), fin, stay, k5.1, k5.2.1, k5.2.2.1, .inl ⟨e2.trans a4.symm, rfl, e1⟩⟩
  · have g : Gin N bk G (bk o.sl) o.sl := by
      have := a1.g
      rw [a2, b0] at this
      exact this
    exact ⟨G', _, h.step hi rfl rfl k1 k2 (h.r.mark k5 (bk o.sl) o.sl g e3) (h.n.bsm k5) k3 o2 (fun p hp hne => ⟨oth p hp, fun e => by rw [e3]; exact updI_ne _ _ (hne (e.trans h0.symm) (by omega))⟩), fin, stay, k5.1, k5.2.1, k5.2.2.1, .inr ⟨a4.trans e1, e2, rfl, e3⟩⟩
end
end Go.Proofs.YteekompojgbkhaaGreat

namespace Go.Proofs.YteekompojgbkhaaGreat
open Go.ChangeShapes Go.WideShapes Go.ChangeAt Go.RowKit Go.MuLone Go.RwLone
set_option linter.unusedVariables false
set_option linter.unusedSectionVars false
section
variable {N nb : Int} {bk : Int → Int} {S S' : AS} {x x' : XS} {G G' : Gb} {rows rows' : Int → List Int} {all : List On}
/-- A walk's trip as its step begins: the first step takes down what is in the bucket. -/
def tr0 (G : Gb) (rows : Int → List Int) (o : On) : TrP := if o.bg = true then o.t else { o.t with rk := G.ranks, due := rows o.t.k }
def met1 (t : TrP) (m : MW) : List Int := if m.slot = 0 then t.met else t.met ++ [m.slot]
/-- A step of a walk. -/
theorem BkI.walk (h : BkI N nb bk S x G rows all) (hN : N ≤ 4096) {i : Nat} {o : On} (hi : all[i]? = some o) (h0 : o.kd = 2) : BkI N nb bk (wlkP S x o.mw).2.1.S (wlkP S x o.mw).2.1.x G rows (all.set i { o with mw := (wlkP S x o.mw).2.2, bg := true, t := { tr0 G rows o with met := met1 (tr0 G rows o) (wlkP S x o.mw).2.2 }, dn := (wlkP S x o.mw).2.2.ended }) ∧ (wlkP S x o.mw).2.2.code = 0 ∧ ((wlkP S x o.mw).1 = true ↔ ((wlkP S x o.mw).2.2.slot ≠ 0 ∨ (wlkP S x o.mw).2.2.ended = true)) ∧ (o.dn = true → (wlkP S x o.mw).2.2.slot = 0 ∧ (wlkP S x o.mw).2.2.ended = true) ∧ ((wlkP S x o.mw).2.2.slot ≠ 0 → Gin N bk G o.t.k (wlkP S x o.mw).2.2.slot ∧ (wlkP S x o.mw).2.2.slot ∈ (tr0 G rows o).due ∧ G.rank (wlkP S x o.mw).2.2.slot < (tr0 G rows o).rk ∧ ∀ u, u ∈ (tr0 G rows o).met → G.rank (wlkP S x o.mw).2.2.slot < G.rank u) ∧ (o.dn = false → (wlkP S x o.mw).2.2.ended = true → ∀ u, u ∈ (tr0 G rows o).due → G.rem u = 2 ∨ u ∈ met1 (tr0 G rows o) (wlkP S x o.mw).2.2) := by
  have ho := h.ok i o hi
  have hw := ho.w h0
  obtain ⟨c0, c1, c2, c3⟩ := hw
  have tk : (tr0 G rows o).k = o.t.k := by
    unfold tr0
    split <;> rfl
  have fin : WlkGo N nb bk G (tr0 G rows o) (wlkP S x o.mw) → o.dn = false → BkI N nb bk (wlkP S x o.mw).2.1.S (wlkP S x o.mw).2.1.x G rows (all.set i { o with mw := (wlkP S x o.mw).2.2, bg := true, t := { tr0 G rows o with met := met1 (tr0 G rows o) (wlkP S x o.mw).2.2 }, dn := (wlkP S x o.mw).2.2.ended }) ∧ (wlkP S x o.mw).2.2.code = 0 ∧ ((wlkP S x o.mw).1 = true ↔ ((wlkP S x o.mw).2.2.slot ≠ 0 ∨ (wlkP S x o.mw).2.2.ended = true)) ∧ (o.dn = true → (wlkP S x o.mw).2.2.slot = 0 ∧ (wlkP S x o.mw).2.2.ended = true) ∧ ((wlkP S x o.mw).2.2.slot ≠ 0 → Gin N bk G o.t.k (wlkP S x o.mw).2.2.slot ∧ (wlkP S x o.mw).2.2.slot ∈ (tr0 G rows o).due ∧ G.rank (wlkP S x o.mw).2.2.slot < (tr0 G rows o).rk ∧ ∀ u, u ∈ (tr0 G rows o).met → G.rank (wlkP S x o.mw).2.2.slot < G.rank u) ∧ (o.dn = false → (wlkP S x o.mw).2.2.ended = true → ∀ u, u ∈ (tr0 G rows o).due → G.rem u = 2 ∨ u ∈ met1 (tr0 G rows o) (wlkP S x o.mw).2.2) := by
    rintro ⟨d1, d2, d3, d4, d5, d6⟩ od
    rw [tk] at d4
    refine ⟨h.step hi rfl rfl d1 h.g h.r h.n (GbLe.refl G) ⟨fun e => (by have e : o.kd = 0 := e; omega), fun e => (by have e : o.kd = 1 := e; omega), fun _ => ⟨by show 0 ≤ (tr0 G rows o).k; rw [tk]; exact c0, by show (tr0 G rows o).k < nb; rw [tk]; exact c1, d2, ?_⟩, ho.k⟩ (fun p hp _ => ⟨fun _ => ⟨fun _ => rfl, rfl⟩, fun _ => rfl⟩), d2, d3, fun e => absurd e (by rw [od]; decide), d4, fun _ he => (d6 he).2⟩
    cases he : (wlkP S x o.mw).2.2.ended
    · have := d5 he
      exact .inr (.inl ⟨rfl, (by first | exact he | rfl), this.1, this.2⟩)
    · have := d6 he
      exact .inr (.inr ⟨rfl, (by first | exact he | rfl), this.1, (by first | exact he | rfl)⟩)
  rcases c3 with ⟨b1, b2, b3, b4, b5, b6, b7, b8⟩ | ⟨b1, b2, b3, b4⟩ | ⟨b1, b2, b3, b4⟩
  · have et : tr0 G rows o = { o.t with rk := G.ranks, due := rows o.t.k } := by
      unfold tr0
      rw [if_neg (by rw [b1]; decide)]
    refine fin ?_ b2
    rw [et]
    exact wlk_go0 h.l h.g hN o.mw _ c0 c1 b3 b4 c2 b5 b6 rfl b7 (h.r o.t.k c0 c1).1
  · have et : tr0 G rows o = o.t := by
      unfold tr0
      rw [if_pos b1]
    refine fin ?_ b2
    rw [et]
    exact wlk_go2 h.l h.g hN o.mw _ c0 b3 b4
  · have et : tr0 G rows o = o.t := by
      unfold tr0
      rw [if_pos b1]
    have w3 : ∀ m : MW, m.st = 3 → wlkP S x m = (true, ⟨S, x⟩, { m with slot := 0 }) := fun m e => by
      obtain ⟨st, src, own, slot, pend, ended, code⟩ := m
      cases e
      rfl
    have e3 := w3 o.mw b3
    rw [et, e3]
    refine ⟨h.step hi rfl rfl h.l h.g h.r h.n (GbLe.refl G) ⟨fun e => (by have e : o.kd = 0 := e; omega), fun e => (by have e : o.kd = 1 := e; omega), fun _ => ⟨c0, c1, c2, .inr (.inr ⟨rfl, b4, b3, b4⟩)⟩, ho.k⟩ (fun p hp _ => ⟨fun _ => ⟨fun _ => rfl, rfl⟩, fun _ => rfl⟩), c2, ⟨fun _ => .inr b4, fun _ => rfl⟩, fun _ => ⟨rfl, b4⟩, fun e => absurd rfl e, fun e => absurd b2 (by rw [e]; decide)⟩
/-- A machine more. -/
theorem BkI.app (h : BkI N nb bk S x G rows all) {o : On} (hl : Lnk N nb S x G') (hg : GbInv N nb bk G') (hr : RwOk N nb bk G' rows) (hn : RkOk N G') (k : GbLe G G') (ho : OnOk N nb bk G' o) (h0 : ∀ p, OnOk N nb bk G p → (p.kd = 0 → (p.mi.st ≤ 3 → G'.W p.sl = G.W p.sl) ∧ G'.ins p.sl = G.ins p.sl) ∧ (p.kd = 1 → G'.rem p.sl = G.rem p.sl)) (hne : ∀ p, OnOk N nb bk G p → p.kd = o.kd → o.kd ≤ 1 → p.sl ≠ o.sl) : BkI N nb bk S x G' rows (all ++ [o]) := by
  have at_ : ∀ (j : Nat) (p : On), (all ++ [o])[j]? = some p → (j = all.length ∧ p = o) ∨ all[j]? = some p := fun j p hp => by
    by_cases e : j < all.length
    · rw [List.getElem?_append_left e] at hp
      exact .inr hp
    · rw [List.getElem?_append_right (by omega)] at hp
      have := (List.getElem?_eq_some_iff.1 hp).1
      have e2 : j - all.length = 0 := by
        simp only [List.length_cons, List.length_nil] at this
        omega
      rw [e2] at hp
      injection hp with hp
      exact .inl ⟨by omega, hp.symm⟩
  refine ⟨hl, hg, hr, hn, fun j p hp => ?_, fun j1 j2 p q hp hq hj hk hle => ?_⟩
  · rcases at_ j p hp with e | e
    · rw [e.2]
      exact ho
    · have f := h0 p (h.ok j p e)
      exact (h.ok j p e).le k f.1 f.2
  · rcases at_ j1 p hp with e | e <;> rcases at_ j2 q hq with f | f
    · exact absurd (e.1.trans f.1.symm) hj
    · rw [e.2] at hk hle ⊢
      exact fun e2 => hne q (h.ok j2 q f) hk.symm hle e2.symm
    · rw [f.2] at hk ⊢
      exact hne p (h.ok j1 p e) hk (by omega)
    · exact h.ne j1 j2 p q e f hj hk hle
end
end Go.Proofs.YteekompojgbkhaaGreat

namespace Go.Proofs.YteekompojgbkhaaGreat
open Go.ChangeShapes Go.WideShapes Go.ChangeAt Go.RowKit Go.MuLone Go.RwLone
set_option linter.unusedVariables false
set_option linter.unusedSectionVars false
/-- One access, of a cell or of a head; none. -/
def OneA (S : AS) (x : XS) (S' : AS) (x' : XS) : Prop := (S'.acc = wrap64 (S.acc + 1) ∧ x'.cn = x.cn) ∨ (S'.acc = S.acc ∧ x'.cn = wrap64 (x.cn + 1))
section
variable {N nb : Int} {bk : Int → Int} {S S' : AS} {x x' : XS} {G G' : Gb} {rows rows' : Int → List Int} {all : List On}
/-- An Insert begins. -/
def Gb.beg (G : Gb) (s : Int) : Gb := { G with ins := updI G.ins s 1 }
theorem gin_beg (s : Int) (hs : G.ins s = 0) (b t : Int) : Gin N bk (G.beg s) b t ↔ Gin N bk G b t := by
  constructor
  · intro h
    have h2 : updI G.ins s 1 t = 2 := h.2.2.1
    by_cases e : t = s
    · rw [e, updI_at] at h2
      omega
    · rw [updI_ne _ _ e] at h2
      exact ⟨h.1, h.2.1, h2, h.2.2.2⟩
  · intro h
    have e : t ≠ s := fun e => by have := h.2.2.1; rw [e, hs] at this; omega
    exact ⟨h.1, h.2.1, (updI_ne _ _ e).trans h.2.2.1, h.2.2.2⟩
theorem GbInv.beg (h : GbInv N nb bk G) (s : Int) (hs : G.ins s = 0) : GbInv N nb bk (G.beg s) ∧ GbLe G (G.beg s) := by
  have gi := fun b t => gin_beg (N := N) (bk := bk) s hs b t
  have at1 : (G.beg s).ins s = 1 := updI_at _ _ _
  have ot : ∀ {t : Int}, t ≠ s → (G.beg s).ins t = G.ins t := fun {t} e => updI_ne _ _ e
  refine ⟨⟨fun b t ht => (h.nx b t ((gi b t).1 ht)).imp id (gi b _).2, fun b t ht hi => h.dn b t ((gi b t).1 ht) ((gi b _).1 hi), fun b t ht => h.mrk b t ((gi b t).1 ht), fun b b0 b1 => ⟨(h.hx b b0 b1).1.imp id (gi b _).2, (h.hx b b0 b1).2⟩, fun b t u ht hu hr ho => h.gap b t u ((gi b t).1 ht) ((gi b u).1 hu) hr (fun hi => ho ((gi b _).2 hi)), fun b u b0 b1 hu ho => h.hgap b u b0 b1 ((gi b u).1 hu) (fun hi => ho ((gi b _).2 hi)), fun b t ht => h.rk b t ((gi b t).1 ht), fun b t u ht hu => h.inj b t u ((gi b t).1 ht) ((gi b u).1 hu), fun t h1 h2 h3 => ?_, fun t ht => ?_, h.r0⟩, ⟨fun t ht => ?_, fun t ht => ?_, fun t ht => ht, Int.le_refl _, fun t _ _ => rfl, fun t h1 h2 => ?_⟩⟩
  · have e : t ≠ s := fun e => by rw [e, at1] at h3; omega
    rw [ot e] at h3
    exact h.w0 t h1 h2 h3
  · by_cases e : t = s
    · rw [e]
      exact h.rm s (by rw [hs]; decide)
    · rw [ot e] at ht
      exact h.rm t ht
  · have e : t ≠ s := fun e => by rw [e, hs] at ht; omega
    exact ⟨(ot e).trans ht, rfl⟩
  · have e : t ≠ s := fun e => by rw [e, hs] at ht; omega
    exact .inl ((ot e).trans ht)
  · by_cases e : t = s
    · rw [e, at1] at h2
      omega
    · rw [ot e] at h2
      exact absurd h2 h1
theorem BkI.beg0 (h : BkI N nb bk S x G rows all) (o : On) (h1 : 1 ≤ o.sl) (h2 : o.sl ≤ N) (hs : G.ins o.sl = 0) (hk : o.kd = 0) (hd : o.dn = false) (m0 : o.mi.st = 0) (m1 : o.mi.sl = o.sl) (m2 : o.mi.bu = bk o.sl) : BkI N nb bk S x (G.beg o.sl) rows (all ++ [o]) := by
  have k := h.g.beg o.sl hs
  have gi := fun b t => gin_beg (N := N) (bk := bk) o.sl hs b t
  refine h.app (h.l.same rfl rfl) k.1 (fun b b0 b1 => ⟨fun u => by rw [gi]; exact (h.r b b0 b1).1 u, (h.r b b0 b1).2⟩) ?_ k.2 ⟨fun _ => ⟨⟨by rw [m1]; exact h1, by rw [m1]; exact h2, by rw [m1]; exact m2, by omega, fun _ => by rw [m1]; exact updI_at _ _ _, fun _ => by rw [m1]; exact h.g.w0 _ h1 h2 hs, fun e => by omega, fun e => by omega⟩, m1, by rw [hd, m0]; decide⟩, fun e => by omega, fun e => by omega, by omega⟩ (fun p hp => ⟨fun e => ⟨fun _ => rfl, updI_ne _ _ ?_⟩, fun _ => rfl⟩) (fun p hp e _ => ?_)
  · obtain ⟨l, h3, h4, h5⟩ := h.n
    refine ⟨l, h3, h4, fun t ht => ⟨(h5 t ht).1, (h5 t ht).2.1, (updI_ne _ _ (fun e => ?_)).trans (h5 t ht).2.2⟩⟩
    have := (h5 t ht).2.2
    rw [e, hs] at this
    omega
  · intro e2
    obtain ⟨a1, a2, a3⟩ := hp.i e
    rw [← a2] at e2
    by_cases e3 : p.mi.st ≤ 3
    · have := a1.on e3
      rw [e2, hs] at this
      omega
    · have := (a1.dn (by have := a1.st; omega)).2
      rw [e2, hs] at this
      omega
  · intro e2
    obtain ⟨a1, a2, a3⟩ := hp.i (e.trans hk)
    rw [← a2] at e2
    by_cases e3 : p.mi.st ≤ 3
    · have := a1.on e3
      rw [e2, hs] at this
      omega
    · have := (a1.dn (by have := a1.st; omega)).2
      rw [e2, hs] at this
      omega
/-- A Remove begins. -/
def Gb.beg1 (G : Gb) (s : Int) : Gb := { G with rem := updI G.rem s 1 }
theorem BkI.beg1 (h : BkI N nb bk S x G rows all) (o : On) (h1 : 1 ≤ o.sl) (h2 : o.sl ≤ N) (hs : G.ins o.sl = 2) (hz : G.rem o.sl = 0) (hk : o.kd = 1) (hd : o.dn = false) (hm : o.mq = false) (m0 : o.mr.st = 0) (m1 : o.mr.sl = o.sl) (m2 : o.mr.bu = bk o.sl) (m3 : o.mr.ma = false) : BkI N nb bk S x (G.beg1 o.sl) rows (all ++ [o]) := by
  have at1 : (G.beg1 o.sl).rem o.sl = 1 := updI_at _ _ _
  have ot : ∀ {t : Int}, t ≠ o.sl → (G.beg1 o.sl).rem t = G.rem t := fun {t} e => updI_ne _ _ e
  have r2 : ∀ t, (G.beg1 o.sl).rem t = 2 ↔ G.rem t = 2 := fun t => by
    by_cases e : t = o.sl
    · rw [e, at1, hz]
      omega
    · rw [ot e]
  have le : GbLe G (G.beg1 o.sl) := ⟨fun t ht => ⟨ht, rfl⟩, fun t ht => .inl ht, fun t ht => (r2 t).2 ht, Int.le_refl _, fun t _ _ => rfl, fun t h1 h2 => absurd h2 h1⟩
  refine h.app (h.l.same rfl rfl) ⟨h.g.nx, h.g.dn, fun b t ht => (h.g.mrk b t ht).trans (r2 t).symm, h.g.hx, fun b t u ht hu hr ho => (r2 u).2 (h.g.gap b t u ht hu hr ho), fun b u b0 b1 hu ho => (r2 u).2 (h.g.hgap b u b0 b1 hu ho), h.g.rk, h.g.inj, h.g.w0, fun t ht e => h.g.rm t ht ((r2 t).1 e), h.g.r0⟩ (fun b b0 b1 => ⟨fun u => ?_, (h.r b b0 b1).2⟩) h.n le ⟨fun e => by omega, fun _ => ⟨⟨⟨by rw [m1]; exact h1, by rw [m1]; exact h2, by rw [m1]; exact hs, by rw [m1, m2]⟩, by omega, fun _ => ⟨m3, by rw [m1]; exact at1⟩, fun e => by omega, fun e => by omega, fun e => by omega, fun e => by omega, fun e => by omega⟩, m1, by rw [hm, m3], by rw [hd, m0]; decide⟩, fun e => by omega, by omega⟩ (fun p hp => ⟨fun e => ⟨fun _ => rfl, rfl⟩, fun e => ot ?_⟩) (fun p hp e _ => ?_)
  · refine ((h.r b b0 b1).1 u).trans ⟨fun h => ⟨h.1, fun e => h.2 ((r2 u).1 e)⟩, fun h => ⟨h.1, fun e => h.2 ((r2 u).2 e)⟩⟩
  · intro e2
    obtain ⟨a1, a2, a3⟩ := hp.r e
    rw [← a2] at e2
    by_cases e3 : p.mr.st ≤ 2
    · have := (a1.un e3).2
      rw [e2, hz] at this
      omega
    · have := (a1.ob (by omega)).2
      rw [e2, hz] at this
      omega
  · intro e2
    obtain ⟨a1, a2, a3⟩ := hp.r (e.trans hk)
    rw [← a2] at e2
    by_cases e3 : p.mr.st ≤ 2
    · have := (a1.un e3).2
      rw [e2, hz] at this
      omega
    · have := (a1.ob (by omega)).2
      rw [e2, hz] at this
      omega
end
end Go.Proofs.YteekompojgbkhaaGreat
