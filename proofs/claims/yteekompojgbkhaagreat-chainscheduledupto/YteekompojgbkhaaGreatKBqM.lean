import Derived.Test.YteekompojgbkhaaGreatKBqI
namespace Go.Proofs.YteekompojgbkhaaGreat
open Go.ChangeShapes Go.WideShapes Go.ChangeAt Go.RowKit Go.MuLone Go.RwLone
set_option linter.unusedVariables false
set_option linter.unusedSectionVars false
section
variable {N nb : Int} {bk : Int → Int} {S S' : AS} {x x' : XS} {G G' : Gb} {rows rows' : Int → List Int} {all : List On}
/-- P4.11: a step of an Insert that is not done makes one access. -/
theorem ins_one (hl : Lnk N nb S x G) (hb : ∀ s, 0 ≤ bk s ∧ bk s < nb) (m : MI) (hm : InsI N bk G m) (h3 : m.st ≤ 3) : OneA S x (insP S x m).2.1.S (insP S x m).2.1.x := by
  have hi : inB x m.bu = true := by rw [hm.bu]; exact hl.inb (hb _).1 (hb _).2
  have hv := hl.lv _ hm.lo hm.up
  obtain ⟨st, code, bu, sl, hd, tr⟩ := m
  simp only at hi hv h3
  match st with
  | 0 =>
    show OneA S x (if inB x bu then (if liv S sl then (if S.word (atC S sl x.cell) = 0 then _ else _) else _) else _ : Bool × CS × MI).2.1.S (if inB x bu then (if liv S sl then (if S.word (atC S sl x.cell) = 0 then _ else _) else _) else _ : Bool × CS × MI).2.1.x
    rw [if_pos hi, if_pos hv]
    split
    · exact .inl ⟨rfl, rfl⟩
    · exact .inl ⟨rfl, rfl⟩
  | 1 => exact .inr ⟨rfl, rfl⟩
  | 2 =>
    show OneA S x (if liv S sl then _ else _ : Bool × CS × MI).2.1.S (if liv S sl then _ else _ : Bool × CS × MI).2.1.x
    rw [if_pos hv]
    exact .inl ⟨rfl, rfl⟩
  | 3 =>
    show OneA S x (if x.hd bu.toNat = hd then _ else _ : Bool × CS × MI).2.1.S (if x.hd bu.toNat = hd then _ else _ : Bool × CS × MI).2.1.x
    split
    · exact .inr ⟨rfl, rfl⟩
    · exact .inr ⟨rfl, rfl⟩
  | n + 4 => exact absurd h3 (by omega)
theorem ins_none (m : MI) (h : m.st = 4) : (insP S x m).2.1 = ⟨S, x⟩ := by
  obtain ⟨st, code, bu, sl, hd, tr⟩ := m
  cases h
  rfl
theorem own_one (m : MR) (hv : liv S m.sl = true) : OneA S x (ownR S x m).2.1.S (ownR S x m).2.1.x := by
  unfold ownR
  rw [if_pos hv]
  split
  · exact .inl ⟨rfl, rfl⟩
  · split
    · exact .inl ⟨rfl, rfl⟩
    · exact .inl ⟨rfl, rfl⟩
theorem unlR_cs (m : MR) (q : Bool × Int × CS) : (unlR m q).2.1 = q.2.2 := by
  unfold unlR
  split
  · split
    · split
      · rfl
      · rfl
    · rfl
  · rfl
theorem ah_one (bu ah u y : Int) (hv : ah = 0 ∨ liv S ah = true) : OneA S x (ahR S x bu ah u y).2.2.S (ahR S x bu ah u y).2.2.x := by
  unfold ahR
  by_cases e : ah = 0
  · rw [if_pos e]
    split
    · exact .inr ⟨rfl, rfl⟩
    · exact .inr ⟨rfl, rfl⟩
  · rw [if_neg e, if_pos (hv.resolve_left e)]
    split
    · exact .inl ⟨rfl, rfl⟩
    · exact .inl ⟨rfl, rfl⟩
/-- P4.11: a step of a Remove that is not done makes one access. -/
theorem rem_one (hl : Lnk N nb S x G) (hb : ∀ s, 0 ≤ bk s ∧ bk s < nb) (m : MR) (hm : RemI N bk G m) (h5 : m.st ≤ 5) : OneA S x (remP S x m).2.1.S (remP S x m).2.1.x := by
  have b0 : 0 ≤ m.bu := by rw [← hm.g.2.2.2]; exact (hb _).1
  have b1 : m.bu < nb := by rw [← hm.g.2.2.2]; exact (hb _).2
  have hi := hl.inb b0 b1
  have hv := hl.lv _ hm.g.1 hm.g.2.1
  obtain ⟨st, co, bu, sl, wd, ah, pr, be, ma, he⟩ := m
  simp only at hi hv h5
  match st with
  | 0 =>
    show OneA S x (if inB x bu then _ else _ : Bool × CS × MR).2.1.S (if inB x bu then _ else _ : Bool × CS × MR).2.1.x
    rw [if_pos hi]
    exact own_one _ hv
  | 1 => exact own_one _ hv
  | 2 =>
    show OneA S x (if liv S sl then (if S.word (atC S sl x.cell) = wd then _ else _) else _ : Bool × CS × MR).2.1.S (if liv S sl then (if S.word (atC S sl x.cell) = wd then _ else _) else _ : Bool × CS × MR).2.1.x
    rw [if_pos hv]
    split
    · exact .inl ⟨rfl, rfl⟩
    · exact .inl ⟨rfl, rfl⟩
  | 3 => exact .inr ⟨rfl, rfl⟩
  | 4 =>
    have gp : Gin N bk G bu pr := hm.pr (.inl rfl)
    have pv := hl.lv _ gp.1 gp.2.1
    show OneA S x (if liv S pr then (if S.word (atC S pr x.cell) / 2 = 0 then _ else if S.word (atC S pr x.cell) % 2 == 1 then _ else _) else _ : Bool × CS × MR).2.1.S (if liv S pr then (if S.word (atC S pr x.cell) / 2 = 0 then _ else if S.word (atC S pr x.cell) % 2 == 1 then _ else _) else _ : Bool × CS × MR).2.1.x
    rw [if_pos pv]
    split
    · exact .inl ⟨rfl, rfl⟩
    · split
      · exact .inl ⟨rfl, rfl⟩
      · exact .inl ⟨rfl, rfl⟩
  | 5 =>
    have ga : ah = 0 ∨ Gin N bk G bu ah := hm.ah (.inr rfl)
    show OneA S x (unlR ⟨5, co, bu, sl, wd, ah, pr, be, ma, he⟩ (ahR S x bu ah (2 * pr) (2 * be))).2.1.S (unlR ⟨5, co, bu, sl, wd, ah, pr, be, ma, he⟩ (ahR S x bu ah (2 * pr) (2 * be))).2.1.x
    rw [unlR_cs]
    exact ah_one bu ah _ _ (ga.imp id (fun g => hl.lv _ g.1 g.2.1))
  | n + 6 => exact absurd h5 (by omega)
theorem rem_none (m : MR) (h : m.st = 6) : (remP S x m).2.1 = ⟨S, x⟩ := by
  obtain ⟨st, co, bu, sl, wd, ah, pr, be, ma, he⟩ := m
  cases h
  rfl
end
end Go.Proofs.YteekompojgbkhaaGreat

namespace Go.Proofs.YteekompojgbkhaaGreat
open Go.ChangeShapes Go.WideShapes Go.ChangeAt Go.RowKit Go.MuLone Go.RwLone
set_option linter.unusedVariables false
set_option linter.unusedSectionVars false
/-- The list and the book at the beginning: every bucket's head names her end, no word is stored. -/
def Gb.new : Gb := ⟨fun _ => 0, fun b => 2 * (4097 + b), fun _ => 0, fun _ => 0, fun _ => 0, 0⟩
section
variable {N nb : Int} {bk : Int → Int} {S S' : AS} {x x' : XS} {G G' : Gb} {rows rows' : Int → List Int} {all : List On}
theorem gin_new {b s : Int} (h : Gin N bk Gb.new b s) : False := by
  have h2 : (0 : Int) = 2 := h.2.2.1
  omega
theorem BkI.new (hl : Lnk N nb S x Gb.new) : BkI N nb bk S x Gb.new (fun _ => []) [] := by
  refine ⟨hl, ⟨fun b s h => (gin_new h).elim, fun b s h => (gin_new h).elim, fun b s h => (gin_new h).elim, fun b b0 b1 => ⟨.inl ?_, ?_⟩, fun b s u h => (gin_new h).elim, fun b u _ _ h => (gin_new h).elim, fun b s h => (gin_new h).elim, fun b s t h => (gin_new h).elim, fun s _ _ _ => rfl, fun s _ e => ?_, Int.le_refl _⟩, fun b b0 b1 => ⟨fun u => ⟨fun h => (by cases h), fun h => (gin_new h.1).elim⟩, List.Pairwise.nil⟩, ⟨[], List.nodup_nil, rfl, fun s h => (by cases h)⟩, fun i o h => ?_, fun i j o p h => ?_⟩
  · show 2 * (4097 + b) / 2 = 4097 + b
    omega
  · show 2 * (4097 + b) % 2 = 0
    omega
  · have e : (0 : Int) = 2 := e
    omega
  · rw [List.getElem?_nil] at h
    cases h
  · rw [List.getElem?_nil] at h
    cases h
/-- Arena and index as made are such a list. -/
theorem Lnk.new (hn : (S.n : Int) = N) (hw : S.wd = 1) (hc : x.cell = 0) (hb : (x.nb : Int) = nb) (hl : ∀ s, 1 ≤ s → s ≤ N → liv S s = true) (w0 : ∀ i, i < S.n → S.word i = 0) (h0 : ∀ b, b < x.nb → x.hd b = 2 * (4097 + (b : Int))) : Lnk N nb S x Gb.new := by
  refine ⟨hn, hw, hc, hb, hl, fun s h1 h2 => ?_, fun c h1 h2 => ?_⟩
  · show 0 = S.word (atC S s x.cell)
    unfold atC
    rw [hw, hc, w0 _ (by omega)]
  · show 2 * (4097 + c) = x.hd c.toNat
    rw [h0 c.toNat (by omega)]
    omega
end
end Go.Proofs.YteekompojgbkhaaGreat

namespace Go.Proofs.YteekompojgbkhaaGreat
open Go.ChangeShapes Go.WideShapes Go.ChangeAt Go.RowKit Go.MuLone Go.RwLone
set_option linter.unusedVariables false
set_option linter.unusedSectionVars false
/-- P4.10, alone: how many steps an Insert has left at most, if nobody else steps. -/
def insLeft (x : XS) (m : MI) : Nat := match m.st with
  | 0 => 4
  | 1 => 3
  | 2 => if x.hd m.bu.toNat = m.hd then 2 else 5
  | 3 => if x.hd m.bu.toNat = m.hd then 1 else 4
  | _ => 0
/-- How many a walk has left at most. -/
def wlkLeft (G : Gb) (m : MW) : Nat := match m.st with
  | 0 => G.ranks.toNat + 1
  | 2 => (G.rank m.pend).toNat + 1
  | _ => 0
section
variable {N nb : Int} {bk : Int → Int} {S S' : AS} {x x' : XS} {G G' : Gb}
theorem ins_left (hl : Lnk N nb S x G) (hb : ∀ s, 0 ≤ bk s ∧ bk s < nb) (m : MI) (hm : InsI N bk G m) (h3 : m.st ≤ 3) : insLeft (insP S x m).2.1.x (insP S x m).2.2 + 1 ≤ insLeft x m := by
  have hi : inB x m.bu = true := by rw [hm.bu]; exact hl.inb (hb _).1 (hb _).2
  have hv := hl.lv _ hm.lo hm.up
  have hw0 := hm.w0
  have hw := hl.w _ hm.lo hm.up
  obtain ⟨st, code, bu, sl, hd, tr⟩ := m
  simp only at hi hv h3 hw0 hw
  match st with
  | 0 =>
    have e : insP S x ⟨0, code, bu, sl, hd, tr⟩ = (false, ⟨acc1 S, x⟩, ⟨1, code, bu, sl, hd, tr⟩) := by
      show (if inB x bu then (if liv S sl then (if S.word (atC S sl x.cell) = 0 then _ else _) else _) else _) = _
      rw [if_pos hi, if_pos hv, if_pos (hw.symm.trans (hw0 rfl))]
    rw [e]
    exact Nat.le_refl 4
  | 1 =>
    show (if x.hd bu.toNat = x.hd bu.toNat then 2 else 5) + 1 ≤ 3
    rw [if_pos rfl]
    exact Nat.le_refl 3
  | 2 =>
    have e : insP S x ⟨2, code, bu, sl, hd, tr⟩ = (false, ⟨put1 S (atC S sl x.cell) hd, x⟩, ⟨3, code, bu, sl, hd, tr⟩) := by
      show (if liv S sl then _ else _) = _
      rw [if_pos hv]
    rw [e]
    show (if x.hd bu.toNat = hd then 1 else 4) + 1 ≤ (if x.hd bu.toNat = hd then 2 else 5)
    split <;> omega
  | 3 =>
    by_cases hh : x.hd bu.toNat = hd
    · have e : insP S x ⟨3, code, bu, sl, hd, tr⟩ = (true, ⟨S, { x.cn1 with hd := upd x.hd bu.toNat (2 * sl) }⟩, ⟨4, 0, bu, sl, hd, tr⟩) := by
        show (if x.hd bu.toNat = hd then _ else _) = _
        rw [if_pos hh]
      rw [e]
      show 0 + 1 ≤ (if x.hd bu.toNat = hd then 1 else 4)
      rw [if_pos hh]
      exact Nat.le_refl 1
    · have e : insP S x ⟨3, code, bu, sl, hd, tr⟩ = (false, ⟨S, x.cn1⟩, ⟨1, code, bu, sl, hd, wrap64 (tr + 1)⟩) := by
        show (if x.hd bu.toNat = hd then _ else _) = _
        rw [if_neg hh]
      rw [e]
      show 3 + 1 ≤ (if x.hd bu.toNat = hd then 1 else 4)
      rw [if_neg hh]
      exact Nat.le_refl 4
  | n + 4 => exact absurd h3 (by omega)
theorem wlkLeft_end (m : MW) (h : m.st = 3) : wlkLeft G m = 0 := by
  unfold wlkLeft
  rw [h]
  rfl
theorem wlkLeft_on (m : MW) (h : m.st = 2) : wlkLeft G m = (G.rank m.pend).toNat + 1 := by
  unfold wlkLeft
  rw [h]
  rfl
end
end Go.Proofs.YteekompojgbkhaaGreat

namespace Go.Proofs.YteekompojgbkhaaGreat
open Go.ChangeShapes Go.WideShapes Go.ChangeAt Go.RowKit Go.MuLone Go.RwLone
set_option linter.unusedVariables false
set_option linter.unusedSectionVars false
/-- The slots that are met from a link on. -/
def lkL (N : Int) (W : Int → Int) : Nat → Int → List Int
  | 0, _ => []
  | f + 1, n => if 1 ≤ n ∧ n ≤ N then n :: lkL N W f (W n / 2) else []
/-- The slot is linked in the bucket. -/
abbrev Lk (N : Int) (G : Gb) (b s : Int) : Prop := s ∈ lkL N G.W 4097 (G.H b / 2)
section
variable {N nb : Int} {bk : Int → Int} {S : AS} {x : XS} {G G' : Gb}
theorem lkL_yes {W : Int → Int} {f : Nat} {n : Int} (h1 : 1 ≤ n) (h2 : n ≤ N) : lkL N W (f + 1) n = n :: lkL N W f (W n / 2) := if_pos ⟨h1, h2⟩
theorem lkL_no {W : Int → Int} {f : Nat} {n : Int} (h : N < n) : lkL N W f n = [] := by
  cases f with
  | zero => rfl
  | succ f => exact if_neg (by omega)
theorem Gto.no {b n : Int} (h : Gto N bk G b n) (g : ¬ Gin N bk G b n) : n = 4097 + b := h.resolve_right g
theorem lk_gin (h : GbInv N nb bk G) (hN : N ≤ 4096) (b : Int) (b0 : 0 ≤ b) : ∀ (f : Nat) (n : Int), Gto N bk G b n → ∀ s, s ∈ lkL N G.W f n → Gin N bk G b s ∧ Gin N bk G b n ∧ G.rank s ≤ G.rank n
  | 0, n, hn, s, hs => by cases hs
  | f + 1, n, hn, s, hs => by
    rcases hn with hn | hn
    · rw [lkL_no (by omega)] at hs
      cases hs
    · rw [lkL_yes hn.1 hn.2.1] at hs
      rcases List.mem_cons.1 hs with e | e
      · rw [e]
        exact ⟨hn, hn, Int.le_refl _⟩
      · have := lk_gin h hN b b0 f _ (h.nx b n hn) s e
        exact ⟨this.1, hn, Int.le_trans this.2.2 (Int.le_of_lt (h.dn b n hn this.2.1))⟩
/-- More fuel than ranks is as good as any. -/
theorem lk_fuel (h : GbInv N nb bk G) (hN : N ≤ 4096) (b : Int) (b0 : 0 ≤ b) : ∀ (f f' : Nat) (n : Int), Gto N bk G b n → (Gin N bk G b n → G.rank n < (f : Int) ∧ G.rank n < (f' : Int)) → lkL N G.W f n = lkL N G.W f' n
  | 0, f', n, hn, hf => by
    rcases hn with hn | hn
    · rw [lkL_no (by omega), lkL_no (by omega)]
    · have := (hf hn).1
      have := (h.rk b n hn).1
      omega
  | f + 1, 0, n, hn, hf => by
    rcases hn with hn | hn
    · rw [lkL_no (by omega), lkL_no (by omega)]
    · have := (hf hn).2
      have := (h.rk b n hn).1
      omega
  | f + 1, f' + 1, n, hn, hf => by
    rcases hn with hn | hn
    · rw [lkL_no (by omega), lkL_no (by omega)]
    · rw [lkL_yes hn.1 hn.2.1, lkL_yes hn.1 hn.2.1]
      congr 1
      exact lk_fuel h hN b b0 f f' _ (h.nx b n hn) (fun g => by
        have := h.dn b n hn g
        have := hf hn
        omega)
/-- A slot that is not marked, at or behind n, is met. -/
theorem lk_un (h : GbInv N nb bk G) (hN : N ≤ 4096) (b : Int) (b0 : 0 ≤ b) (u : Int) (gu : Gin N bk G b u) (ur : G.rem u ≠ 2) : ∀ (f : Nat) (n : Int), Gin N bk G b n → G.rank n < (f : Int) → G.rank u ≤ G.rank n → u ∈ lkL N G.W f n
  | 0, n, hn, hf, hu => by
    have := (h.rk b n hn).1
    omega
  | f + 1, n, hn, hf, hu => by
    rw [lkL_yes hn.1 hn.2.1]
    by_cases e : G.rank u = G.rank n
    · rw [h.inj b u n gu hn e]
      exact List.mem_cons_self
    · refine List.mem_cons_of_mem _ ?_
      by_cases h5 : Gin N bk G b (G.W n / 2) ∧ G.rank u ≤ G.rank (G.W n / 2)
      · exact lk_un h hN b b0 u gu ur f _ h5.1 (by have := h.dn b n hn h5.1; omega) h5.2
      · refine absurd (h.gap b n u hn gu (by omega) (fun hi => ?_)) ur
        by_cases h6 : G.rank u ≤ G.rank (G.W n / 2)
        · exact absurd ⟨hi, h6⟩ h5
        · omega
/-- Of two slots that are met, the lower one is met from the next of the higher. -/
theorem lk_next (h : GbInv N nb bk G) (hN : N ≤ 4096) (b : Int) (b0 : 0 ≤ b) (p q : Int) : ∀ (f : Nat) (n : Int), Gto N bk G b n → p ∈ lkL N G.W f n → q ∈ lkL N G.W f n → G.rank q < G.rank p → q ∈ lkL N G.W f (G.W p / 2)
  | 0, n, hn, hp, hq, hlt => by cases hp
  | f + 1, n, hn, hp, hq, hlt => by
    have gp := lk_gin h hN b b0 _ n hn p hp
    have gq := lk_gin h hN b b0 _ n hn q hq
    have hn := gp.2.1
    rw [lkL_yes hn.1 hn.2.1] at hp hq
    rcases List.mem_cons.1 hq with e | eq
    · rw [e] at hlt
      omega
    · rcases List.mem_cons.1 hp with e | ep
      · rw [e]
        have k : ∀ (f : Nat) (m : Int), q ∈ lkL N G.W f m → q ∈ lkL N G.W (f + 1) m := by
          intro f
          induction f with
          | zero => intro m hm; cases hm
          | succ f ih =>
            intro m hm
            by_cases hr : 1 ≤ m ∧ m ≤ N
            · rw [lkL_yes hr.1 hr.2] at hm ⊢
              rcases List.mem_cons.1 hm with e | e
              · rw [e]; exact List.mem_cons_self
              · exact List.mem_cons_of_mem _ (ih _ e)
            · have : lkL N G.W (f + 1) m = [] := if_neg hr
              rw [this] at hm
              cases hm
        exact k f _ eq
      · have r := lk_next h hN b b0 p q f _ (h.nx b n hn) ep eq hlt
        have k : ∀ (f : Nat) (m : Int), q ∈ lkL N G.W f m → q ∈ lkL N G.W (f + 1) m := by
          intro f
          induction f with
          | zero => intro m hm; cases hm
          | succ f ih =>
            intro m hm
            by_cases hr : 1 ≤ m ∧ m ≤ N
            · rw [lkL_yes hr.1 hr.2] at hm ⊢
              rcases List.mem_cons.1 hm with e | e
              · rw [e]; exact List.mem_cons_self
              · exact List.mem_cons_of_mem _ (ih _ e)
            · have : lkL N G.W (f + 1) m = [] := if_neg hr
              rw [this] at hm
              cases hm
        exact k f _ r
/-- Whatever is changed at a slot is not seen from below it. -/
theorem lk_low (h : GbInv N nb bk G) (hN : N ≤ 4096) (b : Int) (b0 : 0 ≤ b) (a y : Int) (ga : Gin N bk G b a) : ∀ (f : Nat) (n : Int), Gto N bk G b n → (Gin N bk G b n → G.rank n < G.rank a) → lkL N (updI G.W a y) f n = lkL N G.W f n
  | 0, n, hn, hr => rfl
  | f + 1, n, hn, hr => by
    rcases hn with hn | hn
    · rw [lkL_no (by omega), lkL_no (by omega)]
    · have ne : n ≠ a := fun e => by have := hr hn; rw [e] at this; omega
      rw [lkL_yes hn.1 hn.2.1, lkL_yes hn.1 hn.2.1, updI_ne _ _ ne]
      congr 1
      exact lk_low h hN b b0 a y ga f _ (h.nx b n hn) (fun g => by
        have := h.dn b n hn g
        have := hr hn
        omega)
/-- A slot p behind a is taken off the list. -/
theorem lk_off (h : GbInv N nb bk G) (hN : N ≤ 4096) (b : Int) (b0 : 0 ≤ b) (a p : Int) (ga : Gin N bk G b a) (gp : Gin N bk G b p) (hw : G.W a = 2 * p) (s : Int) : ∀ (f : Nat) (n : Int), Gin N bk G b n → G.rank n < (f : Int) → a ∈ lkL N G.W f n → (s ∈ lkL N (updI G.W a (2 * (G.W p / 2))) f n ↔ s ∈ lkL N G.W f n ∧ s ≠ p)
  | 0, n, hn, hf, ha => by cases ha
  | f + 1, n, hn, hf, ha => by
    have ea : G.W a / 2 = p := by omega
    have dp : G.rank p < G.rank a := by
      have := h.dn b a ga (by rw [ea]; exact gp)
      rw [ea] at this
      exact this
    have dpp := h.dn b p gp
    have npp := h.nx b p gp
    rw [lkL_yes hn.1 hn.2.1] at ha
    by_cases e : n = a
    · subst e
      rw [lkL_yes hn.1 hn.2.1, lkL_yes hn.1 hn.2.1, updI_at, ea, show 2 * (G.W p / 2) / 2 = G.W p / 2 from by omega, lk_low h hN b b0 n _ ga f _ npp (fun g => by have := dpp g; omega)]
      have e1 : lkL N G.W f p = p :: lkL N G.W f (G.W p / 2) := by
        have := lk_fuel h hN b b0 f (f + 1) p (.inr gp) (fun _ => by omega)
        rw [this, lkL_yes gp.1 gp.2.1]
      rw [e1]
      have np : p ∉ lkL N G.W f (G.W p / 2) := fun hp => by
        have := lk_gin h hN b b0 f _ npp p hp
        have := dpp this.2.1
        omega
      have nn : n ≠ p := fun e => by rw [e] at dp; omega
      simp only [List.mem_cons]
      constructor
      · rintro (e | e)
        · exact ⟨.inl e, by rw [e]; exact nn⟩
        · exact ⟨.inr (.inr e), fun e2 => by subst e2; exact np e⟩
      · rintro ⟨e | e | e, e2⟩
        · exact .inl e
        · exact absurd e e2
        · exact .inr e
    · rcases List.mem_cons.1 ha with e2 | ha2
      · exact absurd e2.symm e
      · rw [lkL_yes hn.1 hn.2.1, lkL_yes hn.1 hn.2.1, updI_ne _ _ e]
        have g := lk_gin h hN b b0 f _ (h.nx b n hn) a ha2
        have := h.dn b n hn g.2.1
        have ih := lk_off h hN b b0 a p ga gp hw s f _ g.2.1 (by omega) ha2
        have nn : n ≠ p := fun e => by rw [e] at this g; omega
        rw [List.mem_cons, List.mem_cons, ih]
        constructor
        · rintro (e | e)
          · exact ⟨.inl e, by rw [e]; exact nn⟩
          · exact ⟨.inr e.1, e.2⟩
        · rintro ⟨e | e, e2⟩
          · exact .inl e
          · exact .inr ⟨e, e2⟩
/-- Words that differ where no slot is met give the same list. -/
theorem lk_like (h : GbInv N nb bk G) (hN : N ≤ 4096) (b : Int) (b0 : 0 ≤ b) (W : Int → Int) (hW : ∀ t, Gin N bk G b t → W t / 2 = G.W t / 2) : ∀ (f : Nat) (n : Int), Gto N bk G b n → lkL N W f n = lkL N G.W f n
  | 0, n, hn => rfl
  | f + 1, n, hn => by
    rcases hn with hn | hn
    · rw [lkL_no (by omega), lkL_no (by omega)]
    · rw [lkL_yes hn.1 hn.2.1, lkL_yes hn.1 hn.2.1, hW n hn]
      congr 1
      exact lk_like h hN b b0 W hW f _ (h.nx b n hn)
end
end Go.Proofs.YteekompojgbkhaaGreat
