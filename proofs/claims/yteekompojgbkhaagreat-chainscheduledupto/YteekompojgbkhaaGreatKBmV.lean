import Derived.Test.YteekompojgbkhaaGreatKBmT
import Derived.Test.YteekompojgbkhaaGreatKBqS
namespace Go.Proofs.YteekompojgbkhaaGreat
set_option linter.unusedSimpArgs false
open Go.ChangeShapes Go.WideShapes Go.ChangeAt Go.RowKit Go.MuLone Go.RwLone
set_option linter.unusedVariables false
set_option maxRecDepth 100000
set_option maxHeartbeats 6400000
abbrev mostN (N : Nat) : Nat := (3 * N + 2) * (3 * N + 8)
theorem bk_most (w : World) (bb N m : Nat) (b2 : w.cell? ⟨bb, 2, none⟩ = some (.int .i64 (N : Int))) (hN : N ≤ 24) (hm : mostN N = m) : Calls Tryz.prog 27 #[.pointer (some ⟨bb, 0, none⟩)] w fun e w' => e = .returned (.int .i64 (m : Int)) ∧ w' = w.drew := by
  obtain ⟨a, ha⟩ : ∃ x : Nat, 3 * N = x := ⟨_, rfl⟩
  obtain ⟨b, hb⟩ : ∃ x : Nat, a + 2 = x := ⟨_, rfl⟩
  obtain ⟨c, hc⟩ : ∃ x : Nat, a + 8 = x := ⟨_, rfl⟩
  have x1 : IntKind.i64.wrap (3 * (N : Int)) = (a : Int) := by rw [IntKind.wrap_i64]; omega
  have x2 : IntKind.i64.wrap ((a : Int) + 2) = (b : Int) := by rw [IntKind.wrap_i64]; omega
  have x3 : IntKind.i64.wrap ((a : Int) + 8) = (c : Int) := by rw [IntKind.wrap_i64]; omega
  have x4 : IntKind.i64.wrap ((b : Int) * (c : Int)) = (m : Int) := by
    have e : b * c = m := by rw [← hm, ← hb, ← hc, ← ha]
    have l : b * c ≤ 74 * 80 := Nat.mul_le_mul (by omega) (by omega)
    have e2 : (b : Int) * (c : Int) = (m : Int) := by rw [← e]; exact (Int.natCast_mul b c).symm
    rw [IntKind.wrap_i64, e2]
    omega
  have sx : w.drew.cell? ⟨bb, 2, none⟩ = some (.int .i64 (N : Int)) := b2
  clear ha hb hc hm b2
  go_enter Tryz.func27, Tryz.ntmps27
  go_wp2_with fail
  (refine wp_region_held_drew (S := (fun Z => Z.cell? ⟨bb, 2, none⟩ = some (.int .i64 (N : Int)))) (by kernel_rfl) sx (fun hHeld => ?_); simp only [List.size_toArray, List.length_cons, List.length_nil, Nat.reduceAdd, Array.replicate_succ, Array.replicate_zero, List.push_toArray, List.append_toArray, List.nil_append, List.cons_append])
  clear sx
  refine rgT 0 (h := ?_)
  refine rgT 1 (h := ?_)
  refine rgT 2 (h := ?_)
  refine rgT 3 (h := ?_)
  refine rgT 4 (h := ?_)
  refine rgT 5 (h := ?_)
  refine rgT 6 (h := ?_)
  refine rgT 7 (h := ?_)
  refine rgT 8 (h := ?_)
  refine rgT 9 (h := ?_)
  refine rgT 10 (h := ?_)
  refine rgT 11 (h := ?_)
  refine rgT 12 (h := ?_)
  refine rgT 13 (h := ?_)
  refine wpAnyH_done (by kernel_rfl) ?_ _
  clear hHeld
  go_wp2
  go_ret
  exact ⟨rfl, rfl⟩
/-- What is left of the machines, the first k of them moved in round t. -/
def InQ (w0 : World) (B bb : Nat) (l : BkL) (N n M t k c : Nat) (W : World) : Prop := ∃ s G, BkM W B bb l s ∧ BkJ s G ∧ Below B w0 W ∧ s.N = N ∧ s.all.length = n ∧ c ≤ k ∧ ((t = M → c = 0) ∧ (c = 0 → ∀ i q, s.all[i]? = some q → i < k → q.o.dn = true)) ∧ ∀ i q, s.all[i]? = some q → q.o.dn = false → (i < k → phi N (bkO s.nb) G q.o + (t + 1) ≤ M) ∧ phi N (bkO s.nb) G q.o + t ≤ M
theorem BkJ.phi1 {s : BkS} {G : Gb} {q : OL} {i : Nat} (h : BkJ s G) (hq : s.all[i]? = some q) (hd : q.o.dn = false) : 1 ≤ phi s.N (bkO s.nb) G q.o := phi_pos (h.ok hq) hd
theorem InQ.skip {w0 W : World} {B bb N n M t k c : Nat} {l : BkL} {s : BkS} {G : Gb} {q : OL} (h1 : BkM W B bb l s) (h2 : BkJ s G) (h3 : Below B w0 W) (h4 : s.N = N) (h5 : s.all.length = n) (h6 : c ≤ k) (h7 : (t = M → c = 0) ∧ (c = 0 → ∀ i q, s.all[i]? = some q → i < k → q.o.dn = true)) (h8 : ∀ i q, s.all[i]? = some q → q.o.dn = false → (i < k → phi N (bkO s.nb) G q.o + (t + 1) ≤ M) ∧ phi N (bkO s.nb) G q.o + t ≤ M) (hq : s.all[k]? = some q) (hd : q.o.dn = true) : InQ w0 B bb l N n M t (k + 1) c W := by
  refine ⟨s, G, h1, h2, h3, h4, h5, by omega, ⟨h7.1, fun e i p hp hi => ?_⟩, fun i p hp hpd => ⟨fun hi => ?_, (h8 i p hp hpd).2⟩⟩
  · by_cases e2 : i = k
    · rw [e2, hq] at hp
      cases hp
      exact hd
    · exact h7.2 e i p hp (by omega)
  by_cases e : i = k
  · rw [e, hq] at hp
    cases hp
    rw [hd] at hpd
    cases hpd
  · exact (h8 i p hp hpd).1 (by omega)
theorem InQ.next {w0 W W' : World} {B bb N n M t k c : Nat} {l : BkL} {s s' : BkS} {G G' : Gb} {q : OL} {o' : On} (h2 : BkJ s G) (h3 : Below B w0 W) (h4 : s.N = N) (h5 : s.all.length = n) (h6 : c ≤ k) (h7 : (t = M → c = 0) ∧ (c = 0 → ∀ i q, s.all[i]? = some q → i < k → q.o.dn = true)) (h8 : ∀ i q, s.all[i]? = some q → q.o.dn = false → (i < k → phi N (bkO s.nb) G q.o + (t + 1) ≤ M) ∧ phi N (bkO s.nb) G q.o + t ≤ M) (hq : s.all[k]? = some q) (hd : q.o.dn = false) (b1 : BkM W' B bb l s') (b2 : Below B W W') (b3 : Mvd s G k q.o s' G' o') : InQ w0 B bb l N n M t (k + 1) (c + 1) W' := by
  obtain ⟨j1, j2, j3, j4, j5, j6⟩ := b3
  have hl := (List.getElem?_eq_some_iff.1 hq).1
  have n0 := h2.n0
  have n1 := h2.n1
  have hb := bkO_in n1.1
  have r1 := j1.i.ranks
  obtain ⟨d1, d2, d3, d4⟩ := j2.2 hd
  have p1 := h2.phi1 hq hd
  have p2 := (h8 k q hq hd).2
  rw [h4] at p1
  have e : (s'.all.map OL.o)[k]? = some o' := by
    rw [j3]
    exact List.getElem?_set_self (by rw [List.length_map]; exact hl)
  rw [List.getElem?_map] at e
  obtain ⟨q', e1, e2⟩ := Option.map_eq_some_iff.1 e
  have own : o'.dn = false → phi N (bkO s.nb) G' o' + 1 ≤ phi N (bkO s.nb) G q.o := fun _ => by
    have a := h2.ok hq
    have b := j1.ok e1
    rw [j4, j5, e2] at b
    have gi := j1.i.g
    rw [j4, j5] at gi
    rw [← h4]
    exact phi_own d2 d3 a hd b h2.i.g gi (by omega) hb (by omega) n0.1
  have oth : ∀ i p, i ≠ k → s'.all[i]? = some p → ∃ p0, s.all[i]? = some p0 ∧ p0.o = p.o ∧ phi N (bkO s.nb) G' p.o ≤ phi N (bkO s.nb) G p.o := fun i p hi hp => by
    have f : (s'.all.map OL.o)[i]? = some p.o := by rw [List.getElem?_map, hp]; rfl
    rw [j3, List.getElem?_set_ne (fun e => hi e.symm), List.getElem?_map] at f
    obtain ⟨p0, f1, f2⟩ := Option.map_eq_some_iff.1 f
    refine ⟨p0, f1, f2, ?_⟩
    have a := h2.ok f1
    rw [f2] at a
    have b := j1.ok hp
    rw [j4, j5] at b
    have gi := j1.i.g
    rw [j4, j5] at gi
    rw [← h4]
    exact phi_oth d2 a b h2.i.g gi (by omega) hb (by omega) n0.1
  refine ⟨s', G', b1, j1, h3.trans b2, j4.trans h4, j6.trans h5, by omega, ⟨fun e => by omega, fun e => by omega⟩, fun i p hp hpd => ?_⟩
  rw [j5]
  by_cases hi : i = k
  · subst hi
    rw [e1] at hp
    have hp : q' = p := Option.some.inj hp
    rw [← hp] at hpd ⊢
    rw [e2] at hpd ⊢
    have := own hpd
    exact ⟨fun _ => by omega, by omega⟩
  · obtain ⟨p0, f1, f2, f3⟩ := oth i p hi hp
    have g := h8 i p0 f1 (by rw [f2]; exact hpd)
    rw [f2] at g
    exact ⟨fun hlt => by have := g.1 (by omega); omega, by have := g.2; omega⟩
/-- What holds between the rounds. -/
def DrQ (w0 : World) (B bb : Nat) (l : BkL) (N n M t c : Nat) (W : World) : Prop := c ≤ n ∧ (t = M + 1 → c = 0) ∧ ∃ (s : BkS) (G : Gb), BkM W B bb l s ∧ BkJ s G ∧ Below B w0 W ∧ s.N = N ∧ s.all.length = n ∧ (c = 0 → ∀ (i : Nat) (q : OL), s.all[i]? = some q → q.o.dn = true) ∧ ∀ (i : Nat) (q : OL), s.all[i]? = some q → q.o.dn = false → phi N (bkO s.nb) G q.o + t ≤ M
theorem DrQ.go {w0 W : World} {B bb N n M t c : Nat} {l : BkL} (h : DrQ w0 B bb l N n M t c W) : InQ w0 B bb l N n M t 0 0 W := by
  obtain ⟨_, _, s, G, h1, h2, h3, h4, h5, h6⟩ := h
  exact ⟨s, G, h1, h2, h3, h4, h5, Nat.le_refl _, ⟨fun _ => rfl, fun _ i q _ e => absurd e (Nat.not_lt_zero _)⟩, fun i q hq hd => ⟨fun e => absurd e (Nat.not_lt_zero _), h6.2 i q hq hd⟩⟩
theorem InQ.done {w0 W : World} {B bb N n M t c : Nat} {l : BkL} (h : InQ w0 B bb l N n M t n c W) (ht : t ≤ M) : DrQ w0 B bb l N n M (t + 1) c W := by
  obtain ⟨s, G, h1, h2, h3, h4, h5, h6, h7, h8⟩ := h
  exact ⟨h6, fun e => h7.1 (by omega), s, G, h1, h2, h3, h4, h5, fun e i q hq => h7.2 e i q hq (by have := (List.getElem?_eq_some_iff.1 hq).1; omega), fun i q hq hd => (h8 i q hq hd).1 (by have := (List.getElem?_eq_some_iff.1 hq).1; omega)⟩
theorem BkJ.drain {s : BkS} {G : Gb} (h : BkJ s G) {w0 W : World} {B bb : Nat} {l : BkL} (b : BkM W B bb l s) (hb : Below B w0 W) : DrQ w0 B bb l s.N s.all.length (mostN s.N) 0 s.all.length W := ⟨Nat.le_refl _, fun e => by omega, s, G, b, h, hb, rfl, rfl, fun e i q hq => by have := (List.getElem?_eq_some_iff.1 hq).1; omega, fun i q hq hd => phi_most (h.ok hq) h.i.g (by have := h.i.ranks; omega) h.n0.1⟩
section
variable {H : Type} {enc : TypeId × Value → H} {W : World}
end
end Go.Proofs.YteekompojgbkhaaGreat

namespace Go.Proofs.YteekompojgbkhaaGreat
open Go.ChangeShapes Go.WideShapes Go.ChangeAt Go.RowKit Go.MuLone Go.RwLone
set_option linter.unusedVariables false
set_option linter.unusedSectionVars false
/-- A walk ahead of the slots xs. -/
structure WkAt (N : Nat) (bk : Int → Int) (G : Gb) (b : Int) (m : MW) (xs : List Int) : Prop where
  own : m.own = 4097 + b
  code : m.code = 0
  at_ : (xs ≠ [] ∧ m.st = 2 ∧ m.ended = false ∧ lkL N G.W 4097 m.pend = xs ∧ Gto N bk G b m.pend) ∨ (xs = [] ∧ m.st = 3 ∧ m.ended = true)
section
variable {N : Nat} {nb : Int} {bk : Int → Int} {S S' : AS} {x x' : XS} {G G' : Gb} {rows rows' : Int → List Int} {all : List On}
end
end Go.Proofs.YteekompojgbkhaaGreat

namespace Go.Proofs.YteekompojgbkhaaGreat
set_option linter.unusedSimpArgs false
open Go.ChangeShapes Go.WideShapes Go.ChangeAt Go.RowKit Go.MuLone Go.RwLone
set_option linter.unusedVariables false
set_option maxRecDepth 100000
set_option maxHeartbeats 6400000
section
variable {w w' : World} {B bb : Nat} {l : BkL} {s : BkS} {G : Gb}
/-- Arena and index alone are changed, and what is kept beside them. -/
theorem BkM.ar1 (h : BkM w B bb l s) {S' : AS} {x' : XS} (hc : CH w' l.L l.Q S' l.X x') (k : Keeps (fun g => s.T g = 1) w w') : BkM w' B bb l { s with S := S', x := x' } := by
  have o := h.but 1 k
  exact ⟨hc, o.b (by decide), o.i (by decide), o.r (by decide), o.k (by decide), o.z (by decide), fun j hj => o.v j hj (by omega), o.a (by decide), fun j q hq => ⟨(o.m j q hq).1 (by omega), (o.m j q hq).2.1 (by omega), (o.m j q hq).2.2 (by omega)⟩, h.t1, h.t2, h.t3, h.t4, h.t5, h.t6, h.t7, h.t8, h.t9, o.tl, o.pp (by decide), h.tp⟩
theorem BkJ.arx (h : BkJ s G) {S' : AS} {x' : XS} (hl : Lnk (s.N : Int) (s.nb : Int) S' x' G) (hw : WdOk S' x') (hx : x'.nb = s.x.nb) : BkJ { s with S := S', x := x' } G :=
  ⟨⟨hl, h.i.g, h.i.r, h.i.n, h.i.ok, h.i.ne⟩, h.e1, h.e2, h.e3, h.e4, h.n0, h.n1, hw, fun i q hq e => ⟨(h.mi i q hq e).1.nb hx, (h.mi i q hq e).2⟩, fun i q hq e => (h.mr i q hq e).nb hx, h.mw, h.rw, h.un⟩
end
/-- All machines are done. -/
def AllD (s : BkS) : Prop := ∀ (i : Nat) (q : OL), s.all[i]? = some q → q.o.dn = true
theorem AllD.on {s : BkS} (h : AllD s) : ∀ (i : Nat) (o : On), (s.all.map OL.o)[i]? = some o → o.dn = true := fun i o ho => by
  rw [List.getElem?_map] at ho
  obtain ⟨q, h1, h2⟩ := Option.map_eq_some_iff.1 ho
  rw [← h2]
  exact h i q h1
/-- What holds between the buckets. -/
def EmQ (w0 : World) (B bb : Nat) (l : BkL) (nb : Nat) (W : World) : Prop := ∃ s G, BkM W B bb l s ∧ BkJ s G ∧ Below B w0 W ∧ s.nb = nb ∧ AllD s
/-- A walk of the law's own, at bucket k whose row is R. -/
def EmS (w0 : World) (B bb : Nat) (l : BkL) (nb k mb : Nat) (R : List Int) (rv : Value) (P : Nat → AS → XS → Gb → MW → Prop) (W : World) : Prop := ∃ s G m, BkM W B bb l s ∧ BkJ s G ∧ Below B w0 W ∧ s.nb = nb ∧ AllD s ∧ s.rows (k : Int) = R ∧ s.rv k = rv ∧ WlkH W mb l.X.x m ∧ s.T mb = 1 ∧ ¬ chF l.L l.X mb ∧ P s.N s.S s.x G m
section
variable {w0 W : World} {B bb nb k mb : Nat} {l : BkL} {R : List Int} {rv : Value} {P P' : Nat → AS → XS → Gb → MW → Prop}
theorem EmS.drew (h : EmS w0 B bb l nb k mb R rv P W) : EmS w0 B bb l nb k mb R rv P W.drew := by
  obtain ⟨s, G, m, h1, h2, h3, h4, h5, h6, h7, h8, h9⟩ := h
  exact ⟨s, G, m, h1.drew, h2, h3.drew, h4, h5, h6, h7, h8, h9⟩
theorem EmS.to (h : EmS w0 B bb l nb k mb R rv P W) (k1 : ∀ N S x G m, P N S x G m → P' N S x G m) : EmS w0 B bb l nb k mb R rv P' W := by
  obtain ⟨s, G, m, h1, h2, h3, h4, h5, h6, h7, h8, h9, h10, h11⟩ := h
  exact ⟨s, G, m, h1, h2, h3, h4, h5, h6, h7, h8, h9, h10, k1 _ _ _ _ _ h11⟩
theorem EmS.slot (h : EmS w0 B bb l nb k mb R rv P W) (v : Int) (hv : ∀ N S x G m, P N S x G m → m.slot = v) : Calls Tryz.prog 21 #[.pointer (some ⟨mb, 0, none⟩)] W fun e w' => e = .returned (.int .i64 v) ∧ w' = W := by
  obtain ⟨s, G, m, h1, h2, h3, h4, h5, h6, h7, h8, h9, h10, h11⟩ := h
  have := wlk_Slot W mb l.X.x m h8
  rw [hv _ _ _ _ _ h11] at this
  exact this
theorem EmS.ended (h : EmS w0 B bb l nb k mb R rv P W) (v : Bool) (hv : ∀ N S x G m, P N S x G m → m.ended = v) : Calls Tryz.prog 22 #[.pointer (some ⟨mb, 0, none⟩)] W fun e w' => e = .returned (.bool v) ∧ w' = W := by
  obtain ⟨s, G, m, h1, h2, h3, h4, h5, h6, h7, h8, h9, h10, h11⟩ := h
  have := wlk_Ended W mb l.X.x m h8
  rw [hv _ _ _ _ _ h11] at this
  exact this
/-- What is known where the walk steps. -/
structure EmF (N nb k : Nat) (S : AS) (x : XS) (G : Gb) (R : List Int) : Prop where
  l : Lnk (N : Int) (nb : Int) S x G
  g : GbInv (N : Int) (nb : Int) (bkO nb) G
  n : N ≤ 24
  r : G.ranks ≤ 4096
  k0 : (0 : Int) ≤ (k : Int)
  k1 : (k : Int) < (nb : Int)
  h : lkL (N : Int) G.W 4097 (G.H (k : Int) / 2) = R
  u : ∀ u, u ∈ R → G.rem u ≠ 2
theorem emF {s : BkS} {G : Gb} (j : BkJ s G) (hd : AllD s) (k : Nat) (hk : k < s.nb) : EmF s.N s.nb k s.S s.x G (s.rows (k : Int)) := by
  have n0 := j.n0
  have k1 : (k : Int) < (s.nb : Int) := by omega
  have hr := j.i.ranks
  exact ⟨j.i.l, j.i.g, n0.2, by omega, Int.natCast_nonneg _, k1, j.un.row j.i (by omega) hd.on (k : Int) (Int.natCast_nonneg _) k1, fun u hu => (((j.i.r (k : Int) (Int.natCast_nonneg _) k1).1 u).1 hu).2⟩
/-- A step. -/
theorem EmS.step (h : EmS w0 B bb l nb k mb R rv P W) (hk : k < nb) (r : Bool) (hP : ∀ N S x G m, EmF N nb k S x G R → P N S x G m → ∃ S' x' m', wlkP S x m = (r, ⟨S', x'⟩, m') ∧ Lnk (N : Int) (nb : Int) S' x' G ∧ P' N S' x' G m') : Calls Tryz.prog 20 #[.pointer (some ⟨mb, 0, none⟩)] W fun e w' => e = .returned (.bool r) ∧ EmS w0 B bb l nb k mb R rv P' w' := by
  obtain ⟨s, G, m, h1, h2, h3, h4, h5, h6, h7, h8, h9, h10, h11⟩ := h
  subst h4
  subst h6
  obtain ⟨S', x', m', e1, e2, e3⟩ := hP _ _ _ _ _ (emF h2 h5 k hk) h11
  have kw := wlk_wd s.S s.x m h2.wd
  have hs := wlk_step W l.L l.Q s.S l.X s.x mb m h1.ch h8 h10 h2.wd
  rw [e1] at hs kw
  refine hs.mono ?_
  rintro e w' ⟨rfl, a1, a2, a3⟩
  have k1 : Keeps (fun g => s.T g = 1) W w' := a3.mono (fun g hg => by
    rcases hg with hg | hg
    · exact h1.t1 g hg
    · rw [hg]; exact h9)
  refine ⟨rfl, { s with S := S', x := x' }, G, m', h1.ar1 a1 k1, h2.arx e2 kw.1 kw.2, h3.trans (h1.bel a3 (fun g hg => .inl ?_)), rfl, h5, rfl, h7, a2, h9, h10, e3⟩
  rcases hg with hg | hg
  · rw [h1.t1 g hg]; decide
  · rw [hg, h9]; decide
/-- A walk begins. -/
theorem EmQ.walk {s : BkS} {G : Gb} (h1 : BkM W B bb l s) (h2 : BkJ s G) (h3 : Below B w0 W) (hd : AllD s) (k : Nat) : Calls Tryz.prog 19 #[.pointer (some ⟨l.X.x, 0, none⟩), .int .i64 (k : Int)] W fun e w' => ∃ mb, e = .returned (.pointer (some ⟨mb, 0, none⟩)) ∧ EmS w0 B bb l s.nb k mb (s.rows (k : Int)) (s.rv k) (fun N S x G m => m = ⟨0, (k : Int), 0, 0, 0, false, 0⟩) w' := by
  refine (wlk_newWalk W l.X.x (k : Int)).mono ?_
  rintro e w' ⟨rfl, a1, a2, a3⟩
  have hB := h1.hB
  have b1 := h1.noC a2
  have t0 : s.T W.heap.size = 0 := h1.new0 _ (Nat.le_refl _)
  have nc : ¬ chF l.L l.X W.heap.size := fun e => by
    have := h1.t1 _ e
    omega
  refine ⟨_, rfl, { s with T := updN s.T W.heap.size 1 }, G, _, b1.tag _ 1 t0 hB (by omega), h2.T _, h3.trans (a2.below hB (fun _ _ e => e)), rfl, hd, rfl, rfl, a1, updN_at _ _ _, nc, rfl⟩
theorem EmS.rd (h : EmS w0 B bb l nb k mb R rv P W) (hk : k < nb) : W.cell? ⟨bb, 8, none⟩ = some (.slice (some ⟨l.wb, 0, none⟩) nb l.wc) ∧ W.cell? ⟨l.wb, k, none⟩ = some rv ∧ OwI W B rv R := by
  obtain ⟨s, G, m, h1, h2, h3, h4, h5, h6, h7, h8⟩ := h
  subst h4
  subst h6
  subst h7
  exact ⟨(h1.c 8).trans rfl, h1.z.c k hk, (h1.v k hk).1⟩
end
/-- The walk has come to R's i-th slot. -/
abbrev pAt (nb k : Nat) (xs : List Int) : Nat → AS → XS → Gb → MW → Prop := fun N S x G m => WkAt N (bkO nb) G (k : Int) m xs
abbrev pNw (k : Nat) : Nat → AS → XS → Gb → MW → Prop := fun N S x G m => m = ⟨0, (k : Int), 0, 0, 0, false, 0⟩
abbrev pSt (nb k : Nat) (sl : Int) (en : Bool) (xs : List Int) : Nat → AS → XS → Gb → MW → Prop := fun N S x G m => m.slot = sl ∧ m.ended = en ∧ WkAt N (bkO nb) G (k : Int) m xs
section
variable {nb k : Nat} {R : List Int}
end
section
variable {H : Type} {enc : TypeId × Value → H} {W : World}
end
end Go.Proofs.YteekompojgbkhaaGreat
