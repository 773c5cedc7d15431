import Derived.Test.YtdpebhdjcgiboaaGreatJSqJ
import Derived.Test.YtdpebhdjcgiboaaGreatJSi1
namespace Go.Proofs.YtdpebhdjcgiboaaGreat
open Go.ChangeShapes Go.WideShapes Go.ChangeAt Go.RowKit Go.MuLone Go.RwLone
set_option linter.unusedVariables false
set_option maxRecDepth 100000
set_option maxHeartbeats 6400000
/-- A row that lies at a, written full of p, and a list that has grown upon it. -/
structure GrO (w : World) (a : Option Addr) (n : Nat) (p : Int) (c : Value) (zs : List Int) : Prop where
  o : OwW w 0 c zs
  l : n ≤ zs.length
  z : ∀ j, j < n → zs[j]? = some p
  g : ∀ g, a = some ⟨g, 0, none⟩ → g < w.heap.size ∧ (∃ cur, w.heap[g]? = some (.cells cur 55)) ∧ (c.ownBlock = some g ∨ (c.ownBlock ≠ some g ∧ ∀ j, j < n → w.cell? ⟨g, j, none⟩ = some (.int .u64 p)))
/-- Where it lies. -/
def CxO (a : Option Addr) (c : Value) (x : Nat) : Prop := c.ownBlock = some x ∨ a = some ⟨x, 0, none⟩
theorem GrO.lt {w : World} {a : Option Addr} {n : Nat} {p : Int} {c : Value} {zs : List Int} (h : GrO w a n p c zs) (x : Nat) (hx : CxO a c x) : x < w.heap.size := by
  rcases hx with e | e
  · exact (World.ownsRow.lt h.o x e).2
  · exact (h.g x e).1
theorem GrO.ty {w : World} {a : Option Addr} {n : Nat} {p : Int} {c : Value} {zs : List Int} (h : GrO w a n p c zs) (x : Nat) (hx : CxO a c x) : ∃ cur, w.heap[x]? = some (.cells cur 55) := by
  rcases hx with e | e
  · exact blk h.o e
  · exact (h.g x e).2.1
theorem owW_cellO {w : World} {B g n cap : Nat} {zs : List Int} (h : OwW w B (.slice (some ⟨g, 0, none⟩) n cap) zs) (j : Nat) (x : Int) (hj : zs[j]? = some x) : w.cell? ⟨g, j, none⟩ = some (.int .u64 x) := by
  have hn := (owG_cap h).1
  subst hn
  obtain ⟨hl, he⟩ := List.getElem?_eq_some_iff.1 hj
  exact (World.ownsRow.cellAt h j (by omega)).trans (by rw [flat_wd, List.getElem?_map, hj]; rfl)
theorem owW_blockO {w : World} {B g : Nat} {c : Value} {zs : List Int} (h : OwW w B c zs) (hg : c.ownBlock = some g) : ∃ cap, c = .slice (some ⟨g, 0, none⟩) zs.length cap := by
  rcases h.2 with ⟨rfl, _⟩ | ⟨g', cap, cur, rfl, _⟩
  · cases hg
  · have e : g' = g := Option.some.inj hg
    subst e
    exact ⟨cap, rfl⟩
theorem GrO.cell {w : World} {a : Option Addr} {n : Nat} {p : Int} {c : Value} {zs : List Int} (h : GrO w a n p c zs) (g : Nat) (hg : a = some ⟨g, 0, none⟩) (j : Nat) (hj : j < n) : w.cell? ⟨g, j, none⟩ = some (.int .u64 p) := by
  rcases (h.g g hg).2.2 with e | ⟨_, e⟩
  · obtain ⟨cap, rfl⟩ := owW_blockO h.o e
    exact owW_cellO h.o j p (h.z j hj)
  · exact e j hj
theorem GrO.keeps {w w' : World} {D : Nat → Prop} {a : Option Addr} {n : Nat} {p : Int} {c : Value} {zs : List Int} (h : GrO w a n p c zs) (k : Keeps D w w') (hD : ∀ x, D x → ¬ CxO a c x) : GrO w' a n p c zs :=
  ⟨owK h.o k (fun g hg e => hD g e (.inl hg)), h.l, h.z, fun g hg => ⟨Nat.lt_of_lt_of_le (h.g g hg).1 k.size, by
    obtain ⟨cur, e⟩ := (h.g g hg).2.1
    exact ⟨cur, (k.block g (h.g g hg).1 (fun e' => hD g e' (.inr hg))).trans e⟩, (h.g g hg).2.2.imp id (fun e => ⟨e.1, fun j hj => (k.cell (p := ⟨g, j, none⟩) (h.g g hg).1 (fun e' => hD g e' (.inr hg))).trans (e.2 j hj)⟩)⟩⟩
/-- One more. -/
theorem GrO.app {w w' : World} {a : Option Addr} {n : Nat} {p : Int} {c : Value} {zs : List Int} (h : GrO w a n p c zs) {b cap : Nat} {m : Int} (o : OwW w' 0 (.slice (some ⟨b, 0, none⟩) (zs.length + 1) cap) (zs ++ [m])) (k : (c.ownBlock = some b ∧ Keeps (fun k => c.ownBlock = some k) w w') ∨ (w.heap.size ≤ b ∧ Keeps (fun _ => False) w w')) :
    GrO w' a n p (.slice (some ⟨b, 0, none⟩) (zs.length + 1) cap) (zs ++ [m]) ∧ (∀ x, CxO a (.slice (some ⟨b, 0, none⟩) (zs.length + 1) cap) x → CxO a c x ∨ w.heap.size ≤ x) ∧ Keeps (CxO a c) w w' := by
  have hl := h.l
  refine ⟨⟨o, by simp; omega, fun j hj => by rw [List.getElem?_append_left (by omega)]; exact h.z j hj, fun g hg => ?_⟩, fun x hx => ?_, ?_⟩
  · have hlt := (h.g g hg).1
    obtain ⟨cur, hcu⟩ := (h.g g hg).2.1
    rcases k with ⟨e, k⟩ | ⟨e, k⟩
    · refine ⟨Nat.lt_of_lt_of_le hlt k.size, ?_⟩
      rcases (h.g g hg).2.2 with e2 | ⟨e2, e3⟩
      · rw [e] at e2
        exact ⟨blk o e2, .inl e2⟩
      · refine ⟨⟨cur, (k.block g hlt (fun e' => e2 e')).trans hcu⟩, .inr ⟨fun e4 => e2 (e.trans e4), fun j hj => (k.cell (p := ⟨g, j, none⟩) hlt (fun e' => e2 e')).trans (e3 j hj)⟩⟩
    · refine ⟨Nat.lt_of_lt_of_le hlt k.size, ⟨cur, (k.block g hlt (fun e' => e')).trans hcu⟩, .inr ⟨fun e4 => by have : b = g := Option.some.inj e4; omega, fun j hj => (k.cell (p := ⟨g, j, none⟩) hlt (fun e' => e')).trans (h.cell g hg j hj)⟩⟩
  · rcases hx with e | e
    · obtain rfl : b = x := Option.some.inj e
      rcases k with ⟨e, _⟩ | ⟨e, _⟩
      · exact .inl (.inl e)
      · exact .inr e
    · exact .inl (.inr e)
  · rcases k with ⟨_, k⟩ | ⟨_, k⟩
    · exact k.mono (fun x e => .inl e)
    · exact k.mono (fun x e => e.elim)
/-- The rows of a list of outcomes: row 2i the cells of the i-th, row 2i + 1 its registers. -/
structure RwD where
  a : Option Addr
  n : Nat
  c : Nat
abbrev RwD.v (r : RwD) : Value := .slice r.a r.n r.c
/-- What is written into row m: p first, q behind. -/
def rwP (m : Nat) : Int := ((1000 * (1 + m % 2) + m / 2 : Nat) : Int)
def rwQ (m : Nat) : Int := ((1000 * (3 + m % 2) + m / 2 : Nat) : Int)
theorem upd_ne {β : Type} (f : Nat → β) (m : Nat) (x : β) (j : Nat) (h : j ≠ m) : upd f m x j = f j := upd_other f x h
/-- All rows and what has grown upon them. -/
structure Gm (w wr : World) (D : Nat → Prop) (N : Nat) (R : Nat → RwD) (c : Nat → Value) (z : Nat → List Int) (t : Nat → Nat) : Prop where
  g : ∀ m, m < N → GrO wr (R m).a (R m).n (rwP m) (c m) (z m)
  l : ∀ m, m < N → (z m).length = (R m).n + t m
  e : ∀ m, m < N → t m = 0 ∨ (z m)[(R m).n + t m - 1]? = some (rwQ m)
  s : ∀ m, m < N → t m = 0 → c m = (R m).v
  d : ∀ m m', m < N → m' < N → m ≠ m' → ∀ x, CxO (R m).a (c m) x → ¬ CxO (R m').a (c m') x
  f : ∀ m, m < N → ∀ x, CxO (R m).a (c m) x → D x ∨ w.heap.size ≤ x
  k : Keeps D w wr
theorem Gm.step {w wr w3 : World} {D : Nat → Prop} {N : Nat} {R : Nat → RwD} {c : Nat → Value} {z : Nat → List Int} {t : Nat → Nat} (h : Gm w wr D N R c z t) (m : Nat) (hm : m < N) (q : Int) (hq : q = rwQ m) {b cap : Nat} (o : OwW w3 0 (.slice (some ⟨b, 0, none⟩) ((z m).length + 1) cap) (z m ++ [q])) (k : ((c m).ownBlock = some b ∧ Keeps (fun k => (c m).ownBlock = some k) wr w3) ∨ (wr.heap.size ≤ b ∧ Keeps (fun _ => False) wr w3)) :
    Gm w w3 D N R (upd c m (.slice (some ⟨b, 0, none⟩) ((z m).length + 1) cap)) (upd z m (z m ++ [q])) (upd t m (t m + 1)) ∧ Keeps (CxO (R m).a (c m)) wr w3 := by
  subst hq
  obtain ⟨g1, hn, kk⟩ := (h.g m hm).app o k
  have hs := h.k.size
  have hl := h.l m hm
  have kD : Keeps (fun x => D x ∨ w.heap.size ≤ x) w w3 := (h.k.mono (fun _ e => .inl e)).trans (kk.mono (h.f m hm))
  refine ⟨⟨fun j hj => ?_, fun j hj => ?_, fun j hj => ?_, fun j hj => ?_, fun j j' hj hj' hne x hx hx' => ?_, fun j hj x hx => ?_, kD.thin⟩, kk⟩
  · by_cases e : j = m
    · subst e
      rw [upd_same, upd_same]
      exact g1
    · rw [upd_ne _ _ _ _ e, upd_ne _ _ _ _ e]
      exact (h.g j hj).keeps kk (fun x e1 e2 => h.d m j hm hj (fun e' => e e'.symm) x e1 e2)
  · by_cases e : j = m
    · subst e
      rw [upd_same, upd_same, List.length_append, List.length_singleton]
      omega
    · rw [upd_ne _ _ _ _ e, upd_ne _ _ _ _ e]
      exact h.l j hj
  · by_cases e : j = m
    · subst e
      rw [upd_same, upd_same]
      right
      rw [List.getElem?_append_right (by omega), show (R j).n + (t j + 1) - 1 - (z j).length = 0 from by omega]
      rfl
    · rw [upd_ne _ _ _ _ e, upd_ne _ _ _ _ e]
      exact h.e j hj
  · by_cases e : j = m
    · subst e
      rw [upd_same]
      intro e
      omega
    · rw [upd_ne _ _ _ _ e, upd_ne _ _ _ _ e]
      exact h.s j hj
  · by_cases e : j = m
    · subst e
      rw [upd_same] at hx
      rw [upd_ne _ _ _ _ (fun e => hne e.symm)] at hx'
      rcases hn x hx with e | e
      · exact h.d j j' hj hj' hne x e hx'
      · have := (h.g j' hj').lt x hx'
        omega
    · rw [upd_ne _ _ _ _ e] at hx
      by_cases e' : j' = m
      · subst e'
        rw [upd_same] at hx'
        rcases hn x hx' with e1 | e1
        · exact h.d j j' hj hj' hne x hx e1
        · have := (h.g j hj).lt x hx
          omega
      · rw [upd_ne _ _ _ _ e'] at hx'
        exact h.d j j' hj hj' hne x hx hx'
  · by_cases e : j = m
    · subst e
      rw [upd_same] at hx
      rcases hn x hx with e | e
      · exact h.f j hj x e
      · right; omega
    · rw [upd_ne _ _ _ _ e] at hx
      exact h.f j hj x hx
/-- What does not touch the rows leaves them. -/
theorem Gm.keeps {w wr w3 : World} {D D' : Nat → Prop} {N : Nat} {R : Nat → RwD} {c : Nat → Value} {z : Nat → List Int} {t : Nat → Nat} (h : Gm w wr D N R c z t) (k : Keeps D' wr w3) (hD : ∀ x, D' x → w.heap.size ≤ x) (hn : ∀ x cur, wr.heap[x]? = some (.cells cur 55) → ¬ D' x) : Gm w w3 D N R c z t :=
  ⟨fun m hm => (h.g m hm).keeps k (fun x e e' => by obtain ⟨cur, e2⟩ := (h.g m hm).ty x e'; exact hn x cur e2 e), h.l, h.e, h.s, h.d, h.f, ((h.k.mono (fun _ e => .inl e)).trans (k.mono (fun x e => .inr (hD x e)))).thin⟩
/-- The rows as they were handed in, j of them written full. -/
structure Fl (w wr : World) (D : Nat → Prop) (N : Nat) (R : Nat → RwD) (z : Nat → List Int) (j : Nat) : Prop where
  o : ∀ m, m < N → OwW wr 0 (R m).v (z m)
  l : ∀ m, m < N → (z m).length = (R m).n
  p : ∀ m, m < N → m < j → ∀ i, i < (R m).n → (z m)[i]? = some (rwP m)
  d : ∀ m m', m < N → m' < N → m ≠ m' → ∀ x, (R m).v.ownBlock = some x → ¬ (R m').v.ownBlock = some x
  f : ∀ m, m < N → ∀ x, (R m).v.ownBlock = some x → D x
  k : Keeps D w wr
theorem Fl.all {w wr : World} {D : Nat → Prop} {N : Nat} {R : Nat → RwD} {z : Nat → List Int} (h : Fl w wr D N R z N) : Gm w wr D N R (fun m => (R m).v) z (fun _ => 0) := by
  have cx : ∀ m x, CxO (R m).a (R m).v x → (R m).v.ownBlock = some x := fun m x hx => hx.elim id (fun e => by show (Value.slice (R m).a (R m).n (R m).c).ownBlock = _; rw [e]; rfl)
  refine ⟨fun m hm => ⟨h.o m hm, by rw [h.l m hm]; omega, fun i hi => h.p m hm hm i hi, fun g hg => ?_⟩, fun m hm => h.l m hm, fun m hm => .inl rfl, fun m hm _ => rfl, fun m m' hm hm' hne x hx hx' => h.d m m' hm hm' hne x (cx m x hx) (cx m' x hx'), fun m hm x hx => .inl (h.f m hm x (cx m x hx)), h.k⟩
  have e : (R m).v.ownBlock = some g := cx m g (.inr hg)
  exact ⟨(World.ownsRow.lt (h.o m hm) g e).2, blk (h.o m hm) e, .inl e⟩
/-- One cell of row j written. -/
structure Fi (w wr : World) (D : Nat → Prop) (N : Nat) (R : Nat → RwD) (z : Nat → List Int) (j i : Nat) : Prop where
  a : Fl w wr D N R z j
  b : ∀ i', i' < i → (z j)[i']? = some (rwP j)
theorem Fi.next {w wr : World} {D : Nat → Prop} {N : Nat} {R : Nat → RwD} {z : Nat → List Int} {j i : Nat} (h : Fi w wr D N R z j i) (hj : j < N) (hi : i = (R j).n) : Fi w wr D N R z (j + 1) 0 := by
  refine ⟨⟨h.a.o, h.a.l, fun m hm hmj i' hi' => ?_, h.a.d, h.a.f, h.a.k⟩, fun i' e => by omega⟩
  by_cases e : m = j
  · subst e
    exact h.b i' (by omega)
  · exact h.a.p m hm (by omega) i' hi'
theorem Fi.set {w wr : World} {D : Nat → Prop} {N : Nat} {R : Nat → RwD} {z : Nat → List Int} {j i : Nat} (h : Fi w wr D N R z j i) (hj : j < N) (hi : i < (R j).n) (p : Int) (hp : p = rwP j) : ∃ g, (R j).a = some ⟨g, 0, none⟩ ∧ Fi w (wr.setCell ⟨g, i, none⟩ (.int .u64 p)) D N R (upd z j ((z j).set i p)) j (i + 1) ∧ (∃ u, wr.cell? ⟨g, i, none⟩ = some u) ∧ wr.frozen? ⟨g, i, none⟩ = false := by
  subst hp
  have ho := h.a.o j hj
  have hl := h.a.l j hj
  obtain ⟨g, cap, e, _, _⟩ := owG_some ho (by intro e; rw [e] at hl; simp at hl; omega)
  injection e with e e2 e3
  have hv : (R j).v = .slice (some ⟨g, 0, none⟩) (R j).n (R j).c := by show Value.slice _ _ _ = _; rw [e]
  have ho2 : OwW wr 0 (.slice (some ⟨g, 0, none⟩) (z j).length (R j).c) (z j) := by rw [hl, ← hv]; exact ho
  have hob : (R j).v.ownBlock = some g := by rw [hv]; rfl
  have h2 := (World.ownsRow.stored ho2 i (.int .u64 (rwP j))).1
  have hfl : ((z j).set i (rwP j)).flatMap wdC = ((z j).flatMap wdC).set i (.int .u64 (rwP j)) := by rw [flat_wd, flat_wd, List.map_set]
  have kS : Keeps (fun x => x = g) wr (wr.setCell ⟨g, i, none⟩ (.int .u64 (rwP j))) := Keeps.setCell (B := fun x => x = g) (Keeps.refl _ _) (p := ⟨g, i, none⟩) rfl _
  refine ⟨g, e, ⟨⟨fun m hm => ?_, fun m hm => ?_, fun m hm hmj i' hi' => ?_, h.a.d, h.a.f, h.a.k.trans (kS.mono (fun x e => by subst e; exact h.a.f j hj x hob))⟩, fun i' hi' => ?_⟩, ⟨_, (World.ownsRow.cellAt ho2 i (by omega)).trans (by rw [flat_wd, List.getElem?_map, List.getElem?_eq_getElem (by omega)]; rfl)⟩, World.ownsRow.frozenAt ho2 i⟩
  · by_cases e' : m = j
    · subst e'
      rw [upd_same, hv, ← hl]
      unfold OwW OwG
      rw [hfl, List.length_set]
      exact h2
    · rw [upd_ne _ _ _ _ e']
      exact owK (h.a.o m hm) kS (fun x hx e2 => by subst e2; exact h.a.d m j hm hj e' x hx hob)
  · by_cases e' : m = j
    · subst e'
      rw [upd_same, List.length_set]
      exact hl
    · rw [upd_ne _ _ _ _ e']
      exact h.a.l m hm
  · rw [upd_ne _ _ _ _ (by omega)]
    exact h.a.p m hm hmj i' hi'
  · rw [upd_same]
    by_cases e' : i' = i
    · subst e'
      rw [List.getElem?_set_self (by omega)]
    · rw [List.getElem?_set_ne (by omega)]
      exact h.b i' (by omega)
/-- The rows of a list of outcomes. -/
def rwOf (ys : List OuD) (m : Nat) : RwD := match ys[m / 2]? with
  | some y => if m % 2 = 0 then ⟨y.a1, y.X.length, y.c1⟩ else ⟨y.a2, y.Y.length, y.c2⟩
  | none => ⟨none, 0, 0⟩
def zOf (ys : List OuD) (m : Nat) : List Int := match ys[m / 2]? with
  | some y => if m % 2 = 0 then y.X else y.Y
  | none => []
theorem rwOf_0 {ys : List OuD} {i : Nat} {y : OuD} (h : ys[i]? = some y) : rwOf ys (2 * i) = ⟨y.a1, y.X.length, y.c1⟩ ∧ zOf ys (2 * i) = y.X := by
  unfold rwOf zOf
  rw [show 2 * i / 2 = i from by omega, h]
  dsimp only
  rw [if_pos (by omega), if_pos (by omega)]
  exact ⟨rfl, rfl⟩
theorem rwOf_1 {ys : List OuD} {i : Nat} {y : OuD} (h : ys[i]? = some y) : rwOf ys (2 * i + 1) = ⟨y.a2, y.Y.length, y.c2⟩ ∧ zOf ys (2 * i + 1) = y.Y := by
  unfold rwOf zOf
  rw [show (2 * i + 1) / 2 = i from by omega, h]
  dsimp only
  rw [if_neg (by omega), if_neg (by omega)]
  exact ⟨rfl, rfl⟩
theorem rw_ob {ys : List OuD} {i m : Nat} {y : OuD} (h : ys[i]? = some y) (hm : m / 2 = i) {x : Nat} (hx : (rwOf ys m).v.ownBlock = some x) : obO y x := by
  rcases (show m = 2 * i ∨ m = 2 * i + 1 by omega) with e | e
  · subst e
    rw [(rwOf_0 h).1] at hx
    exact .inl hx
  · subst e
    rw [(rwOf_1 h).1] at hx
    exact .inr hx
theorem Fi.start {w : World} {ys : List OuD} {n : Nat} (hn : ys.length = n) (ho : ∀ y ∈ ys, OuW w 0 y) (hq : ys.Pairwise DjO) (hi : ∀ y ∈ ys, InO y) : Fi w w (fun x => ∃ y ∈ ys, obO y x) (2 * n) (rwOf ys) (zOf ys) 0 0 := by
  have get : ∀ m, m < 2 * n → ∃ y, ys[m / 2]? = some y ∧ y ∈ ys := fun m hm => by
    have h : m / 2 < ys.length := by omega
    exact ⟨_, List.getElem?_eq_getElem h, List.getElem_mem h⟩
  refine ⟨⟨fun m hm => ?_, fun m hm => ?_, fun m hm e => by omega, fun m m' hm hm' hne x hx hx' => ?_, fun m hm x hx => ?_, Keeps.refl _ _⟩, fun i e => by omega⟩
  · obtain ⟨y, hy, hmem⟩ := get m hm
    have h := ho y hmem
    rcases (show m = 2 * (m / 2) ∨ m = 2 * (m / 2) + 1 by omega) with e | e
    · rw [e, (rwOf_0 hy).1, (rwOf_0 hy).2]
      exact h.o1
    · rw [e, (rwOf_1 hy).1, (rwOf_1 hy).2]
      exact h.o2
  · obtain ⟨y, hy, hmem⟩ := get m hm
    rcases (show m = 2 * (m / 2) ∨ m = 2 * (m / 2) + 1 by omega) with e | e
    · rw [e, (rwOf_0 hy).1, (rwOf_0 hy).2]
    · rw [e, (rwOf_1 hy).1, (rwOf_1 hy).2]
  · obtain ⟨y, hy, hmem⟩ := get m hm
    obtain ⟨y', hy', hmem'⟩ := get m' hm'
    have o1 := rw_ob hy rfl hx
    have o2 := rw_ob hy' rfl hx'
    rcases Nat.lt_trichotomy (m / 2) (m' / 2) with e | e | e
    · have := List.pairwise_iff_getElem.1 hq (m / 2) (m' / 2) (by omega) (by omega) e
      rw [List.getElem?_eq_getElem (by omega)] at hy hy'
      injection hy with hy
      injection hy' with hy'
      rw [hy, hy'] at this
      exact this x o1 o2
    · rw [e, hy'] at hy
      injection hy with hy
      subst hy
      rcases (show m = 2 * (m' / 2) ∧ m' = 2 * (m' / 2) + 1 ∨ m = 2 * (m' / 2) + 1 ∧ m' = 2 * (m' / 2) by omega) with ⟨e1, e2⟩ | ⟨e1, e2⟩
      · rw [e1, (rwOf_0 hy').1] at hx
        rw [e2, (rwOf_1 hy').1] at hx'
        exact hi y' hmem' x hx hx'
      · rw [e1, (rwOf_1 hy').1] at hx
        rw [e2, (rwOf_0 hy').1] at hx'
        exact hi y' hmem' x hx' hx
    · have := List.pairwise_iff_getElem.1 hq (m' / 2) (m / 2) (by omega) (by omega) e
      rw [List.getElem?_eq_getElem (by omega)] at hy hy'
      injection hy with hy
      injection hy' with hy'
      rw [hy, hy'] at this
      exact this x o2 o1
  · obtain ⟨y, hy, hmem⟩ := get m hm
    exact ⟨y, hmem, rw_ob hy rfl hx⟩
end Go.Proofs.YtdpebhdjcgiboaaGreat

namespace Go.Proofs.YtdpebhdjcgiboaaGreat
open Go.ChangeShapes Go.WideShapes Go.ChangeAt Go.RowKit Go.MuLone Go.RwLone
set_option linter.unusedVariables false
set_option maxRecDepth 100000
set_option maxHeartbeats 6400000
theorem infoSlU : (Tryz.prog.info? 46).map (fun i => (i.zero, i.size, i.bytes)) = some (some (.slice none 0 0), 1, 24) := by kernel_rfl
def vO (v : Value) : List Value := [v]
theorem flat_vO (vs : List Value) : vs.flatMap vO = vs := by
  induction vs with
  | nil => rfl
  | cons v vs ih => rw [List.flatMap_cons, ih]; rfl
/-- The lists that were made longer, so far. -/
def MrO (w wr : World) (v : Value) (c : Nat → Value) (k : Nat) : Prop := OwG vO 46 1 wr w.heap.size v ((List.range k).map c)
theorem MrO.keeps {w wr w3 : World} {D : Nat → Prop} {v : Value} {c : Nat → Value} {k : Nat} (h : MrO w wr v c k) (kp : Keeps D wr w3) (hD : ∀ x, D x → ∃ cur, wr.heap[x]? = some (.cells cur 55)) : MrO w w3 v c k :=
  owK h kp (fun g hg e => by
    obtain ⟨cur, e1⟩ := blk h hg
    obtain ⟨cur2, e2⟩ := hD g e
    rw [e1] at e2
    injection e2 with e2
    injection e2 with _ e2 _
    exact absurd e2 (by decide))
theorem MrO.upd {w wr : World} {v : Value} {c : Nat → Value} {k m : Nat} {x : Value} (h : MrO w wr v c k) (hm : k ≤ m) : MrO w wr v (upd c m x) k := by
  unfold MrO at h ⊢
  rw [show (List.range k).map (Go.Proofs.YtdpebhdjcgiboaaGreat.upd c m x) = (List.range k).map c from List.map_congr_left (fun j hj => upd_ne _ _ _ _ (by have := List.mem_range.1 hj; omega))]
  exact h
theorem MrO.at {w wr : World} {b n cap : Nat} {c : Nat → Value} {k : Nat} (h : MrO w wr (.slice (some ⟨b, 0, none⟩) n cap) c k) (m : Nat) (hm : m < k) : wr.cell? ⟨b, m, none⟩ = some (c m) := by
  have hn := (owG_cap h).1
  subst hn
  refine (World.ownsRow.cellAt h m (by simp; omega)).trans ?_
  rw [flat_vO, List.getElem?_map, List.getElem?_range hm]
  rfl
theorem MrO.next {w wr w3 : World} {v : Value} {c : Nat → Value} {i : Nat} (h : OwG vO 46 1 w3 w.heap.size v ((List.range (2 * i)).map c ++ [c (2 * i), c (2 * i + 1)])) : MrO w w3 v c (2 * (i + 1)) := by
  unfold MrO
  rw [show 2 * (i + 1) = 2 * i + 1 + 1 from by omega, List.range_succ, List.range_succ, List.map_append, List.map_append, List.append_assoc]
  exact h
/-- What an append of other things leaves. -/
theorem Gm.other {w wr w3 : World} {D : Nat → Prop} {N : Nat} {R : Nat → RwD} {c : Nat → Value} {z : Nat → List Int} {t : Nat → Nat} (h : Gm w wr D N R c z t) (b : Below w.heap.size wr w3) (k : KpT 46 wr w3) : Gm w w3 D N R c z t := by
  refine h.keeps (D' := fun x => w.heap.size ≤ x ∧ ¬ ∃ cur, wr.heap[x]? = some (.cells cur 55)) ⟨b.os, b.tape, b.output, b.size, fun x hx hn => ?_⟩ (fun x e => e.1) (fun x cur e hn => hn.2 ⟨cur, e⟩)
  by_cases e : w.heap.size ≤ x
  · by_cases e2 : ∃ cur, wr.heap[x]? = some (.cells cur 55)
    · obtain ⟨cur, e3⟩ := e2
      exact k x cur _ _ e3 (by decide)
    · exact absurd ⟨e, e2⟩ hn
  · exact b.block x (by omega)
theorem rwP_0 (i : Nat) : rwP (2 * i) = 1000 + (i : Int) := by
  unfold rwP
  rw [show 2 * i % 2 = 0 from by omega, show 2 * i / 2 = i from by omega]
  omega
theorem rwP_1 (i : Nat) : rwP (2 * i + 1) = 2000 + (i : Int) := by
  unfold rwP
  rw [show (2 * i + 1) % 2 = 1 from by omega, show (2 * i + 1) / 2 = i from by omega]
  omega
theorem rwQ_0 (i : Nat) : rwQ (2 * i) = 3000 + (i : Int) := by
  unfold rwQ
  rw [show 2 * i % 2 = 0 from by omega, show 2 * i / 2 = i from by omega]
  omega
theorem rwQ_1 (i : Nat) : rwQ (2 * i + 1) = 4000 + (i : Int) := by
  unfold rwQ
  rw [show (2 * i + 1) % 2 = 1 from by omega, show (2 * i + 1) / 2 = i from by omega]
  omega
/-- How far each list is, ahead of outcome i. -/
def TmO (n i : Nat) (t : Nat → Nat) : Prop := ∀ m, m < 2 * n → (m < 2 * i → t m = 40) ∧ (2 * i ≤ m → t m = 0)
/-- In the midst of outcome i. -/
def TkO (n i k : Nat) (t : Nat → Nat) : Prop := t (2 * i) = k ∧ t (2 * i + 1) = k ∧ ∀ m, m < 2 * n → (m < 2 * i → t m = 40) ∧ (2 * i + 2 ≤ m → t m = 0)
theorem TmO.go {n i : Nat} {t : Nat → Nat} (h : TmO n i t) (hi : i < n) : TkO n i 0 t := ⟨(h (2 * i) (by omega)).2 (by omega), (h (2 * i + 1) (by omega)).2 (by omega), fun m hm => ⟨fun e => (h m hm).1 e, fun e => (h m hm).2 (by omega)⟩⟩
theorem TkO.all {n i : Nat} {t : Nat → Nat} (h : TkO n i 40 t) : TmO n (i + 1) t := fun m hm => ⟨fun e => by
  by_cases e1 : m < 2 * i
  · exact (h.2.2 m hm).1 e1
  · rcases (show m = 2 * i ∨ m = 2 * i + 1 by omega) with e2 | e2
    · rw [e2]; exact h.1
    · rw [e2]; exact h.2.1, fun e => (h.2.2 m hm).2 (by omega)⟩
theorem TkO.step {n i k : Nat} {t : Nat → Nat} (h : TkO n i k t) : TkO n i (k + 1) (upd (upd t (2 * i) (k + 1)) (2 * i + 1) (k + 1)) := by
  refine ⟨by rw [upd_ne _ _ _ _ (by omega), upd_same], upd_same _ _ _, fun m hm => ⟨fun e => ?_, fun e => ?_⟩⟩
  · rw [upd_ne _ _ _ _ (by omega), upd_ne _ _ _ _ (by omega)]
    exact (h.2.2 m hm).1 e
  · rw [upd_ne _ _ _ _ (by omega), upd_ne _ _ _ _ (by omega)]
    exact (h.2.2 m hm).2 e
end Go.Proofs.YtdpebhdjcgiboaaGreat

namespace Go.Proofs.YtdpebhdjcgiboaaGreat
open Go.ChangeShapes Go.WideShapes Go.ChangeAt Go.RowKit Go.MuLone Go.RwLone
set_option linter.unusedVariables false
set_option maxRecDepth 100000
set_option maxHeartbeats 6400000
/-- Many outcomes, written full and grown: the lists lie apart. -/
theorem apart_many (w : World) (aa : Option Addr) (cap n : Nat) (ys : List OuD) (hn : ys.length = n) (ha : OwG ouC 51 2 w 0 (.slice aa n cap) ys) (ho : ∀ y ∈ ys, OuW w 0 y) (hq : ys.Pairwise DjO) (hi : ∀ y ∈ ys, InO y) (hl : n ≤ 20000000000) :
    Calls Tryz.prog 29 #[.slice aa n cap] w fun e w' => e = .returned (.bool true) ∧ Keeps (fun x => ∃ y ∈ ys, obO y x) w w' := by
  obtain ⟨D, hD⟩ : ∃ D : Nat → Prop, D = fun x => ∃ y ∈ ys, obO y x := ⟨_, rfl⟩
  obtain ⟨R, hR⟩ : ∃ R, R = rwOf ys := ⟨_, rfl⟩
  rw [← hD]
  have HST : Hid (Fi w w D (2 * n) R (zOf ys) 0 0) := by
    show Fi _ _ _ _ _ _ _ _
    rw [hD, hR]
    exact Fi.start hn ho hq hi
  have HC : Hid (∀ i, i < n → ∃ a1 s1 c1 a2 s2 c2, R (2 * i) = ⟨a1, s1, c1⟩ ∧ R (2 * i + 1) = ⟨a2, s2, c2⟩ ∧ s1 ≤ 1000000 ∧ s2 ≤ 1000000 ∧ (0 < s1 → ∃ g, a1 = some ⟨g, 0, none⟩) ∧ (0 < s2 → ∃ g, a2 = some ⟨g, 0, none⟩) ∧ ∃ ab, aa = some ⟨ab, 0, none⟩ ∧ ∀ W, Keeps D w W → W.cell? ⟨ab, i * 2, none⟩ = some (.slice a1 s1 c1) ∧ W.cell? ⟨ab, i * 2 + 1, none⟩ = some (.slice a2 s2 c2)) := fun i h => by
    have h2 : i < ys.length := by omega
    have hy : ys[i]? = some ys[i] := List.getElem?_eq_getElem h2
    have hO := ho _ (List.getElem_mem h2)
    refine ⟨_, _, _, _, _, _, by rw [hR]; exact (rwOf_0 hy).1, by rw [hR]; exact (rwOf_1 hy).1, hO.l1, hO.l2, fun h => ?_, fun h => ?_, ?_⟩
    · obtain ⟨g, cp, e, _, _⟩ := owG_some hO.o1 (by intro e; rw [e] at h; simp at h)
      injection e with e _ _
      exact ⟨g, e⟩
    · obtain ⟨g, cp, e, _, _⟩ := owG_some hO.o2 (by intro e; rw [e] at h; simp at h)
      injection e with e _ _
      exact ⟨g, e⟩
    obtain ⟨ab, cp, eab, _, _⟩ := owG_some ha (by intro e; rw [e] at h2; simp at h2)
    injection eab with eab _ _
    subst eab
    refine ⟨ab, rfl, fun W k => ?_⟩
    have := ou_at (owK ha k (fun g hg e => ?_)) hy
    · exact ⟨this.1, this.2.1⟩
    · rw [hD] at e
      obtain ⟨y, hym, hyo⟩ := e
      obtain ⟨cur, e1⟩ := blk ha hg
      have : ∃ cur2, w.heap[g]? = some (.cells cur2 55) := by
        rcases hyo with e | e
        · exact blk (ho y hym).o1 e
        · exact blk (ho y hym).o2 e
      obtain ⟨cur2, e2⟩ := this
      rw [e1] at e2
      injection e2 with e2
      injection e2 with _ e2 _
      exact absurd e2 (by decide)
  clear ha ho hq hi hD hR hn
  go_enter Tryz.func29, Tryz.ntmps29
  go_wp2_with fail
  go_loopw [4] (fun d wr => ∃ (i : Nat) (z : Nat → List Int), d = .int .i64 i ∧ i ≤ n ∧ Fi w wr D (2 * n) R z (2 * i) 0) (fun d _ => n - (intOf d).toNat)
  case atStart => exact ⟨0, _, rfl, Nat.zero_le _, HST.out⟩
  case round =>
    clear HST
    obtain ⟨i, z, rfl, hi, hF⟩ := hrel
    have HF : Hid (Fi w wr D (2 * n) R z (2 * i) 0) := hF
    clear hF
    have i0 : (0 : Int) ≤ (i : Int) := Int.natCast_nonneg _
    by_cases h5 : i < n
    · have i1 : (i : Int) < (n : Int) := by omega
      obtain ⟨a1, s1, k1, a2, s2, k2, r1, r2, l1, l2, n1, n2, ab, hab, hc⟩ := HC.out i h5
      subst hab
      have HR : Hid (R (2 * i) = ⟨a1, s1, k1⟩ ∧ R (2 * i + 1) = ⟨a2, s2, k2⟩) := ⟨r1, r2⟩
      have HW : Hid (∀ W, Keeps D w W → W.cell? ⟨ab, i * 2, none⟩ = some (.slice a1 s1 k1) ∧ W.cell? ⟨ab, i * 2 + 1, none⟩ = some (.slice a2 s2 k2)) := hc
      clear r1 r2 hc n1 n2
      go_wp2_with fail
      go_loopw [5] (fun d wr => ∃ (t : Nat) (z : Nat → List Int), d = .int .i64 t ∧ t ≤ s1 ∧ Fi w wr D (2 * n) R z (2 * i) t) (fun d _ => s1 - (intOf d).toNat)
      case atStart => exact ⟨0, z, rfl, by omega, HF.out⟩
      case round =>
        clear HF
        obtain ⟨t, z, rfl, ht, hF⟩ := hrel
        have HF : Hid (Fi w wr D (2 * n) R z (2 * i) t) := hF
        obtain ⟨c0, c1⟩ := HW.out wr hF.a.k
        clear hF
        have t0 : (0 : Int) ≤ (t : Int) := Int.natCast_nonneg _
        by_cases h6 : t < s1
        · have t1 : (t : Int) < (s1 : Int) := by omega
          obtain ⟨g, eg, hN, ⟨u, st2⟩, st3⟩ := HF.out.set (by omega) (by rw [HR.out.1]; exact h6) (1000 + (i : Int)) (rwP_0 i).symm
          rw [HR.out.1] at eg
          have eg : a1 = some ⟨g, 0, none⟩ := eg
          subst eg
          have HN : Hid (Fi w (wr.setCell ⟨g, t, none⟩ (.int .u64 (1000 + (i : Int)))) D (2 * n) R (upd z (2 * i) ((z (2 * i)).set t (1000 + (i : Int)))) (2 * i) (t + 1)) := hN
          clear hN HF
          go_wp2
          go_roundw
          case rel => exact ⟨t + 1, _, by go_num, by omega, HN.out⟩
          case measure => simp [intOf]; omega
        · have hte : s1 = t := by omega
          subst hte
          have H1 : Hid (Fi w wr D (2 * n) R z (2 * i + 1) 0) := HF.out.next (by omega) (by rw [HR.out.1])
          clear HF c1 c0
          rename World => wx
          have c0 := (HW.out wx H1.out.a.k).1
          go_wp2_with fail
          go_loopw [6] (fun d wr => ∃ (t : Nat) (z : Nat → List Int), d = .int .i64 t ∧ t ≤ s2 ∧ Fi w wr D (2 * n) R z (2 * i + 1) t) (fun d _ => s2 - (intOf d).toNat)
          case atStart => exact ⟨0, z, rfl, by omega, H1.out⟩
          case round =>
            clear H1 c0
            obtain ⟨t, z, rfl, ht, hF⟩ := hrel
            have HF : Hid (Fi w wr D (2 * n) R z (2 * i + 1) t) := hF
            obtain ⟨c0, c1⟩ := HW.out wr hF.a.k
            clear hF
            have t0 : (0 : Int) ≤ (t : Int) := Int.natCast_nonneg _
            by_cases h6 : t < s2
            · have t1 : (t : Int) < (s2 : Int) := by omega
              obtain ⟨g, eg, hN, ⟨u, st2⟩, st3⟩ := HF.out.set (by omega) (by rw [HR.out.2]; exact h6) (2000 + (i : Int)) (rwP_1 i).symm
              rw [HR.out.2] at eg
              have eg : a2 = some ⟨g, 0, none⟩ := eg
              subst eg
              have HN : Hid (Fi w (wr.setCell ⟨g, t, none⟩ (.int .u64 (2000 + (i : Int)))) D (2 * n) R (upd z (2 * i + 1) ((z (2 * i + 1)).set t (2000 + (i : Int)))) (2 * i + 1) (t + 1)) := hN
              clear hN HF
              go_wp2
              go_roundw
              case rel => exact ⟨t + 1, _, by go_num, by omega, HN.out⟩
              case measure => simp [intOf]; omega
            · have hte : s2 = t := by omega
              subst hte
              have H1 : Hid (Fi w wr D (2 * n) R z (2 * (i + 1)) 0) := HF.out.next (by omega) (by rw [HR.out.2])
              clear HF
              go_wp2
              go_roundw
              case rel => exact ⟨i + 1, _, by go_num, by omega, H1.out⟩
              case measure => simp [intOf]; omega
    · have hin : n = i := by omega
      subst hin
      have H0 : Hid (Gm w wr D (2 * n) R (fun m => (R m).v) z (fun _ => 0) ∧ TmO n 0 (fun _ => 0)) := ⟨HF.out.a.all, fun m hm => ⟨fun e => by omega, fun e => rfl⟩⟩
      clear HF
      go_wp2_with fail
      go_loopw [7, 3] (fun c7 c3 wr => ∃ (i : Nat) (c : Nat → Value) (z : Nat → List Int) (t : Nat → Nat), c7 = .int .i64 i ∧ i ≤ n ∧ MrO w wr c3 c (2 * i) ∧ Gm w wr D (2 * n) R c z t ∧ TmO n i t) (fun c7 _ _ => n - (intOf c7).toNat)
      case atStart => exact ⟨0, _, _, _, rfl, Nat.zero_le _, OwG.nil _ _ _ _ _, H0.out⟩
      case round =>
        clear H0
        obtain ⟨i, c, z, t, rfl, hi, hM, hG, hT⟩ := hrel
        have HG : Hid (MrO w wr _ c (2 * i) ∧ Gm w wr D (2 * n) R c z t ∧ TmO n i t) := ⟨hM, hG, hT⟩
        obtain ⟨ma, mc, rfl⟩ := hM.form
        rw [List.length_map, List.length_range] at HG ⊢
        clear hM hG hT
        have i0 : (0 : Int) ≤ (i : Int) := Int.natCast_nonneg _
        by_cases h5 : i < n
        · have i1 : (i : Int) < (n : Int) := by omega
          obtain ⟨a1, s1, k1, a2, s2, k2, r1, r2, l1, l2, n1, n2, ab, hab, hc⟩ := HC.out i h5
          subst hab
          have HR : Hid (R (2 * i) = ⟨a1, s1, k1⟩ ∧ R (2 * i + 1) = ⟨a2, s2, k2⟩) := ⟨r1, r2⟩
          obtain ⟨c0, c1⟩ := hc wr HG.out.2.1.k
          clear r1 r2 hc n1 n2
          have HE : Hid (.slice a1 s1 k1 = c (2 * i) ∧ .slice a2 s2 k2 = c (2 * i + 1)) := by
            have e1 := HG.out.2.1.s (2 * i) (by omega) (HG.out.2.2.go h5).1
            have e2 := HG.out.2.1.s (2 * i + 1) (by omega) (HG.out.2.2.go h5).2.1
            rw [HR.out.1] at e1
            rw [HR.out.2] at e2
            exact ⟨e1.symm, e2.symm⟩
          go_wp2_with fail
          go_loopw [8, 9, 10] (fun d8 d9 d10 wr => ∃ (k : Nat) (c : Nat → Value) (z : Nat → List Int) (t : Nat → Nat), c (2 * i) = d8 ∧ c (2 * i + 1) = d9 ∧ d10 = .int .i64 k ∧ k ≤ 40 ∧ MrO w wr (.slice ma (2 * i) mc) c (2 * i) ∧ Gm w wr D (2 * n) R c z t ∧ TkO n i k t) (fun _ _ d10 _ => 40 - (intOf d10).toNat)
          case atStart => exact ⟨0, c, z, t, HE.out.1.symm, HE.out.2.symm, rfl, by omega, HG.out.1, HG.out.2.1, HG.out.2.2.go h5⟩
          case round =>
            clear HG c0 c1 HE
            obtain ⟨k, c, z, t, e8, e9, rfl, hk, hM, hG, hT⟩ := hrel
            obtain ⟨ca, cc, hca⟩ := (hG.g (2 * i) (by omega)).o.form
            obtain ⟨ra, rc, hra⟩ := (hG.g (2 * i + 1) (by omega)).o.form
            have L1 := hG.l (2 * i) (by omega)
            have L2 := hG.l (2 * i + 1) (by omega)
            rw [HR.out.1, hT.1] at L1
            rw [HR.out.2, hT.2.1] at L2
            have hl1 : (z (2 * i)).length ≤ 1000040 := by have : (z (2 * i)).length = s1 + k := L1; omega
            have hl2 : (z (2 * i + 1)).length ≤ 1000040 := by have : (z (2 * i + 1)).length = s2 + k := L2; omega
            have HG : Hid (MrO w wr (.slice ma (2 * i) mc) c (2 * i) ∧ Gm w wr D (2 * n) R c z t ∧ TkO n i k t ∧ c (2 * i) = .slice ca (z (2 * i)).length cc ∧ c (2 * i + 1) = .slice ra (z (2 * i + 1)).length rc) := ⟨hM, hG, hT, hca, hra⟩
            rw [hca] at e8
            rw [hra] at e9
            subst e8 e9
            clear hM hG hT hca hra L1 L2
            by_cases h6 : k < 40
            · have t0 : (0 : Int) ≤ (k : Int) := Int.natCast_nonneg _
              have t1 : (k : Int) < 40 := by omega
              obtain ⟨zs, hzs⟩ : ∃ zs, z (2 * i) = zs := ⟨_, rfl⟩
              obtain ⟨us, hus⟩ : ∃ us, z (2 * i + 1) = us := ⟨_, rfl⟩
              have HZ : Hid (z (2 * i) = zs ∧ z (2 * i + 1) = us) := ⟨hzs, hus⟩
              rw [hzs] at hl1 ⊢
              rw [hus] at hl2 ⊢
              have HO1 : Hid (OwW wr 0 (.slice ca zs.length cc) zs) := by
                have := (HG.out.2.1.g (2 * i) (by omega)).o
                rw [HG.out.2.2.2.1, hzs] at this
                exact this
              clear hzs hus
              go_wp2_with (at_builtin; refine hideG ?_)
              change wpList _ _ _ _ _ _
              refine app_st (cs := wdC) (wr := wr) (by rfl) _ _ 46 55 (by rfl) Tryz.underlying46 infoU64 rfl (by decide) (fun _ => rfl) _ zs (3000 + (i : Int)) HO1.out (by rfl) wr.heap.size rfl (by rfl) (wdC_one _) _ rfl (by unfold maxLen; omega) (by omega) ?_
              intro b kb w3 ho3 hk3 hb3
              have HG2 : Hid (MrO w w3 (.slice ma (2 * i) mc) (upd c (2 * i) (.slice (some ⟨b, 0, none⟩) (zs.length + 1) kb)) (2 * i) ∧ Gm w w3 D (2 * n) R (upd c (2 * i) (.slice (some ⟨b, 0, none⟩) (zs.length + 1) kb)) (upd z (2 * i) (zs ++ [3000 + (i : Int)])) (upd t (2 * i) (k + 1)) ∧ OwW w3 0 (.slice ra us.length rc) us) := by
                obtain ⟨hM, hG, hT, e1, e2⟩ := HG.out
                have hs := hG.step (2 * i) (by omega) (3000 + (i : Int)) (rwQ_0 i).symm (w3 := w3) (b := b) (cap := kb) (by rw [HZ.out.1]; exact ho3) (by rw [e1, HZ.out.1]; exact hk3)
                rw [HZ.out.1, hT.1] at hs
                have hM2 := (hM.keeps hs.2 (fun x hx => (hG.g (2 * i) (by omega)).ty x hx)).upd (m := 2 * i) (x := .slice (some ⟨b, 0, none⟩) (zs.length + 1) kb) (Nat.le_refl _)
                have h9 := (hs.1.g (2 * i + 1) (by omega)).o
                rw [upd_ne _ _ _ _ (by omega), upd_ne _ _ _ _ (by omega), e2, HZ.out.2] at h9
                exact ⟨hM2, hs.1, h9⟩
              clear ho3 hk3 hb3 HO1
              go_wp2_with (at_builtin; refine hideG ?_)
              change wpList _ _ _ _ _ _
              refine app_st (cs := wdC) (wr := w3) (by rfl) _ _ 46 55 (by rfl) Tryz.underlying46 infoU64 rfl (by decide) (fun _ => rfl) _ us (4000 + (i : Int)) HG2.out.2.2 (by rfl) w3.heap.size rfl (by rfl) (wdC_one _) _ rfl (by unfold maxLen; omega) (by omega) ?_
              intro b4 k4 w4 ho4 hk4 hb4
              have HG3 : Hid (MrO w w4 (.slice ma (2 * i) mc) (upd (upd c (2 * i) (.slice (some ⟨b, 0, none⟩) (zs.length + 1) kb)) (2 * i + 1) (.slice (some ⟨b4, 0, none⟩) (us.length + 1) k4)) (2 * i) ∧ Gm w w4 D (2 * n) R (upd (upd c (2 * i) (.slice (some ⟨b, 0, none⟩) (zs.length + 1) kb)) (2 * i + 1) (.slice (some ⟨b4, 0, none⟩) (us.length + 1) k4)) (upd (upd z (2 * i) (zs ++ [3000 + (i : Int)])) (2 * i + 1) (us ++ [4000 + (i : Int)])) (upd (upd t (2 * i) (k + 1)) (2 * i + 1) (k + 1))) := by
                obtain ⟨_, _, hT, e1, e2⟩ := HG.out
                obtain ⟨hM, hG, _⟩ := HG2.out
                have z9 : upd z (2 * i) (zs ++ [3000 + (i : Int)]) (2 * i + 1) = us := by rw [upd_ne _ _ _ _ (by omega)]; exact HZ.out.2
                have c9 : upd c (2 * i) (.slice (some ⟨b, 0, none⟩) (zs.length + 1) kb) (2 * i + 1) = .slice ra us.length rc := by rw [upd_ne _ _ _ _ (by omega), e2, HZ.out.2]
                have t9 : upd t (2 * i) (k + 1) (2 * i + 1) = k := by rw [upd_ne _ _ _ _ (by omega)]; exact hT.2.1
                have hs := hG.step (2 * i + 1) (by omega) (4000 + (i : Int)) (rwQ_1 i).symm (w3 := w4) (b := b4) (cap := k4) (by rw [z9]; exact ho4) (by rw [c9]; exact hk4)
                rw [z9, t9] at hs
                exact ⟨(hM.keeps hs.2 (fun x hx => (hG.g (2 * i + 1) (by omega)).ty x hx)).upd (by omega), hs.1⟩
              have HT3 : Hid (TkO n i (k + 1) (upd (upd t (2 * i) (k + 1)) (2 * i + 1) (k + 1))) := HG.out.2.2.1.step
              clear ho4 hk4 hb4 HG2 HG
              go_wp2
              go_roundw
              case rel => exact ⟨k + 1, _, _, _, by rw [upd_ne _ _ _ _ (by omega), upd_same], by rw [upd_same], by go_num, by omega, HG3.out.1, HG3.out.2, HT3.out⟩
              case measure => simp [intOf]; omega
            · have hke : 40 = k := by omega
              subst hke
              obtain ⟨n1, hn1⟩ : ∃ n1, (z (2 * i)).length = n1 := ⟨_, rfl⟩
              obtain ⟨n2, hn2⟩ : ∃ n2, (z (2 * i + 1)).length = n2 := ⟨_, rfl⟩
              rw [hn1, hn2] at HG
              rw [hn1, hn2]
              clear hl1 hl2 hn1 hn2
              go_wp2_with (at_builtin; refine hideG ?_)
              change wpList _ _ _ _ _ _
              have hb0 : (wr.alloc (.cells #[.slice ca n1 cc, .slice ra n2 rc] 46)).heap[wr.heap.size]? = some (.cells #[.slice ca n1 cc, .slice ra n2 rc] 46) := heap_alloc_last _ _ _ rfl
              have hin : InG vO (wr.alloc (.cells #[.slice ca n1 cc, .slice ra n2 rc] 46)) (wr.alloc (.cells #[.slice ca n1 cc, .slice ra n2 rc] 46)).heap.size (.slice (some ⟨wr.heap.size, 0, none⟩) 2 2) [.slice ca n1 cc, .slice ra n2 rc] := by
                refine ⟨some ⟨wr.heap.size, 0, none⟩, 2, rfl, Nat.le_refl _, (fun e => by cases e), fun j u hj => ⟨wr.heap.size, 0, rfl, by rw [szAl]; omega, ?_⟩⟩
                rw [Nat.zero_add]
                exact (cell?_heap hb0 j).trans (by simpa [vO] using hj)
              have hMo : OwG vO 46 1 (wr.alloc (.cells #[.slice ca n1 cc, .slice ra n2 rc] 46)) w.heap.size (.slice ma (2 * i) mc) ((List.range (2 * i)).map c) := World.ownsRow.alloc HG.out.1 _
              have hws : w.heap.size ≤ wr.heap.size := HG.out.2.1.k.size
              refine app_more (cs := vO) (by rfl) _ _ 141 46 (by rfl) Tryz.underlying141 infoSlU rfl (by decide) (fun _ => rfl) w.heap.size _ ((List.range (2 * i)).map c) hMo (by rfl) (wr.alloc (.cells #[.slice ca n1 cc, .slice ra n2 rc] 46)).heap.size _ [.slice ca n1 cc, .slice ra n2 rc] (by rfl) hin (fun y hy u hu => ?_) (by unfold maxLen; simp; omega) (by simp; omega) (by rw [szAl]; omega) ?_
              · simp [vO] at hy hu
                subst hu
                rcases hy with rfl | rfl <;> rfl
              intro v' w5 ho5 hb5 hk5
              have H5 : Hid (MrO w w5 v' c (2 * (i + 1)) ∧ Gm w w5 D (2 * n) R c z t ∧ TmO n (i + 1) t) := by
                obtain ⟨hM, hG, hT, e1, e2⟩ := HG.out
                rw [← e1, ← e2] at ho5
                refine ⟨MrO.next (wr := wr) ho5, ?_, hT.all⟩
                have g1 := hG.keeps (D' := fun _ => False) ((Keeps.refl _ _).alloc (.cells #[.slice ca n1 cc, .slice ra n2 rc] 46)) (fun _ e => e.elim) (fun _ _ _ e => e)
                exact g1.other hb5 hk5
              clear ho5 hb5 hk5 HG hb0 hin hMo hws
              go_wp2
              go_roundw
              case rel => exact ⟨i + 1, _, _, _, by go_num, by omega, H5.out⟩
              case measure => simp [intOf]; omega
        · have hie : n = i := by omega
          subst hie
          clear hi h5
          obtain ⟨W2, rfl⟩ : ∃ W2, W2 = wr := ⟨_, rfl⟩
          go_wp2_with fail
          go_loopw [11] (fun d wr => ∃ i : Nat, d = .int .i64 i ∧ i ≤ n ∧ W2 = wr) (fun d _ => n - (intOf d).toNat)
          case atStart => exact ⟨0, rfl, Nat.zero_le _, rfl⟩
          case round =>
            obtain ⟨i, rfl, hi, rfl⟩ := hrel
            have i0 : (0 : Int) ≤ (i : Int) := Int.natCast_nonneg _
            by_cases h5 : i < n
            · have i1 : (i : Int) < (n : Int) := by omega
              obtain ⟨a1, s1, k1, a2, s2, k2, r1, r2, l1, l2, n1, n2, ab, hab, hc⟩ := HC.out i h5
              subst hab
              have HR : Hid (R (2 * i) = ⟨a1, s1, k1⟩ ∧ R (2 * i + 1) = ⟨a2, s2, k2⟩) := ⟨r1, r2⟩
              obtain ⟨c0, c1⟩ := hc W2 HG.out.2.1.k
              clear r1 r2 hc
              have g1 := HG.out.2.1.g (2 * i) (by omega)
              have g2 := HG.out.2.1.g (2 * i + 1) (by omega)
              have ht1 := (HG.out.2.2 (2 * i) (by omega)).1 (by omega)
              have ht2 := (HG.out.2.2 (2 * i + 1) (by omega)).1 (by omega)
              have hl1 := HG.out.2.1.l (2 * i) (by omega)
              have hl2 := HG.out.2.1.l (2 * i + 1) (by omega)
              have he1 := HG.out.2.1.e (2 * i) (by omega)
              have he2 := HG.out.2.1.e (2 * i + 1) (by omega)
              rw [HR.out.1, ht1] at hl1 he1
              rw [HR.out.2, ht2] at hl2 he2
              rw [HR.out.1, rwP_0] at g1
              rw [HR.out.2, rwP_1] at g2
              rw [rwQ_0] at he1
              rw [rwQ_1] at he2
              obtain ⟨zs, hzs⟩ : ∃ zs, z (2 * i) = zs := ⟨_, rfl⟩
              obtain ⟨us, hus⟩ : ∃ us, z (2 * i + 1) = us := ⟨_, rfl⟩
              rw [hzs] at g1 hl1 he1
              rw [hus] at g2 hl2 he2
              have hl1 : zs.length = s1 + 40 := hl1
              have hl2 : us.length = s2 + 40 := hl2
              obtain ⟨cb, cc, hcb, _, _⟩ := owG_some g1.o (by intro e; rw [e] at hl1; simp at hl1)
              obtain ⟨db, dc, hdb, _, _⟩ := owG_some g2.o (by intro e; rw [e] at hl2; simp at hl2)
              rw [hcb] at g1
              rw [hdb] at g2
              have q1 : W2.cell? ⟨cb, s1 + 39, none⟩ = some (.int .u64 (3000 + (i : Int))) := owW_cellO g1.o (s1 + 39) _ (by
                rcases he1 with e | e
                · cases e
                · exact e)
              have q2 : W2.cell? ⟨db, s2 + 39, none⟩ = some (.int .u64 (4000 + (i : Int))) := owW_cellO g2.o (s2 + 39) _ (by
                rcases he2 with e | e
                · cases e
                · exact e)
              obtain ⟨mb, mc', hmb, _, _⟩ := owG_some HG.out.1 (by intro e; have := congrArg List.length e; simp at this; omega)
              injection hmb with hmb hmb2 hmb3
              clear hmb2 hmb3
              subst hmb
              have m0 : W2.cell? ⟨mb, 2 * i, none⟩ = some (.slice (some ⟨cb, 0, none⟩) (s1 + 40) cc) := (HG.out.1.at (2 * i) (by omega)).trans (by rw [hcb, hl1])
              have m1 : W2.cell? ⟨mb, 2 * i + 1, none⟩ = some (.slice (some ⟨db, 0, none⟩) (s2 + 40) dc) := (HG.out.1.at (2 * i + 1) (by omega)).trans (by rw [hdb, hl2])
              have HA : Hid ((∀ g, a1 = some ⟨g, 0, none⟩ → ∀ j, j < s1 → W2.cell? ⟨g, j, none⟩ = some (.int .u64 (1000 + (i : Int)))) ∧ (∀ g, a2 = some ⟨g, 0, none⟩ → ∀ j, j < s2 → W2.cell? ⟨g, j, none⟩ = some (.int .u64 (2000 + (i : Int)))) ∧ (0 < s1 → ∃ g, a1 = some ⟨g, 0, none⟩) ∧ (0 < s2 → ∃ g, a2 = some ⟨g, 0, none⟩)) := ⟨fun g e j hj => g1.cell g e j hj, fun g e j hj => g2.cell g e j hj, n1, n2⟩
              clear g1 g2 hl1 hl2 he1 he2 hzs hus hcb hdb n1 n2 ht1 ht2
              go_wp2_with fail
              go_loopw [12] (fun d wr => ∃ t : Nat, d = .int .i64 t ∧ t ≤ s1 ∧ W2 = wr) (fun d _ => s1 - (intOf d).toNat)
              case atStart => exact ⟨0, rfl, by omega, rfl⟩
              case round =>
                obtain ⟨t, rfl, ht, rfl⟩ := hrel
                by_cases h6 : t < s1
                · have t0 : (0 : Int) ≤ (t : Int) := Int.natCast_nonneg _
                  have t1 : (t : Int) < (s1 : Int) := by omega
                  obtain ⟨g, hg⟩ := HA.out.2.2.1 (by omega)
                  have q := HA.out.1 g hg t h6
                  subst hg
                  go_wp2
                  go_roundw
                  case rel => exact ⟨t + 1, by go_num, by omega, trivial⟩
                  case measure => simp [intOf]; omega
                · clear ht
                  go_wp2_with fail
                  go_loopw [13] (fun d wr => ∃ t : Nat, d = .int .i64 t ∧ t ≤ s2 ∧ W2 = wr) (fun d _ => s2 - (intOf d).toNat)
                  case atStart => exact ⟨0, rfl, by omega, rfl⟩
                  case round =>
                    obtain ⟨t, rfl, ht, rfl⟩ := hrel
                    by_cases h7 : t < s2
                    · have t0 : (0 : Int) ≤ (t : Int) := Int.natCast_nonneg _
                      have t1 : (t : Int) < (s2 : Int) := by omega
                      obtain ⟨g, hg⟩ := HA.out.2.2.2 (by omega)
                      have q := HA.out.2.1 g hg t h7
                      subst hg
                      go_wp2
                      go_roundw
                      case rel => exact ⟨t + 1, by go_num, by omega, trivial⟩
                      case measure => simp [intOf]; omega
                    · clear ht
                      go_wp2
                      go_roundw
                      case rel => exact ⟨i + 1, by go_num, by omega, trivial⟩
                      case measure => simp [intOf]; omega
            · have HK : Hid (Keeps D w W2) := HG.out.2.1.k
              clear HG
              go_wp2
              go_ret
              exact ⟨rfl, HK.out⟩
end Go.Proofs.YtdpebhdjcgiboaaGreat

namespace Go.Proofs.YtdpebhdjcgiboaaGreat
set_option linter.unusedSimpArgs false
open Go.ChangeShapes Go.WideShapes Go.ChangeAt Go.RowKit Go.MuLone Go.RwLone
set_option linter.unusedVariables false
set_option maxRecDepth 100000
set_option maxHeartbeats 3200000
end Go.Proofs.YtdpebhdjcgiboaaGreat
