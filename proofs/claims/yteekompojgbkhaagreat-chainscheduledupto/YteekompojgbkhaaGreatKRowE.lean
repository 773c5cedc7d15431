import Derived.Test.YteekompojgbkhaaGreatKChA
import Derived.OwnWalk
import Derived.Below
import Derived.Laws.OwnMore
import Derived.Deep.OwnRows
import Derived.Laws.AppendOwnNone
namespace Go.Proofs.YteekompojgbkhaaGreat
open Go.ChangeShapes Go.WideShapes Go.ChangeAt Go.RowKit
set_option linter.unusedVariables false
set_option maxRecDepth 100000
theorem addr_add (b off k : Nat) : (⟨b, off, none⟩ : Addr).add k = ⟨b, off + k, none⟩ := by unfold Addr.add; split <;> simp_all
theorem szAl (w : World) (o : Obj) : (w.alloc o).heap.size = w.heap.size + 1 := by show (w.heap.push o).size = _; simp
/-- The slice value v reads as the list xs, each thing in the cells that cs tells, in blocks below B. -/
def InG {α : Type} (cs : α → List Value) (w : World) (B : Nat) (v : Value) (xs : List α) : Prop :=
  ∃ ao cap, v = .slice ao xs.length cap ∧ xs.length ≤ cap ∧ (ao = none → cap = 0) ∧ ∀ j u, (xs.flatMap cs)[j]? = some u → ∃ b off, ao = some ⟨b, off, none⟩ ∧ b < B ∧ w.cell? ⟨b, off + j, none⟩ = some u
theorem InG.later {α : Type} {cs : α → List Value} {w w' : World} {B : Nat} {v : Value} {xs : List α} (h : InG cs w B v xs) (hb : Below B w w') : InG cs w' B v xs := by
  obtain ⟨ao, cap, e, h1, h2, h3⟩ := h
  refine ⟨ao, cap, e, h1, h2, fun j u hj => ?_⟩
  obtain ⟨b, off, e1, e2, e3⟩ := h3 j u hj
  exact ⟨b, off, e1, e2, (hb.cell e2).trans e3⟩
theorem InG.up {α : Type} {cs : α → List Value} {w : World} {B C : Nat} {v : Value} {xs : List α} (h : InG cs w B v xs) (hb : B ≤ C) : InG cs w C v xs := by
  obtain ⟨ao, cap, e, h1, h2, h3⟩ := h
  refine ⟨ao, cap, e, h1, h2, fun j u hj => ?_⟩
  obtain ⟨b, off, e1, e2, e3⟩ := h3 j u hj
  exact ⟨b, off, e1, Nat.lt_of_lt_of_le e2 hb, e3⟩
theorem InG.form {α : Type} {cs : α → List Value} {w : World} {B : Nat} {v : Value} {xs : List α} (h : InG cs w B v xs) : ∃ a cap, v = .slice a xs.length cap := by
  obtain ⟨a, cap, e, _⟩ := h
  exact ⟨a, cap, e⟩
theorem flat_len {α β : Type} (cs : α → List β) (n : Nat) (hn : ∀ x, (cs x).length = n) (xs : List α) : (xs.flatMap cs).length = xs.length * n := by
  induction xs with
  | nil => simp
  | cons a xs ih => rw [List.flatMap_cons, List.length_append, ih, hn, List.length_cons, Nat.add_mul, Nat.one_mul, Nat.add_comm]
theorem flat_get {α β : Type} (cs : α → List β) (n : Nat) (hn : ∀ x, (cs x).length = n) : ∀ (xs : List α) (i : Nat) (hi : i < xs.length) (j : Nat), j < n → (xs.flatMap cs)[i * n + j]? = (cs xs[i])[j]?
  | a :: xs, 0, _, j, hj => by
    rw [List.flatMap_cons, Nat.zero_mul, Nat.zero_add, List.getElem?_append_left (by rw [hn]; exact hj)]
    rfl
  | a :: xs, i + 1, hi, j, hj => by
    rw [List.flatMap_cons, List.getElem?_append_right (by rw [hn, Nat.add_mul]; omega), hn, show (i + 1) * n + j - n = i * n + j from by rw [Nat.add_mul]; omega]
    exact flat_get cs n hn xs i (by simpa using hi) j hj
theorem InG.cell {α : Type} {cs : α → List Value} {n : Nat} (hn : ∀ x, (cs x).length = n) {w : World} {B m cap : Nat} {a : Option Addr} {xs : List α} (h : InG cs w B (.slice a m cap) xs) (i : Nat) (hi : i < xs.length) (h0 : 0 < n) :
    ∃ b off, a = some ⟨b, off, none⟩ ∧ b < B ∧ ∀ j, j < n → w.cell? ⟨b, off + i * n + j, none⟩ = (cs xs[i])[j]? := by
  obtain ⟨ao, cap', e, h1, h2, h3⟩ := h
  injection e with e1 e2 e3
  subst e1
  have get : ∀ j, (hj : j < n) → ∃ u, (cs xs[i])[j]? = some u := fun j hj => ⟨(cs xs[i])[j]'(by rw [hn]; exact hj), List.getElem?_eq_getElem _⟩
  obtain ⟨u0, hu0⟩ := get 0 h0
  obtain ⟨b, off, e1, e2, _⟩ := h3 (i * n + 0) u0 ((flat_get cs n hn xs i hi 0 h0).trans hu0)
  refine ⟨b, off, e1, e2, fun j hj => ?_⟩
  obtain ⟨u, hu⟩ := get j hj
  obtain ⟨b', off', e1', _, e3⟩ := h3 (i * n + j) u ((flat_get cs n hn xs i hi j hj).trans hu)
  rw [e1] at e1'
  injection e1' with e1'
  injection e1' with e4 e5
  subst e4 e5
  rw [hu, ← e3, Nat.add_assoc]
/-- The slice value v holds just the list xs, in a row of the call's own. -/
def OwG {α : Type} (cs : α → List Value) (e : TypeId) (n : Nat) (w : World) (B : Nat) (v : Value) (xs : List α) : Prop := w.ownsRow B e n v xs.length (xs.flatMap cs)
theorem OwG.nil {α : Type} (cs : α → List Value) (e : TypeId) (n : Nat) (w : World) (B : Nat) : OwG cs e n w B (.slice none 0 0) [] := World.ownsRow_nil _ _ _ _
theorem OwG.form {α : Type} {cs : α → List Value} {e : TypeId} {n : Nat} {w : World} {B : Nat} {v : Value} {xs : List α} (h : OwG cs e n w B v xs) : ∃ a cap, v = .slice a xs.length cap := by
  rcases h.2 with ⟨rfl, hn⟩ | ⟨g, cap, cur, rfl, _⟩
  · exact ⟨none, 0, by rw [hn]⟩
  · exact ⟨_, cap, rfl⟩
theorem OwG.in {α : Type} {cs : α → List Value} {e : TypeId} {n : Nat} {w : World} {B : Nat} {v : Value} {xs : List α} (h : OwG cs e n w B v xs) : InG cs w w.heap.size v xs := by
  have hh := h
  rcases h.2 with ⟨rfl, hn⟩ | ⟨g, cap, cur, rfl, hb, hg, hnc, hm, hs, ht⟩
  · refine ⟨none, 0, by rw [hn], by omega, fun _ => rfl, fun j u hj => ?_⟩
    have : xs = [] := List.eq_nil_of_length_eq_zero hn
    subst this
    simp at hj
  · refine ⟨some ⟨g, 0, none⟩, cap, rfl, hnc, (fun h => by cases h), fun j u hj => ⟨g, 0, rfl, (Array.getElem?_eq_some_iff.1 hg).1, ?_⟩⟩
    have hlt := (List.getElem?_eq_some_iff.1 hj).1
    rw [Nat.zero_add, World.ownsRow.cellAt hh j (by have := h.1; omega)]
    exact hj
/-- All blocks but those of type t stay. -/
def KpT (t : TypeId) (w w' : World) : Prop := ∀ (k : Nat) (c : Array Value) (t' : TypeId) (f : Nat × Nat), w.heap[k]? = some (Obj.cells c t' f) → t' ≠ t → w'.heap[k]? = w.heap[k]?
theorem KpT.below {t : TypeId} {w w' : World} (h : Below w.heap.size w w') : KpT t w w' := fun k c t' f hk _ => h.block k (Array.getElem?_eq_some_iff.1 hk).1
theorem KpT.trans {t : TypeId} {a b c : World} (h : KpT t a b) (g : KpT t b c) : KpT t a c := fun k c t' f hk ht => by
  have e := h k c t' f hk ht
  exact (g k c t' f (e.trans hk) ht).trans e
theorem KpT.set {t : TypeId} {w : World} {p j : Nat} {c : Array Value} {f : Nat × Nat} (h : w.heap[p]? = some (.cells c t f)) (u : Value) : KpT t w (w.setCell ⟨p, j, none⟩ u) := fun k c' t' f' hk ht => by
  refine Below.heap_setCell _ _ _ _ (fun e => ?_)
  have e' : k = p := e
  rw [e', h] at hk
  injection hk with hk
  injection hk with h1 h2 h3
  exact ht h2.symm
theorem KpT.app {e : TypeId} {n m B : Nat} {v : Value} {xs : List Value} {w w' : World} (h : w.ownsRow B e n v m xs) (hk : ∀ k, k < w.heap.size → some k ≠ v.ownBlock → w'.heap[k]? = w.heap[k]?) : KpT e w w' := fun k c t' f hc ht => by
  refine hk k (Array.getElem?_eq_some_iff.1 hc).1 (fun he => ?_)
  rcases h.2 with ⟨rfl, _⟩ | ⟨g, cap, cur, rfl, _, hg, _⟩
  · cases he
  · have e1 : k = g := Option.some.inj he
    rw [e1, hg] at hc
    injection hc with hc
    injection hc with h1 h2 h3
    exact ht h2.symm
theorem OwG.kept {α : Type} {cs : α → List Value} {e t : TypeId} {n : Nat} {w w' : World} {B : Nat} {v : Value} {xs : List α} (h : OwG cs e n w B v xs) (hk : KpT t w w') (ht : e ≠ t) : OwG cs e n w' B v xs := by
  refine ⟨h.1, ?_⟩
  rcases h.2 with h1 | ⟨g, cap, cur, rfl, h1, h2, h3⟩
  · exact .inl h1
  · exact .inr ⟨g, cap, cur, rfl, h1, (hk g cur e (0, 0) h2 ht).trans h2, h3⟩
theorem OwG.later {α : Type} {cs : α → List Value} {e : TypeId} {n : Nat} {w w' : World} {B : Nat} {v : Value} {xs : List α} (h : OwG cs e n w B v xs) (hb : Below w.heap.size w w') : OwG cs e n w' B v xs := by
  refine ⟨h.1, ?_⟩
  rcases h.2 with h1 | ⟨g, cap, cur, rfl, h1, h2, h3⟩
  · exact .inl h1
  · exact .inr ⟨g, cap, cur, rfl, h1, (hb.block g (Array.getElem?_eq_some_iff.1 h2).1).trans h2, h3⟩
theorem OwG.set {α : Type} {cs : α → List Value} {e : TypeId} {n : Nat} {w : World} {B : Nat} {v : Value} {xs : List α} (h : OwG cs e n w B v xs) {p : Addr} (hp : p.block < B) (u : Value) : OwG cs e n (w.setCell p u) B v xs := by
  refine ⟨h.1, ?_⟩
  rcases h.2 with h1 | ⟨g, cap, cur, rfl, h1, h2, h3⟩
  · exact .inl h1
  · exact .inr ⟨g, cap, cur, rfl, h1, (Below.heap_setCell _ _ _ _ (by omega)).trans h2, h3⟩
theorem OwG.down {α : Type} {cs : α → List Value} {e : TypeId} {n : Nat} {w : World} {B C : Nat} {v : Value} {xs : List α} (h : OwG cs e n w B v xs) (hc : C ≤ B) : OwG cs e n w C v xs := by
  refine ⟨h.1, ?_⟩
  rcases h.2 with h1 | ⟨g, cap, cur, e, h1, h2⟩
  · exact .inl h1
  · exact .inr ⟨g, cap, cur, e, Nat.le_trans hc h1, h2⟩
/-- One thing more, behind a row of one's own. -/
theorem app_one_wp {α : Type} {cs : α → List Value} {wr : World} {o : Oper} {a : Act} {K : Act → World → Prop} {Q : Exit → Act → World → Prop} (s x : Operand) (t e : TypeId)
    (ho : o.op = .call { callee := .builtin .append, args := #[s, x], argTypes := #[t, t] })
    {z : Value} {n bytes : Nat} (hu : Tryz.prog.underlying t = some (.slice e)) (hinfo : (Tryz.prog.info? e).map (fun i => (i.zero, i.size, i.bytes)) = some (some z, n, bytes)) (hzs : z.cells.size = n) (hn0 : 0 < n) (hn : ∀ y, (cs y).length = n)
    (B : Nat) (v : Value) (xs : List α) (c : α) (hown : OwG cs e n wr B v xs) (hs : a.eval s = v) (g : Nat) (hg : g = wr.heap.size) (hx : a.eval x = .slice (some ⟨g, 0, none⟩) 1 1) (h1 : ∀ u ∈ cs c, u.oneCell' = true)
    (ar : Array Value) (har : ar = (cs c).toArray)
    (hm : xs.length < maxLen) (hbytes : (xs.length + 1) * bytes ≤ 140737488355328) (hB : B ≤ wr.heap.size)
    (h : ∀ v' w', OwG cs e n w' B v' (xs ++ [c]) → Below B wr w' → KpT e wr w' → K (a.put o.dst v') w') :
    o.wp Tryz.prog a (wr.alloc (.cells ar e)) K Q := by
  subst hg har
  obtain ⟨i0, hi, hz0, hz1, hz2⟩ := info_parts hinfo
  refine wp_append_own _ s x t ho B e i0 z n bytes hu hi hz0 hz1 hz2 hzs hn0 v xs.length _ hs (World.ownsRow.alloc hown _)
    ⟨wr.heap.size, 0, none⟩ 1 1 (cs c) hx (by rw [hn]; omega) ?_ h1 (by omega) hbytes (by rw [szAl]; omega) ?_
  · intro j u hj
    rw [addr_add, Nat.zero_add]
    unfold World.cell?
    rw [heap_alloc_last _ _ _ rfl]
    simpa using hj
  · intro v' w' hown' hgrow _
    refine h v' w' ?_ ?_ ?_
    · have : (xs ++ [c]).length = xs.length + 1 := by simp
      unfold OwG; rw [this, List.flatMap_append, show [c].flatMap cs = cs c from by simp]; exact hown'
    · exact ((Below.refl _ _).alloc hB _).grown hgrow (by rw [szAl]; omega) (fun k hk => (World.ownsRow.lt hown k hk).1)
    · exact KpT.app hown (fun k hk hne => (hgrow.block k (by rw [szAl]; omega) hne).trans (Below.heap_alloc _ _ k hk))
/-- A list in sight, behind a row of one's own. -/
theorem app_more {α : Type} {cs : α → List Value} {w : World} {ops : Array Oper} {rest : List Oper} {o : Oper} {a : Act} {Q : Exit → Act → World → Prop} (hgd : o.guard = none) (s x : Operand) (t e : TypeId)
    (ho : o.op = .call { callee := .builtin .append, args := #[s, x], argTypes := #[t, t] })
    {z : Value} {n bytes : Nat} (hu : Tryz.prog.underlying t = some (.slice e)) (hinfo : (Tryz.prog.info? e).map (fun i => (i.zero, i.size, i.bytes)) = some (some z, n, bytes)) (hzs : z.cells.size = n) (hn0 : 0 < n) (hn : ∀ y, (cs y).length = n)
    (B : Nat) (v : Value) (xs : List α) (hown : OwG cs e n w B v xs) (hs : a.eval s = v) (C : Nat) (v2 : Value) (ys : List α) (hx : a.eval x = v2) (hin : InG cs w C v2 ys) (h1 : ∀ y ∈ ys, ∀ u ∈ cs y, u.oneCell' = true)
    (hm : xs.length + ys.length ≤ maxLen) (hbytes : (xs.length + ys.length) * bytes ≤ 140737488355328) (hB : B ≤ w.heap.size)
    (h : ∀ v' w', OwG cs e n w' B v' (xs ++ ys) → Below B w w' → KpT e w w' → wpList Tryz.prog ops Q rest (a.put o.dst v') w') :
    wpList Tryz.prog ops Q (o :: rest) a w := by
  obtain ⟨i0, hi, hz0, hz1, hz2⟩ := info_parts hinfo
  obtain ⟨ao, cap, rfl, hlc, hno, hc⟩ := hin
  match ao, hno, hc with
  | none, hno, hc =>
    have hc0 := hno rfl
    have hv : ys.length = 0 := by omega
    have hv' : ys = [] := List.eq_nil_of_length_eq_zero hv
    subst hv' hc0
    exact wpList_append_own_none hgd s x t ho B e i0 n hu hi _ xs.length _ hs hown hx (h _ w (by rw [List.append_nil]; exact hown) (Below.refl _ _) (fun _ _ _ _ _ _ => rfl))
  | some ad, hno, hc =>
    refine wpList_append_own _ hgd s x t ho B e i0 z n bytes hu hi hz0 hz1 hz2 hzs hn0 v xs.length _ hs hown
      ad ys.length cap (ys.flatMap cs) hx (flat_len cs n hn ys) ?_ ?_ (by omega) hbytes hB ?_
    · intro j u hj
      obtain ⟨b, off, e1, _, e3⟩ := hc j u hj
      injection e1 with e1
      subst e1
      rw [addr_add]
      exact e3
    · intro u hu
      obtain ⟨y, hm', hy⟩ := List.mem_flatMap.1 hu
      exact h1 y hm' u hy
    · intro v' w' hown' hgrow _
      refine h v' w' ?_ ((Below.refl _ _).grown hgrow hB (fun k hk => (World.ownsRow.lt hown k hk).1)) (KpT.app hown (fun k hk hne => hgrow.block k hk hne))
      have : (xs ++ ys).length = xs.length + ys.length := by simp
      unfold OwG; rw [this, List.flatMap_append]; exact hown'
/-- One thing more, behind a row of one's own. -/
theorem app_one {α : Type} {cs : α → List Value} {wr : World} {ops : Array Oper} {rest : List Oper} {o : Oper} {a : Act} {Q : Exit → Act → World → Prop} (hgd : o.guard = none) (s x : Operand) (t e : TypeId)
    (ho : o.op = .call { callee := .builtin .append, args := #[s, x], argTypes := #[t, t] })
    {z : Value} {n bytes : Nat} (hu : Tryz.prog.underlying t = some (.slice e)) (hinfo : (Tryz.prog.info? e).map (fun i => (i.zero, i.size, i.bytes)) = some (some z, n, bytes)) (hzs : z.cells.size = n) (hn0 : 0 < n) (hn : ∀ y, (cs y).length = n)
    (B : Nat) (v : Value) (xs : List α) (c : α) (hown : OwG cs e n wr B v xs) (hs : a.eval s = v) (g : Nat) (hg : g = wr.heap.size) (hx : a.eval x = .slice (some ⟨g, 0, none⟩) 1 1) (h1 : ∀ u ∈ cs c, u.oneCell' = true)
    (ar : Array Value) (har : ar = (cs c).toArray)
    (hm : xs.length < maxLen) (hbytes : (xs.length + 1) * bytes ≤ 140737488355328) (hB : B ≤ wr.heap.size)
    (h : ∀ v' w', OwG cs e n w' B v' (xs ++ [c]) → Below B wr w' → KpT e wr w' → wpList Tryz.prog ops Q rest (a.put o.dst v') w') :
    wpList Tryz.prog ops Q (o :: rest) a (wr.alloc (.cells ar e)) := by
  subst hg har
  obtain ⟨i0, hi, hz0, hz1, hz2⟩ := info_parts hinfo
  refine wpList_append_own _ hgd s x t ho B e i0 z n bytes hu hi hz0 hz1 hz2 hzs hn0 v xs.length _ hs (World.ownsRow.alloc hown _)
    ⟨wr.heap.size, 0, none⟩ 1 1 (cs c) hx (by rw [hn]; omega) ?_ h1 (by omega) hbytes (by rw [szAl]; omega) ?_
  · intro j u hj
    rw [addr_add, Nat.zero_add]
    unfold World.cell?
    rw [heap_alloc_last _ _ _ rfl]
    simpa using hj
  · intro v' w' hown' hgrow _
    refine h v' w' ?_ ?_ ?_
    · have : (xs ++ [c]).length = xs.length + 1 := by simp
      unfold OwG; rw [this, List.flatMap_append, show [c].flatMap cs = cs c from by simp]; exact hown'
    · exact ((Below.refl _ _).alloc hB _).grown hgrow (by rw [szAl]; omega) (fun k hk => (World.ownsRow.lt hown k hk).1)
    · exact KpT.app hown (fun k hk hne => (hgrow.block k (by rw [szAl]; omega) hne).trans (Below.heap_alloc _ _ k hk))
/-- An empty row just made. -/
theorem OwG.made {α : Type} (cs : α → List Value) (e : TypeId) (n : Nat) (w : World) (B : Nat) (hB : B ≤ w.heap.size) : OwG cs e n (w.alloc (.cells #[] e)) B (.slice (some ⟨w.heap.size, 0, none⟩) 0 0) [] := by
  have := World.ownsRow_lit (base := B) (e := e) (size := n) w #[] 0 hB (by unfold maxLen; omega) (by simp)
  exact this
theorem owG_some {α : Type} {cs : α → List Value} {e : TypeId} {n : Nat} {w : World} {B : Nat} {v : Value} {xs : List α} (h : OwG cs e n w B v xs) (hx : xs ≠ []) : ∃ g cap, v = .slice (Option.some ⟨g, 0, none⟩) xs.length cap ∧ B ≤ g ∧ g < w.heap.size := by
  rcases h.2 with ⟨rfl, hn⟩ | ⟨g, cap, cur, rfl, h1, h2, h3⟩
  · exact absurd (List.eq_nil_of_length_eq_zero hn) hx
  · exact ⟨g, cap, rfl, h1, (Array.getElem?_eq_some_iff.1 h2).1⟩
theorem owG_cap {α : Type} {cs : α → List Value} {e : TypeId} {c : Nat} {W : World} {B g m cp : Nat} {xs : List α} (h : OwG cs e c W B (.slice (some ⟨g, 0, none⟩) m cp) xs) : m = xs.length ∧ xs.length ≤ cp ∧ cp ≤ 9223372036854775807 ∧ B ≤ g ∧ ∃ cur, W.heap[g]? = some (.cells cur e (0, 0)) := by
  rcases h.2 with ⟨h1, hn⟩ | ⟨g', cap, cur, h1, h2, h3, h4, h5, h6⟩
  · cases h1
  · injection h1 with e1 e2 e3
    injection e1 with e1
    injection e1 with e1
    subst e1 e2 e3
    exact ⟨rfl, h4, by unfold maxLen at h5; omega, h2, cur, h3⟩
theorem blk {α : Type} {cs : α → List Value} {e : TypeId} {n : Nat} {w : World} {B : Nat} {v : Value} {xs : List α} (h : OwG cs e n w B v xs) {g : Nat} (hg : v.ownBlock = some g) : ∃ cur, w.heap[g]? = some (.cells cur e (0, 0)) := by
  rcases h.2 with ⟨rfl, _⟩ | ⟨g', cap, cur, rfl, h1, h2, h3⟩
  · cases hg
  · have : g' = g := Option.some.inj hg
    subst this
    exact ⟨cur, h2⟩
theorem owK {α : Type} {cs : α → List Value} {e : TypeId} {n : Nat} {w w' : World} {B : Nat} {v : Value} {xs : List α} {D : Nat → Prop} (h : OwG cs e n w B v xs) (k : Keeps D w w') (hn : ∀ g, v.ownBlock = some g → ¬ D g) : OwG cs e n w' B v xs := by
  refine ⟨h.1, ?_⟩
  rcases h.2 with h1 | ⟨g, cap, cur, rfl, h1, h2, h3⟩
  · exact .inl h1
  · exact .inr ⟨g, cap, cur, rfl, h1, (k.block g (Array.getElem?_eq_some_iff.1 h2).1 (hn g rfl)).trans h2, h3⟩
end Go.Proofs.YteekompojgbkhaaGreat
