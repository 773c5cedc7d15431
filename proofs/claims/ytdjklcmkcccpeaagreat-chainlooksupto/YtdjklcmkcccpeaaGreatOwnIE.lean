import Derived.Test.YtdjklcmkcccpeaaGreatCells7E
namespace Go.Proofs.YtdjklcmkcccpeaaGreat
open Go.ChangeShapes Go.WideShapes Go.ChangeAt Go.RowKit
set_option linter.unusedVariables false

/-- The slice value v holds the numbers vs, in blocks below B. -/
def SeesI (w : World) (B : Nat) (v : Value) (vs : List Int) : Prop :=
  ∃ ao cap, v = .slice ao vs.length cap ∧ vs.length ≤ cap ∧ vs.length ≤ 140737488355328 ∧ (∀ i (hi : i < vs.length), ∃ b off, ao = some ⟨b, off, none⟩ ∧ b < B ∧ w.cell? ⟨b, off + i, none⟩ = some (.int .i64 vs[i]))
theorem SeesI.later {w w' : World} {B : Nat} {v : Value} {vs : List Int} (h : SeesI w B v vs) (hb : Below B w w') : SeesI w' B v vs := by
  obtain ⟨ao, cap, rfl, h1, h2, h3⟩ := h
  refine ⟨ao, cap, rfl, h1, h2, fun i hi => ?_⟩
  obtain ⟨b, off, e, hbB, c0⟩ := h3 i hi
  exact ⟨b, off, e, hbB, by rw [hb.cell hbB]; exact c0⟩
/-- The slice value v holds just the numbers xs, in a row of the call's own (blocks from B on). -/
def ownI (w : World) (B : Nat) (v : Value) (xs : List Int) : Prop := w.ownsRow B 3 1 v xs.length (xs.map (Value.int .i64))
theorem ownI_nil (w : World) (B : Nat) : ownI w B (.slice none 0 0) [] := World.ownsRow_nil _ _ _ _
theorem ownI.drew {w : World} {B : Nat} {v : Value} {xs : List Int} (h : ownI w B v xs) : ownI w.drew B v xs := World.ownsRow.drew h
theorem ownsRow_of_block {w w' : World} {B : Nat} {e : TypeId} {size : Nat} {v : Value} {n : Nat} {xs : List Value} (h : w.ownsRow B e size v n xs) (hk : ∀ g, v.ownBlock = some g → w'.heap[g]? = w.heap[g]?) : w'.ownsRow B e size v n xs := by
  refine ⟨h.1, ?_⟩
  rcases h.2 with h1 | ⟨g, cap, cur, rfl, h1, h2, h3⟩
  · exact Or.inl h1
  · exact Or.inr ⟨g, cap, cur, rfl, h1, (hk g rfl).trans h2, h3⟩
theorem ownI.keeps {w w' : World} {B : Nat} {v : Value} {xs : List Int} {P : Nat → Prop} (h : ownI w B v xs) (hk : Keeps P w w') (hP : ∀ g, B ≤ g → ¬ P g) : ownI w' B v xs :=
  ownsRow_of_block h (fun g hg => by obtain ⟨h1, h2⟩ := World.ownsRow.lt h g hg; exact hk.block g h2 (hP g h1))
theorem app_int {wr : World} {ops : Array Oper} {rest : List Oper} {o : Oper} {a : Act} {Q : Exit → Act → World → Prop} (hgd : o.guard = none) (s x : Operand)
    (ho : o.op = .call { callee := .builtin .append, args := #[s, x], argTypes := #[31, 31] })
    (B : Nat) (v : Value) (xs : List Int) (c : Int) (hown : ownI wr B v xs) (hs : a.eval s = v) (hx : a.eval x = .slice (some ⟨wr.heap.size, 0, none⟩) 1 1)
    (hlen : (xs.length + 1) * 8 ≤ 140737488355328) (hB : B ≤ wr.heap.size)
    (h : ∀ v' w', ownI w' B v' (xs ++ [c]) → Below B wr w' → wpList Tryz.prog ops Q rest (a.put o.dst v') w') :
    wpList Tryz.prog ops Q (o :: rest) a (wr.alloc (.cells #[.int .i64 c] 3)) := by
  obtain ⟨i0, hi, hz0, hz1, hz2⟩ := info_parts infoI
  refine wpList_append_own _ hgd s x 31 ho B 3 i0 (.int .i64 0) 1 8 Tryz.underlying31 hi hz0 hz1 hz2 rfl (by decide) v xs.length _ hs (World.ownsRow.alloc hown _)
    ⟨wr.heap.size, 0, none⟩ 1 1 [.int .i64 c] hx rfl ?_ ?_ (by unfold maxLen; omega) (by omega) (by simp; omega) ?_
  · intro j u hj
    match j, hj with
    | 0, hj => simp at hj; subst hj; simp [Addr.add]
  · intro u hu; simp at hu; subst hu; rfl
  · intro v' w' hown' hgrow _
    refine h v' w' ?_ ?_
    · have : (xs ++ [c]).length = xs.length + 1 := by simp
      unfold ownI; rw [this, List.map_append]; exact hown'
    · exact ((Below.refl _ _).alloc hB _).grown hgrow (by simp; omega) (fun k hk => (World.ownsRow.lt hown k hk).1)
theorem app_intL {wr : World} {ops : Array Oper} {rest : List Oper} {o : Oper} {a : Act} {Q : Exit → Act → World → Prop} (hgd : o.guard = none) (s x : Operand)
    (ho : o.op = .call { callee := .builtin .append, args := #[s, x], argTypes := #[31, 31] })
    (B : Nat) (v : Value) (xs : List Int) (c : Int) (hown : ownI wr B v xs) (hs : a.eval s = v) (gn : Nat) (hgn : gn = wr.heap.size) (hx : a.eval x = .slice (some ⟨gn, 0, none⟩) 1 1)
    (hlen : (xs.length + 1) * 8 ≤ 140737488355328) (hB : B ≤ wr.heap.size)
    (h : ∀ v' w', ownI w' B v' (xs ++ [c]) → Below B wr w' → wpList Tryz.prog ops Q rest (a.put o.dst v') w') :
    wpList Tryz.prog ops Q (o :: rest) a (wr.alloc (.cells #[.int .i64 c] 3)) := app_int hgd s x ho B v xs c hown hs (hgn ▸ hx) hlen hB h
theorem ownI.form {w : World} {B : Nat} {v : Value} {xs : List Int} (h : ownI w B v xs) : ∃ sp cap, v = .slice sp xs.length cap ∧ ∀ i (hi : i < xs.length), ∃ g, sp = some ⟨g, 0, none⟩ ∧ w.cell? ⟨g, i, none⟩ = some (.int .i64 xs[i]) := by
  rcases h.2 with ⟨rfl, hn⟩ | ⟨g, cap, cur, rfl, h1, h2, h3⟩
  · exact ⟨none, 0, by rw [hn], fun i hi => by omega⟩
  · refine ⟨some ⟨g, 0, none⟩, cap, rfl, fun i hi => ⟨g, rfl, ?_⟩⟩
    have := World.ownsRow.cellAt (g := g) (cap := cap) h i (by omega)
    rw [this]
    simp [List.getElem?_eq_getElem hi]

theorem infoW : (Tryz.prog.info? 95).map (fun i => (i.zero, i.size, i.bytes)) = some (some (.int .u64 0), 1, 8) := by kernel_rfl
/-- The slice value v holds just the numbers xs, in a row of the call's own (blocks from B on). -/
def ownU (w : World) (B : Nat) (v : Value) (xs : List Int) : Prop := w.ownsRow B 95 1 v xs.length (xs.map (Value.int .u64))
theorem ownU_nil (w : World) (B : Nat) : ownU w B (.slice none 0 0) [] := World.ownsRow_nil _ _ _ _
theorem ownU.drew {w : World} {B : Nat} {v : Value} {xs : List Int} (h : ownU w B v xs) : ownU w.drew B v xs := World.ownsRow.drew h
theorem ownU.keeps {w w' : World} {B : Nat} {v : Value} {xs : List Int} {P : Nat → Prop} (h : ownU w B v xs) (hk : Keeps P w w') (hP : ∀ g, B ≤ g → ¬ P g) : ownU w' B v xs :=
  ownsRow_of_block h (fun g hg => by obtain ⟨h1, h2⟩ := World.ownsRow.lt h g hg; exact hk.block g h2 (hP g h1))
theorem app_word {wr : World} {ops : Array Oper} {rest : List Oper} {o : Oper} {a : Act} {Q : Exit → Act → World → Prop} (hgd : o.guard = none) (s x : Operand)
    (ho : o.op = .call { callee := .builtin .append, args := #[s, x], argTypes := #[151, 151] })
    (B : Nat) (v : Value) (xs : List Int) (c : Int) (hown : ownU wr B v xs) (hs : a.eval s = v) (hx : a.eval x = .slice (some ⟨wr.heap.size, 0, none⟩) 1 1)
    (hlen : (xs.length + 1) * 8 ≤ 140737488355328) (hB : B ≤ wr.heap.size)
    (h : ∀ v' w', ownU w' B v' (xs ++ [c]) → Below B wr w' → wpList Tryz.prog ops Q rest (a.put o.dst v') w') :
    wpList Tryz.prog ops Q (o :: rest) a (wr.alloc (.cells #[.int .u64 c] 95)) := by
  obtain ⟨i0, hi, hz0, hz1, hz2⟩ := info_parts infoW
  refine wpList_append_own _ hgd s x 151 ho B 95 i0 (.int .u64 0) 1 8 Tryz.underlying151 hi hz0 hz1 hz2 rfl (by decide) v xs.length _ hs (World.ownsRow.alloc hown _)
    ⟨wr.heap.size, 0, none⟩ 1 1 [.int .u64 c] hx rfl ?_ ?_ (by unfold maxLen; omega) (by omega) (by simp; omega) ?_
  · intro j u hj
    match j, hj with
    | 0, hj => simp at hj; subst hj; simp [Addr.add]
  · intro u hu; simp at hu; subst hu; rfl
  · intro v' w' hown' hgrow _
    refine h v' w' ?_ ?_
    · have : (xs ++ [c]).length = xs.length + 1 := by simp
      unfold ownU; rw [this, List.map_append]; exact hown'
    · exact ((Below.refl _ _).alloc hB _).grown hgrow (by simp; omega) (fun k hk => (World.ownsRow.lt hown k hk).1)
theorem app_wordL {wr : World} {ops : Array Oper} {rest : List Oper} {o : Oper} {a : Act} {Q : Exit → Act → World → Prop} (hgd : o.guard = none) (s x : Operand)
    (ho : o.op = .call { callee := .builtin .append, args := #[s, x], argTypes := #[151, 151] })
    (B : Nat) (v : Value) (xs : List Int) (c : Int) (hown : ownU wr B v xs) (hs : a.eval s = v) (gn : Nat) (hgn : gn = wr.heap.size) (hx : a.eval x = .slice (some ⟨gn, 0, none⟩) 1 1)
    (hlen : (xs.length + 1) * 8 ≤ 140737488355328) (hB : B ≤ wr.heap.size)
    (h : ∀ v' w', ownU w' B v' (xs ++ [c]) → Below B wr w' → wpList Tryz.prog ops Q rest (a.put o.dst v') w') :
    wpList Tryz.prog ops Q (o :: rest) a (wr.alloc (.cells #[.int .u64 c] 95)) := app_word hgd s x ho B v xs c hown hs (hgn ▸ hx) hlen hB h
theorem ownU.form {w : World} {B : Nat} {v : Value} {xs : List Int} (h : ownU w B v xs) : ∃ sp cap, v = .slice sp xs.length cap ∧ ∀ i (hi : i < xs.length), ∃ g, sp = some ⟨g, 0, none⟩ ∧ w.cell? ⟨g, i, none⟩ = some (.int .u64 xs[i]) := by
  rcases h.2 with ⟨rfl, hn⟩ | ⟨g, cap, cur, rfl, h1, h2, h3⟩
  · exact ⟨none, 0, by rw [hn], fun i hi => by omega⟩
  · refine ⟨some ⟨g, 0, none⟩, cap, rfl, fun i hi => ⟨g, rfl, ?_⟩⟩
    have := World.ownsRow.cellAt (g := g) (cap := cap) h i (by omega)
    rw [this]
    simp [List.getElem?_eq_getElem hi]


end Go.Proofs.YtdjklcmkcccpeaaGreat
