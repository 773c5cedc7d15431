import Derived.Test.YtjcffcpmegpjeaaGreatDoorPtD3
import Derived.Lib.Strings
namespace Go.Proofs.YtjcffcpmegpjeaaGreatDoor
open Go.ChangeShapes Go.WideShapes Go.ChangeAt Go.RowKit
set_option linter.unusedVariables false
set_option maxRecDepth 100000
theorem infoC0 : (Tryz.prog.info? 61).map (fun i => (i.zero, i.size, i.bytes)) = some (some (.agg #[.string ⟨#[]⟩, .int .i64 0, .bool false]), 3, 32) := by kernel_rfl
theorem infoN0 : (Tryz.prog.info? 3).map (fun i => (i.zero, i.size, i.bytes)) = some (some (.int .i64 0), 1, 8) := by kernel_rfl
def cellC (a : CD) : List Value := [.string a.1, .int .i64 a.2.1, .bool a.2.2]
def cellsC (vs : List CD) : List Value := vs.flatMap cellC
theorem cellsC_cons (v : CD) (vs : List CD) : cellsC (v :: vs) = .string v.1 :: .int .i64 v.2.1 :: .bool v.2.2 :: cellsC vs := rfl
theorem cellsC_app (xs ys : List CD) : cellsC (xs ++ ys) = cellsC xs ++ cellsC ys := by simp [cellsC]
theorem cellsC_get : ∀ (vs : List CD) (i : Nat) (hi : i < vs.length), (cellsC vs)[i * 3]? = some (.string vs[i].1) ∧ (cellsC vs)[i * 3 + 1]? = some (.int .i64 vs[i].2.1) ∧ (cellsC vs)[i * 3 + 2]? = some (.bool vs[i].2.2)
  | v :: vs, 0, _ => by simp [cellsC_cons]
  | v :: vs, i + 1, hi => by
    have := cellsC_get vs i (by simp at hi; omega)
    obtain ⟨h0, h1, h2⟩ := this
    rw [cellsC_cons, show (i + 1) * 3 = i * 3 + 1 + 1 + 1 from by omega]
    refine ⟨?_, ?_, ?_⟩ <;> simpa
/-- The slice value v holds just the columns vs, in a row of the call's own. -/
def ownC (w : World) (B : Nat) (v : Value) (vs : List CD) : Prop := w.ownsRow B 61 3 v vs.length (cellsC vs)
theorem ownC_nil (w : World) (B : Nat) : ownC w B (.slice none 0 0) [] := World.ownsRow_nil _ _ _ _
theorem ownC.shape {w : World} {B : Nat} {v : Value} {vs : List CD} (h : ownC w B v vs) : (v = .slice none 0 0 ∧ vs = []) ∨ ∃ g cap, v = .slice (some ⟨g, 0, none⟩) vs.length cap ∧ B ≤ g ∧ g < w.heap.size := by
  rcases h.2 with ⟨h', h''⟩ | ⟨g', cap', cur, h', hb, hg, hnc, hm, hs, ht⟩
  · exact .inl ⟨h', List.length_eq_zero_iff.1 h''⟩
  · exact .inr ⟨g', cap', h', hb, (Array.getElem?_eq_some_iff.1 hg).1⟩
theorem ownC.isSlice {w : World} {B : Nat} {v : Value} {vs : List CD} (h : ownC w B v vs) : ∃ a c, v = .slice a vs.length c := by
  rcases h.shape with ⟨rfl, rfl⟩ | ⟨g, cap, rfl, _⟩
  · exact ⟨_, _, rfl⟩
  · exact ⟨_, _, rfl⟩
theorem ownC.sees {w : World} {B : Nat} {v : Value} {vs : List CD} (h : ownC w B v vs) : SeesC w w.heap.size v vs := by
  have hh := h
  rcases h.2 with ⟨rfl, hn⟩ | ⟨g', cap', cur, rfl, hb, hg, hnc, hm, hs, ht⟩
  · exact ⟨none, 0, by rw [hn], by omega, fun i hi => by omega⟩
  · refine ⟨some ⟨g', 0, none⟩, cap', rfl, hnc, fun i hi => ⟨g', 0, rfl, (Array.getElem?_eq_some_iff.1 hg).1, ?_⟩⟩
    unfold ownC at hh
    obtain ⟨c0, c1, c2⟩ := cellsC_get vs i hi
    refine ⟨?_, ?_, ?_⟩
    · rw [show 0 + i * 3 = i * 3 from by omega, World.ownsRow.cellAt hh _ (by omega)]; exact c0
    · rw [show 0 + i * 3 + 1 = i * 3 + 1 from by omega, World.ownsRow.cellAt hh _ (by omega)]; exact c1
    · rw [show 0 + i * 3 + 2 = i * 3 + 2 from by omega, World.ownsRow.cellAt hh _ (by omega)]; exact c2
theorem ownC.own {w : World} {B : Nat} {v : Value} {vs : List CD} (h : ownC w B v vs) : ∀ k, v.ownBlock = some k → B ≤ k ∧ k < w.heap.size := fun k hk => World.ownsRow.lt h k hk
theorem ownC.keep {w w' : World} {B : Nat} {v : Value} {xs : List CD} (h : ownC w B v xs) (hk : ∀ k, v.ownBlock = some k → w'.heap[k]? = w.heap[k]?) : ownC w' B v xs := by
  rcases h with ⟨h1, h2 | ⟨g, cap, cur, rfl, hb, hg, hr⟩⟩
  · exact ⟨h1, .inl h2⟩
  · exact ⟨h1, .inr ⟨g, cap, cur, rfl, hb, by rw [hk g rfl]; exact hg, hr⟩⟩
theorem ownC.down {w : World} {B C : Nat} {v : Value} {xs : List CD} (h : ownC w B v xs) (hc : C ≤ B) : ownC w C v xs := by
  refine ⟨h.1, ?_⟩
  rcases h.2 with h1 | ⟨g, cap, cur, e, h1, h2⟩
  · exact .inl h1
  · exact .inr ⟨g, cap, cur, e, Nat.le_trans hc h1, h2⟩
theorem ownC.later {w w' : World} {B : Nat} {v : Value} {xs : List CD} (h : ownC w B v xs) (hb : Below w.heap.size w w') : ownC w' B v xs := h.keep fun k hk => hb.block k (h.own k hk).2
theorem ownC.fr {w w' : World} {B R : Nat} {v : Value} {xs : List CD} (h : ownC w B v xs) (hf : Fr R w w') (hR : R < B) : ownC w' B v xs := h.keep fun k hk => hf.rest k (h.own k hk).2 (by have := (h.own k hk).1; omega)
theorem app_col {wr : World} {ops : Array Oper} {rest : List Oper} {o : Oper} {a : Act} {Q : Exit → Act → World → Prop} (hgd : o.guard = none) (s x : Operand)
    (ho : o.op = .call { callee := .builtin .append, args := #[s, x], argTypes := #[22, 22] })
    (B : Nat) (v : Value) (vs : List CD) (c : CD) (hown : ownC wr B v vs) (hs : a.eval s = v) (g : Nat) (hg : g = wr.heap.size) (hx : a.eval x = .slice (some ⟨g, 0, none⟩) 1 1)
    (hlen : (vs.length + 1) * 32 ≤ 140737488355328) (hB : B ≤ wr.heap.size)
    (h : ∀ v' w', ownC w' B v' (vs ++ [c]) → Below B wr w' → (∀ k, k < wr.heap.size → some k ≠ v.ownBlock → w'.heap[k]? = wr.heap[k]?) → wpList Tryz.prog ops Q rest (a.put o.dst v') w') :
    wpList Tryz.prog ops Q (o :: rest) a (wr.alloc (.cells #[.string c.1, .int .i64 c.2.1, .bool c.2.2] 61)) := by
  subst hg
  obtain ⟨i0, hi, hz0, hz1, hz2⟩ := info_parts infoC0
  refine wpList_append_own _ hgd s x 22 ho B 61 i0 _ 3 32 Tryz.underlying22 hi hz0 hz1 hz2 rfl (by decide) v vs.length _ hs (World.ownsRow.alloc hown _)
    ⟨wr.heap.size, 0, none⟩ 1 1 (cellC c) hx rfl ?_ ?_ (by unfold maxLen; omega) (by omega) (by simp; omega) ?_
  · intro j u hj
    match j, hj with
    | 0, hj => simp [cellC] at hj; subst hj; simp [Addr.add]
    | 1, hj => simp [cellC] at hj; subst hj; simp [Addr.add]
    | 2, hj => simp [cellC] at hj; subst hj; simp [Addr.add]
  · intro u hu
    simp [cellC] at hu
    rcases hu with rfl | rfl | rfl <;> rfl
  · intro v' w' hown' hgrow _
    refine h v' w' ?_ ?_ (fun k hk hne => (hgrow.block k (by simp; omega) hne).trans (Below.heap_alloc _ _ k hk))
    · have : (vs ++ [c]).length = vs.length + 1 := by simp
      unfold ownC; rw [this, cellsC_app, show cellsC [c] = cellC c from by simp [cellsC]]; exact hown'
    · exact ((Below.refl _ _).alloc hB _).grown hgrow (by simp; omega) (fun k hk => (World.ownsRow.lt hown k hk).1)
/-- The slice value v holds just the numbers xs, in a row of the call's own. -/
def ownN (w : World) (B : Nat) (v : Value) (xs : List Int) : Prop := w.ownsRow B 3 1 v xs.length (xs.map (Value.int .i64))
theorem ownN_nil (w : World) (B : Nat) : ownN w B (.slice none 0 0) [] := World.ownsRow_nil _ _ _ _
theorem ownN.shape {w : World} {B : Nat} {v : Value} {vs : List Int} (h : ownN w B v vs) : (v = .slice none 0 0 ∧ vs = []) ∨ ∃ g cap, v = .slice (some ⟨g, 0, none⟩) vs.length cap ∧ B ≤ g ∧ g < w.heap.size := by
  rcases h.2 with ⟨h', h''⟩ | ⟨g', cap', cur, h', hb, hg, hnc, hm, hs, ht⟩
  · exact .inl ⟨h', List.length_eq_zero_iff.1 h''⟩
  · exact .inr ⟨g', cap', h', hb, (Array.getElem?_eq_some_iff.1 hg).1⟩
theorem ownN.isSlice {w : World} {B : Nat} {v : Value} {vs : List Int} (h : ownN w B v vs) : ∃ a c, v = .slice a vs.length c := by
  rcases h.shape with ⟨rfl, rfl⟩ | ⟨g, cap, rfl, _⟩
  · exact ⟨_, _, rfl⟩
  · exact ⟨_, _, rfl⟩
theorem ownN.sees {w : World} {B : Nat} {v : Value} {xs : List Int} (h : ownN w B v xs) : SeesG (Value.int .i64) w w.heap.size v xs := own_sees h
theorem ownN.own {w : World} {B : Nat} {v : Value} {vs : List Int} (h : ownN w B v vs) : ∀ k, v.ownBlock = some k → B ≤ k ∧ k < w.heap.size := fun k hk => World.ownsRow.lt h k hk
theorem ownN.keep {w w' : World} {B : Nat} {v : Value} {xs : List Int} (h : ownN w B v xs) (hk : ∀ k, v.ownBlock = some k → w'.heap[k]? = w.heap[k]?) : ownN w' B v xs := by
  rcases h with ⟨h1, h2 | ⟨g, cap, cur, rfl, hb, hg, hr⟩⟩
  · exact ⟨h1, .inl h2⟩
  · exact ⟨h1, .inr ⟨g, cap, cur, rfl, hb, by rw [hk g rfl]; exact hg, hr⟩⟩
theorem ownN.down {w : World} {B C : Nat} {v : Value} {xs : List Int} (h : ownN w B v xs) (hc : C ≤ B) : ownN w C v xs := by
  refine ⟨h.1, ?_⟩
  rcases h.2 with h1 | ⟨g, cap, cur, e, h1, h2⟩
  · exact .inl h1
  · exact .inr ⟨g, cap, cur, e, Nat.le_trans hc h1, h2⟩
theorem ownN.later {w w' : World} {B : Nat} {v : Value} {xs : List Int} (h : ownN w B v xs) (hb : Below w.heap.size w w') : ownN w' B v xs := h.keep fun k hk => hb.block k (h.own k hk).2
theorem ownN.fr {w w' : World} {B R : Nat} {v : Value} {xs : List Int} (h : ownN w B v xs) (hf : Fr R w w') (hR : R < B) : ownN w' B v xs := h.keep fun k hk => hf.rest k (h.own k hk).2 (by have := (h.own k hk).1; omega)
theorem app_int {wr : World} {ops : Array Oper} {rest : List Oper} {o : Oper} {a : Act} {Q : Exit → Act → World → Prop} (hgd : o.guard = none) (s x : Operand)
    (ho : o.op = .call { callee := .builtin .append, args := #[s, x], argTypes := #[23, 23] })
    (B : Nat) (v : Value) (xs : List Int) (c : Int) (hown : ownN wr B v xs) (hs : a.eval s = v) (g : Nat) (hg : g = wr.heap.size) (hx : a.eval x = .slice (some ⟨g, 0, none⟩) 1 1)
    (hlen : (xs.length + 1) * 8 ≤ 140737488355328) (hB : B ≤ wr.heap.size)
    (h : ∀ v' w', ownN w' B v' (xs ++ [c]) → Below B wr w' → (∀ k, k < wr.heap.size → some k ≠ v.ownBlock → w'.heap[k]? = wr.heap[k]?) → wpList Tryz.prog ops Q rest (a.put o.dst v') w') :
    wpList Tryz.prog ops Q (o :: rest) a (wr.alloc (.cells #[.int .i64 c] 3)) := by
  subst hg
  obtain ⟨i0, hi, hz0, hz1, hz2⟩ := info_parts infoN0
  refine wpList_append_own _ hgd s x 23 ho B 3 i0 (.int .i64 0) 1 8 Tryz.underlying23 hi hz0 hz1 hz2 rfl (by decide) v xs.length _ hs (World.ownsRow.alloc hown _)
    ⟨wr.heap.size, 0, none⟩ 1 1 [.int .i64 c] hx rfl ?_ ?_ (by unfold maxLen; omega) (by omega) (by simp; omega) ?_
  · intro j u hj
    match j, hj with
    | 0, hj => simp at hj; subst hj; simp [Addr.add]
  · intro u hu; simp at hu; subst hu; rfl
  · intro v' w' hown' hgrow _
    refine h v' w' ?_ ?_ (fun k hk hne => (hgrow.block k (by simp; omega) hne).trans (Below.heap_alloc _ _ k hk))
    · have : (xs ++ [c]).length = xs.length + 1 := by simp
      unfold ownN; rw [this, List.map_append]; exact hown'
    · exact ((Below.refl _ _).alloc hB _).grown hgrow (by simp; omega) (fun k hk => (World.ownsRow.lt hown k hk).1)
theorem app_col_wp {wr : World} {o : Oper} {a : Act} {K : Act → World → Prop} {Q : Exit → Act → World → Prop} (s x : Operand)
    (ho : o.op = .call { callee := .builtin .append, args := #[s, x], argTypes := #[22, 22] })
    (B : Nat) (v : Value) (vs : List CD) (c : CD) (hown : ownC wr B v vs) (hs : a.eval s = v) (g : Nat) (hg : g = wr.heap.size) (hx : a.eval x = .slice (some ⟨g, 0, none⟩) 1 1)
    (hlen : (vs.length + 1) * 32 ≤ 140737488355328) (hB : B ≤ wr.heap.size)
    (h : ∀ v' w', ownC w' B v' (vs ++ [c]) → Below B wr w' → (∀ k, k < wr.heap.size → some k ≠ v.ownBlock → w'.heap[k]? = wr.heap[k]?) → K (a.put o.dst v') w') :
    o.wp Tryz.prog a (wr.alloc (.cells #[.string c.1, .int .i64 c.2.1, .bool c.2.2] 61)) K Q := by
  subst hg
  obtain ⟨i0, hi, hz0, hz1, hz2⟩ := info_parts infoC0
  refine wp_append_own _ s x 22 ho B 61 i0 _ 3 32 Tryz.underlying22 hi hz0 hz1 hz2 rfl (by decide) v vs.length _ hs (World.ownsRow.alloc hown _)
    ⟨wr.heap.size, 0, none⟩ 1 1 (cellC c) hx rfl ?_ ?_ (by unfold maxLen; omega) (by omega) (by simp; omega) ?_
  · intro j u hj
    match j, hj with
    | 0, hj => simp [cellC] at hj; subst hj; simp [Addr.add]
    | 1, hj => simp [cellC] at hj; subst hj; simp [Addr.add]
    | 2, hj => simp [cellC] at hj; subst hj; simp [Addr.add]
  · intro u hu
    simp [cellC] at hu
    rcases hu with rfl | rfl | rfl <;> rfl
  · intro v' w' hown' hgrow _
    refine h v' w' ?_ ?_ (fun k hk hne => (hgrow.block k (by simp; omega) hne).trans (Below.heap_alloc _ _ k hk))
    · have : (vs ++ [c]).length = vs.length + 1 := by simp
      unfold ownC; rw [this, cellsC_app, show cellsC [c] = cellC c from by simp [cellsC]]; exact hown'
    · exact ((Below.refl _ _).alloc hB _).grown hgrow (by simp; omega) (fun k hk => (World.ownsRow.lt hown k hk).1)
theorem app_int_wp {wr : World} {o : Oper} {a : Act} {K : Act → World → Prop} {Q : Exit → Act → World → Prop} (s x : Operand)
    (ho : o.op = .call { callee := .builtin .append, args := #[s, x], argTypes := #[23, 23] })
    (B : Nat) (v : Value) (xs : List Int) (c : Int) (hown : ownN wr B v xs) (hs : a.eval s = v) (g : Nat) (hg : g = wr.heap.size) (hx : a.eval x = .slice (some ⟨g, 0, none⟩) 1 1)
    (hlen : (xs.length + 1) * 8 ≤ 140737488355328) (hB : B ≤ wr.heap.size)
    (h : ∀ v' w', ownN w' B v' (xs ++ [c]) → Below B wr w' → (∀ k, k < wr.heap.size → some k ≠ v.ownBlock → w'.heap[k]? = wr.heap[k]?) → K (a.put o.dst v') w') :
    o.wp Tryz.prog a (wr.alloc (.cells #[.int .i64 c] 3)) K Q := by
  subst hg
  obtain ⟨i0, hi, hz0, hz1, hz2⟩ := info_parts infoN0
  refine wp_append_own _ s x 23 ho B 3 i0 (.int .i64 0) 1 8 Tryz.underlying23 hi hz0 hz1 hz2 rfl (by decide) v xs.length _ hs (World.ownsRow.alloc hown _)
    ⟨wr.heap.size, 0, none⟩ 1 1 [.int .i64 c] hx rfl ?_ ?_ (by unfold maxLen; omega) (by omega) (by simp; omega) ?_
  · intro j u hj
    match j, hj with
    | 0, hj => simp at hj; subst hj; simp [Addr.add]
  · intro u hu; simp at hu; subst hu; rfl
  · intro v' w' hown' hgrow _
    refine h v' w' ?_ ?_ (fun k hk hne => (hgrow.block k (by simp; omega) hne).trans (Below.heap_alloc _ _ k hk))
    · have : (xs ++ [c]).length = xs.length + 1 := by simp
      unfold ownN; rw [this, List.map_append]; exact hown'
    · exact ((Below.refl _ _).alloc hB _).grown hgrow (by simp; omega) (fun k hk => (World.ownsRow.lt hown k hk).1)
end Go.Proofs.YtjcffcpmegpjeaaGreatDoor

namespace Go.Proofs.YtjcffcpmegpjeaaGreatDoor
open Go.ChangeShapes Go.WideShapes Go.ChangeAt Go.RowKit
set_option linter.unusedVariables false

/-- From p on s holds the bytes xs. -/
def HasAt (s : ByteArray) (p : Nat) (xs : List Int) : Prop := ∀ i (hi : i < xs.length), ∃ h : p + i < s.size, (s[p + i].toNat : Int) = xs[i]
theorem HasAt.tail {s : ByteArray} {p : Nat} {x : Int} {xs : List Int} (h : HasAt s p (x :: xs)) : HasAt s (p + 1) xs := by
  intro i hi
  obtain ⟨h1, h2⟩ := h (i + 1) (by simp; omega)
  refine ⟨by omega, ?_⟩
  simp only [List.getElem_cons_succ] at h2
  rw [← h2]; congr 3; omega
theorem HasAt.head {s : ByteArray} {p : Nat} {x : Int} {xs : List Int} (h : HasAt s p (x :: xs)) : ∃ h : p < s.size, (s[p].toNat : Int) = x := h 0 (by simp)
theorem ru_back_end (s : ByteArray) (p acc v : Nat) (h : HasAt s (p + 9) (uvF 0 v)) (hv : v * 128 ^ 9 < 18446744073709551616) (h0 : 0 < v) : ruF s p 1 9 acc = (acc + v * 128 ^ 9, 9 + (uvF 0 v).length, 0) := by
  obtain ⟨hl, hb⟩ := HasAt.head (x := (v : Int)) (xs := []) h
  have hv1 : v ≤ 1 := by omega
  have hb' : s[p + 9].toNat = v := by omega
  rw [ruF_done s p 0 9 acc hl (fun _ => by omega) (by omega) (.inl (by omega)), hb']
  simp only [uvF, List.length_singleton]
theorem ru_back_small (s : ByteArray) (p f n acc v : Nat) (h : HasAt s (p + n) (uvF f v)) (hn : n ≤ 8) (h0 : 0 < v ∨ n = 0) (hlt : v < 128) : ruF s p (f + 1) n acc = (acc + v * 128 ^ n, n + (uvF f v).length, 0) := by
  rw [uvF_small f v (by omega)] at h ⊢
  obtain ⟨hl, hb⟩ := h.head
  have hb' : s[p + n].toNat = v := by omega
  rw [ruF_done s p f n acc hl (by omega) (by omega) (by omega), hb']
  simp only [List.length_singleton]
theorem ru_back_worth (v n : Nat) : v % 128 * 128 ^ n + v / 128 * 128 ^ (n + 1) = v * 128 ^ n := by
  rw [Nat.pow_succ, Nat.mul_comm (128 ^ n) 128, ← Nat.mul_assoc, ← Nat.add_mul]
  congr 1; omega
theorem ru_back (s : ByteArray) (p : Nat) (f : Nat) : ∀ (n acc v : Nat), f + n = 9 → HasAt s (p + n) (uvF f v) → v * 128 ^ n < 18446744073709551616 → (0 < v ∨ n = 0) → ruF s p (f + 1) n acc = (acc + v * 128 ^ n, n + (uvF f v).length, 0) := by
  induction f with
  | zero =>
    intro n acc v hf h hv h0
    have hn : n = 9 := by omega
    subst hn
    exact ru_back_end s p acc v h hv (by omega)
  | succ f ih =>
    intro n acc v hf h hv h0
    by_cases hlt : v < 128
    · exact ru_back_small s p (f + 1) n acc v h (by omega) h0 hlt
    · rw [uvF_great f v (by omega)] at h ⊢
      obtain ⟨hl, hb⟩ := h.head
      have hb' : s[p + n].toNat = v % 128 + 128 := by omega
      have hq := ru_back_worth v n
      have e : ((v : Int) / 128) = ((v / 128 : Nat) : Int) := by omega
      rw [ruF_more s p (f + 1) n acc hl (by omega) (by omega), e]
      have ht := h.tail
      rw [e] at ht
      rw [ih (n + 1) _ (v / 128) (by omega) ht (by omega) (by omega), show s[p + n].toNat % 128 = v % 128 from by omega]
      simp only [List.length_cons, Prod.mk.injEq, and_true]
      constructor
      · omega
      · omega
theorem ru_back0 (s : ByteArray) (p v : Nat) (h : HasAt s p (uvB v)) (hv : v < 18446744073709551616) : ruV s p = (v, (uvB v).length, 0) := by
  have := ru_back s p 9 0 0 v rfl (by rw [Nat.add_zero]; exact h) (by simpa using hv) (by omega)
  unfold ruV uvB
  rw [this]; simp
theorem uvF_high : ∀ (f : Nat) (v : Int) (i : Nat) (hi : i + 1 < (uvF f v).length), 0 ≤ v → 128 ≤ (uvF f v)[i]'(by omega)
  | 0, v, i, hi, _ => by simp [uvF] at hi
  | f + 1, v, i, hi, hv => by
    by_cases hlt : v < 128
    · rw [uvF_small (f + 1) v hlt] at hi; simp at hi
    · have e := uvF_great f v (by omega)
      cases i with
      | zero => simp only [e, List.getElem_cons_zero]; omega
      | succ i =>
        simp only [e, List.length_cons] at hi
        have := uvF_high f (v / 128) i (by omega) (by omega)
        simp only [e, List.getElem_cons_succ]; exact this
theorem app_has (h a t : ByteArray) (xs : List Int) (ha : ∀ i (hi : i < xs.length), ∃ hh : i < a.size, (a[i].toNat : Int) = xs[i]) : HasAt (h ++ a ++ t) h.size xs := by
  intro i hi
  obtain ⟨h1, h2⟩ := ha i hi
  refine ⟨by simp; omega, ?_⟩
  rw [← h2]
  have : (h ++ a ++ t)[h.size + i]'(by simp; omega) = a[i] := by
    simp only [ByteArray.getElem_eq_getElem_data, ByteArray.data_append]
    rw [Array.getElem_append_left (by simp; exact h1), Array.getElem_append_right (by simp)]
    simp
  rw [this]
theorem nums_get (xs : List Int) (hx : ∀ x ∈ xs, 0 ≤ x ∧ x < 256) (i : Nat) (hi : i < xs.length) : ∃ hh : i < (strOfNums xs).size, ((strOfNums xs)[i].toNat : Int) = xs[i] := by
  refine ⟨by rw [strOfNums_size]; exact hi, ?_⟩
  have := hx xs[i] (List.getElem_mem hi)
  simp only [ByteArray.getElem_eq_getElem_data, strOfNums, List.getElem_toArray, List.getElem_map]
  rw [UInt8.toNat_ofNat']
  omega
theorem uvF_bytes : ∀ (f : Nat) (v : Int), 0 ≤ v → v < 128 ^ (f + 1) → ∀ x ∈ uvF f v, 0 ≤ x ∧ x < 256
  | 0, v, h0, h1, x, hx => by
    simp [uvF] at hx; subst hx; simp at h1; omega
  | f + 1, v, h0, h1, x, hx => by
    by_cases hlt : v < 128
    · rw [uvF_small (f + 1) v hlt] at hx; simp at hx; omega
    · rw [uvF_great f v (by omega)] at hx
      simp only [List.mem_cons] at hx
      rcases hx with rfl | hx
      · omega
      · refine uvF_bytes f (v / 128) (by omega) ?_ x hx
        rw [Int.pow_succ] at h1; omega
theorem uvB_bytes (v : Int) (h0 : 0 ≤ v) (h1 : v ≤ 18446744073709551615) : ∀ x ∈ uvB v, 0 ≤ x ∧ x < 256 := uvF_bytes 9 v h0 (by omega)
/-- What was laid down is read back. -/
theorem back_u (h t : ByteArray) (v : Nat) (hv : v < 18446744073709551616) : rU (h ++ strOfNums (uvB v) ++ t) h.size = ((v : Int), (h.size : Int) + ((uvB v).length : Nat), 0) := by
  have hh := app_has h (strOfNums (uvB v)) t (uvB v) (fun i hi => nums_get (uvB v) (uvB_bytes v (by omega) (by omega)) i hi)
  exact rU_ok (by simp; omega) (ru_back0 _ _ v hh hv)
end Go.Proofs.YtjcffcpmegpjeaaGreatDoor

namespace Go.Proofs.YtjcffcpmegpjeaaGreatDoor
open Go.ChangeShapes Go.WideShapes Go.ChangeAt Go.RowKit
set_option linter.unusedVariables false
set_option maxRecDepth 100000
/-- A table whose pair in the catalog is just k and d. -/
structure Yt (nm : ByteArray) (num : Int) (cs : List CD) (ks : List Int) (k d : ByteArray) : Prop where
  tab : isTb nm num cs ks = true
  top : num ≤ 9223372036854775807
  key : k = catK nm
  data : d = tabD num cs ks
  size : (tabD num cs ks).size ≤ 512
/-- The text a begins s. -/
def PreB (a s : ByteArray) : Prop := ∃ r, s = a ++ r
theorem PreB.refl (a : ByteArray) : PreB a a := ⟨ByteArray.empty, by simp⟩
theorem PreB.app {a s : ByteArray} (h : PreB a s) (r : ByteArray) : PreB a (s ++ r) := by
  obtain ⟨x, rfl⟩ := h
  exact ⟨x ++ r, by rw [ByteArray.append_assoc]⟩
theorem PreB.size {a s : ByteArray} (h : PreB a s) : a.size ≤ s.size := by
  obtain ⟨x, rfl⟩ := h
  rw [ByteArray.size_append]; omega
theorem pre_cols {num : Int} {cs : List CD} : ∀ (n m : Nat), n + m ≤ cs.length → PreB (colsD num cs n) (colsD num cs (n + m))
  | n, 0, _ => PreB.refl _
  | n, m + 1, h => by
    have := pre_cols (num := num) (cs := cs) n m (by omega)
    rw [show n + (m + 1) = (n + m) + 1 from by omega, colsD_next (cs := cs) (n := n + m) (by omega)]
    unfold colD
    exact this.app _
theorem pre_keys {num : Int} {cs : List CD} {ks : List Int} : ∀ (n m : Nat), n + m ≤ ks.length → PreB (keysD num cs ks n) (keysD num cs ks (n + m))
  | n, 0, _ => PreB.refl _
  | n, m + 1, h => by
    have := pre_keys (num := num) (cs := cs) (ks := ks) n m (by omega)
    rw [show n + (m + 1) = (n + m) + 1 from by omega, keysD_next (ks := ks) (n := n + m) (by omega)]
    unfold keyD
    exact this.app _
theorem PreB.trans {a b c : ByteArray} (h : PreB a b) (g : PreB b c) : PreB a c := by
  obtain ⟨x, rfl⟩ := h
  obtain ⟨y, rfl⟩ := g
  exact ⟨x ++ y, by rw [ByteArray.append_assoc]⟩
theorem pre_keysT {num : Int} {cs : List CD} {ks : List Int} {n : Nat} (h : n ≤ ks.length) : PreB (keysD num cs ks n) (tabD num cs ks) := by
  have := pre_keys (num := num) (cs := cs) (ks := ks) n (ks.length - n) (by omega)
  rw [show n + (ks.length - n) = ks.length from by omega] at this
  exact this
theorem keysD_zero (num : Int) (cs : List CD) (ks : List Int) : keysD num cs ks 0 = midD num cs ks := by unfold keysD; simp
theorem colsD_zero (num : Int) (cs : List CD) : colsD num cs 0 = begD num cs := by unfold colsD; simp
theorem pre_colsT {num : Int} {cs : List CD} {ks : List Int} {n : Nat} (h : n ≤ cs.length) : PreB (colsD num cs n) (tabD num cs ks) := by
  have h1 := pre_cols (num := num) (cs := cs) n (cs.length - n) (by omega)
  rw [show n + (cs.length - n) = cs.length from by omega] at h1
  have h2 : PreB (colsD num cs cs.length) (midD num cs ks) := by unfold midD; exact (PreB.refl _).app _
  have h3 := pre_keysT (num := num) (cs := cs) (ks := ks) (n := 0) (by omega)
  rw [keysD_zero] at h3
  exact (h1.trans h2).trans h3
theorem nat_of {v : Int} (h : 0 ≤ v) : ((v.toNat : Nat) : Int) = v := by omega
/-- A number that was laid down behind a is read. -/
theorem rU_pre {a s : ByteArray} {v : Int} (h0 : 0 ≤ v) (h1 : v ≤ 18446744073709551615) (h : PreB (a ++ strOfNums (uvB v)) s) : rU s a.size = (v, ((a ++ strOfNums (uvB v)).size : Int), 0) := by
  obtain ⟨r, rfl⟩ := h
  have := back_u a r v.toNat (by omega)
  rw [nat_of h0] at this
  rw [this, ByteArray.size_append, strOfNums_size]
  congr 1
theorem rB_pre {a s t : ByteArray} (ht : t.size ≤ 1048576) (h : PreB (a ++ (strOfNums (uvB (t.size : Int)) ++ t)) s) : rB s a.size = (t, ((a ++ (strOfNums (uvB (t.size : Int)) ++ t)).size : Int), 0) := by
  obtain ⟨r, rfl⟩ := h
  have hs1 : (strOfNums (uvB t.size)).size = (uvB (t.size : Int)).length := strOfNums_size _
  have hh : HasAt (a ++ (strOfNums (uvB t.size) ++ t) ++ r) a.size (uvB t.size) := by
    have := app_has a (strOfNums (uvB t.size)) (t ++ r) (uvB t.size) (fun i hi => nums_get (uvB t.size) (uvB_bytes t.size (by omega) (by omega)) i hi)
    have e : a ++ strOfNums (uvB t.size) ++ (t ++ r) = a ++ (strOfNums (uvB t.size) ++ t) ++ r := by simp only [ByteArray.append_assoc]
    rwa [e] at this
  have hv := ru_back0 _ _ t.size hh (by omega)
  have hsz : (a ++ (strOfNums (uvB t.size) ++ t) ++ r).size = a.size + (uvB (t.size : Int)).length + t.size + r.size := by simp only [ByteArray.size_append, hs1]; omega
  have hex : (a ++ (strOfNums (uvB t.size) ++ t) ++ r).extract (a.size + (uvB (t.size : Int)).length) (a.size + (uvB (t.size : Int)).length + t.size) = t := by
    apply ByteArray.ext
    apply Array.ext'
    rw [Lib.extract_data]
    simp only [ByteArray.data_append, Array.toList_append]
    have l1 : a.data.toList.length = a.size := by simp
    have l2 : (strOfNums (uvB t.size)).data.toList.length = (uvB (t.size : Int)).length := by simp [← hs1]
    have l3 : t.data.toList.length = t.size := by simp
    rw [List.append_assoc, List.append_assoc, ← List.append_assoc, List.drop_append_of_le_length (by simp [l1, l2] <;> omega), List.drop_eq_nil_of_le (by simp [l1, l2] <;> omega), List.nil_append, Nat.add_sub_cancel_left, List.take_append_of_le_length (by omega), List.take_of_length_le (by omega)]
  have hrb : rbV (a ++ (strOfNums (uvB t.size) ++ t) ++ r) a.size 1048576 = (t, (uvB (t.size : Int)).length + t.size, 0) := by
    unfold rbV
    rw [hv]
    simp only [if_true]
    rw [if_neg (by omega), if_pos (by rw [hsz]; omega), hex]
  have := rd3_ok (a ++ (strOfNums (uvB t.size) ++ t) ++ r) a.size ByteArray.empty (tB _) (by rw [hsz]; omega) (by unfold tB; rw [hrb])
  unfold rB
  rw [this]
  unfold tB
  rw [hrb, ByteArray.size_append, ByteArray.size_append, hs1]
  congr 1
/-- The document takes a text apart: its size, then its bytes. -/
theorem ex_pre {a s t : ByteArray} (h : PreB (a ++ t) s) : s.extract a.size (a.size + t.size) = t := by
  obtain ⟨r, rfl⟩ := h
  apply ByteArray.ext
  apply Array.ext'
  rw [Lib.extract_data]
  simp only [ByteArray.data_append, Array.toList_append]
  have l1 : a.data.toList.length = a.size := by simp
  have l3 : t.data.toList.length = t.size := by simp
  rw [List.append_assoc, List.drop_append_of_le_length (by omega), List.drop_eq_nil_of_le (by omega), List.nil_append, Nat.add_sub_cancel_left, List.take_append_of_le_length (by omega), List.take_of_length_le (by omega)]
theorem get_pre {a s : ByteArray} {x : Int} (h0 : 0 ≤ x) (h1 : x < 256) (h : PreB (a ++ strOfNums [x]) s) : ∃ hh : a.size < s.size, (s[a.size].toNat : Int) = x := by
  obtain ⟨r, rfl⟩ := h
  have := app_has a (strOfNums [x]) r [x] (fun i hi => nums_get [x] (fun y hy => by simp at hy; omega) i hi)
  exact this.head
theorem pair2 {α β : Type} {a a' : α} {b b' : β} (h : a = a') (g : b = b') : (a, b) = (a', b') := by rw [h, g]
theorem rB_place {s : ByteArray} {at_ : Int} (h : (rB s at_).2.2 = 0) : ∃ p m : Nat, at_ = p ∧ (rB s at_).2.1 = ((p + m : Nat) : Int) ∧ 0 < m ∧ p + m ≤ s.size := by
  by_cases hin : 0 ≤ at_ ∧ at_ ≤ s.size
  · obtain ⟨p, rfl⟩ := Int.eq_ofNat_of_zero_le hin.1
    have hp : p ≤ s.size := by omega
    by_cases hc : (tB s p).2.2 = 0
    · have e : rB s (p : Int) = _ := rd3_ok s p ByteArray.empty (tB s) hp hc
      rw [e]
      unfold tB rbV at hc ⊢
      split at hc
      · rename_i c0
        split at hc
        · cases hc
        · rename_i c1
          split at hc
          · rename_i c2
            have hv : ruV s p = ((ruV s p).1, (ruV s p).2.1, 0) := by rw [← c0]
            have h1 := rU_ok hp hv
            obtain ⟨_, p', u, m, e1, e2, e3, e4, e5, _⟩ := rU_form s p (by rw [h1])
            rw [h1] at e2
            have e6 : (p : Int) + ((ruV s p).2.1 : Nat) = ((p' + m : Nat) : Int) := congrArg (fun x => x.2.1) e2
            rw [if_pos c0, if_neg c1, if_pos c2]
            refine ⟨p, (ruV s p).2.1 + (ruV s p).1, rfl, ?_, by omega, by omega⟩
            simp only
            omega
          · cases hc
      · rename_i c0
        exact absurd hc c0
    · have e : rB s (p : Int) = _ := rd3_err s p ByteArray.empty (tB s) hp hc
      rw [e] at h
      exact absurd h hc
  · have e : rB s at_ = _ := rd3_out s at_ ByteArray.empty (tB s) hin
    rw [e] at h
    cases h
section
variable {nm : ByteArray} {num : Int} {cs : List CD} {ks : List Int} {k d : ByteArray}
theorem Yt.few (h : Yt nm num cs ks k d) : cs.length ≤ 16 ∧ ks.length ≤ 8 ∧ nm.size ≤ 32 ∧ 1 ≤ num ∧ (∀ x ∈ ks, 0 ≤ x ∧ x < (cs.length : Int)) := by
  obtain ⟨a, b, c⟩ := isTb_few h.tab
  obtain ⟨x, y, _⟩ := isTb_parts h.tab
  exact ⟨c, b, x, y, a⟩
theorem Yt.key_read (h : Yt nm num cs ks k d) : rkL k 0 = (catV nm, (keyL (catV nm)).length, 0) := by
  rw [h.key]
  have h1 := (isTb_parts h.tab).1
  obtain ⟨a, b⟩ := cat_ok h1
  exact rkL_key (catV nm) b (by show 2 ≤ 16; omega) (fun v hv => ⟨(a v hv).2.1, (a v hv).2.2⟩)
theorem Yt.read0 (h : Yt nm num cs ks k d) : rU d 0 = (num, ((strOfNums (uvB num)).size : Int), 0) := by
  have h1 := (isTb_parts h.tab).2.1
  have h2 := h.top
  have hp : PreB (ByteArray.empty ++ strOfNums (uvB num)) d := by
    rw [h.data, ByteArray.empty_append]
    have := pre_colsT (num := num) (cs := cs) (ks := ks) (n := 0) (by omega)
    rw [colsD_zero] at this
    exact ((PreB.refl _).app _).trans this
  have := rU_pre (by omega) (by omega) hp
  rw [ByteArray.empty_append] at this
  exact this
theorem Yt.read1 (h : Yt nm num cs ks k d) (hl : cs.length ≤ 16) : rU d ((strOfNums (uvB num)).size : Int) = ((cs.length : Int), ((colsD num cs 0).size : Int), 0) := by
  have hp : PreB (strOfNums (uvB num) ++ strOfNums (uvB (cs.length : Int))) d := by
    rw [h.data]
    have := pre_colsT (num := num) (cs := cs) (ks := ks) (n := 0) (by omega)
    rw [colsD_zero] at this
    exact this
  have := rU_pre (by omega) (by omega) hp
  rw [this, colsD_zero]
  rfl
theorem Yt.pre (h : Yt nm num cs ks k d) (i : Nat) (hi : i < cs.length) : PreB (colsD num cs i ++ nmD cs[i]) d ∧ PreB (colsD num cs i ++ nmD cs[i] ++ strOfNums [kdC cs[i]]) d ∧ colsD num cs (i + 1) = colsD num cs i ++ nmD cs[i] ++ strOfNums [kdC cs[i]] := by
  have e : colsD num cs (i + 1) = colsD num cs i ++ nmD cs[i] ++ strOfNums [kdC cs[i]] := by rw [colsD_next hi]; unfold colD; rw [ByteArray.append_assoc]
  have hp := pre_colsT (num := num) (cs := cs) (ks := ks) (n := i + 1) (by omega)
  rw [e, ← h.data] at hp
  exact ⟨((PreB.refl _).app _).trans hp, hp, e⟩
theorem kd_bounds (h : isTb nm num cs ks = true) (i : Nat) (hi : i < cs.length) : 1 ≤ kdC cs[i] ∧ kdC cs[i] ≤ 7 ∧ kdC cs[i] % 4 = cs[i].2.1 ∧ decide (4 ≤ kdC cs[i]) = cs[i].2.2 := by
  obtain ⟨_, b, c⟩ := (isTb_parts h).2.2 i hi
  unfold kdC
  cases hx : cs[i].2.2
  · simp; omega
  · simp; omega
theorem Yt.readC (h : Yt nm num cs ks k d) (i : Nat) (hi : i < cs.length) : cdE d ((colsD num cs i).size : Int) = 0 ∧ cdV d ((colsD num cs i).size : Int) = cs[i] ∧ cdP d ((colsD num cs i).size : Int) = ((colsD num cs (i + 1)).size : Int) := by
  obtain ⟨p1, p2, p3⟩ := h.pre i hi
  obtain ⟨b0, b1, b2, b3⟩ := kd_bounds h.tab i hi
  have hn := ((isTb_parts h.tab).2.2 i hi).1
  have r1 := rB_pre (a := colsD num cs i) (t := cs[i].1) (by omega) p1
  have e1 : uvB (kdC cs[i]) = [kdC cs[i]] := uvF_small 9 _ (by omega)
  have r2 := rU_pre (a := colsD num cs i ++ nmD cs[i]) (v := kdC cs[i]) (by omega) (by omega) (by rw [e1]; exact p2)
  rw [e1] at r2
  have e2 : rB d ((colsD num cs i).size : Int) = (cs[i].1, ((colsD num cs i ++ nmD cs[i]).size : Int), 0) := r1
  unfold cdE cdV cdP
  rw [e2]
  dsimp only
  rw [r2]
  dsimp only
  refine ⟨rfl, ?_, by rw [p3]⟩
  rw [b2, b3]
theorem Yt.readN (h : Yt nm num cs ks k d) (hl : ks.length ≤ 8) : rU d ((colsD num cs cs.length).size : Int) = ((ks.length : Int), ((keysD num cs ks 0).size : Int), 0) := by
  have hp : PreB (colsD num cs cs.length ++ strOfNums (uvB (ks.length : Int))) d := by
    rw [h.data]
    have := pre_keysT (num := num) (cs := cs) (ks := ks) (n := 0) (by omega)
    rw [keysD_zero] at this
    exact this
  have := rU_pre (by omega) (by omega) hp
  rw [this, keysD_zero]
  rfl
theorem Yt.readK (h : Yt nm num cs ks k d) (i : Nat) (hi : i < ks.length) (h0 : 0 ≤ ks[i]) (h1 : ks[i] ≤ 16) : rU d ((keysD num cs ks i).size : Int) = (ks[i], ((keysD num cs ks (i + 1)).size : Int), 0) := by
  have hp : PreB (keysD num cs ks i ++ strOfNums (uvB ks[i])) d := by
    rw [h.data]
    have := pre_keysT (num := num) (cs := cs) (ks := ks) (n := i + 1) (by omega)
    rw [keysD_next hi] at this
    exact this
  have := rU_pre (by omega) (by omega) hp
  rw [this, keysD_next hi]
  rfl
/-- As the document reads a column: its size, its bytes, its kind. -/
theorem Yt.readD (h : Yt nm num cs ks k d) (i : Nat) (hi : i < cs.length) : ∃ q : Nat, rU d ((colsD num cs i).size : Int) = ((cs[i].1.size : Int), (q : Int), 0) ∧ d.extract q (q + cs[i].1.size) = cs[i].1 ∧ q + cs[i].1.size + 1 = (colsD num cs (i + 1)).size ∧ (∃ hh : q + cs[i].1.size < d.size, (d[q + cs[i].1.size].toNat : Int) = kdC cs[i]) := by
  obtain ⟨p1, p2, p3⟩ := h.pre i hi
  obtain ⟨b0, b1, b2, b3⟩ := kd_bounds h.tab i hi
  have hn := ((isTb_parts h.tab).2.2 i hi).1
  have ea : colsD num cs i ++ nmD cs[i] = colsD num cs i ++ strOfNums (uvB (cs[i].1.size : Int)) ++ cs[i].1 := by unfold nmD; rw [ByteArray.append_assoc]
  rw [ea] at p1 p2 p3
  have r1 := rU_pre (a := colsD num cs i) (v := (cs[i].1.size : Int)) (by omega) (by omega) (((PreB.refl _).app _).trans p1)
  have r2 := ex_pre p1
  have r3 := get_pre (by omega) (by omega) p2
  refine ⟨_, r1, r2, ?_, ?_⟩
  · rw [p3]
    simp only [ByteArray.size_append, strOfNums_size, List.length_singleton]
  · simp only [ByteArray.size_append] at r3 ⊢
    exact r3
end
end Go.Proofs.YtjcffcpmegpjeaaGreatDoor
