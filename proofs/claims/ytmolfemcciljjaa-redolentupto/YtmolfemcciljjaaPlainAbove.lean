import Derived.Laws.Strings
import Derived.Lib.Strings
import Derived.Laws.BytesArg
namespace Go.Proofs.Ytmolfemcciljjaa
open Go
theorem less_nil (o : List UInt8) : Op.bytesLess o [] = false := by cases o <;> simp [Op.bytesLess]
theorem less_cons (a b : UInt8) (x y : List UInt8) : Op.bytesLess (a :: x) (b :: y) = (decide (a < b) || (a == b && Op.bytesLess x y)) := by simp [Op.bytesLess]
theorem less_irrefl : ∀ x : List UInt8, Op.bytesLess x x = false
  | [] => by simp [Op.bytesLess]
  | a :: x => by rw [less_cons, less_irrefl x]; simp
theorem less_up (b : UInt8) (h : b ≠ 255) : b < b + 1 := by
  rw [UInt8.lt_iff_toNat_lt, UInt8.toNat_add]
  have : b.toNat ≠ 255 := fun e => h (UInt8.toNat_inj.1 e)
  have := b.toNat_lt
  simp; omega
theorem above_all (b : UInt8) (h : b ≠ 255) (t m : List UInt8) : ∀ x : List UInt8, Op.bytesLess (x ++ b :: t ++ m) (x ++ [b + 1]) = true
  | [] => by simp [less_cons, less_up b h]
  | a :: x => by
    have := above_all b h t m x
    simp only [List.append_assoc, List.cons_append] at this
    simp [less_cons, this]
theorem ff_prefix : ∀ (t o : List UInt8), (∀ c ∈ t, c = 255) → Op.bytesLess o t = false → o.take t.length = t ∧ t.length ≤ o.length
  | [], o, _, _ => by simp
  | c :: t, [], _, h => by simp [Op.bytesLess] at h
  | c :: t, d :: o, hc, h => by
    have e : c = 255 := hc c (by simp)
    subst e
    rw [less_cons] at h
    simp only [Bool.or_eq_false_iff, decide_eq_false_iff_not, Bool.and_eq_false_iff] at h
    have hd : d = 255 := by
      apply UInt8.toNat_inj.1
      have h1 := h.1
      rw [UInt8.lt_iff_toNat_lt] at h1
      have := d.toNat_lt
      simp at h1 ⊢; omega
    subst hd
    have := ff_prefix t o (fun c h => hc c (by simp [h])) (by simpa using h.2)
    simp [this]
theorem between (b : UInt8) (t : List UInt8) (ht : ∀ c ∈ t, c = 255) : ∀ (x o : List UInt8), Op.bytesLess o (x ++ b :: t) = false → Op.bytesLess o (x ++ [b + 1]) = true → o.take (x ++ b :: t).length = x ++ b :: t ∧ (x ++ b :: t).length ≤ o.length
  | [], [], h, _ => by simp [Op.bytesLess] at h
  | [], d :: o, h, k => by
    simp only [List.nil_append, less_cons, less_nil, Bool.and_false, Bool.or_false, decide_eq_true_eq, Bool.or_eq_false_iff, decide_eq_false_iff_not, Bool.and_eq_false_iff] at h k
    have hd : d = b := by
      apply UInt8.toNat_inj.1
      have h1 := h.1
      rw [UInt8.lt_iff_toNat_lt] at h1 k
      rw [UInt8.toNat_add] at k
      have := b.toNat_lt
      simp at h1 k; omega
    subst hd
    have := ff_prefix t o ht (by simpa using h.2)
    simp [this]
  | a :: x, [], h, _ => by simp [Op.bytesLess] at h
  | a :: x, d :: o, h, k => by
    simp only [List.cons_append, less_cons, Bool.or_eq_true, Bool.and_eq_true, decide_eq_true_eq, Bool.or_eq_false_iff, decide_eq_false_iff_not, Bool.and_eq_false_iff, beq_iff_eq] at h k
    rcases k with k | ⟨rfl, k⟩
    · exact absurd k h.1
    · have := between b t ht x o (by simpa using h.2) k
      simp only [List.length_append, List.length_cons] at this
      simp [this]
theorem str_toList (s : ByteArray) : s.toList = s.data.toList := Lib.toList_data s
theorem cut_at (s : ByteArray) (j : Nat) (hj : j < s.size) : s.data.toList = s.data.toList.take j ++ s[j] :: s.data.toList.drop (j + 1) := by
  have h : j < s.data.toList.length := by simpa using hj
  conv => lhs; rw [← List.take_append_drop j s.data.toList, List.drop_eq_getElem_cons h]
  rfl
theorem app_toList (a b : ByteArray) : (a ++ b).toList = a.data.toList ++ b.data.toList := by
  rw [str_toList, ByteArray.data_append, Array.toList_append]
theorem after_toList (s : ByteArray) (j : Nat) (hj : j < s.size) :
    (s.extract 0 j ++ strOfNums [((s[j].toNat : Int) + 1) % 256]).toList = s.data.toList.take j ++ [s[j] + 1] := by
  rw [app_toList, Lib.extract_data, strOfNums_data]
  simp
  apply UInt8.toNat_inj.1
  rw [UInt8.toNat_add]
  have := s[j].toNat_lt
  simp
  omega
theorem rest_ff (s : ByteArray) (j : Nat) (h : ∀ i (h : i < s.size), j < i → s[i] = 255) : ∀ c ∈ s.data.toList.drop (j + 1), c = 255 := by
  intro c hc
  obtain ⟨i, hi, rfl⟩ := List.getElem_of_mem hc
  simp only [List.length_drop, Array.length_toList] at hi
  have := h (j + 1 + i) (by show _ < s.data.size; omega) (by omega)
  simp only [List.getElem_drop]
  exact this
theorem top_less (p m : ByteArray) (j : Nat) (hj : j < p.size) (hne : p[j] ≠ 255) :
    Op.bytesLess (p ++ m).toList (p.extract 0 j ++ strOfNums [((p[j].toNat : Int) + 1) % 256]).toList = true := by
  rw [after_toList p j hj, app_toList, cut_at p j hj]
  rw [show (List.take j p.data.toList ++ p[j] :: List.drop (j + 1) p.data.toList).take j = p.data.toList.take j from by rw [← cut_at p j hj]]
  exact above_all p[j] hne _ _ _
theorem none_between (p o : ByteArray) (j : Nat) (hj : j < p.size) (hall : ∀ i (h : i < p.size), j < i → p[i] = 255)
    (h : Op.bytesLess o.toList p.toList = false) (k : Op.bytesLess o.toList (p.extract 0 j ++ strOfNums [((p[j].toNat : Int) + 1) % 256]).toList = true) :
    p.size ≤ o.size ∧ ((o.extract 0 p.size).toList == p.toList) = true := by
  rw [after_toList p j hj] at k
  have hc := cut_at p j hj
  rw [str_toList, str_toList] at h
  rw [str_toList] at k
  rw [hc] at h
  have := between p[j] _ (rest_ff p j hall) _ _ h k
  rw [← hc] at this
  constructor
  · simpa using this.2
  · rw [str_toList, str_toList, Lib.extract_data]
    simpa using this.1
/-- Is one of the first k bytes no ff? -/
def anyNot (s : ByteArray) (k : Nat) : Bool := (s.data.toList.take k).any fun c => c != 255
theorem anyNot_zero (s : ByteArray) : anyNot s 0 = false := by simp [anyNot]
theorem anyNot_succ (s : ByteArray) (k : Nat) (h : k < s.size) : anyNot s (k + 1) = (anyNot s k || s[k] != 255) := by
  unfold anyNot
  rw [List.take_succ_eq_append_getElem (by simpa using h)]
  simp
  rfl
theorem bne_byte (c : UInt8) : ((c.toNat : Int) != 255) = (c != 255) := by
  rw [Bool.eq_iff_iff, bne_iff_ne, bne_iff_ne]
  constructor
  · intro h e; subst e; simp at h
  · intro h e; exact h (UInt8.toNat_inj.1 (by simp; omega))
theorem anyNot_false (s : ByteArray) (h : ∀ i (h : i < s.size), s[i] = 255) : anyNot s s.size = false := by
  unfold anyNot
  rw [List.any_eq_false]
  intro c hc
  have hc' := List.mem_of_mem_take hc
  obtain ⟨i, hi, rfl⟩ := List.getElem_of_mem hc'
  have := h i (by simpa using hi)
  simp
  exact this
theorem anyNot_true (s : ByteArray) (j : Nat) (hj : j < s.size) (h : s[j] ≠ 255) : anyNot s s.size = true := by
  unfold anyNot
  rw [List.any_eq_true]
  refine ⟨s[j], ?_, by simp [h]⟩
  rw [List.take_of_length_le (by simp)]
  exact List.mem_of_getElem (h := by simpa using hj) rfl
end Go.Proofs.Ytmolfemcciljjaa
