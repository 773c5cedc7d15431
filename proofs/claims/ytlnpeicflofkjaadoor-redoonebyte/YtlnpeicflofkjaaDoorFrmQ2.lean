import Derived.Test.YtlnpeicflofkjaaDoorFrmQ
namespace Go.Proofs.YtlnpeicflofkjaaDoor
open Go.ChangeShapes Go.WideShapes Go.ChangeAt Go.RowKit
set_option linter.unusedVariables false
set_option maxRecDepth 100000
/-- A frame's bytes. -/
def frT (k l : Int) (b : ByteArray) : ByteArray := hdF k l b ++ smB (hdF k l b) ++ b
theorem frT_size (k l : Int) (b : ByteArray) : (frT k l b).size = 24 + b.size := by unfold frT; simp [hdF_size, smB_size]
theorem enF_yes (k l : Int) (b : ByteArray) (h : mayFr k l b.size = true) : enF k l b = (frT k l b, 0) := by unfold enF; rw [if_pos h]; rfl
theorem has_fx (h t : ByteArray) (n : Nat) (v : Int) (p : Nat) (hp : h.size = p) : HasAt (h ++ strOfNums (fxB n v) ++ t) p (fxB n v) := by
  subst hp
  exact app_has h (strOfNums (fxB n v)) t (fxB n v) (fun i hi => nums_get (fxB n v) (fxB_bytes n v) i hi)
/-- What stands in a frame's bytes. -/
theorem frT_len (k l : Int) (b : ByteArray) (hb : b.size < 4294967296) : fxV (frT k l b) 4 4 = b.size := by
  have e : frT k l b = (strOfNums [83, 70] ++ strOfNums [k, 0]) ++ strOfNums (fxB 4 b.size) ++ (strOfNums (fxB 8 l) ++ smB b ++ smB (hdF k l b) ++ b) := by
    unfold frT
    conv => lhs; unfold hdF
    simp only [ByteArray.append_assoc]
    rfl
  rw [e, fx_back _ 4 4 b.size (has_fx _ _ 4 b.size 4 (by simp [strOfNums_size]))]
  exact Nat.mod_eq_of_lt (by omega)
theorem frT_lsn (k : Int) (l : Nat) (b : ByteArray) (hl : l < 18446744073709551616) : fxV (frT k l b) 8 8 = l := by
  have e : frT k l b = (strOfNums [83, 70] ++ strOfNums [k, 0] ++ strOfNums (fxB 4 b.size)) ++ strOfNums (fxB 8 l) ++ (smB b ++ smB (hdF k l b) ++ b) := by
    unfold frT
    conv => lhs; unfold hdF
    simp only [ByteArray.append_assoc]
    rfl
  rw [e, fx_back _ 8 8 l (has_fx _ _ 8 l 8 (by simp [strOfNums_size, fxB_len]))]
  exact Nat.mod_eq_of_lt (by omega)
theorem frT_sum (k l : Int) (b : ByteArray) : fxV (frT k l b) 16 4 = crN b.data.toList := by
  have e : frT k l b = (strOfNums [83, 70] ++ strOfNums [k, 0] ++ strOfNums (fxB 4 b.size) ++ strOfNums (fxB 8 l)) ++ strOfNums (fxB 4 (crN b.data.toList : Nat)) ++ (smB (hdF k l b) ++ b) := by
    unfold frT
    conv => lhs; unfold hdF
    simp only [ByteArray.append_assoc]
    rfl
  rw [e, fx_back _ 16 4 _ (has_fx _ _ 4 _ 16 (by simp [strOfNums_size, fxB_len]))]
  exact Nat.mod_eq_of_lt (crN_lt' _)
theorem frT_own (k l : Int) (b : ByteArray) : fxV (frT k l b) 20 4 = crN (hdF k l b).data.toList := by
  have e : frT k l b = hdF k l b ++ strOfNums (fxB 4 (crN (hdF k l b).data.toList : Nat)) ++ b := rfl
  rw [e, fx_back _ 20 4 _ (has_fx _ _ 4 _ 20 (hdF_size k l b))]
  exact Nat.mod_eq_of_lt (crN_lt' _)
theorem app_ext_l (a b : ByteArray) (n : Nat) (h : a.size = n) : (a ++ b).extract 0 n = a := by
  subst h
  rw [ByteArray.extract_append_eq_left rfl]
theorem frT_head (k l : Int) (b : ByteArray) : (frT k l b).extract 0 20 = hdF k l b := by
  unfold frT
  rw [ByteArray.append_assoc]
  exact app_ext_l _ _ 20 (hdF_size k l b)
theorem frT_two (k l : Int) (b : ByteArray) : (frT k l b).extract 0 2 = strOfNums [83, 70] := by
  have e : frT k l b = strOfNums [83, 70] ++ (strOfNums [k, 0] ++ strOfNums (fxB 4 b.size) ++ strOfNums (fxB 8 l) ++ smB b ++ smB (hdF k l b) ++ b) := by
    unfold frT
    generalize smB (hdF k l b) = S
    unfold hdF
    simp only [ByteArray.append_assoc]
  rw [e]
  exact app_ext_l _ _ 2 (by simp [strOfNums_size])
theorem frT_kind (k l : Int) (b : ByteArray) (h0 : 0 ≤ k) (h1 : k < 256) : (bAt (frT k l b) 2 : Int) = k ∧ bAt (frT k l b) 3 = 0 := by
  have e : frT k l b = strOfNums [83, 70] ++ strOfNums [k, 0] ++ (strOfNums (fxB 4 b.size) ++ strOfNums (fxB 8 l) ++ smB b ++ smB (hdF k l b) ++ b) := by
    unfold frT
    generalize smB (hdF k l b) = S
    unfold hdF
    simp only [ByteArray.append_assoc]
  have hh := app_has (strOfNums [83, 70]) (strOfNums [k, 0]) (strOfNums (fxB 4 b.size) ++ strOfNums (fxB 8 l) ++ smB b ++ smB (hdF k l b) ++ b) [k, 0] (fun i hi => nums_get [k, 0] (by simp; omega) i hi)
  rw [← e] at hh
  have hz : (strOfNums [83, 70]).size = 2 := by simp [strOfNums_size]
  rw [hz] at hh
  have g0 := has_bAt hh 0 (by simp)
  have g1 := has_bAt hh 1 (by simp)
  simp at g0 g1
  exact ⟨g0, g1⟩
theorem frT_body (k l : Int) (b : ByteArray) : (frT k l b).extract 24 (24 + b.size) = b := by
  unfold frT
  have hz : (hdF k l b ++ smB (hdF k l b)).size = 24 := by simp [hdF_size, smB_size]
  rw [← hz, ByteArray.extract_append_eq_right rfl (by simp)]
theorem mayFr_kind {k l n : Int} (h : mayFr k l n = true) : 1 ≤ k ∧ k ≤ 3 ∧ 1 ≤ l ∧ l ≤ 4611686018427387903 ∧ 0 ≤ n ∧ n ≤ 131072 := by
  unfold mayFr at h
  simp at h
  omega
/-- A frame is read back. -/
theorem dfE_back (k l : Int) (b : ByteArray) (h : mayFr k l b.size = true) : dfE (frT k l b) = 0 := by
  obtain ⟨k1, k2, l1, l2, n1, n2⟩ := mayFr_kind h
  obtain ⟨m, rfl⟩ := Int.eq_ofNat_of_zero_le (by omega : 0 ≤ l)
  have hk := frT_kind k m b (by omega) (by omega)
  unfold dfE
  rw [if_neg (by rw [frT_size]; omega), if_neg (by rw [frT_two]; simp), if_neg (by rw [frT_own, frT_head]; simp), frT_len k m b (by omega), frT_lsn k m b (by omega),
    if_neg (by rw [hk.1, hk.2]; simp [h]), if_neg (by rw [frT_size]; omega), if_neg (by rw [frT_sum, frT_body]; simp)]
/-- Cut short it is torn. -/
theorem dfE_cut (k l : Int) (b : ByteArray) (a : Nat) (h : mayFr k l b.size = true) (ha : a < 24 + b.size) : dfE ((frT k l b).extract 0 a) = 1 := by
  obtain ⟨k1, k2, l1, l2, n1, n2⟩ := mayFr_kind h
  obtain ⟨m, rfl⟩ := Int.eq_ofNat_of_zero_le (by omega : 0 ≤ l)
  have hz := frT_size k m b
  have hk := frT_kind k m b (by omega) (by omega)
  have hs : ((frT k m b).extract 0 a).size = a := by rw [ByteArray.size_extract]; omega
  by_cases h24 : a < 24
  · unfold dfE
    rw [if_pos (by omega)]
  · have hb : ∀ i, i < a → bAt ((frT k m b).extract 0 a) i = bAt (frT k m b) i := fun i hi => by
      have := bAt_ext (frT k m b) 0 a i (by omega) (by omega)
      rwa [Nat.zero_add] at this
    have hf : ∀ p n, p + n ≤ 24 → fxV ((frT k m b).extract 0 a) p n = fxV (frT k m b) p n := fun p n hp => fxV_congr _ _ p n (fun i hi => hb _ (by omega))
    have he : ∀ n, n ≤ 24 → ((frT k m b).extract 0 a).extract 0 n = (frT k m b).extract 0 n := fun n hn => ext_bAt _ _ 0 n (by omega) (by omega) (fun i _ hi => hb i (by omega))
    unfold dfE
    rw [if_neg (by omega), he 2 (by omega), he 20 (by omega), hf 20 4 (by omega), hf 8 8 (by omega), hf 4 4 (by omega), hf 16 4 (by omega), hb 2 (by omega), hb 3 (by omega), if_neg (by rw [frT_two]; simp), if_neg (by rw [frT_own, frT_head]; simp), frT_len k m b (by omega), frT_lsn k m b (by omega),
      if_neg (by rw [hk.1, hk.2]; simp [h]), if_pos (by omega)]
/-- With one byte turned it is not read. -/
theorem dfE_turn (k l : Int) (b t : ByteArray) (a : Nat) (h : mayFr k l b.size = true) (ha : a < 24 + b.size) (hl : t.size = 24 + b.size) (hb : ∀ i, i < 24 + b.size → i ≠ a → bAt t i = bAt (frT k l b) i) (hn : bAt t a ≠ bAt (frT k l b) a) : dfE t ≠ 0 := by
  obtain ⟨k1, k2, l1, l2, n1, n2⟩ := mayFr_kind h
  obtain ⟨m, rfl⟩ := Int.eq_ofNat_of_zero_le (by omega : 0 ≤ l)
  have hz := frT_size k m b
  intro e
  unfold dfE at e
  rw [if_neg (by omega)] at e
  split at e
  · cases e
  split at e
  · cases e
  rename_i c3
  split at e
  · cases e
  split at e
  · cases e
  rename_i c5
  split at e
  · cases e
  rename_i c6
  rw [Decidable.not_not] at c3 c6
  by_cases a24 : 24 ≤ a
  · have hf : ∀ p n, p + n ≤ 24 → fxV t p n = fxV (frT k m b) p n := fun p n hp => fxV_congr _ _ p n (fun i hi => hb _ (by omega) (by omega))
    rw [hf 16 4 (by omega), hf 4 4 (by omega), frT_len k m b (by omega), frT_sum] at c6
    have hx : crN (t.extract 24 (24 + b.size)).data.toList ≠ crN b.data.toList := by
      refine crN_turn _ _ (a - 24) (by rw [ByteArray.size_extract]; omega) (by rw [ByteArray.size_extract]; omega) (fun i hi hne => ?_) ?_
      · rw [ByteArray.size_extract] at hi
        rw [bAt_ext t 24 (24 + b.size) i (by omega) (by omega), hb _ (by omega) (by omega)]
        conv => rhs; rw [← frT_body k m b]
        rw [bAt_ext _ 24 (24 + b.size) i (by omega) (by omega)]
      · have e2 : 24 + (a - 24) = a := by omega
        rw [bAt_ext t 24 (24 + b.size) (a - 24) (by omega) (by omega), e2]
        conv => rhs; rw [← frT_body k m b]
        rw [bAt_ext _ 24 (24 + b.size) (a - 24) (by omega) (by omega), e2]
        exact hn
    exact hx c6.symm
  · by_cases a20 : 20 ≤ a
    · have hx := fxV_turn t (frT k m b) 20 4 a (by omega) (by omega) a20 (by omega) hn
      have he : t.extract 0 20 = (frT k m b).extract 0 20 := ext_bAt _ _ 0 20 (by omega) (by omega) (fun i _ hi => hb i (by omega) (by omega))
      rw [he, frT_head, ← frT_own] at c3
      exact hx c3
    · have hf : fxV t 20 4 = fxV (frT k m b) 20 4 := fxV_congr _ _ 20 4 (fun i hi => hb _ (by omega) (by omega))
      rw [hf, frT_own, ← frT_head] at c3
      refine crN_turn _ _ a (by rw [ByteArray.size_extract, ByteArray.size_extract]; omega) (by rw [ByteArray.size_extract]; omega) (fun i hi hne => ?_) ?_ c3.symm
      · rw [ByteArray.size_extract] at hi
        rw [bAt_ext t 0 20 i (by omega) (by omega), bAt_ext _ 0 20 i (by omega) (by omega), hb _ (by omega) (by omega)]
      · rw [bAt_ext t 0 20 a (by omega) (by omega), bAt_ext _ 0 20 a (by omega) (by omega), Nat.zero_add]
        exact hn
end Go.Proofs.YtlnpeicflofkjaaDoor
