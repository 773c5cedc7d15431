import Derived.Test.YtfabgoanammaiaaRdPlain4
import Derived.Test.YtfabgoanammaiaaOrd1
namespace Go.Proofs.Ytfabgoanammaiaa
set_option linter.unusedVariables false

theorem canV_of (v : Int × Int × ByteArray) (h : faultV v = 0) (h0 : -9223372036854775808 ≤ v.2.1) (h1 : v.2.1 ≤ 9223372036854775807) : canV v := by
  have hf := fit_of v h
  obtain ⟨a, i, t⟩ := v
  simp only at hf h0 h1
  have em : t.data.toList = [] → t = ⟨#[]⟩ := fun e => bytes_ext e
  rcases hf with ⟨f1, f2, f3⟩ | ⟨f1, f2, f3, f4⟩ | ⟨f1, f2⟩ | ⟨f1, f2, f3⟩
  · exact .inl (by rw [f1, f2, em f3])
  · exact .inr (.inl ⟨i, by rw [f1, em f4], f2, f3⟩)
  · exact .inr (.inr (.inl ⟨i, by rw [f1, em f2], h0, h1⟩))
  · exact .inr (.inr (.inr ⟨t, by rw [f1, f2], f3⟩))
theorem fault_each : ∀ (vs : List (Int × Int × ByteArray)), faultL vs = 0 → ∀ v ∈ vs, faultV v = 0
  | [], _, v, hv => by simp at hv
  | x :: r, h, v, hv => by
    unfold faultL at h
    split at h
    · rename_i q; exact absurd h q
    · rename_i q
      rcases List.mem_cons.1 hv with e | e
      · rw [e]; simpa using q
      · exact fault_each r h v e
theorem lies_self (L : List Int) (h : ∀ c ∈ L, 0 ≤ c ∧ c < 256) : Lies (strOfNums L) 0 L := by
  intro j hj
  have hz := strOfNums_size L
  refine ⟨by omega, ?_⟩
  have hb := h L[j] (List.getElem_mem hj)
  have e : (strOfNums L)[0 + j]'(by omega) = UInt8.ofNat (L[j]).toNat := by
    simp [strOfNums, ByteArray.getElem_eq_getElem_data]
  rw [e]
  simp
  omega
/-- The key of values that may be is read as these values. -/
theorem rkL_key (vs : List (Int × Int × ByteArray)) (hf : faultL vs = 0) (hl : vs.length ≤ 16) (hr : ∀ v ∈ vs, -9223372036854775808 ≤ v.2.1 ∧ v.2.1 ≤ 9223372036854775807) : rkL (strOfNums (keyL vs)) 0 = (vs, (keyL vs).length, 0) := by
  have hin : ∀ c ∈ keyL vs, 0 ≤ c ∧ c < 256 := by
    intro c hc
    unfold keyL at hc
    obtain ⟨v, hv, hcv⟩ := List.mem_flatMap.1 hc
    exact keyV_in v (fault_each vs hf v hv) c hcv
  have hz := strOfNums_size (keyL vs)
  have hvl : vs.length ≤ (keyL vs).length := by
    have : ∀ us : List (Int × Int × ByteArray), us.length ≤ (keyL us).length := by
      intro us
      induction us with
      | nil => simp
      | cons x r ih =>
        have hp := keyV_pos x
        have e : keyL (x :: r) = keyV x ++ keyL r := by unfold keyL; rw [List.flatMap_cons]
        rw [e, List.length_append, List.length_cons]
        omega
    exact this vs
  unfold rkL
  rw [rkF_key (strOfNums (keyL vs)) 0 vs _ 0 [] (fun v hv => canV_of v (fault_each vs hf v hv) (hr v hv).1 (hr v hv).2) (by simpa using lies_self _ hin) (by omega) (by simpa using hl) (by omega)]
  simp
end Go.Proofs.Ytfabgoanammaiaa
