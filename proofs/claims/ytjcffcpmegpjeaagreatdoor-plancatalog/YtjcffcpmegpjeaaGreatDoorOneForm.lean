import Derived.Test.YtjcffcpmegpjeaaGreatDoorOrd4
import Derived.Test.YtjcffcpmegpjeaaGreatDoorRdPlain8
import Derived.Test.YtjcffcpmegpjeaaGreatDoorReads3
namespace Go.Proofs.YtjcffcpmegpjeaaGreatDoor
open Go.ChangeShapes Go.WideShapes Go.ChangeAt Go.RowKit
set_option linter.unusedVariables false
set_option maxRecDepth 100000

theorem canV_wf {v : Int × Int × ByteArray} (h : canV v) : v.2.2.size ≤ 9223372036854775807 ∧ -9223372036854775808 ≤ v.2.1 ∧ v.2.1 ≤ 9223372036854775807 := by
  rcases h with rfl | ⟨i, rfl, h0, h1⟩ | ⟨i, rfl, h0, h1⟩ | ⟨t, rfl, h0⟩
  · exact ⟨by show (0 : Nat) ≤ _; omega, by show (-9223372036854775808 : Int) ≤ 0; omega, by show (0 : Int) ≤ _; omega⟩
  · exact ⟨by show (0 : Nat) ≤ _; omega, by show (-9223372036854775808 : Int) ≤ i; omega, by show i ≤ _; omega⟩
  · exact ⟨by show (0 : Nat) ≤ _; omega, h0, h1⟩
  · exact ⟨by show t.size ≤ _; omega, by show (-9223372036854775808 : Int) ≤ 0; omega, by show (0 : Int) ≤ _; omega⟩
theorem ownV.seesAll {w : World} {B : Nat} {v : Value} {vs : List (Int × Int × ByteArray)} (h : ownV w B v vs) (h47 : vs.length ≤ 140737488355328) : SeesV w w.heap.size v vs := by
  have h' := h
  rcases h.2 with ⟨e, e2⟩ | ⟨g, cap, cur, e, hb, hg, hnc, hm, hs, ht⟩
  · subst e
    have : vs = [] := List.length_eq_zero_iff.1 e2
    subst this
    exact ⟨none, 0, rfl, by simp, by simp, fun k hk => absurd hk (by simp)⟩
  · subst e
    exact ownV.sees h' rfl (by simp) (Nat.le_refl _) h47
theorem rowAll_fits (vs : List (Int × Int × ByteArray)) (h1 : ¬ 16 < vs.length) (h2 : ∀ v ∈ vs, canV v) : (strOfNums (rowAll vs)).size ≤ 1125899906842624 := by
  have hv : ∀ us : List (Int × Int × ByteArray), (∀ v ∈ us, canV v) → (rowL us).length ≤ us.length * 4106 := by
    intro us
    induction us with
    | nil => intro _; simp [rowL]
    | cons x r ih =>
      intro h
      have e : rowL (x :: r) = rowV x ++ rowL r := by unfold rowL; rw [List.flatMap_cons]
      have hx : (rowV x).length ≤ 4106 := by
        have l1 : ∀ z, (uvB z).length ≤ 10 := uvB_len
        rcases h x (by simp) with rfl | ⟨i, rfl, h0, h1⟩ | ⟨i, rfl, h0, h1⟩ | ⟨t, rfl, h0⟩
        · show (0 : Nat) ≤ _; omega
        · show (1 : Nat) ≤ _; omega
        · have := l1 (svV i); show (uvB (svV i)).length ≤ _; omega
        · have := l1 t.size
          show (uvB t.size ++ txt t).length ≤ _
          have e2 : (txt t).length = t.size := by unfold txt; simp
          rw [List.length_append]; omega
      have := ih fun v hv => h v (by simp [hv])
      rw [e, List.length_append, List.length_cons]; omega
  have := hv vs h2
  rw [strOfNums_size]
  unfold rowAll
  simp only [List.cons_append, List.length_cons, List.length_append, kbytes_len]
  omega
/-- A number that is read at a place is that number's bytes. -/
theorem rU_form (s : ByteArray) (at_ : Int) (h : (rU s at_).2.2 = 0) : 0 ≤ at_ ∧ ∃ p u m : Nat, at_ = p ∧ rU s at_ = ((u : Int), ((p + m : Nat) : Int), 0) ∧ 0 < m ∧ p + m ≤ s.size ∧ u < 18446744073709551616 ∧ s.extract p (p + m) = strOfNums (uvB u) := by
  by_cases hin : 0 ≤ at_ ∧ at_ ≤ s.size
  · obtain ⟨p, rfl⟩ := Int.eq_ofNat_of_zero_le hin.1
    have hp : p ≤ s.size := by omega
    by_cases hc : (tU s p).2.2 = 0
    · have e := rd3_ok s p (0 : Int) (tU s) hp hc
      have hb := ruV_bound s p
      have hc' : (ruV s p).2.2 = 0 := hc
      obtain ⟨f1, f2⟩ := ru_form0 s p (ruV s p).1 (ruV s p).2.1 (by rw [← hc'])
      have hl := (uvF_len 9 ((ruV s p).1 : Int)).2
      refine ⟨by omega, p, (ruV s p).1, (ruV s p).2.1, rfl, ?_, ?_, hb.2.2.2.2 hc', hb.1, ?_⟩
      · unfold rU
        rw [e]
        show (((ruV s p).1 : Int), _, _) = _
        simp [tU]
      · have : (uvB ((ruV s p).1 : Int)).length = (uvF 9 ((ruV s p).1 : Int)).length := rfl
        omega
      · have ex := lies_extract s (strOfNums (uvB ((ruV s p).1 : Int))) p hp ?_
        · rw [strOfNums_size, ← f2] at ex; exact ex
        · have hin := uvB_in ((ruV s p).1 : Int) (by omega) (by omega)
          have et : txt (strOfNums (uvB ((ruV s p).1 : Int))) = uvB ((ruV s p).1 : Int) := by
            unfold txt strOfNums
            simp only [List.map_map]
            conv => rhs; rw [← List.map_id (uvB ((ruV s p).1 : Int))]
            apply List.map_congr_left
            intro x hx
            have := hin x hx
            simp
            omega
          rw [et]; exact f1
    · exfalso
      have e := rd3_err s p (0 : Int) (tU s) hp hc
      unfold rU at h
      rw [e] at h
      exact hc h
  · exfalso
    have e := rd3_out s at_ (0 : Int) (tU s) hin
    unfold rU at h
    rw [e] at h
    simp at h
def BelS (w W : World) : Prop := Below w.heap.size w W
theorem BelS.drew {w W : World} (h : BelS w W) : BelS w W.drew := Below.drew h
end Go.Proofs.YtjcffcpmegpjeaaGreatDoor
