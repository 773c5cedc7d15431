import Derived.Test.YtlnpeicflofkjaaDoorFrmP2
import Derived.Test.YtlnpeicflofkjaaDoorSums1
namespace Go.Proofs.YtlnpeicflofkjaaDoor
open Go.ChangeShapes Go.WideShapes Go.ChangeAt Go.RowKit
set_option linter.unusedVariables false
set_option maxRecDepth 100000
set_option maxHeartbeats 800000 in
theorem frameMay_any (k l n : Int) (w : World) : Calls Tryd.prog 19 #[.int .i64 k, .int .u64 l, .int .i64 n] w fun e w' => e = .returned (.bool (mayFr k l n)) ∧ w' = w := by
  have HM : Hid (mayFr k l n = (decide (1 ≤ l ∧ l ≤ 4611686018427387903) && (decide (k = 1 ∧ 1 ≤ n ∧ n ≤ 131072) || decide (k = 2 ∧ n = 8) || decide (k = 3 ∧ n = 0)))) := rfl
  generalize mayFr k l n = m at *
  by_cases l1 : 1 ≤ l
  · by_cases l2 : l ≤ 4611686018427387903
    · by_cases k1 : k = 1
      · subst k1
        by_cases n1 : 1 ≤ n
        · have HE : Hid (m = decide (n ≤ 131072)) := by show _ = _; rw [HM.out]; simp [n1, l1, l2]
          go_enter Tryd.func19, Tryd.ntmps19
          go_wp2
          go_ret
          exact ⟨by rw [HE.out]; rfl, rfl⟩
        · have HE : Hid (m = false) := by show _ = _; rw [HM.out]; simp [n1]
          go_enter Tryd.func19, Tryd.ntmps19
          go_wp2
          go_ret
          exact ⟨by rw [HE.out]; rfl, rfl⟩
      · have q1 : (k == 1) = false := by simpa using k1
        by_cases k2 : k = 2
        · subst k2
          have HE : Hid (m = (n == 8)) := by show _ = _; rw [HM.out, Bool.eq_iff_iff]; simp [l1, l2]
          go_enter Tryd.func19, Tryd.ntmps19
          go_wp2
          go_ret
          exact ⟨by rw [HE.out]; rfl, rfl⟩
        · have q2 : (k == 2) = false := by simpa using k2
          by_cases k3 : k = 3
          · subst k3
            have HE : Hid (m = (n == 0)) := by show _ = _; rw [HM.out, Bool.eq_iff_iff]; simp [l1, l2]
            go_enter Tryd.func19, Tryd.ntmps19
            go_wp2
            go_ret
            exact ⟨by rw [HE.out]; rfl, rfl⟩
          · have q3 : (k == 3) = false := by simpa using k3
            have HE : Hid (m = false) := by show _ = _; rw [HM.out]; simp [k1, k2, k3]
            clear k1 k2 k3
            go_enter Tryd.func19, Tryd.ntmps19
            go_wp2
            go_ret
            exact ⟨by rw [HE.out]; rfl, rfl⟩
    · have HE : Hid (m = false) := by show _ = _; rw [HM.out]; simp [l2]
      go_enter Tryd.func19, Tryd.ntmps19
      go_wp2
      go_ret
      exact ⟨by rw [HE.out]; rfl, rfl⟩
  · have HE : Hid (m = false) := by show _ = _; rw [HM.out]; simp [l1]
    go_enter Tryd.func19, Tryd.ntmps19
    go_wp2
    go_ret
    exact ⟨by rw [HE.out]; rfl, rfl⟩
theorem refSum_any (s : ByteArray) (w : World) (hz : s.size ≤ 9223372036854775807) : Calls Tryd.prog 22 #[.string s] w fun e w' => e = .returned (.int .u32 (crN s.data.toList : Nat)) ∧ Below w.heap.size w w' := by
  have hb : Below w.heap.size w (w.alloc (.cells #[.string s] 9)) := (Below.refl _ _).alloc (Nat.le_refl _) _
  have hs := sees_one (w := w.alloc (.cells #[.string s] 9)) (p := s) w.heap.size (by simp) (by simp)
  have hc := ref_checksum _ [s] _ _ hs (by simpa using hz)
  have HC : Hid (∀ _ : Unit, _) := fun _ => hc
  have HB : Hid _ := hb
  have HE : Hid (crN (joinS [s]) = crN s.data.toList) := by show _ = _; simp [joinS]
  clear hs hc hb
  go_enter Tryd.func22, Tryd.ntmps22
  go_wp2_with fail
  refine (HC.out ()).mono ?_
  rintro e w1 ⟨rfl, rfl⟩
  go_wp2
  go_ret
  exact ⟨by rw [HE.out]; rfl, HB.out⟩
end Go.Proofs.YtlnpeicflofkjaaDoor
