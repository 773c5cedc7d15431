import Derived.Test.YtlnpeicflofkjaaDoorFrmQ2
import Derived.Test.YtlnpeicflofkjaaDoorCrc6
namespace Go.Proofs.YtlnpeicflofkjaaDoor
open Go.ChangeShapes Go.WideShapes Go.ChangeAt Go.RowKit
set_option linter.unusedVariables false
set_option maxRecDepth 100000
/-- A reading that gives up. -/
def broke (c : Int) : Ending := .panicked [{ v := .iface 45 (.int .i64 c), recovered := false }]
theorem isTimeF (n : Int) (w : World) : Calls Tryd.prog 25 #[.int .u64 n] w fun e w' => e = .returned (.bool (decide (1 ≤ n ∧ n ≤ 4611686018427387903))) ∧ w' = w := by
  have HM : Hid (decide (1 ≤ n ∧ n ≤ 4611686018427387903) = (decide (1 ≤ n) && decide (n ≤ 4611686018427387903))) := by show _ = _; simp
  generalize decide (1 ≤ n ∧ n ≤ 4611686018427387903) = m at *
  by_cases h1 : 1 ≤ n
  · by_cases h2 : n ≤ 4611686018427387903
    · have HE : Hid (m = true) := by show _ = _; rw [HM.out]; simp [h1, h2]
      go_enter Tryd.func25, Tryd.ntmps25
      go_wp2
      go_ret
      exact ⟨by rw [HE.out]; rfl, rfl⟩
    · have HE : Hid (m = false) := by show _ = _; rw [HM.out]; simp [h2]
      go_enter Tryd.func25, Tryd.ntmps25
      go_wp2
      go_ret
      exact ⟨by rw [HE.out]; rfl, rfl⟩
  · have HE : Hid (m = false) := by show _ = _; rw [HM.out]; simp [h1]
    go_enter Tryd.func25, Tryd.ntmps25
    go_wp2
    go_ret
    exact ⟨by rw [HE.out]; rfl, rfl⟩
set_option maxHeartbeats 800000 in
theorem mayFrame_any (k l n : Int) (w : World) : Calls Tryd.prog 12 #[.int .i64 k, .int .u64 l, .int .i64 n] w fun e w' => e = .returned (.bool (mayFr k l n)) ∧ w' = w := by
  have HT : Hid (∀ W, Calls Tryd.prog 25 #[.int .u64 l] W fun e w' => e = .returned (.bool (decide (1 ≤ l ∧ l ≤ 4611686018427387903))) ∧ w' = W) := fun W => isTimeF l W
  have HM : Hid (mayFr k l n = (decide (1 ≤ l ∧ l ≤ 4611686018427387903) && (decide (k = 1 ∧ 1 ≤ n ∧ n ≤ 131072) || decide (k = 2 ∧ n = 8) || decide (k = 3 ∧ n = 0)))) := rfl
  generalize mayFr k l n = m at *
  by_cases hs : decide (1 ≤ l ∧ l ≤ 4611686018427387903) = true
  · rw [hs] at HT HM
    clear hs
    by_cases k1 : k = 1
    · subst k1
      by_cases n1 : 1 ≤ n
      · have HE : Hid (m = decide (n ≤ 131072)) := by show _ = _; rw [HM.out]; simp [n1]
        go_enter Tryd.func12, Tryd.ntmps12
        go_wp2_with fail
        refine (HT.out _).mono ?_
        rintro e w1 ⟨rfl, rfl⟩
        go_wp2
        go_ret
        exact ⟨by rw [HE.out]; rfl, rfl⟩
      · have HE : Hid (m = false) := by show _ = _; rw [HM.out]; simp [n1]
        go_enter Tryd.func12, Tryd.ntmps12
        go_wp2_with fail
        refine (HT.out _).mono ?_
        rintro e w1 ⟨rfl, rfl⟩
        go_wp2
        go_ret
        exact ⟨by rw [HE.out]; rfl, rfl⟩
    · have q1 : (k == 1) = false := by simpa using k1
      by_cases k2 : k = 2
      · subst k2
        have HE : Hid (m = (n == 8)) := by show _ = _; rw [HM.out, Bool.eq_iff_iff]; simp
        go_enter Tryd.func12, Tryd.ntmps12
        go_wp2_with fail
        refine (HT.out _).mono ?_
        rintro e w1 ⟨rfl, rfl⟩
        go_wp2
        go_ret
        exact ⟨by rw [HE.out]; rfl, rfl⟩
      · have q2 : (k == 2) = false := by simpa using k2
        by_cases k3 : k = 3
        · subst k3
          have HE : Hid (m = (n == 0)) := by show _ = _; rw [HM.out, Bool.eq_iff_iff]; simp
          go_enter Tryd.func12, Tryd.ntmps12
          go_wp2_with fail
          refine (HT.out _).mono ?_
          rintro e w1 ⟨rfl, rfl⟩
          go_wp2
          go_ret
          exact ⟨by rw [HE.out]; rfl, rfl⟩
        · have q3 : (k == 3) = false := by simpa using k3
          have HE : Hid (m = false) := by show _ = _; rw [HM.out]; simp [k1, k2, k3]
          clear k1 k2 k3
          go_enter Tryd.func12, Tryd.ntmps12
          go_wp2_with fail
          refine (HT.out _).mono ?_
          rintro e w1 ⟨rfl, rfl⟩
          go_wp2
          go_ret
          exact ⟨by rw [HE.out]; rfl, rfl⟩
  · have hs' : decide (1 ≤ l ∧ l ≤ 4611686018427387903) = false := by simpa using hs
    rw [hs'] at HT HM
    clear hs hs'
    have HE : Hid (m = false) := by show _ = _; rw [HM.out]; simp
    go_enter Tryd.func12, Tryd.ntmps12
    go_wp2_with fail
    refine (HT.out _).mono ?_
    rintro e w1 ⟨rfl, rfl⟩
    go_wp2
    go_ret
    exact ⟨by rw [HE.out]; rfl, rfl⟩
theorem giveUp_no (c : Int) (w : World) : Calls Tryd.prog 28 #[.bool false, .int .i64 c] w fun e w' => e = .returned (.tuple #[]) ∧ w' = w := by
  go_enter Tryd.func28, Tryd.ntmps28
  go_wp2
  go_end0
  exact ⟨rfl, rfl⟩
theorem giveUp_yes (c : Int) (w : World) : Calls Tryd.prog 28 #[.bool true, .int .i64 c] w fun e w' => e = broke c ∧ w' = w := by
  go_enter Tryd.func28, Tryd.ntmps28
  go_wp2
  exact ⟨rfl, rfl, rfl⟩
theorem sumOf_any (s : ByteArray) (w : World) (hz : s.size ≤ 9223372036854775807) (hT : HalfAt w) : Calls Tryd.prog 16 #[.string s] w fun e w' => e = .returned (.string (smB s)) ∧ Below w.heap.size w w' := by
  have HC : Hid (∀ _ : Unit, _) := fun _ => checksum_new s w hz hT
  have hc := crN_lt' s.data.toList
  have HM : Hid (smB s = strOfNums (fxB 4 (crN s.data.toList : Nat))) := rfl
  generalize smB s = S at *
  generalize crN s.data.toList = c at *
  clear hT
  go_enter Tryd.func16, Tryd.ntmps16
  go_wp2_with fail
  refine (HC.out ()).mono ?_
  rintro e w1 ⟨rfl, hb⟩
  have HB : Hid (Below w.heap.size w w1) := hb
  clear hb HC
  go_wp2_with fail
  refine (fixed32 c w1 (by omega) (by omega)).mono ?_
  rintro e w2 ⟨rfl, hb⟩
  have HB2 : Hid (Below w.heap.size w w2) := HB.out.trans (hb.mono HB.out.size)
  clear hb
  go_wp2
  go_ret
  exact ⟨by rw [HM.out]; rfl, HB2.out⟩
end Go.Proofs.YtlnpeicflofkjaaDoor
