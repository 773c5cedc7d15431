import Derived.Test.YtbkaahmkaphfoabReads4
namespace Go.Proofs.Ytbkaahmkaphfoab
open Go.ChangeShapes Go.WideShapes Go.ChangeAt Go.RowKit
set_option linter.unusedVariables false

set_option maxRecDepth 100000 in
theorem ref_uv_out (s : ByteArray) (at_ : Int) (w : World) (hin : ¬ (0 ≤ at_ ∧ at_ ≤ (s.size : Int))) :
    Calls Try.prog 13 #[.string s, .int .i64 at_] w fun e w' => e = .returned (.tuple #[.int .u64 (rU s at_).1, .int .i64 (rU s at_).2.1, .int .i64 (rU s at_).2.2]) ∧ w' = w := by
  have HE : Hid _ := rd3_out s at_ (0 : Int) (tU s) hin
  have hd : decide (0 ≤ at_ ∧ at_ ≤ (s.size : Int)) = false := decide_eq_false hin
  go_enter Try.func13, Try.ntmps13
  go_wp2_with fail
  refine (within_any s at_ w).mono ?_
  rintro e w1 ⟨rfl, rfl⟩
  rw [hd]
  clear hin hd
  go_wp2
  go_ret3
  exact ⟨tup3_u HE.out, rfl⟩
theorem ref_uv (s : ByteArray) (at_ : Int) (w : World) (hs : s.size ≤ 1125899906842624) :
    Calls Try.prog 13 #[.string s, .int .i64 at_] w fun e w' => e = .returned (.tuple #[.int .u64 (rU s at_).1, .int .i64 (rU s at_).2.1, .int .i64 (rU s at_).2.2]) ∧ w' = w := by
  by_cases hin : 0 ≤ at_ ∧ at_ ≤ (s.size : Int)
  · obtain ⟨p, rfl⟩ := Int.eq_ofNat_of_zero_le hin.1
    exact ref_uv_in s p w (by omega) hs
  · exact ref_uv_out s at_ w hin
theorem rU_bounds (s : ByteArray) (at_ : Int) : 0 ≤ (rU s at_).1 ∧ (rU s at_).1 ≤ 18446744073709551615 ∧ 0 ≤ (rU s at_).2.2 ∧ (rU s at_).2.2 ≤ 19 := by
  unfold rU rd3
  have := ruV_bound s at_.toNat
  split
  · split
    · unfold tU; simp only []; omega
    · unfold tU; simp only []; omega
  · simp
/-- rS by rU. -/
theorem rS_of (s : ByteArray) (at_ : Int) : rS s at_ = if (rU s at_).2.2 = 0 then (sdec (rU s at_).1.toNat, (rU s at_).2.1, 0) else (0, at_, (rU s at_).2.2) := by
  unfold rS rU rd3
  by_cases h : 0 ≤ at_ ∧ at_ ≤ (s.size : Int)
  · rw [if_pos h, if_pos h]
    by_cases hc : (ruV s at_.toNat).2.2 = 0
    · simp [tS, tU, hc]
    · simp [tS, tU, hc]
  · rw [if_neg h, if_neg h]; simp
theorem sdec_even (u : Nat) (h : u % 2 = 0) : sdec u = ((u / 2 : Nat) : Int) := by unfold sdec; rw [if_pos h]
theorem sdec_odd (u : Nat) (h : ¬ u % 2 = 0) : sdec u = -1 - ((u / 2 : Nat) : Int) := by unfold sdec; rw [if_neg h]
set_option maxRecDepth 100000 in
set_option maxHeartbeats 800000 in
theorem ref_sv (s : ByteArray) (at_ : Int) (w : World) (hs : s.size ≤ 1125899906842624) :
    Calls Try.prog 15 #[.string s, .int .i64 at_] w fun e w' => e = .returned (.tuple #[.int .i64 (rS s at_).1, .int .i64 (rS s at_).2.1, .int .i64 (rS s at_).2.2]) ∧ w' = w := by
  have hb := rU_bounds s at_
  have HR : Hid _ := rS_of s at_
  obtain ⟨u, hu⟩ := Int.eq_ofNat_of_zero_le hb.1
  have HU : Hid ((rU s at_).1 = (u : Int)) := hu
  have hub : u ≤ 18446744073709551615 := by omega
  by_cases hc : (rU s at_).2.2 = 0
  · have HC : Hid ((rU s at_).2.2 = 0) := hc
    by_cases he : u % 2 = 0
    · have HE : Hid (rS s at_ = ((u : Int) / 2, (rU s at_).2.1, 0)) := by
        show _ = _
        rw [HR.out, if_pos HC.out, HU.out, Int.toNat_natCast, sdec_even u he]; congr 1
      clear hb hu hc HR
      go_enter Try.func15, Try.ntmps15
      go_wp2_with fail
      refine (ref_uv s at_ w hs).mono ?_
      rintro e w1 ⟨rfl, rfl⟩
      rw [HU.out, HC.out]
      have t1 : ((u : Int) % 2 == 0) = true := by simp; omega
      clear he
      go_wp2
      go_ret3
      exact ⟨tup3_u HE.out, rfl⟩
    · have HE : Hid (rS s at_ = (-1 - (u : Int) / 2, (rU s at_).2.1, 0)) := by
        show _ = _
        rw [HR.out, if_pos HC.out, HU.out, Int.toNat_natCast, sdec_odd u he]; congr 1
      clear hb hu hc HR
      go_enter Try.func15, Try.ntmps15
      go_wp2_with fail
      refine (ref_uv s at_ w hs).mono ?_
      rintro e w1 ⟨rfl, rfl⟩
      rw [HU.out, HC.out]
      have t1 : ((u : Int) % 2 == 0) = false := by simp; omega
      clear he
      go_wp2
      go_ret3
      exact ⟨tup3_u HE.out, rfl⟩
  · have HE : Hid (rS s at_ = (0, at_, (rU s at_).2.2)) := by
      show _ = _
      rw [HR.out, if_neg hc]
    have t1 : ((rU s at_).2.2 != 0) = true := by simpa using hc
    clear hu hc HR
    go_enter Try.func15, Try.ntmps15
    go_wp2_with fail
    refine (ref_uv s at_ w hs).mono ?_
    rintro e w1 ⟨rfl, rfl⟩
    go_wp2
    go_ret3
    exact ⟨tup3_u HE.out, rfl⟩
end Go.Proofs.Ytbkaahmkaphfoab
