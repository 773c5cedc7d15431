import Derived.Test.YtbkaahmkaphfoabReads5
namespace Go.Proofs.Ytbkaahmkaphfoab
open Go.ChangeShapes Go.WideShapes Go.ChangeAt Go.RowKit
set_option linter.unusedVariables false

theorem fx_horn {s : ByteArray} {p A j T : Nat} (h : A * 256 ^ (j + 1) + fxV s p (j + 1) = T) (hl : p + j < s.size) : (A * 256 + s[p + j].toNat) * 256 ^ j + fxV s p j = T := by
  rw [fxV_succ s p j hl, Nat.pow_succ] at h
  rw [Nat.add_mul, Nat.mul_assoc, Nat.mul_comm 256, ← h]
  omega
theorem fx_bound {s : ByteArray} {p B j T : Nat} (h : B * 256 ^ j + fxV s p j = T) (ht : T < 18446744073709551616) : B < 18446744073709551616 := by
  have : B * 1 ≤ B * 256 ^ j := Nat.mul_le_mul (Nat.le_refl _) (Nat.pow_pos (by omega))
  omega
def rN (s : ByteArray) (at_ : Int) (n : Nat) : Int × Int × Int := rd3 s at_ (0 : Int) (fun p => ((fxV s p n : Int), n, fxE s p n))
set_option maxRecDepth 100000 in
set_option maxHeartbeats 800000 in
theorem ref_fx (s : ByteArray) (at_ : Int) (n : Nat) (w : World) (hn : n ≤ 8) (hs : s.size ≤ 1125899906842624) :
    Calls Try.prog 49 #[.string s, .int .i64 at_, .int .i64 n] w fun e w' => e = .returned (.tuple #[.int .u64 (rN s at_ n).1, .int .i64 (rN s at_ n).2.1, .int .i64 (rN s at_ n).2.2]) ∧ w' = w := by
  by_cases hin : 0 ≤ at_ ∧ at_ ≤ (s.size : Int)
  · obtain ⟨p, rfl⟩ := Int.eq_ofNat_of_zero_le hin.1
    have hd : decide (0 ≤ (p : Int) ∧ (p : Int) ≤ (s.size : Int)) = true := by simp; omega
    have hp : p ≤ s.size := by omega
    by_cases hsz : p + n ≤ s.size
    · have HE : Hid (rN s p n = ((fxV s p n : Int), (p : Int) + n, 0)) := rd3_ok s p (0 : Int) _ hp (by unfold fxE; rw [if_pos hsz])
      go_enter Try.func49, Try.ntmps49
      go_wp2_with fail
      refine (within_any s p w).mono ?_
      rintro e w1 ⟨rfl, rfl⟩
      rw [hd]
      clear hin hd
      go_wp2_with fail
      have HT : Hid (fxV s p n < 18446744073709551616) := by
        show _ < _
        have h1 := fxV_lt s p n
        have h2 : (256 : Nat) ^ n ≤ 256 ^ 8 := Nat.pow_le_pow_right (by omega) hn
        have h3 : (256 : Nat) ^ 8 = 18446744073709551616 := by decide
        omega
      go_loop [9, 10] (fun v i => ∃ (k A : Nat), k ≤ n ∧ i = .int .i64 ((k : Int) - 1) ∧ v = .int .u64 (A : Int) ∧ A * 256 ^ k + fxV s p k = fxV s p n) (fun _ i => (intOf i + 1).toNat)
      case atStart => exact ⟨n, 0, by omega, by go_num, rfl, by simp⟩
      case round =>
        obtain ⟨k, A, hk, rfl, rfl, hA⟩ := hrel
        have HK : Hid (A * 256 ^ k + fxV s p k = fxV s p n) := hA
        clear hA
        rcases Nat.eq_zero_or_pos k with rfl | hpos
        · have hfin : A = fxV s p n := by simpa [fxV] using HK.out
          have HF : Hid (A = fxV s p n) := hfin
          clear hfin
          go_wp2
          go_ret3
          exact ⟨tup3_u (by rw [HE.out, HF.out]), rfl⟩
        · obtain ⟨j, rfl⟩ : ∃ j, k = j + 1 := ⟨k - 1, by omega⟩
          rw [show ((j + 1 : Nat) : Int) - 1 = (j : Int) from by omega]
          have hl : p + j < s.size := by omega
          have HS : Hid ((A * 256 + s[p + j].toNat) * 256 ^ j + fxV s p j = fxV s p n) := fx_horn HK.out hl
          have hbd : A * 256 + s[p + j].toNat < 18446744073709551616 := fx_bound HS.out HT.out
          go_wp2
          go_round
          case rel => exact ⟨j, A * 256 + s[p + j].toNat, by omega, by go_num, by go_num, HS.out⟩
          case measure => simp [intOf]
    · have HE : Hid (rN s p n = (0, (p : Int), 11)) := by
        have := rd3_err s p (0 : Int) (fun p => ((fxV s p n : Int), n, fxE s p n)) hp (by show fxE s p n ≠ 0; unfold fxE; rw [if_neg hsz]; decide)
        unfold fxE at this; simp only [if_neg hsz] at this
        unfold rN fxE; exact this
      go_enter Try.func49, Try.ntmps49
      go_wp2_with fail
      refine (within_any s p w).mono ?_
      rintro e w1 ⟨rfl, rfl⟩
      rw [hd]
      clear hin hd
      go_wp2
      go_ret3
      exact ⟨tup3_u HE.out, rfl⟩
  · have HE : Hid (rN s at_ n = _) := rd3_out s at_ (0 : Int) (fun p => ((fxV s p n : Int), n, fxE s p n)) hin
    have hd : decide (0 ≤ at_ ∧ at_ ≤ (s.size : Int)) = false := decide_eq_false hin
    go_enter Try.func49, Try.ntmps49
    go_wp2_with fail
    refine (within_any s at_ w).mono ?_
    rintro e w1 ⟨rfl, rfl⟩
    rw [hd]
    clear hin hd
    go_wp2
    go_ret3
    exact ⟨tup3_u HE.out, rfl⟩
theorem rN_bound (s : ByteArray) (at_ : Int) (n : Nat) : 0 ≤ (rN s at_ n).1 ∧ (rN s at_ n).1 < (256 ^ n : Nat) := by
  unfold rN rd3
  have := fxV_lt s at_.toNat n
  have h0 : 0 < 256 ^ n := Nat.pow_pos (by omega)
  split
  · split
    · simp only []; omega
    · simp only []; omega
  · simp only []; omega
theorem rX_is (s : ByteArray) (at_ : Int) : rX s at_ = rN s at_ 8 := rfl
theorem rF_is (s : ByteArray) (at_ : Int) : rF s at_ = rN s at_ 4 := rfl
set_option maxRecDepth 100000 in
theorem ref_f64 (s : ByteArray) (at_ : Int) (w : World) (hs : s.size ≤ 1125899906842624) :
    Calls Try.prog 19 #[.string s, .int .i64 at_] w fun e w' => e = .returned (.tuple #[.int .u64 (rX s at_).1, .int .i64 (rX s at_).2.1, .int .i64 (rX s at_).2.2]) ∧ w' = w := by
  rw [rX_is]
  go_enter Try.func19, Try.ntmps19
  go_wp2_with fail
  refine (ref_fx s at_ 8 w (by omega) hs).mono ?_
  rintro e w1 ⟨rfl, rfl⟩
  go_wp2
  go_ret3
  exact ⟨rfl, rfl⟩
set_option maxRecDepth 100000 in
theorem ref_f32 (s : ByteArray) (at_ : Int) (w : World) (hs : s.size ≤ 1125899906842624) :
    Calls Try.prog 17 #[.string s, .int .i64 at_] w fun e w' => e = .returned (.tuple #[.int .u32 (rF s at_).1, .int .i64 (rF s at_).2.1, .int .i64 (rF s at_).2.2]) ∧ w' = w := by
  rw [rF_is]
  have hb := rN_bound s at_ 4
  have hm : (rN s at_ 4).1 % 4294967296 = (rN s at_ 4).1 := by omega
  go_enter Try.func17, Try.ntmps17
  go_wp2_with fail
  refine (ref_fx s at_ 4 w (by omega) hs).mono ?_
  rintro e w1 ⟨rfl, rfl⟩
  go_wp2
  go_ret3
  exact ⟨rfl, rfl⟩
end Go.Proofs.Ytbkaahmkaphfoab
