import Derived.Test.YtbkaahmkaphfoabReads6
namespace Go.Proofs.Ytbkaahmkaphfoab
open Go.ChangeShapes Go.WideShapes Go.ChangeAt Go.RowKit
set_option linter.unusedVariables false

def rT (s : ByteArray) (at_ : Int) (m : Nat) : ByteArray × Int × Int := rd3 s at_ ByteArray.empty (fun p => rbV s p m)
set_option maxRecDepth 100000 in
set_option maxHeartbeats 800000 in
theorem ref_text (s : ByteArray) (at_ : Int) (m : Nat) (w : World) (hm : m ≤ 1048576) (hs : s.size ≤ 1125899906842624) :
    Calls Try.prog 51 #[.string s, .int .i64 at_, .int .u64 m] w fun e w' => e = .returned (.tuple #[.string (rT s at_ m).1, .int .i64 (rT s at_ m).2.1, .int .i64 (rT s at_ m).2.2]) ∧ w' = w := by
  by_cases hin : 0 ≤ at_ ∧ at_ ≤ (s.size : Int)
  · obtain ⟨p, rfl⟩ := Int.eq_ofNat_of_zero_le hin.1
    have hp : p ≤ s.size := by omega
    have hb := ruV_bound s p
    by_cases hc : (ruV s p).2.2 = 0
    · have hv : ruV s p = ((ruV s p).1, (ruV s p).2.1, 0) := by rw [← hc]
      have HU : Hid (rU s p = (((ruV s p).1 : Int), (p : Int) + (ruV s p).2.1, 0)) := rU_ok hp hv
      have hle := hb.2.2.2.2 hc
      have hrb : rbV s p m = if m < (ruV s p).1 then (ByteArray.empty, 0, 4) else if p + (ruV s p).2.1 + (ruV s p).1 ≤ s.size then (s.extract (p + (ruV s p).2.1) (p + (ruV s p).2.1 + (ruV s p).1), (ruV s p).2.1 + (ruV s p).1, 0) else (ByteArray.empty, 0, 11) := by
        unfold rbV; rw [if_pos hc]
      have hu := hb.1
      clear hb hv hc
      generalize (ruV s p).1 = u at *
      generalize (ruV s p).2.1 = n at *
      by_cases c1 : m < u
      · have HE : Hid (rT s p m = (ByteArray.empty, (p : Int), 4)) := by
          rw [if_pos c1] at hrb
          have := rd3_err s p ByteArray.empty (fun p => rbV s p m) hp (by show (rbV s p m).2.2 ≠ 0; rw [hrb]; decide)
          show _ = _
          unfold rT; rw [this, hrb]
        clear hrb hin
        go_enter Try.func51, Try.ntmps51
        go_wp2_with fail
        refine (ref_uv s p w hs).mono ?_
        rintro e w1 ⟨rfl, rfl⟩
        rw [HU.out]
        go_wp2
        go_ret3
        exact ⟨tup3_s HE.out, rfl⟩
      · by_cases c2 : p + n + u ≤ s.size
        · have HE : Hid (rT s p m = (s.extract (p + n) (p + n + u), (p : Int) + ((n + u : Nat) : Int), 0)) := by
            rw [if_neg c1, if_pos c2] at hrb
            have := rd3_ok s p ByteArray.empty (fun p => rbV s p m) hp (by show (rbV s p m).2.2 = 0; rw [hrb])
            show _ = _
            unfold rT; rw [this, hrb]
          clear hrb hin
          go_enter Try.func51, Try.ntmps51
          go_wp2_with fail
          refine (ref_uv s p w hs).mono ?_
          rintro e w1 ⟨rfl, rfl⟩
          rw [HU.out]
          go_wp2
          go_ret3
          refine ⟨?_, rfl⟩
          rw [show ((p : Int) + ((n + u : Nat) : Int)) = (p : Int) + n + u from by omega] at HE
          exact tup3_s HE.out
        · have HE : Hid (rT s p m = (ByteArray.empty, (p : Int), 11)) := by
            rw [if_neg c1, if_neg c2] at hrb
            have := rd3_err s p ByteArray.empty (fun p => rbV s p m) hp (by show (rbV s p m).2.2 ≠ 0; rw [hrb]; decide)
            show _ = _
            unfold rT; rw [this, hrb]
          clear hrb hin
          go_enter Try.func51, Try.ntmps51
          go_wp2_with fail
          refine (ref_uv s p w hs).mono ?_
          rintro e w1 ⟨rfl, rfl⟩
          rw [HU.out]
          go_wp2
          go_ret3
          exact ⟨tup3_s HE.out, rfl⟩
    · have hrb : rbV s p m = (ByteArray.empty, 0, (ruV s p).2.2) := by unfold rbV; rw [if_neg hc]
      have HE : Hid (rT s p m = (ByteArray.empty, (p : Int), (ruV s p).2.2)) := by
        have := rd3_err s p ByteArray.empty (fun p => rbV s p m) hp (by show (rbV s p m).2.2 ≠ 0; rw [hrb]; exact hc)
        show _ = _
        unfold rT; rw [this, hrb]
      have HU : Hid (rU s p = (0, (p : Int), (ruV s p).2.2)) := by
        show _ = _
        unfold rU; rw [rd3_err s p 0 (tU s) hp (by unfold tU; exact hc)]; unfold tU; rfl
      have t1 : ((ruV s p).2.2 != 0) = true := by simpa using hc
      clear hrb hin hb hc
      go_enter Try.func51, Try.ntmps51
      go_wp2_with fail
      refine (ref_uv s p w hs).mono ?_
      rintro e w1 ⟨rfl, rfl⟩
      rw [HU.out]
      go_wp2
      go_ret3
      exact ⟨tup3_s HE.out, rfl⟩
  · have HE : Hid (rT s at_ m = (ByteArray.empty, at_, 10)) := rd3_out s at_ ByteArray.empty (fun p => rbV s p m) hin
    have HU : Hid (rU s at_ = (0, at_, 10)) := rd3_out s at_ (0 : Int) (tU s) hin
    clear hin
    go_enter Try.func51, Try.ntmps51
    go_wp2_with fail
    refine (ref_uv s at_ w hs).mono ?_
    rintro e w1 ⟨rfl, rfl⟩
    rw [HU.out]
    go_wp2
    go_ret3
    exact ⟨tup3_s HE.out, rfl⟩
theorem rB_is (s : ByteArray) (at_ : Int) : rB s at_ = rT s at_ 1048576 := rfl
set_option maxRecDepth 100000 in
theorem ref_blob_read (s : ByteArray) (at_ : Int) (w : World) (hs : s.size ≤ 1125899906842624) :
    Calls Try.prog 20 #[.string s, .int .i64 at_] w fun e w' => e = .returned (.tuple #[.string (rB s at_).1, .int .i64 (rB s at_).2.1, .int .i64 (rB s at_).2.2]) ∧ w' = w := by
  rw [rB_is]
  go_enter Try.func20, Try.ntmps20
  go_wp2_with fail
  refine (ref_text s at_ 1048576 w (by omega) hs).mono ?_
  rintro e w1 ⟨rfl, rfl⟩
  go_wp2
  go_ret3
  exact ⟨rfl, rfl⟩
end Go.Proofs.Ytbkaahmkaphfoab
