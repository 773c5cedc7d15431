import Derived.Test.YtbfjnidpjmhfiaaGreatDoorCrc3
import Derived.Deep.QuietTactic
import Derived.BigQuiet
namespace Go.Proofs.YtbfjnidpjmhfiaaGreatDoor
open Go.ChangeShapes Go.WideShapes Go.ChangeAt Go.RowKit Go.MuLone
set_option linter.unusedVariables false

theorem low_byte (r : Nat) : r ^^^ (256 * (r / 256)) = r % 256 := by
  have h1 : (r ^^^ (256 * (r / 256))) / 256 = (r / 256) ^^^ (256 * (r / 256) / 256) := Nat.xor_div_two_pow (n := 8)
  have h2 : (r ^^^ (256 * (r / 256))) % 256 = (r % 256) ^^^ (256 * (r / 256) % 256) := Nat.xor_mod_two_pow (n := 8)
  rw [Nat.mul_div_cancel_left _ (by omega), Nat.xor_self] at h1
  rw [Nat.mul_mod_right, Nat.xor_zero] at h2
  omega
theorem mN_high (q : Nat) : mN (256 * q) = q := by
  have h0 : crT_of 0 = 0 := by decide
  have e1 : hN (256 * q) = 16 * q := by
    unfold hN
    rw [show 256 * q % 16 = 0 by omega, h0, Nat.zero_xor]
    omega
  unfold mN
  rw [e1]
  unfold hN
  rw [show 16 * q % 16 = 0 by omega, h0, Nat.zero_xor]
  omega
theorem mN_split (r c : Nat) : mN (r ^^^ c) = mN ((r % 256) ^^^ c) ^^^ (r / 256) := by
  have e : (r % 256) ^^^ c = (r ^^^ c) ^^^ (256 * (r / 256)) := by
    rw [← low_byte r, Nat.xor_assoc, Nat.xor_assoc, Nat.xor_comm c]
  rw [e, mN_lin (r ^^^ c), mN_high, Nat.xor_assoc, Nat.xor_self, Nat.xor_zero]
theorem ovN_take (r : Nat) (s : ByteArray) (k : Nat) (h : k < s.size) : ovN r (s.data.toList.take (k + 1)) = mN (ovN r (s.data.toList.take k) ^^^ s[k].toNat) := by
  have : s.data.toList.take (k + 1) = s.data.toList.take k ++ [s[k]] := by
    have hl : k < s.data.toList.length := by simpa using h
    rw [List.take_succ_eq_append_getElem hl]
    rfl
  rw [this, ovN_app]
  rfl
theorem all_taken (s : ByteArray) (k : Nat) (h : s.size ≤ k) : s.data.toList.take k = s.data.toList := List.take_of_length_le (by simpa using h)
theorem below_drewNc {B : Nat} {w : World} (n : Nat) : Below B w (w.drewN n) := by
  induction n generalizing w with
  | zero => exact Below.refl _ _
  | succ n ih => exact (ih (w := w)).drew
theorem Wide.drewN {w : World} {b : Nat} (h : Wide w b) (n : Nat) : Wide (w.drewN n) b := by
  induction n with
  | zero => exact h
  | succ n ih => exact ih
def SumAt (w : World) (b : Nat) : Prop := Fresh w b ∨ Wide w b
set_option maxRecDepth 100000 in
set_option maxHeartbeats 1600000 in
theorem over_any (b B : Nat) (w : World) (s : ByteArray) (r : Nat) (hz : s.size ≤ 9223372036854775807) (hr : r < 4294967296) (hb : B ≤ b) (hT : HalfAt w) (hg : 0 < B) (hS : SumAt w b) :
    Calls Tryz.prog 74 #[.pointer (some ⟨b, 0, none⟩), .int .u32 (r : Int), .string s] w fun e w' => e = .returned (.int .u32 (ovN r s.data.toList : Nat)) ∧ SumAt w' b ∧ Below B w w' := by
  have HT : Hid (HalfAt w) := hT
  have HS : Hid (SumAt w b) := hS
  clear hT hS
  by_cases hlong : s.size < 1024
  · have h1 : (s.size : Int) < 1024 := by omega
    go_enter Tryz.func74, Tryz.ntmps74
    go_wp2
    go_loop [1, 14] (fun c i => ∃ k : Nat, k ≤ s.size ∧ i = .int .i64 k ∧ c = .int .u32 (ovN r (s.data.toList.take k) : Nat)) (fun _ i => s.size - (intOf i).toNat)
    case atStart => exact ⟨0, by omega, rfl, rfl⟩
    case round =>
      obtain ⟨k, hk, rfl, rfl⟩ := hrel
      have hq := ovN_lt (s.data.toList.take k) r hr
      by_cases h2 : k < s.size
      · have HN : Hid (ovN r (s.data.toList.take (k + 1)) = mN (ovN r (s.data.toList.take k) ^^^ s[k].toNat)) := ovN_take r s k h2
        generalize ovN r (s.data.toList.take k) = q at *
        have hc := s[k].toNat_lt
        have hx : bits .xor .u32 (q : Int) ((s[k].toNat : Nat) : Int) = ((q ^^^ s[k].toNat : Nat) : Int) := u32_xor_nat _ _ hq (by omega)
        have hz2 : IntKind.u32.wrap ((s[k].toNat : Nat) : Int) = ((s[k].toNat : Nat) : Int) := by rw [IntKind.wrap_u32']; omega
        have HX : Hid (q ^^^ s[k].toNat < 4294967296) := Nat.xor_lt_two_pow (n := 32) hq (by omega)
        go_wp2_with (go_at_call 90; refine (moveByte_any (q ^^^ s[k].toNat) w HX.out HT.out).mono ?_; rintro e w' ⟨rfl, rfl⟩)
        go_round
        case rel => exact ⟨k + 1, by omega, by go_num, by rw [HN.out]⟩
        case measure => simp [intOf]; omega
      · have HE : Hid (s.data.toList.take k = s.data.toList) := all_taken s k (by omega)
        go_wp2
        go_ret
        exact ⟨by rw [HE.out]; rfl, HS.out, Below.refl _ _⟩
  · have h1 : ¬ ((s.size : Int) < 1024) := by omega
    have HD : Hid (∀ W, W = w → Calls Tryz.prog 91 #[.pointer (some ⟨b, 0, none⟩), .func (.func 92) #[.pointer (some ⟨b, 0, none⟩)] #[]] W fun e w' => e = .returned (.tuple #[]) ∧ Wide w' b ∧ Below B w w') := by
      rintro W rfl
      rcases HS.out with h | h
      · exact do_first b B W hb HT.out hg h
      · exact (do_done b _ W h).mono fun e w' ⟨he, hw⟩ => ⟨he, by rw [hw]; exact h, by rw [hw]; exact Below.refl _ _⟩
    go_enter Tryz.func74, Tryz.ntmps74
    go_wp2_with fail
    refine (HD.out _ rfl).mono ?_
    rintro e w1 ⟨rfl, hW, hB⟩
    have HW : Hid (Wide w1 b) := hW
    have HB : Hid (Below B w w1) := hB
    clear hW hB HD HS HT
    go_wp2
    go_loopw [1, 34] (fun c i wr => ∃ k : Nat, k ≤ s.size ∧ i = .int .i64 k ∧ c = .int .u32 (ovN r (s.data.toList.take k) : Nat) ∧ Wide wr b ∧ Below B w wr) (fun _ i _ => s.size - (intOf i).toNat)
    case atStart => exact ⟨0, by omega, rfl, rfl, HW.out, HB.out⟩
    case round =>
      obtain ⟨k, hk, rfl, rfl, hW2, hB2⟩ := hrel
      have HW2 : Hid (Wide wr b) := hW2
      have HB2 : Hid (Below B w wr) := hB2
      clear hW2 hB2
      have hq := ovN_lt (s.data.toList.take k) r hr
      by_cases h2 : k < s.size
      · have HN : Hid (ovN r (s.data.toList.take (k + 1)) = mN (ovN r (s.data.toList.take k) ^^^ s[k].toNat)) := ovN_take r s k h2
        generalize ovN r (s.data.toList.take k) = q at *
        have hc := s[k].toNat_lt
        have hc2 : ((s[k].toNat : Nat) : Int) < 256 := by omega
        have hx : bits .xor .u8 ((q : Int) % 256) ((s[k].toNat : Nat) : Int) = ((q % 256 ^^^ s[k].toNat : Nat) : Int) := by rw [show (q : Int) % 256 = ((q % 256 : Nat) : Int) by omega]; exact u8_xor_nat _ _ (by omega) (by omega)
        have hi : q % 256 ^^^ s[k].toNat < 256 := Nat.xor_lt_two_pow (n := 8) (by omega) (by omega)
        have hcell : wr.cell? ⟨b, 3 + (q % 256 ^^^ s[k].toNat), none⟩ = some (.int .u32 (mN (q % 256 ^^^ s[k].toNat) : Nat)) := HW2.out.2.2.1 _ hi
        have hy : bits .xor .u32 ((mN (q % 256 ^^^ s[k].toNat) : Nat) : Int) ((q : Int) / 256) = ((mN (q ^^^ s[k].toNat) : Nat) : Int) := by
          rw [mN_split q s[k].toNat, show ((q : Int) / 256) = ((q / 256 : Nat) : Int) by omega]
          exact u32_xor_nat _ _ (mN_lt _ (by omega)) (by omega)
        generalize q % 256 ^^^ s[k].toNat = ix at *
        have hi2 : (ix : Int) < 256 := by omega
        go_wp2_with fail
        go_quiet (fail)
        go_wp2
        go_roundw
        case rel => exact ⟨k + 1, by omega, by go_num, by rw [HN.out], HW2.out.drewN _, HB2.out.trans (below_drewNc _)⟩
        case measure => simp [intOf]; omega
      · have HE : Hid (s.data.toList.take k = s.data.toList) := all_taken s k (by omega)
        go_wp2
        go_ret
        exact ⟨by rw [HE.out]; rfl, .inr HW2.out, HB2.out⟩
end Go.Proofs.YtbfjnidpjmhfiaaGreatDoor
