import Derived.Test.YtfabgoanammaiaaReads2
import Derived.Test.YtfabgoanammaiaaKeys7
namespace Go.Proofs.Ytfabgoanammaiaa
open Go.ChangeShapes Go.WideShapes Go.ChangeAt Go.RowKit
set_option linter.unusedVariables false

theorem took_e {R : Nat} {s : ByteArray} {p n : Nat} {w w' : World} {c c' : Int} (h : c = c') (hc : c' ≠ 0) (hb : Fr R w w') (v : Value) : Took R s p w v n c (oops c') w' := ⟨hb, .inr ⟨by rw [h]; exact hc, by rw [h]⟩⟩
theorem took_v {R : Nat} {s : ByteArray} {p n : Nat} {w w' : World} {c : Int} {v v' : Value} (h : c = 0) (hv : v' = v) (hb : Fr R w w') (hr : Rd w' R s (p + n)) : Took R s p w v n c (.returned v') w' := ⟨hb, .inl ⟨h, by rw [hv], hr⟩⟩
/-- The worth of n bytes from p on, the highest first, each with the bits of t turned. -/
def magV (s : ByteArray) (p t : Nat) : Nat → Nat
  | 0 => 0
  | n + 1 => magV s p t n * 256 + ((if h : p + n < s.size then s[p + n].toNat else 0) ^^^ t)
theorem magV_succ (s : ByteArray) (p t n : Nat) (h : p + n < s.size) : magV s p t (n + 1) = magV s p t n * 256 + (s[p + n].toNat ^^^ t) := by simp [magV, h]
theorem magV_lt (s : ByteArray) (p t : Nat) (ht : t < 256) : ∀ n, magV s p t n < 256 ^ n
  | 0 => by simp [magV]
  | n + 1 => by
    have ih := magV_lt s p t ht n
    unfold magV
    have hb : ((if h : p + n < s.size then s[p + n].toNat else 0) ^^^ t) < 256 := by
      refine Nat.xor_lt_two_pow (n := 8) ?_ ht
      split
      · exact s[p + n].toNat_lt
      · omega
    rw [Nat.pow_succ]
    omega
/-- The error of such a number. -/
def magE (s : ByteArray) (p t n : Nat) : Int := if s.size < p + n then 11 else if szB (magV s p t n) < n then 13 else if 9223372036854775808 ≤ magV s p t n then 10 else 0
theorem or_low (A b : Nat) (hb : b < 256) (ha : A * 256 < 18446744073709551616) : bits .or .u64 ((A * 256 : Nat) : Int) ((b : Nat) : Int) = ((A * 256 + b : Nat) : Int) := by
  rw [u64_or_nat _ _ ha (by omega), nat_join 8 (A * 256) b (by omega) (by omega)]
set_option maxRecDepth 100000 in
set_option maxHeartbeats 1600000 in
theorem mag_read (R : Nat) (s : ByteArray) (p n t : Nat) (w : World) (h : Rd w R s p) (hp : p ≤ s.size) (hn : n ≤ 8) (ht : t < 256) (hs : s.size ≤ 1125899906842624) :
    Calls Try.prog 70 #[.pointer (some ⟨R, 0, none⟩), .int .i64 n, .int .u8 t] w (Took R s p w (.int .u64 (magV s p t n : Nat)) n (magE s p t n)) := by
  by_cases hl : s.size < p + n
  · have HE : Hid (magE s p t n = 11) := by show _ = _; unfold magE; rw [if_pos hl]
    go_enter Try.func70, Try.ntmps70
    go_wp2_with fail
    refine (next_short R s p n w h hp hs (by omega)).mono ?_
    rintro e w1 ⟨rfl, hb⟩
    exact ⟨rfl, took_e HE.out (by decide) hb _⟩
  · go_enter Try.func70, Try.ntmps70
    go_wp2_with fail
    refine (next_some R s p n w h hs (by omega)).mono ?_
    rintro e w1 ⟨rfl, hr, hb⟩
    have HR : Hid (Rd w1 R s (p + n)) := hr
    have HB : Hid (Fr R w w1) := hb
    have HG : Hid (∀ i (hi : i < n) (hz : i < (s.extract p (p + n)).size) (hz2 : p + i < s.size), (s.extract p (p + n))[i]'hz = s[p + i]) := fun i hi hz hz2 => ext_get s p n i (by omega) hi hz hz2
    have hes := ext_size s p n (by omega)
    clear hr hb h
    generalize s.extract p (p + n) = x at *
    go_wp2
    go_loop [8, 14] (fun u i => ∃ k : Nat, k ≤ n ∧ i = .int .i64 k ∧ u = .int .u64 (magV s p t k : Nat)) (fun _ i => n - (intOf i).toNat)
    case atStart => exact ⟨0, by omega, rfl, rfl⟩
    case round =>
      obtain ⟨k, hk, rfl, rfl⟩ := hrel
      have hv := magV_lt s p t ht k
      by_cases h1 : k < n
      · have HS : Hid (magV s p t (k + 1) = magV s p t k * 256 + (s[p + k].toNat ^^^ t)) := magV_succ s p t k (by omega)
        have hxe := HG.out k h1 (by omega) (by omega)
        have h7 : (256 : Nat) ^ k ≤ 256 ^ 7 := Nat.pow_le_pow_right (by omega) (by omega)
        have h77 : (256 : Nat) ^ 7 = 72057594037927936 := by decide
        generalize magV s p t k = A at *
        have hkx : k < x.size := by omega
        have hb := s[p + k].toNat_lt
        have hx1 : bits .xor .u8 ((s[p + k].toNat : Nat) : Int) (t : Int) = ((s[p + k].toNat ^^^ t : Nat) : Int) := u8_xor_nat _ _ (by omega) ht
        have hxb : s[p + k].toNat ^^^ t < 256 := Nat.xor_lt_two_pow (n := 8) (by omega) ht
        generalize s[p + k].toNat ^^^ t = y at *
        have hw : IntKind.u64.wrap ((A : Int) * 256) = (A : Int) * 256 := by rw [IntKind.wrap_u64]; omega
        have hwy : IntKind.u64.wrap (y : Int) = (y : Int) := by rw [IntKind.wrap_u64]; omega
        have hor : bits .or .u64 ((A : Int) * 256) (y : Int) = ((A * 256 + y : Nat) : Int) := by have := or_low A y hxb (by omega); rw [show ((A * 256 : Nat) : Int) = (A : Int) * 256 by omega] at this; exact this
        go_wp2
        go_round
        case rel => exact ⟨k + 1, by omega, by go_num, by rw [HS.out]; go_num⟩
        case measure => simp [intOf]; omega
      · have e : k = n := by omega
        subst e
        have h8 : (256 : Nat) ^ k ≤ 256 ^ 8 := Nat.pow_le_pow_right (by omega) (by omega)
        have h88 : (256 : Nat) ^ 8 = 18446744073709551616 := by decide
        have HE : Hid (magE s p t k = if szB (magV s p t k) < k then 13 else if 9223372036854775808 ≤ magV s p t k then 10 else 0) := by show _ = _; unfold magE; rw [if_neg (by omega)]
        generalize magV s p t k = A at *
        have hu : A < 18446744073709551616 := by omega
        clear HG h8 h88 hv
        by_cases hc : szB A < k
        · rw [if_pos hc] at HE
          have hc1 : ((szB A : Nat) : Int) < (k : Int) := by omega
          go_wp2_with (go_at_call 67; refine (bytes_any A _ hu).mono ?_; rintro e w' ⟨rfl, rfl⟩)
          exact ⟨rfl, took_e HE.out (by decide) HB.out _⟩
        · rw [if_neg hc] at HE
          have hc1 : ¬ (((szB A : Nat) : Int) < (k : Int)) := by omega
          by_cases hr : 9223372036854775808 ≤ A
          · rw [if_pos hr] at HE
            have hr1 : (9223372036854775808 : Int) ≤ (A : Int) := by omega
            go_wp2_with (go_at_call 67; refine (bytes_any A _ hu).mono ?_; rintro e w' ⟨rfl, rfl⟩)
            exact ⟨rfl, took_e HE.out (by decide) HB.out _⟩
          · rw [if_neg hr] at HE
            have hr1 : (A : Int) < 9223372036854775808 := by omega
            clear hr
            go_wp2_with fail
            refine (bytes_any A _ hu).mono ?_
            rintro e w' ⟨rfl, rfl⟩
            have HE2 : Hid (magE s p t k = 0) := HE.out
            clear HE hu hc
            generalize ((szB A : Nat) : Int) = sz at *
            generalize (A : Int) = z at *
            go_wp2
            go_ret
            exact took_v HE2.out rfl HB.out HR.out
end Go.Proofs.Ytfabgoanammaiaa
