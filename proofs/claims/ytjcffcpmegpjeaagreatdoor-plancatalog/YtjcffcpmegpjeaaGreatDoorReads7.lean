import Derived.Test.YtjcffcpmegpjeaaGreatDoorReads3
namespace Go.Proofs.YtjcffcpmegpjeaaGreatDoor
open Go.ChangeShapes Go.WideShapes Go.ChangeAt Go.RowKit
set_option linter.unusedVariables false
set_option maxRecDepth 100000

/-- The worth of the first n groups from p on. -/
def sumU (s : ByteArray) (p : Nat) : Nat → Nat
  | 0 => 0
  | n + 1 => sumU s p n + (if h : p + n < s.size then s[p + n].toNat % 128 else 0) * 128 ^ n
theorem sumU_succ (s : ByteArray) (p n : Nat) (h : p + n < s.size) : sumU s p (n + 1) = sumU s p n + s[p + n].toNat % 128 * 128 ^ n := by simp [sumU, h]
def allHi (s : ByteArray) (p n : Nat) : Prop := ∀ i, i < n → ∃ h : p + i < s.size, 128 ≤ s[p + i].toNat
theorem ru_run (s : ByteArray) (p : Nat) : ∀ n, n ≤ 9 → allHi s p n → ruV s p = ruF s p (10 - n) n (sumU s p n)
  | 0, _, _ => rfl
  | n + 1, hn, h => by
    obtain ⟨hl, hb⟩ := h n (by omega)
    rw [ru_run s p n (by omega) (fun i hi => h i (by omega)), show 10 - n = (9 - n) + 1 from by omega, ruF_more s p (9 - n) n _ hl (by omega) hb, sumU_succ s p n hl, show 10 - (n + 1) = 9 - n from by omega]
theorem ru_short (s : ByteArray) (p n : Nat) (hn : n ≤ 9) (h : allHi s p n) (he : ¬ p + n < s.size) : ruV s p = (0, 0, 11) := by
  rw [ru_run s p n hn h, show 10 - n = (9 - n) + 1 from by omega, ruF_short s p _ n _ he]
theorem ru_far9 (s : ByteArray) (p : Nat) (h : allHi s p 9) (hl : p + 9 < s.size) (hb : 1 < s[p + 9].toNat) : ruV s p = (0, 0, 12) := by
  rw [ru_run s p 9 (by omega) h, show 10 - 9 = 0 + 1 from rfl, ruF_far s p 0 9 _ hl rfl hb]
theorem ru_far10 (s : ByteArray) (p : Nat) (h : allHi s p 10) : ruV s p = (0, 0, 12) := by
  obtain ⟨hl, hb⟩ := h 9 (by omega)
  exact ru_far9 s p (fun i hi => h i (by omega)) hl (by omega)
theorem ru_canon (s : ByteArray) (p n : Nat) (hn : n ≤ 9) (h : allHi s p n) (hl : p + n < s.size) (h0 : 0 < n) (hb : s[p + n].toNat = 0) : ruV s p = (0, 0, 13) := by
  rw [ru_run s p n hn h, show 10 - n = (9 - n) + 1 from by omega, ruF_canon s p _ n _ hl h0 hb]
theorem ru_done (s : ByteArray) (p n : Nat) (hn : n ≤ 9) (h : allHi s p n) (hl : p + n < s.size) (hb : s[p + n].toNat < 128) (h9 : n = 9 → s[p + n].toNat ≤ 1) (hc : s[p + n].toNat ≠ 0 ∨ n = 0) : ruV s p = (sumU s p (n + 1), n + 1, 0) := by
  rw [ru_run s p n hn h, show 10 - n = (9 - n) + 1 from by omega, ruF_done s p _ n _ hl h9 hb hc, sumU_succ s p n hl, Nat.mod_eq_of_lt hb]

set_option maxRecDepth 100000 in
theorem within_any (s : ByteArray) (at_ : Int) (w : World) : Calls Tryz.prog 97 #[.string s, .int .i64 at_] w fun e w' => e = .returned (.bool (decide (0 ≤ at_ ∧ at_ ≤ (s.size : Int)))) ∧ w' = w := by
  by_cases h0 : 0 ≤ at_
  · by_cases h1 : at_ ≤ (s.size : Int)
    all_goals
      go_enter Tryz.func97, Tryz.ntmps97
      go_wp2
      go_ret
      exact ⟨by simp [h0, h1], rfl⟩
  · go_enter Tryz.func97, Tryz.ntmps97
    go_wp2
    go_ret
    exact ⟨by simp; omega, rfl⟩

theorem rU_err {s : ByteArray} {p : Nat} {c : Int} (hp : p ≤ s.size) (hv : ruV s p = (0, 0, c)) (hc : c ≠ 0) : rU s p = (0, (p : Int), c) := by
  unfold rU; rw [rd3_err s p 0 (tU s) hp (by unfold tU; rw [hv]; exact hc)]; unfold tU; rw [hv]
theorem rU_ok {s : ByteArray} {p a n : Nat} (hp : p ≤ s.size) (hv : ruV s p = (a, n, 0)) : rU s p = ((a : Int), (p : Int) + n, 0) := by
  unfold rU; rw [rd3_ok s p 0 (tU s) hp (by unfold tU; rw [hv])]; unfold tU; rw [hv]
theorem val_i {k : IntKind} {a b : Int} (h : a = b) : Value.int k a = .int k b := by rw [h]

theorem horn_step {s : ByteArray} {p A j T : Nat} (h : A * 128 ^ (j + 1) + sumU s p (j + 1) = T) (hl : p + j < s.size) : (A * 128 + s[p + j].toNat % 128) * 128 ^ j + sumU s p j = T := by
  rw [sumU_succ s p j hl, Nat.pow_succ] at h
  rw [Nat.add_mul, Nat.mul_assoc, Nat.mul_comm 128, ← h]
  omega
theorem horn_bound {s : ByteArray} {p B j T : Nat} (h : B * 128 ^ j + sumU s p j = T) (ht : T < 18446744073709551616) : B < 18446744073709551616 := by
  have : B * 1 ≤ B * 128 ^ j := Nat.mul_le_mul (Nat.le_refl _) (Nat.pow_pos (by omega))
  omega

set_option maxRecDepth 100000 in
set_option maxHeartbeats 3200000 in
theorem ref_uv_in (s : ByteArray) (p : Nat) (w : World) (hp : p ≤ s.size) (hs : s.size ≤ 1125899906842624) :
    Calls Tryz.prog 69 #[.string s, .int .i64 p] w fun e w' => e = .returned (.tuple #[.int .u64 (rU s p).1, .int .i64 (rU s p).2.1, .int .i64 (rU s p).2.2]) ∧ w' = w := by
  have hin : decide (0 ≤ (p : Int) ∧ (p : Int) ≤ (s.size : Int)) = true := by simp; omega
  go_enter Tryz.func69, Tryz.ntmps69
  go_wp2_with fail
  refine (within_any s p w).mono ?_
  rintro e w1 ⟨rfl, rfl⟩
  rw [hin]
  clear hin
  go_wp2_with fail
  go_loop [7] (fun i => ∃ n : Nat, n ≤ 10 ∧ p + n ≤ s.size ∧ i = .int .i64 n ∧ allHi s p n) (fun i => 10 - (intOf i).toNat)
  case atStart => exact ⟨0, by omega, by omega, rfl, fun i h => by omega⟩
  case round =>
    obtain ⟨n, hn, hpn, rfl, hall⟩ := hrel
    have HA : Hid (allHi s p n) := hall
    clear hall
    by_cases h10 : n = 10
    · subst h10
      have HE : Hid _ := rU_err hp (ru_far10 s p HA.out) (by decide)
      go_wp2
      go_ret3
      exact ⟨tup3_u HE.out, rfl⟩
    · have t1 : (n : Int) < 10 := by omega
      by_cases hlt : p + n < s.size
      · by_cases hb : 128 ≤ s[p + n].toNat
        · have HX : Hid (allHi s p (n + 1)) := by
            intro i hi
            rcases Nat.lt_or_ge i n with h | h
            · exact HA.out i h
            · have : i = n := by omega
              subst this; exact ⟨hlt, hb⟩
          go_wp2
          go_round
          case rel => exact ⟨n + 1, by omega, by omega, by go_num, HX.out⟩
          case measure => simp [intOf]; omega
        · have hb2 : s[p + n].toNat < 128 := by omega
          have t2 : ((n : Int) == 10) = false := by simp; omega
          have t3 : ((p : Int) + (n : Int) == (s.size : Int)) = false := by simp; omega
          by_cases c9 : n = 9 ∧ 1 < s[p + n].toNat
          · obtain ⟨c9, c1⟩ := c9
            subst c9
            have HE : Hid _ := rU_err hp (ru_far9 s p HA.out hlt c1) (by decide)
            go_wp2
            go_ret3
            exact ⟨tup3_u HE.out, rfl⟩
          · by_cases cc : 0 < n ∧ s[p + n].toNat = 0
            · obtain ⟨cc1, cc2⟩ := cc
              have HE : Hid _ := rU_err hp (ru_canon s p n (by omega) HA.out hlt cc1 cc2) (by decide)
              have t4 : (0 : Int) < (n : Int) := by omega
              have t5 : ((s[p + n].toNat : Int) == 0) = true := by simp; omega
              by_cases e9 : n = 9
              · subst e9
                have t6 : (s[p + 9].toNat : Int) ≤ 1 := by omega
                clear c9 cc2 cc1
                go_wp2
                go_ret3
                exact ⟨tup3_u HE.out, rfl⟩
              · have t7 : ((n : Int) == 9) = false := by simp; omega
                clear c9 cc2 cc1
                go_wp2
                go_ret3
                exact ⟨tup3_u HE.out, rfl⟩
            · have hv := ru_done s p n (by omega) HA.out hlt hb2 (by omega) (by omega)
              have HE : Hid _ := rU_ok hp hv
              have HT : Hid (sumU s p (n + 1) < 18446744073709551616) := by
                have := (ruV_bound s p).1; rw [hv] at this; exact this
              clear hv
              have HL : Hid (∀ k, k ≤ n → p + k < s.size) := fun k hk => by omega
              have hf : (n : Int) + 1 ≤ 10 := by omega
              by_cases e9 : n = 9
              · have h9l : p + 9 < s.size := by omega
                have t6 : ((s[p + 9]'h9l).toNat : Int) ≤ 1 := by subst e9; omega
                have t7 : ((n : Int) == 9) = true := by simp; omega
                have t4 : (0 : Int) < (n : Int) := by omega
                have t5 : ((s[p + n].toNat : Int) == 0) = false := by simp; omega
                clear c9 cc e9
                go_wp2
                go_loop [8, 9] (fun v i => ∃ (k A : Nat), k ≤ n + 1 ∧ i = .int .i64 ((k : Int) - 1) ∧ v = .int .u64 (A : Int) ∧ A * 128 ^ k + sumU s p k = sumU s p (n + 1)) (fun _ i => (intOf i + 1).toNat)
                case atStart => exact ⟨n + 1, 0, by omega, by go_num, rfl, by simp⟩
                case round =>
                  obtain ⟨k, A, hk, rfl, rfl, hA⟩ := hrel
                  have HK : Hid (A * 128 ^ k + sumU s p k = sumU s p (n + 1)) := hA
                  clear hA
                  rcases Nat.eq_zero_or_pos k with rfl | hpos
                  · have hfin : A = sumU s p (n + 1) := by simpa [sumU] using HK.out
                    have HF : Hid (A = sumU s p (n + 1)) := hfin
                    clear hfin
                    go_wp2
                    go_ret3
                    exact ⟨tup3_u (by rw [HE.out, HF.out]; congr 2), rfl⟩
                  · obtain ⟨j, rfl⟩ : ∃ j, k = j + 1 := ⟨k - 1, by omega⟩
                    rw [show ((j + 1 : Nat) : Int) - 1 = (j : Int) from by omega]
                    have hl := HL.out j (by omega)
                    have HS : Hid ((A * 128 + s[p + j].toNat % 128) * 128 ^ j + sumU s p j = sumU s p (n + 1)) := horn_step HK.out hl
                    have hbd : A * 128 + s[p + j].toNat % 128 < 18446744073709551616 := horn_bound HS.out HT.out
                    go_wp2
                    go_round
                    case rel => exact ⟨j, A * 128 + s[p + j].toNat % 128, by omega, by go_num, by go_num, HS.out⟩
                    case measure => simp [intOf]
              · have t7 : ((n : Int) == 9) = false := by simp; omega
                by_cases e0 : n = 0
                · have t4 : ¬ (0 : Int) < (n : Int) := by omega
                  have t8 : decide ((0 : Int) < (n : Int)) = false := by simp; omega
                  clear c9 cc e9 e0
                  go_wp2
                  go_loop [8, 9] (fun v i => ∃ (k A : Nat), k ≤ n + 1 ∧ i = .int .i64 ((k : Int) - 1) ∧ v = .int .u64 (A : Int) ∧ A * 128 ^ k + sumU s p k = sumU s p (n + 1)) (fun _ i => (intOf i + 1).toNat)
                  case atStart => exact ⟨n + 1, 0, by omega, by go_num, rfl, by simp⟩
                  case round =>
                    obtain ⟨k, A, hk, rfl, rfl, hA⟩ := hrel
                    have HK : Hid (A * 128 ^ k + sumU s p k = sumU s p (n + 1)) := hA
                    clear hA
                    rcases Nat.eq_zero_or_pos k with rfl | hpos
                    · have hfin : A = sumU s p (n + 1) := by simpa [sumU] using HK.out
                      have HF : Hid (A = sumU s p (n + 1)) := hfin
                      clear hfin
                      go_wp2
                      go_ret3
                      exact ⟨tup3_u (by rw [HE.out, HF.out]; congr 2), rfl⟩
                    · obtain ⟨j, rfl⟩ : ∃ j, k = j + 1 := ⟨k - 1, by omega⟩
                      rw [show ((j + 1 : Nat) : Int) - 1 = (j : Int) from by omega]
                      have hl := HL.out j (by omega)
                      have HS : Hid ((A * 128 + s[p + j].toNat % 128) * 128 ^ j + sumU s p j = sumU s p (n + 1)) := horn_step HK.out hl
                      have hbd : A * 128 + s[p + j].toNat % 128 < 18446744073709551616 := horn_bound HS.out HT.out
                      go_wp2
                      go_round
                      case rel => exact ⟨j, A * 128 + s[p + j].toNat % 128, by omega, by go_num, by go_num, HS.out⟩
                      case measure => simp [intOf]
                · have t4 : (0 : Int) < (n : Int) := by omega
                  have t5 : ((s[p + n].toNat : Int) == 0) = false := by simp; omega
                  clear c9 cc e9 e0
                  go_wp2
                  go_loop [8, 9] (fun v i => ∃ (k A : Nat), k ≤ n + 1 ∧ i = .int .i64 ((k : Int) - 1) ∧ v = .int .u64 (A : Int) ∧ A * 128 ^ k + sumU s p k = sumU s p (n + 1)) (fun _ i => (intOf i + 1).toNat)
                  case atStart => exact ⟨n + 1, 0, by omega, by go_num, rfl, by simp⟩
                  case round =>
                    obtain ⟨k, A, hk, rfl, rfl, hA⟩ := hrel
                    have HK : Hid (A * 128 ^ k + sumU s p k = sumU s p (n + 1)) := hA
                    clear hA
                    rcases Nat.eq_zero_or_pos k with rfl | hpos
                    · have hfin : A = sumU s p (n + 1) := by simpa [sumU] using HK.out
                      have HF : Hid (A = sumU s p (n + 1)) := hfin
                      clear hfin
                      go_wp2
                      go_ret3
                      exact ⟨tup3_u (by rw [HE.out, HF.out]; congr 2), rfl⟩
                    · obtain ⟨j, rfl⟩ : ∃ j, k = j + 1 := ⟨k - 1, by omega⟩
                      rw [show ((j + 1 : Nat) : Int) - 1 = (j : Int) from by omega]
                      have hl := HL.out j (by omega)
                      have HS : Hid ((A * 128 + s[p + j].toNat % 128) * 128 ^ j + sumU s p j = sumU s p (n + 1)) := horn_step HK.out hl
                      have hbd : A * 128 + s[p + j].toNat % 128 < 18446744073709551616 := horn_bound HS.out HT.out
                      go_wp2
                      go_round
                      case rel => exact ⟨j, A * 128 + s[p + j].toNat % 128, by omega, by go_num, by go_num, HS.out⟩
                      case measure => simp [intOf]
      · have HE : Hid _ := rU_err hp (ru_short s p n (by omega) HA.out hlt) (by decide)
        have t3 : ((p : Int) + (n : Int) == (s.size : Int)) = true := by simp; omega
        go_wp2
        go_ret3
        exact ⟨tup3_u HE.out, rfl⟩
end Go.Proofs.YtjcffcpmegpjeaaGreatDoor

namespace Go.Proofs.YtjcffcpmegpjeaaGreatDoor
open Go.ChangeShapes Go.WideShapes Go.ChangeAt Go.RowKit
set_option linter.unusedVariables false

set_option maxRecDepth 100000 in
theorem ref_uv_out (s : ByteArray) (at_ : Int) (w : World) (hin : ¬ (0 ≤ at_ ∧ at_ ≤ (s.size : Int))) :
    Calls Tryz.prog 69 #[.string s, .int .i64 at_] w fun e w' => e = .returned (.tuple #[.int .u64 (rU s at_).1, .int .i64 (rU s at_).2.1, .int .i64 (rU s at_).2.2]) ∧ w' = w := by
  have HE : Hid _ := rd3_out s at_ (0 : Int) (tU s) hin
  have hd : decide (0 ≤ at_ ∧ at_ ≤ (s.size : Int)) = false := decide_eq_false hin
  go_enter Tryz.func69, Tryz.ntmps69
  go_wp2_with fail
  refine (within_any s at_ w).mono ?_
  rintro e w1 ⟨rfl, rfl⟩
  rw [hd]
  clear hin hd
  go_wp2
  go_ret3
  exact ⟨tup3_u HE.out, rfl⟩
theorem ref_uv (s : ByteArray) (at_ : Int) (w : World) (hs : s.size ≤ 1125899906842624) :
    Calls Tryz.prog 69 #[.string s, .int .i64 at_] w fun e w' => e = .returned (.tuple #[.int .u64 (rU s at_).1, .int .i64 (rU s at_).2.1, .int .i64 (rU s at_).2.2]) ∧ w' = w := by
  by_cases hin : 0 ≤ at_ ∧ at_ ≤ (s.size : Int)
  · obtain ⟨p, rfl⟩ := Int.eq_ofNat_of_zero_le hin.1
    exact ref_uv_in s p w (by omega) hs
  · exact ref_uv_out s at_ w hin
theorem rU_bounds (s : ByteArray) (at_ : Int) : 0 ≤ (rU s at_).1 ∧ (rU s at_).1 ≤ 18446744073709551615 ∧ 0 ≤ (rU s at_).2.2 ∧ (rU s at_).2.2 ≤ 19 := by
  unfold rU rd3
  have := ruV_bound s at_.toNat
  split
  · split
    · unfold tU; simp only []; omega
    · unfold tU; simp only []; omega
  · simp
/-- rS by rU. -/
theorem rS_of (s : ByteArray) (at_ : Int) : rS s at_ = if (rU s at_).2.2 = 0 then (sdec (rU s at_).1.toNat, (rU s at_).2.1, 0) else (0, at_, (rU s at_).2.2) := by
  unfold rS rU rd3
  by_cases h : 0 ≤ at_ ∧ at_ ≤ (s.size : Int)
  · rw [if_pos h, if_pos h]
    by_cases hc : (ruV s at_.toNat).2.2 = 0
    · simp [tS, tU, hc]
    · simp [tS, tU, hc]
  · rw [if_neg h, if_neg h]; simp
theorem sdec_even (u : Nat) (h : u % 2 = 0) : sdec u = ((u / 2 : Nat) : Int) := by unfold sdec; rw [if_pos h]
theorem sdec_odd (u : Nat) (h : ¬ u % 2 = 0) : sdec u = -1 - ((u / 2 : Nat) : Int) := by unfold sdec; rw [if_neg h]
set_option maxRecDepth 100000 in
set_option maxHeartbeats 800000 in
theorem ref_sv (s : ByteArray) (at_ : Int) (w : World) (hs : s.size ≤ 1125899906842624) :
    Calls Tryz.prog 87 #[.string s, .int .i64 at_] w fun e w' => e = .returned (.tuple #[.int .i64 (rS s at_).1, .int .i64 (rS s at_).2.1, .int .i64 (rS s at_).2.2]) ∧ w' = w := by
  have hb := rU_bounds s at_
  have HR : Hid _ := rS_of s at_
  obtain ⟨u, hu⟩ := Int.eq_ofNat_of_zero_le hb.1
  have HU : Hid ((rU s at_).1 = (u : Int)) := hu
  have hub : u ≤ 18446744073709551615 := by omega
  by_cases hc : (rU s at_).2.2 = 0
  · have HC : Hid ((rU s at_).2.2 = 0) := hc
    by_cases he : u % 2 = 0
    · have HE : Hid (rS s at_ = ((u : Int) / 2, (rU s at_).2.1, 0)) := by
        show _ = _
        rw [HR.out, if_pos HC.out, HU.out, Int.toNat_natCast, sdec_even u he]; congr 1
      clear hb hu hc HR
      go_enter Tryz.func87, Tryz.ntmps87
      go_wp2_with fail
      refine (ref_uv s at_ w hs).mono ?_
      rintro e w1 ⟨rfl, rfl⟩
      rw [HU.out, HC.out]
      have t1 : ((u : Int) % 2 == 0) = true := by simp; omega
      clear he
      go_wp2
      go_ret3
      exact ⟨tup3_u HE.out, rfl⟩
    · have HE : Hid (rS s at_ = (-1 - (u : Int) / 2, (rU s at_).2.1, 0)) := by
        show _ = _
        rw [HR.out, if_pos HC.out, HU.out, Int.toNat_natCast, sdec_odd u he]; congr 1
      clear hb hu hc HR
      go_enter Tryz.func87, Tryz.ntmps87
      go_wp2_with fail
      refine (ref_uv s at_ w hs).mono ?_
      rintro e w1 ⟨rfl, rfl⟩
      rw [HU.out, HC.out]
      have t1 : ((u : Int) % 2 == 0) = false := by simp; omega
      clear he
      go_wp2
      go_ret3
      exact ⟨tup3_u HE.out, rfl⟩
  · have HE : Hid (rS s at_ = (0, at_, (rU s at_).2.2)) := by
      show _ = _
      rw [HR.out, if_neg hc]
    have t1 : ((rU s at_).2.2 != 0) = true := by simpa using hc
    clear hu hc HR
    go_enter Tryz.func87, Tryz.ntmps87
    go_wp2_with fail
    refine (ref_uv s at_ w hs).mono ?_
    rintro e w1 ⟨rfl, rfl⟩
    go_wp2
    go_ret3
    exact ⟨tup3_u HE.out, rfl⟩
end Go.Proofs.YtjcffcpmegpjeaaGreatDoor

namespace Go.Proofs.YtjcffcpmegpjeaaGreatDoor
open Go.ChangeShapes Go.WideShapes Go.ChangeAt Go.RowKit
set_option linter.unusedVariables false

theorem fx_horn {s : ByteArray} {p A j T : Nat} (h : A * 256 ^ (j + 1) + fxV s p (j + 1) = T) (hl : p + j < s.size) : (A * 256 + s[p + j].toNat) * 256 ^ j + fxV s p j = T := by
  rw [fxV_succ s p j hl, Nat.pow_succ] at h
  rw [Nat.add_mul, Nat.mul_assoc, Nat.mul_comm 256, ← h]
  omega
theorem fx_bound {s : ByteArray} {p B j T : Nat} (h : B * 256 ^ j + fxV s p j = T) (ht : T < 18446744073709551616) : B < 18446744073709551616 := by
  have : B * 1 ≤ B * 256 ^ j := Nat.mul_le_mul (Nat.le_refl _) (Nat.pow_pos (by omega))
  omega
def rN (s : ByteArray) (at_ : Int) (n : Nat) : Int × Int × Int := rd3 s at_ (0 : Int) (fun p => ((fxV s p n : Int), n, fxE s p n))
theorem rN_bound (s : ByteArray) (at_ : Int) (n : Nat) : 0 ≤ (rN s at_ n).1 ∧ (rN s at_ n).1 < (256 ^ n : Nat) := by
  unfold rN rd3
  have := fxV_lt s at_.toNat n
  have h0 : 0 < 256 ^ n := Nat.pow_pos (by omega)
  split
  · split
    · simp only []; omega
    · simp only []; omega
  · simp only []; omega
theorem rX_is (s : ByteArray) (at_ : Int) : rX s at_ = rN s at_ 8 := rfl
theorem rF_is (s : ByteArray) (at_ : Int) : rF s at_ = rN s at_ 4 := rfl
end Go.Proofs.YtjcffcpmegpjeaaGreatDoor

namespace Go.Proofs.YtjcffcpmegpjeaaGreatDoor
open Go.ChangeShapes Go.WideShapes Go.ChangeAt Go.RowKit
set_option linter.unusedVariables false

def rT (s : ByteArray) (at_ : Int) (m : Nat) : ByteArray × Int × Int := rd3 s at_ ByteArray.empty (fun p => rbV s p m)
set_option maxRecDepth 100000 in
set_option maxHeartbeats 800000 in
theorem ref_text (s : ByteArray) (at_ : Int) (m : Nat) (w : World) (hm : m ≤ 1048576) (hs : s.size ≤ 1125899906842624) :
    Calls Tryz.prog 88 #[.string s, .int .i64 at_, .int .u64 m] w fun e w' => e = .returned (.tuple #[.string (rT s at_ m).1, .int .i64 (rT s at_ m).2.1, .int .i64 (rT s at_ m).2.2]) ∧ w' = w := by
  by_cases hin : 0 ≤ at_ ∧ at_ ≤ (s.size : Int)
  · obtain ⟨p, rfl⟩ := Int.eq_ofNat_of_zero_le hin.1
    have hp : p ≤ s.size := by omega
    have hb := ruV_bound s p
    by_cases hc : (ruV s p).2.2 = 0
    · have hv : ruV s p = ((ruV s p).1, (ruV s p).2.1, 0) := by rw [← hc]
      have HU : Hid (rU s p = (((ruV s p).1 : Int), (p : Int) + (ruV s p).2.1, 0)) := rU_ok hp hv
      have hle := hb.2.2.2.2 hc
      have hrb : rbV s p m = if m < (ruV s p).1 then (ByteArray.empty, 0, 4) else if p + (ruV s p).2.1 + (ruV s p).1 ≤ s.size then (s.extract (p + (ruV s p).2.1) (p + (ruV s p).2.1 + (ruV s p).1), (ruV s p).2.1 + (ruV s p).1, 0) else (ByteArray.empty, 0, 11) := by
        unfold rbV; rw [if_pos hc]
      have hu := hb.1
      clear hb hv hc
      generalize (ruV s p).1 = u at *
      generalize (ruV s p).2.1 = n at *
      by_cases c1 : m < u
      · have HE : Hid (rT s p m = (ByteArray.empty, (p : Int), 4)) := by
          rw [if_pos c1] at hrb
          have := rd3_err s p ByteArray.empty (fun p => rbV s p m) hp (by show (rbV s p m).2.2 ≠ 0; rw [hrb]; decide)
          show _ = _
          unfold rT; rw [this, hrb]
        clear hrb hin
        go_enter Tryz.func88, Tryz.ntmps88
        go_wp2_with fail
        refine (ref_uv s p w hs).mono ?_
        rintro e w1 ⟨rfl, rfl⟩
        rw [HU.out]
        go_wp2
        go_ret3
        exact ⟨tup3_s HE.out, rfl⟩
      · by_cases c2 : p + n + u ≤ s.size
        · have HE : Hid (rT s p m = (s.extract (p + n) (p + n + u), (p : Int) + ((n + u : Nat) : Int), 0)) := by
            rw [if_neg c1, if_pos c2] at hrb
            have := rd3_ok s p ByteArray.empty (fun p => rbV s p m) hp (by show (rbV s p m).2.2 = 0; rw [hrb])
            show _ = _
            unfold rT; rw [this, hrb]
          clear hrb hin
          go_enter Tryz.func88, Tryz.ntmps88
          go_wp2_with fail
          refine (ref_uv s p w hs).mono ?_
          rintro e w1 ⟨rfl, rfl⟩
          rw [HU.out]
          go_wp2
          go_ret3
          refine ⟨?_, rfl⟩
          rw [show ((p : Int) + ((n + u : Nat) : Int)) = (p : Int) + n + u from by omega] at HE
          exact tup3_s HE.out
        · have HE : Hid (rT s p m = (ByteArray.empty, (p : Int), 11)) := by
            rw [if_neg c1, if_neg c2] at hrb
            have := rd3_err s p ByteArray.empty (fun p => rbV s p m) hp (by show (rbV s p m).2.2 ≠ 0; rw [hrb]; decide)
            show _ = _
            unfold rT; rw [this, hrb]
          clear hrb hin
          go_enter Tryz.func88, Tryz.ntmps88
          go_wp2_with fail
          refine (ref_uv s p w hs).mono ?_
          rintro e w1 ⟨rfl, rfl⟩
          rw [HU.out]
          go_wp2
          go_ret3
          exact ⟨tup3_s HE.out, rfl⟩
    · have hrb : rbV s p m = (ByteArray.empty, 0, (ruV s p).2.2) := by unfold rbV; rw [if_neg hc]
      have HE : Hid (rT s p m = (ByteArray.empty, (p : Int), (ruV s p).2.2)) := by
        have := rd3_err s p ByteArray.empty (fun p => rbV s p m) hp (by show (rbV s p m).2.2 ≠ 0; rw [hrb]; exact hc)
        show _ = _
        unfold rT; rw [this, hrb]
      have HU : Hid (rU s p = (0, (p : Int), (ruV s p).2.2)) := by
        show _ = _
        unfold rU; rw [rd3_err s p 0 (tU s) hp (by unfold tU; exact hc)]; unfold tU; rfl
      have t1 : ((ruV s p).2.2 != 0) = true := by simpa using hc
      clear hrb hin hb hc
      go_enter Tryz.func88, Tryz.ntmps88
      go_wp2_with fail
      refine (ref_uv s p w hs).mono ?_
      rintro e w1 ⟨rfl, rfl⟩
      rw [HU.out]
      go_wp2
      go_ret3
      exact ⟨tup3_s HE.out, rfl⟩
  · have HE : Hid (rT s at_ m = (ByteArray.empty, at_, 10)) := rd3_out s at_ ByteArray.empty (fun p => rbV s p m) hin
    have HU : Hid (rU s at_ = (0, at_, 10)) := rd3_out s at_ (0 : Int) (tU s) hin
    clear hin
    go_enter Tryz.func88, Tryz.ntmps88
    go_wp2_with fail
    refine (ref_uv s at_ w hs).mono ?_
    rintro e w1 ⟨rfl, rfl⟩
    rw [HU.out]
    go_wp2
    go_ret3
    exact ⟨tup3_s HE.out, rfl⟩
theorem rB_is (s : ByteArray) (at_ : Int) : rB s at_ = rT s at_ 1048576 := rfl
end Go.Proofs.YtjcffcpmegpjeaaGreatDoor
