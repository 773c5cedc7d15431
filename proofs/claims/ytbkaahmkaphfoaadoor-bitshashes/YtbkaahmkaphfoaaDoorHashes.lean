import Derived.Test.YtbkaahmkaphfoaaDoorRows
import Derived.WalkKit
import Derived.ProofKit
import Derived.OpenShut
import Derived.ShutString
import Derived.WalkLawsBesides
import Derived.Outline
import Derived.WalkSpells
import Derived.Laws.BitsAllLaws
import Derived.Lib.TrailingZeros
namespace Go.Proofs.YtbkaahmkaphfoaaDoor
open Go.ChangeShapes Go.WideShapes Go.ChangeAt Go.RowKit

def hashStep (h c : Int) : Int := IntKind.u64.wrap (bits .xor .u64 h (IntKind.u64.wrap c) * 1099511628211)
def hashK (s : ByteArray) : Nat → Int
  | 0 => 14695981039346656037
  | k + 1 => hashStep (hashK s k) (if h : k < s.size then (s[k].toNat : Int) else 0)
theorem hashK_succ (s : ByteArray) (k : Nat) (h : k < s.size) : hashK s (k + 1) = IntKind.u64.wrap (bits .xor .u64 (hashK s k) (IntKind.u64.wrap (s[k].toNat : Int)) * 1099511628211) := by
  simp [hashK, hashStep, h]
theorem hashK_bounds (s : ByteArray) : ∀ k, 0 ≤ hashK s k ∧ hashK s k ≤ 18446744073709551615
  | 0 => by simp [hashK]
  | k + 1 => by unfold hashK hashStep; rw [IntKind.wrap_u64]; omega

set_option maxRecDepth 100000 in
theorem hash_own (s : ByteArray) (w : World) (hs : s.size ≤ maxLen) :
    Calls Tryd.prog 6 #[.string s] w fun e w' => e = .returned (.int .u64 (hashK s s.size)) ∧ w' = w := by
  unfold maxLen at hs
  go_enter Tryd.func6, Tryd.ntmps6
  go_wp2
  go_loop [3, 7] (fun h i => ∃ k : Nat, k ≤ s.size ∧ i = .int .i64 k ∧ h = .int .u64 (hashK s k)) (fun _ i => s.size - (intOf i).toNat)
  case atStart => exact ⟨0, Nat.zero_le _, rfl, rfl⟩
  case round =>
    obtain ⟨k, hk, rfl, rfl⟩ := hrel
    by_cases hlt : k < s.size
    · have HS : Hid _ := hashK_succ s k hlt
      have hb := hashK_bounds s k
      generalize hashK s k = h at *
      go_wp2
      go_round
      case rel => exact ⟨k + 1, by omega, by go_num, by rw [HS.out]⟩
      case measure => simp [intOf]; omega
    · have hk' : k = s.size := by omega
      subst hk'
      go_wp2
      go_ret
      exact ⟨rfl, rfl⟩
set_option maxRecDepth 100000 in
theorem hash_ref (s : ByteArray) (w : World) (hs : s.size ≤ maxLen) :
    Calls Tryd.prog 7 #[.string s] w fun e w' => e = .returned (.int .u64 (hashK s s.size)) ∧ w' = w := by
  unfold maxLen at hs
  go_enter Tryd.func7, Tryd.ntmps7
  go_wp2
  go_loop [3, 4] (fun h i => ∃ k : Nat, k ≤ s.size ∧ i = .int .i64 k ∧ h = .int .u64 (hashK s k)) (fun _ i => s.size - (intOf i).toNat)
  case atStart => exact ⟨0, Nat.zero_le _, rfl, rfl⟩
  case round =>
    obtain ⟨k, hk, rfl, rfl⟩ := hrel
    by_cases hlt : k < s.size
    · have HS : Hid _ := hashK_succ s k hlt
      have hb := hashK_bounds s k
      generalize hashK s k = h at *
      go_wp2
      go_round
      case rel => exact ⟨k + 1, by omega, by go_num, by rw [HS.out]⟩
      case measure => simp [intOf]; omega
    · have hk' : k = s.size := by omega
      subst hk'
      go_wp2
      go_ret
      exact ⟨rfl, rfl⟩

/-- The table in its variable. -/
def TabAt (w : World) : Prop := ∀ j, j < 64 → w.cell? ⟨0, j, none⟩ = some (.int .u8 (Lib.deBruijn64tab.getD j 0 : Nat))
def tabZ : List Int := Lib.deBruijn64tab.map Int.ofNat
theorem tabAt_of {w : World} (h : ∀ j, j < tabZ.length → w.cell? ⟨0, j, none⟩ = some (.int .u8 (tabZ.getD j 0))) : TabAt w := by
  intro j hj
  rw [h j (by simpa [tabZ, Lib.deBruijn64tab] using hj)]
  have hl : j < Lib.deBruijn64tab.length := by simpa [Lib.deBruijn64tab] using hj
  simp [tabZ, List.getElem?_eq_getElem hl]

set_option maxHeartbeats 1000000 in
set_option maxRecDepth 100000 in
theorem tz_core (x k idx : Nat) (w : World) (hx0 : ((x : Int) == 0) = false)
    (key : IntKind.u64.wrap (bits BinOp.and IntKind.u64 (x : Int) (IntKind.u64.wrap (-(x : Int))) * 285870213051353865) / 288230376151711744 = (idx : Int))
    (hi : idx < 64) (hk : k < 64) (hcell : w.cell? ⟨0, idx, none⟩ = some (.int .u8 k)) :
    Calls Tryd.prog 11 #[.int .u64 x] w fun e w' => e = .returned (.int .i64 k) ∧ w' = w := by
  go_enter Tryd.func11, Tryd.ntmps11
  go_wp2_with (simp only [key])
  go_ret
  exact ⟨rfl, rfl⟩
theorem tz_zero (w : World) :
    Calls Tryd.prog 11 #[.int .u64 0] w fun e w' => e = .returned (.int .i64 64) ∧ w' = w := by
  go_enter Tryd.func11, Tryd.ntmps11
  go_wp2
  go_ret
  exact ⟨rfl, rfl⟩
theorem tz_key (x a : Nat) (hx : x < 18446744073709551616) (hx0 : x ≠ 0) (hlow : x &&& (18446744073709551616 - x) = a) :
    IntKind.u64.wrap (bits BinOp.and IntKind.u64 (x : Int) (IntKind.u64.wrap (-(x : Int))) * 285870213051353865) / 288230376151711744 = ((a * 285870213051353865 % 18446744073709551616 / 288230376151711744 : Nat) : Int) := by
  have e1 : IntKind.u64.wrap (-(x : Int)) = ((18446744073709551616 - x : Nat) : Int) := by rw [IntKind.wrap_u64]; omega
  rw [e1, u64_and_nat x _ hx (by omega), hlow, IntKind.wrap_u64]
  omega
theorem tz_any (x : Nat) (hx : x < 18446744073709551616) (w : World) (hT : TabAt w) :
    Calls Tryd.prog 11 #[.int .u64 x] w fun e w' => e = .returned (.int .i64 (Lib.ctz 64 x)) ∧ w' = w := by
  by_cases hx0 : x = 0
  · subst hx0
    exact tz_zero w
  · obtain ⟨hlow, hk⟩ := Lib.lowest_bit 64 x hx0 hx
    obtain ⟨hi, htab⟩ := Lib.deBruijn64_at _ hk
    have hcell := hT _ hi
    rw [htab] at hcell
    exact tz_core x _ _ w (by simp; omega) (tz_key x _ hx hx0 hlow) hi hk hcell

/-- What Height answers for the 24 bits x. -/
def heightN (x levels : Nat) : Nat := min (1 + min (Lib.ctz 64 x) 24) levels
theorem ctz_of (x i : Nat) (hx : x < 2 ^ 64) (hd : x % 2 ^ i = 0) (ho : x / 2 ^ i % 2 = 1) : Lib.ctz 64 x = i := by
  have hx0 : x ≠ 0 := by intro e; subst e; simp at ho
  have e : Lib.ctz 64 x = Lib.ctzFrom 64 x := by simp [Lib.ctz, hx0]
  rw [e]
  obtain ⟨m, hm, _⟩ := Lib.ctzFrom_spec 64 x (by omega) hx
  generalize Lib.ctzFrom 64 x = c at *
  have hm2 : x = 2 ^ i * (2 * (x / 2 ^ i / 2) + 1) := by
    have := Nat.div_add_mod x (2 ^ i)
    rw [hd] at this
    have h2 : x / 2 ^ i = 2 * (x / 2 ^ i / 2) + 1 := by omega
    rw [← h2]; omega
  generalize x / 2 ^ i / 2 = m' at *
  rcases Nat.lt_trichotomy c i with h | h | h
  · obtain ⟨d, rfl⟩ : ∃ d, i = c + (d + 1) := ⟨i - c - 1, by omega⟩
    rw [hm2, Nat.pow_add, Nat.mul_assoc] at hm
    have := Nat.eq_of_mul_eq_mul_left (Nat.pow_pos (by omega)) hm
    rw [Nat.pow_succ, Nat.mul_comm (2 ^ d) 2, Nat.mul_assoc] at this
    omega
  · exact h
  · obtain ⟨d, rfl⟩ : ∃ d, c = i + (d + 1) := ⟨c - i - 1, by omega⟩
    rw [hm, Nat.pow_add, Nat.mul_assoc] at hm2
    have := Nat.eq_of_mul_eq_mul_left (Nat.pow_pos (by omega)) hm2
    rw [Nat.pow_succ, Nat.mul_comm (2 ^ d) 2, Nat.mul_assoc] at this
    omega
theorem ctz_ge (x i : Nat) (hx : x < 2 ^ 64) (hd : x % 2 ^ i = 0) (hi : i ≤ 24) : i ≤ Lib.ctz 64 x := by
  by_cases hx0 : x = 0
  · subst hx0; simp [Lib.ctz]; omega
  · have e : Lib.ctz 64 x = Lib.ctzFrom 64 x := by simp [Lib.ctz, hx0]
    rw [e]
    obtain ⟨m, hm, _⟩ := Lib.ctzFrom_spec 64 x (by omega) hx
    generalize Lib.ctzFrom 64 x = c at *
    apply Nat.le_of_not_lt
    intro h
    obtain ⟨d, rfl⟩ : ∃ d, i = c + (d + 1) := ⟨i - c - 1, by omega⟩
    have hq := Nat.div_add_mod x (2 ^ (c + (d + 1)))
    rw [hd] at hq
    generalize x / 2 ^ (c + (d + 1)) = q at *
    rw [hm, Nat.add_zero, Nat.pow_add, Nat.mul_assoc] at hq
    have := Nat.eq_of_mul_eq_mul_left (Nat.pow_pos (by omega)) hq
    rw [Nat.pow_succ, Nat.mul_comm (2 ^ d) 2, Nat.mul_assoc] at this
    omega
theorem height_end (x levels i : Nat) (hx : x < 2 ^ 24) (hd : x % 2 ^ i = 0) (hi : i ≤ 24) (hl : i + 1 ≤ levels) (he : x / 2 ^ i % 2 = 1 ∨ i = 24 ∨ i + 1 = levels) : heightN x levels = 1 + i := by
  unfold heightN
  have hx64 : x < 2 ^ 64 := by omega
  rcases he with ho | rfl | rfl
  · rw [ctz_of x i hx64 hd ho]; omega
  · have := ctz_ge x 24 hx64 hd (by omega); omega
  · have := ctz_ge x i hx64 hd hi; omega
/-- The 24 bits of a hash. -/
def top24 (h : Int) : Nat := (IntKind.u64.wrap (h * 11400714819323198485) / 1099511627776).toNat
theorem top24_eq (h : Int) : IntKind.u64.wrap (h * 11400714819323198485) / 1099511627776 = (top24 h : Int) := by
  unfold top24
  have : 0 ≤ IntKind.u64.wrap (h * 11400714819323198485) := by rw [IntKind.wrap_u64]; omega
  omega
theorem top24_lt (h : Int) : top24 h < 2 ^ 24 := by
  unfold top24
  rw [IntKind.wrap_u64]
  omega
theorem ctz_le (x : Nat) (hx : x < 2 ^ 24) : Lib.ctz 64 x ≤ 64 := by
  by_cases h0 : x = 0
  · rw [h0]; simp [Lib.ctz]
  · have := (Lib.lowest_bit 64 x h0 (by omega)).2; omega
theorem ret_i {a b : Int} (h : a = b) : Ending.returned (.int .i64 a) = .returned (.int .i64 b) := by rw [h]
set_option maxRecDepth 100000 in
set_option maxHeartbeats 1000000 in
theorem height_core (s : ByteArray) (l h : Int) (r : Nat) (w : World) (hs : s.size ≤ maxLen) (hl : 1 ≤ l) (h1 : l ≤ 9223372036854775807) (hT : TabAt w) (HH : Hid (hashK s s.size = h)) (HR : Hid (heightN (top24 h) l.toNat = r)) :
    Calls Tryd.prog 8 #[.string s, .int .i64 l] w fun e w' => e = .returned (.int .i64 r) ∧ w' = w := by
  go_enter Tryd.func8, Tryd.ntmps8
  go_wp2_with fail
  refine (hash_own s w hs).mono ?_
  rintro e w1 ⟨rfl, rfl⟩
  rw [HH.out]
  have htop := top24_eq h
  have hlt := top24_lt h
  go_wp2_with fail
  refine (tz_any (top24 h) (by omega) _ hT).mono ?_
  rintro e w1 ⟨rfl, rfl⟩
  have hz := ctz_le (top24 h) hlt
  have HN : Hid (r = min (1 + min (Lib.ctz 64 (top24 h)) 24) l.toNat) := HR.out.symm
  generalize Lib.ctz 64 (top24 h) = z at *
  clear htop HR
  go_wp2
  all_goals
    go_ret
    refine ⟨ret_i ?_, rfl⟩
    rw [HN.out]
    repeat split at *
    all_goals omega
set_option maxRecDepth 100000 in
set_option maxHeartbeats 1000000 in
theorem height_ref_core (s : ByteArray) (l h : Int) (r : Nat) (w : World) (hs : s.size ≤ maxLen) (hl : 1 ≤ l) (h1 : l ≤ 9223372036854775807) (HH : Hid (hashK s s.size = h)) (HR : Hid (heightN (top24 h) l.toNat = r)) :
    Calls Tryd.prog 9 #[.string s, .int .i64 l] w fun e w' => e = .returned (.int .i64 r) ∧ w' = w := by
  go_enter Tryd.func9, Tryd.ntmps9
  go_wp2_with fail
  refine (hash_ref s w hs).mono ?_
  rintro e w1 ⟨rfl, rfl⟩
  rw [HH.out]
  have htop := top24_eq h
  have hlt := top24_lt h
  go_wp2_with fail
  have HTp : Hid (IntKind.u64.wrap (h * 11400714819323198485) / 1099511627776 = (top24 h : Int)) := htop
  clear htop
  generalize top24 h = x at *
  go_loop [5, 6] (fun y n => ∃ i : Nat, i ≤ 24 ∧ (i : Int) + 1 ≤ l ∧ x % 2 ^ i = 0 ∧ y = .int .u64 ((x / 2 ^ i : Nat) : Int) ∧ n = .int .i64 ((i : Int) + 1)) (fun _ n => 25 - (intOf n).toNat)
  case atStart => exact ⟨0, by omega, by omega, by simp [Nat.mod_one], by rw [HTp.out]; simp, rfl⟩
  case round =>
    obtain ⟨i, hi, hil, hd, rfl, rfl⟩ := hrel
    have HD : Hid (x % 2 ^ i = 0) := hd
    have hdiv : x / 2 ^ i ≤ x := Nat.div_le_self _ _
    have HX : Hid (x % 2 ^ i = 0 → x / 2 ^ i % 2 = 0 → x % 2 ^ (i + 1) = 0 ∧ x / 2 ^ i / 2 = x / 2 ^ (i + 1)) := fun a b => by
      rw [Nat.pow_succ, ← Nat.div_div_eq_div_mul, Nat.mod_mul]
      rw [a, b]; simp
    have HE : Hid (x / 2 ^ i % 2 = 1 ∨ i = 24 ∨ i + 1 = l.toNat → r = 1 + i) := fun he => by
      have := height_end x l.toNat i hlt HD.out hi (by omega) he
      rw [← HR.out]; exact this
    generalize x / 2 ^ i = q at *
    clear hd
    by_cases c1 : q % 2 = 0
    · by_cases c2 : i < 24
      · by_cases c3 : (i : Int) + 1 < l
        · have t1 : ((q : Int) % 2 == 0) = true := by simp; omega
          go_wp2
          have hx := HX.out HD.out c1
          go_round
          case rel => exact ⟨i + 1, by omega, by omega, hx.1, by rw [← hx.2]; go_num, by go_num⟩
          case measure => simp [intOf]; omega
        · have t1 : ((q : Int) % 2 == 0) = true := by simp; omega
          go_wp2
          go_ret
          exact ⟨ret_i (by rw [HE.out (.inr (.inr (by omega)))]; omega), rfl⟩
      · have t1 : ((q : Int) % 2 == 0) = true := by simp; omega
        go_wp2
        go_ret
        exact ⟨ret_i (by rw [HE.out (.inr (.inl (by omega)))]; omega), rfl⟩
    · have t1 : ((q : Int) % 2 == 0) = false := by simp; omega
      go_wp2
      go_ret
      exact ⟨ret_i (by rw [HE.out (.inl (by omega))]; omega), rfl⟩

theorem height_zero (s : ByteArray) (l : Int) (w : World) (hl : l < 1) :
    Calls Tryd.prog 8 #[.string s, .int .i64 l] w fun e w' => e = .returned (.int .i64 0) ∧ w' = w := by
  go_enter Tryd.func8, Tryd.ntmps8
  go_wp2
  go_ret
  exact ⟨rfl, rfl⟩
theorem height_ref_zero (s : ByteArray) (l : Int) (w : World) (hl : l < 1) :
    Calls Tryd.prog 9 #[.string s, .int .i64 l] w fun e w' => e = .returned (.int .i64 0) ∧ w' = w := by
  go_enter Tryd.func9, Tryd.ntmps9
  go_wp2
  go_ret
  exact ⟨rfl, rfl⟩
/-- What Height answers. -/
def heightV (s : ByteArray) (l : Int) : Int := if l < 1 then 0 else heightN (top24 (hashK s s.size)) l.toNat
theorem height_own (s : ByteArray) (l : Int) (w : World) (hs : s.size ≤ maxLen) (h1 : l ≤ 9223372036854775807) (hT : TabAt w) :
    Calls Tryd.prog 8 #[.string s, .int .i64 l] w fun e w' => e = .returned (.int .i64 (heightV s l)) ∧ w' = w := by
  unfold heightV
  split
  · exact height_zero s l w (by assumption)
  · exact height_core s l _ _ w hs (by omega) h1 hT (show _ = _ from rfl) (show _ = _ from rfl)
theorem height_ref (s : ByteArray) (l : Int) (w : World) (hs : s.size ≤ maxLen) (h1 : l ≤ 9223372036854775807) :
    Calls Tryd.prog 9 #[.string s, .int .i64 l] w fun e w' => e = .returned (.int .i64 (heightV s l)) ∧ w' = w := by
  unfold heightV
  split
  · exact height_ref_zero s l w (by assumption)
  · exact height_ref_core s l _ _ w hs (by omega) h1 (show _ = _ from rfl) (show _ = _ from rfl)

set_option maxRecDepth 100000 in
theorem hashes_walk (a0 : ByteArray) (a1 : Int) (w0 : a0.size ≤ maxLen) (w1 : (Lit.int .i64 a1).wf = true) (w : World) (hT : TabAt w) :
    Calls Tryd.prog 4 #[.string a0, .int .i64 a1] w fun e w' => e = .returned (.bool true) ∧ Grown w w' := by
  have b1 := bounds_i64 w1
  go_enter Tryd.func4, Tryd.ntmps4
  go_wp2_with (first
    | (go_at_call 6; refine (hash_own _ _ w0).mono ?_; rintro e w' ⟨rfl, rfl⟩)
    | (go_at_call 7; refine (hash_ref _ _ w0).mono ?_; rintro e w' ⟨rfl, rfl⟩)
    | (go_at_call 8; refine (height_own _ _ _ w0 b1.2 hT).mono ?_; rintro e w' ⟨rfl, rfl⟩)
    | (go_at_call 9; refine (height_ref _ _ _ w0 b1.2).mono ?_; rintro e w' ⟨rfl, rfl⟩))
  go_ret
  exact ⟨rfl, Grown.refl _⟩
end Go.Proofs.YtbkaahmkaphfoaaDoor
