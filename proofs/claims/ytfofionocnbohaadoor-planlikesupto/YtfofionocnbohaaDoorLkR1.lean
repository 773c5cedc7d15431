import Derived.Test.YtfofionocnbohaaDoorLkT4
namespace Go.Proofs.YtfofionocnbohaaDoor
open Go.ChangeShapes Go.WideShapes Go.ChangeAt Go.RowKit
set_option linter.unusedVariables false
set_option maxRecDepth 100000
/-- The j-th byte goes on with a character whose second byte lies from lo to hi. -/
def okB (l : List UInt8) (lo hi j : Nat) : Prop := (if j = 1 then lo else 128) ≤ gB l j ∧ gB l j ≤ (if j = 1 then hi else 191)
theorem gBk (s : ByteArray) (p k : Nat) (h : p + k < s.size) : gB (s.data.toList.drop p) k = s[p + k].toNat := by
  refine gB_some ?_
  rw [List.getElem?_drop, Array.getElem?_toList]
  show s.data[p + k]? = some s.data[p + k]
  rw [Array.getElem?_eq_getElem]
theorem wdc0 (l : List UInt8) (hc : 0 ≤ gB l 0 ∧ gB l 0 ≤ 193) : ((∀ j, 1 ≤ j → j < 1 → okB l 128 191 j) → wdL l = 1) ∧ (∀ k, 1 ≤ k → k < 1 → ¬ okB l 128 191 k → wdL l = 1) := by
  unfold wdL wdN
  constructor
  · intro h
    clear h
    repeat' split
    all_goals omega
  · intro k h1 h2 h3
    omega
set_option maxHeartbeats 4000000 in
theorem wide0 (s : ByteArray) (i : Nat) (w : World) (h : i < s.size) (hs : s.size ≤ 1099511627776) (hc : 0 ≤ s[i].toNat ∧ s[i].toNat ≤ 193) :
    Calls Tryd.prog 12 #[.string s, .int .i64 (i : Int)] w fun e w' => e = .returned (.int .i64 (wdL (s.data.toList.drop i) : Int)) ∧ w' = w := by
  have g0 := gB0 s i h
  have HW : Hid _ := wdc0 (s.data.toList.drop i) (by rw [g0]; exact hc)
  have g194 : ¬ ((194 : Int) ≤ (s[i].toNat : Int)) := by omega
  have g224 : ¬ ((224 : Int) ≤ (s[i].toNat : Int)) := by omega
  have g240 : ¬ ((240 : Int) ≤ (s[i].toNat : Int)) := by omega
  have l223 : ((s[i].toNat : Int) ≤ 223) := by omega
  have l239 : ((s[i].toNat : Int) ≤ 239) := by omega
  have l244 : ((s[i].toNat : Int) ≤ 244) := by omega
  have e224 : ¬ (s[i].toNat : Int) = 224 := by omega
  have b224 : ((s[i].toNat : Int) == 224) = false := beq_eq_false_iff_ne.2 e224
  have e237 : ¬ (s[i].toNat : Int) = 237 := by omega
  have b237 : ((s[i].toNat : Int) == 237) = false := beq_eq_false_iff_ne.2 e237
  have e240 : ¬ (s[i].toNat : Int) = 240 := by omega
  have b240 : ((s[i].toNat : Int) == 240) = false := beq_eq_false_iff_ne.2 e240
  have e244 : ¬ (s[i].toNat : Int) = 244 := by omega
  have b244 : ((s[i].toNat : Int) == 244) = false := beq_eq_false_iff_ne.2 e244
  by_cases hl : s.size - i < 1
  · have hli : (s.size : Int) - (i : Int) < 1 := by omega
    have HE : Hid (wdL (s.data.toList.drop i) = 1) := HW.out.1 (fun j h1 h2 => by omega)
    clear HW
    go_enter Tryd.func12, Tryd.ntmps12
    go_wp2
    go_ret
    exact ⟨by rw [HE.out]; rfl, rfl⟩
  · have hli : ¬ (s.size : Int) - (i : Int) < 1 := by omega
    have hii : (i : Int) ≤ (s.size : Int) := by omega
    go_enter Tryd.func12, Tryd.ntmps12
    go_wp2
    go_loopw [7, 8, 9, 10] (fun a b x _ wr => ∃ (k lo hi : Nat), 1 ≤ k ∧ k ≤ 1 ∧ x = .int .i64 (k : Int) ∧ a = .int .i64 (lo : Int) ∧ b = .int .i64 (hi : Int) ∧ (lo = if k = 1 then 128 else 128) ∧ (hi = if k = 1 then 191 else 191) ∧ (∀ j, 1 ≤ j → j < k → okB (s.data.toList.drop i) 128 191 j) ∧ wr = w) (fun _ _ x _ _ => 1 - (intOf x).toNat)
    case atStart => exact ⟨1, 128, 191, by omega, by omega, rfl, rfl, rfl, rfl, rfl, fun j h1 h2 => by omega, rfl⟩
    case round =>
      obtain ⟨k, lo, hi, hk1, hk2, rfl, rfl, rfl, hlo, hhi, hall, rfl⟩ := hrel
      have HA : Hid (∀ j, 1 ≤ j → j < k → okB (s.data.toList.drop i) 128 191 j) := hall
      have HLO : Hid (lo = if k = 1 then 128 else 128) := hlo
      have HHI : Hid (hi = if k = 1 then 191 else 191) := hhi
      clear hlo hhi hall g194 g224 g240 l223 l239 l244 e224 b224 e237 b237 e240 b240 e244 b244
      by_cases hkn : k < 1
      · omega
      · have hki : ¬ (k : Int) < 1 := by omega
        have HE : Hid (wdL (s.data.toList.drop i) = 1) := HW.out.1 (fun j h1 h2 => HA.out j h1 (by omega))
        clear HW
        go_wp2
        go_ret
        exact ⟨by rw [HE.out]; rfl, rfl⟩
theorem wdc1 (l : List UInt8) (hc : 194 ≤ gB l 0 ∧ gB l 0 ≤ 223) : ((∀ j, 1 ≤ j → j < 2 → okB l 128 191 j) → wdL l = 2) ∧ (∀ k, 1 ≤ k → k < 2 → ¬ okB l 128 191 k → wdL l = 1) := by
  unfold wdL wdN
  constructor
  · intro h
    have h1 := h 1 (by omega) (by omega)
    unfold okB at h1
    rw [if_pos rfl, if_pos rfl] at h1
    clear h
    repeat' split
    all_goals omega
  · intro k h1 h2 h3
    have hk : k = 1 := by omega
    unfold okB at h3
    rcases hk with rfl
    · rw [if_pos rfl, if_pos rfl] at h3
      repeat' split
      all_goals omega
set_option maxHeartbeats 4000000 in
theorem wide1 (s : ByteArray) (i : Nat) (w : World) (h : i < s.size) (hs : s.size ≤ 1099511627776) (hc : 194 ≤ s[i].toNat ∧ s[i].toNat ≤ 223) :
    Calls Tryd.prog 12 #[.string s, .int .i64 (i : Int)] w fun e w' => e = .returned (.int .i64 (wdL (s.data.toList.drop i) : Int)) ∧ w' = w := by
  have g0 := gB0 s i h
  have HW : Hid _ := wdc1 (s.data.toList.drop i) (by rw [g0]; exact hc)
  have g194 : ((194 : Int) ≤ (s[i].toNat : Int)) := by omega
  have g224 : ¬ ((224 : Int) ≤ (s[i].toNat : Int)) := by omega
  have g240 : ¬ ((240 : Int) ≤ (s[i].toNat : Int)) := by omega
  have l223 : ((s[i].toNat : Int) ≤ 223) := by omega
  have l239 : ((s[i].toNat : Int) ≤ 239) := by omega
  have l244 : ((s[i].toNat : Int) ≤ 244) := by omega
  have e224 : ¬ (s[i].toNat : Int) = 224 := by omega
  have b224 : ((s[i].toNat : Int) == 224) = false := beq_eq_false_iff_ne.2 e224
  have e237 : ¬ (s[i].toNat : Int) = 237 := by omega
  have b237 : ((s[i].toNat : Int) == 237) = false := beq_eq_false_iff_ne.2 e237
  have e240 : ¬ (s[i].toNat : Int) = 240 := by omega
  have b240 : ((s[i].toNat : Int) == 240) = false := beq_eq_false_iff_ne.2 e240
  have e244 : ¬ (s[i].toNat : Int) = 244 := by omega
  have b244 : ((s[i].toNat : Int) == 244) = false := beq_eq_false_iff_ne.2 e244
  by_cases hl : s.size - i < 2
  · have hli : (s.size : Int) - (i : Int) < 2 := by omega
    have HE : Hid (wdL (s.data.toList.drop i) = 1) := HW.out.2 (s.size - i) (by omega) hl (fun ho => by
      unfold okB at ho
      rw [gB_out (by rw [List.length_drop, Array.length_toList]; exact Nat.le_refl _)] at ho
      by_cases h1 : s.size - i = 1
      · rw [if_pos h1] at ho; omega
      · rw [if_neg h1] at ho; omega)
    clear HW
    go_enter Tryd.func12, Tryd.ntmps12
    go_wp2
    go_ret
    exact ⟨by rw [HE.out]; rfl, rfl⟩
  · have hli : ¬ (s.size : Int) - (i : Int) < 2 := by omega
    have hii : (i : Int) ≤ (s.size : Int) := by omega
    go_enter Tryd.func12, Tryd.ntmps12
    go_wp2
    go_loopw [7, 8, 9, 10] (fun a b x _ wr => ∃ (k lo hi : Nat), 1 ≤ k ∧ k ≤ 2 ∧ x = .int .i64 (k : Int) ∧ a = .int .i64 (lo : Int) ∧ b = .int .i64 (hi : Int) ∧ (lo = if k = 1 then 128 else 128) ∧ (hi = if k = 1 then 191 else 191) ∧ (∀ j, 1 ≤ j → j < k → okB (s.data.toList.drop i) 128 191 j) ∧ wr = w) (fun _ _ x _ _ => 2 - (intOf x).toNat)
    case atStart => exact ⟨1, 128, 191, by omega, by omega, rfl, rfl, rfl, rfl, rfl, fun j h1 h2 => by omega, rfl⟩
    case round =>
      obtain ⟨k, lo, hi, hk1, hk2, rfl, rfl, rfl, hlo, hhi, hall, rfl⟩ := hrel
      have HA : Hid (∀ j, 1 ≤ j → j < k → okB (s.data.toList.drop i) 128 191 j) := hall
      have HLO : Hid (lo = if k = 1 then 128 else 128) := hlo
      have HHI : Hid (hi = if k = 1 then 191 else 191) := hhi
      clear hlo hhi hall g194 g224 g240 l223 l239 l244 e224 b224 e237 b237 e240 b240 e244 b244
      by_cases hkn : k < 2
      · have hki : (k : Int) < 2 := by omega
        have hik : i + k < s.size := by omega
        have hiki : (i : Int) + (k : Int) < (s.size : Int) := by omega
        have HG : Hid (gB (s.data.toList.drop i) k = s[i + k].toNat) := gBk s i k hik
        have hbl : s[i + k].toNat < 256 := s[i + k].toNat_lt
        have hbi : (s[i + k].toNat : Int) < 256 := by omega
        by_cases hb1 : s[i + k].toNat < lo
        · have hb1i : (s[i + k].toNat : Int) < (lo : Int) := by omega
          have HE : Hid (wdL (s.data.toList.drop i) = 1) := HW.out.2 k hk1 hkn (fun ho => by unfold okB at ho; rw [HG.out, ← HLO.out] at ho; omega)
          clear HW
          go_wp2
          go_ret
          exact ⟨by rw [HE.out]; rfl, rfl⟩
        · have hb1i : ¬ (s[i + k].toNat : Int) < (lo : Int) := by omega
          by_cases hb2 : hi < s[i + k].toNat
          · have hb2i : (hi : Int) < (s[i + k].toNat : Int) := by omega
            have HE : Hid (wdL (s.data.toList.drop i) = 1) := HW.out.2 k hk1 hkn (fun ho => by unfold okB at ho; rw [HG.out, ← HHI.out] at ho; omega)
            clear HW
            go_wp2
            go_ret
            exact ⟨by rw [HE.out]; rfl, rfl⟩
          · have hb2i : ¬ (hi : Int) < (s[i + k].toNat : Int) := by omega
            have HA2 : Hid (∀ j, 1 ≤ j → j < k + 1 → okB (s.data.toList.drop i) 128 191 j) := by
              intro j h1 h2
              rcases Nat.lt_or_ge j k with h3 | h3
              · exact HA.out j h1 h3
              · obtain rfl : j = k := by omega
                unfold okB
                rw [HG.out, ← HLO.out, ← HHI.out]
                omega
            go_wp2
            go_roundw
            case rel => exact ⟨k + 1, 128, 191, by omega, by omega, by go_num, rfl, rfl, by rw [if_neg (by omega)], by rw [if_neg (by omega)], HA2.out, trivial⟩
            case measure => simp [intOf]; omega
      · have hki : ¬ (k : Int) < 2 := by omega
        have HE : Hid (wdL (s.data.toList.drop i) = 2) := HW.out.1 (fun j h1 h2 => HA.out j h1 (by omega))
        clear HW
        go_wp2
        go_ret
        exact ⟨by rw [HE.out]; rfl, rfl⟩
theorem wdc2 (l : List UInt8) (hc : 224 ≤ gB l 0 ∧ gB l 0 ≤ 224) : ((∀ j, 1 ≤ j → j < 3 → okB l 160 191 j) → wdL l = 3) ∧ (∀ k, 1 ≤ k → k < 3 → ¬ okB l 160 191 k → wdL l = 1) := by
  unfold wdL wdN
  constructor
  · intro h
    have h1 := h 1 (by omega) (by omega)
    unfold okB at h1
    rw [if_pos rfl, if_pos rfl] at h1
    have h2 := h 2 (by omega) (by omega)
    unfold okB at h2
    rw [if_neg (by omega), if_neg (by omega)] at h2
    clear h
    repeat' split
    all_goals omega
  · intro k h1 h2 h3
    have hk : k = 1 ∨ k = 2 := by omega
    unfold okB at h3
    rcases hk with rfl | rfl
    · rw [if_pos rfl, if_pos rfl] at h3
      repeat' split
      all_goals omega
    · rw [if_neg (by omega), if_neg (by omega)] at h3
      repeat' split
      all_goals omega
set_option maxHeartbeats 4000000 in
theorem wide2 (s : ByteArray) (i : Nat) (w : World) (h : i < s.size) (hs : s.size ≤ 1099511627776) (hc : 224 ≤ s[i].toNat ∧ s[i].toNat ≤ 224) :
    Calls Tryd.prog 12 #[.string s, .int .i64 (i : Int)] w fun e w' => e = .returned (.int .i64 (wdL (s.data.toList.drop i) : Int)) ∧ w' = w := by
  have g0 := gB0 s i h
  have HW : Hid _ := wdc2 (s.data.toList.drop i) (by rw [g0]; exact hc)
  have g194 : ((194 : Int) ≤ (s[i].toNat : Int)) := by omega
  have g224 : ((224 : Int) ≤ (s[i].toNat : Int)) := by omega
  have g240 : ¬ ((240 : Int) ≤ (s[i].toNat : Int)) := by omega
  have l223 : ¬ ((s[i].toNat : Int) ≤ 223) := by omega
  have l239 : ((s[i].toNat : Int) ≤ 239) := by omega
  have l244 : ((s[i].toNat : Int) ≤ 244) := by omega
  have e224 : (s[i].toNat : Int) = 224 := by omega
  have b224 : ((s[i].toNat : Int) == 224) = true := beq_iff_eq.2 e224
  have e237 : ¬ (s[i].toNat : Int) = 237 := by omega
  have b237 : ((s[i].toNat : Int) == 237) = false := beq_eq_false_iff_ne.2 e237
  have e240 : ¬ (s[i].toNat : Int) = 240 := by omega
  have b240 : ((s[i].toNat : Int) == 240) = false := beq_eq_false_iff_ne.2 e240
  have e244 : ¬ (s[i].toNat : Int) = 244 := by omega
  have b244 : ((s[i].toNat : Int) == 244) = false := beq_eq_false_iff_ne.2 e244
  by_cases hl : s.size - i < 3
  · have hli : (s.size : Int) - (i : Int) < 3 := by omega
    have HE : Hid (wdL (s.data.toList.drop i) = 1) := HW.out.2 (s.size - i) (by omega) hl (fun ho => by
      unfold okB at ho
      rw [gB_out (by rw [List.length_drop, Array.length_toList]; exact Nat.le_refl _)] at ho
      by_cases h1 : s.size - i = 1
      · rw [if_pos h1] at ho; omega
      · rw [if_neg h1] at ho; omega)
    clear HW
    go_enter Tryd.func12, Tryd.ntmps12
    go_wp2
    go_ret
    exact ⟨by rw [HE.out]; rfl, rfl⟩
  · have hli : ¬ (s.size : Int) - (i : Int) < 3 := by omega
    have hii : (i : Int) ≤ (s.size : Int) := by omega
    go_enter Tryd.func12, Tryd.ntmps12
    go_wp2
    go_loopw [7, 8, 9, 10] (fun a b x _ wr => ∃ (k lo hi : Nat), 1 ≤ k ∧ k ≤ 3 ∧ x = .int .i64 (k : Int) ∧ a = .int .i64 (lo : Int) ∧ b = .int .i64 (hi : Int) ∧ (lo = if k = 1 then 160 else 128) ∧ (hi = if k = 1 then 191 else 191) ∧ (∀ j, 1 ≤ j → j < k → okB (s.data.toList.drop i) 160 191 j) ∧ wr = w) (fun _ _ x _ _ => 3 - (intOf x).toNat)
    case atStart => exact ⟨1, 160, 191, by omega, by omega, rfl, rfl, rfl, rfl, rfl, fun j h1 h2 => by omega, rfl⟩
    case round =>
      obtain ⟨k, lo, hi, hk1, hk2, rfl, rfl, rfl, hlo, hhi, hall, rfl⟩ := hrel
      have HA : Hid (∀ j, 1 ≤ j → j < k → okB (s.data.toList.drop i) 160 191 j) := hall
      have HLO : Hid (lo = if k = 1 then 160 else 128) := hlo
      have HHI : Hid (hi = if k = 1 then 191 else 191) := hhi
      clear hlo hhi hall g194 g224 g240 l223 l239 l244 e224 b224 e237 b237 e240 b240 e244 b244
      by_cases hkn : k < 3
      · have hki : (k : Int) < 3 := by omega
        have hik : i + k < s.size := by omega
        have hiki : (i : Int) + (k : Int) < (s.size : Int) := by omega
        have HG : Hid (gB (s.data.toList.drop i) k = s[i + k].toNat) := gBk s i k hik
        have hbl : s[i + k].toNat < 256 := s[i + k].toNat_lt
        have hbi : (s[i + k].toNat : Int) < 256 := by omega
        by_cases hb1 : s[i + k].toNat < lo
        · have hb1i : (s[i + k].toNat : Int) < (lo : Int) := by omega
          have HE : Hid (wdL (s.data.toList.drop i) = 1) := HW.out.2 k hk1 hkn (fun ho => by unfold okB at ho; rw [HG.out, ← HLO.out] at ho; omega)
          clear HW
          go_wp2
          go_ret
          exact ⟨by rw [HE.out]; rfl, rfl⟩
        · have hb1i : ¬ (s[i + k].toNat : Int) < (lo : Int) := by omega
          by_cases hb2 : hi < s[i + k].toNat
          · have hb2i : (hi : Int) < (s[i + k].toNat : Int) := by omega
            have HE : Hid (wdL (s.data.toList.drop i) = 1) := HW.out.2 k hk1 hkn (fun ho => by unfold okB at ho; rw [HG.out, ← HHI.out] at ho; omega)
            clear HW
            go_wp2
            go_ret
            exact ⟨by rw [HE.out]; rfl, rfl⟩
          · have hb2i : ¬ (hi : Int) < (s[i + k].toNat : Int) := by omega
            have HA2 : Hid (∀ j, 1 ≤ j → j < k + 1 → okB (s.data.toList.drop i) 160 191 j) := by
              intro j h1 h2
              rcases Nat.lt_or_ge j k with h3 | h3
              · exact HA.out j h1 h3
              · obtain rfl : j = k := by omega
                unfold okB
                rw [HG.out, ← HLO.out, ← HHI.out]
                omega
            go_wp2
            go_roundw
            case rel => exact ⟨k + 1, 128, 191, by omega, by omega, by go_num, rfl, rfl, by rw [if_neg (by omega)], by rw [if_neg (by omega)], HA2.out, trivial⟩
            case measure => simp [intOf]; omega
      · have hki : ¬ (k : Int) < 3 := by omega
        have HE : Hid (wdL (s.data.toList.drop i) = 3) := HW.out.1 (fun j h1 h2 => HA.out j h1 (by omega))
        clear HW
        go_wp2
        go_ret
        exact ⟨by rw [HE.out]; rfl, rfl⟩
theorem wdc3 (l : List UInt8) (hc : 225 ≤ gB l 0 ∧ gB l 0 ≤ 236) : ((∀ j, 1 ≤ j → j < 3 → okB l 128 191 j) → wdL l = 3) ∧ (∀ k, 1 ≤ k → k < 3 → ¬ okB l 128 191 k → wdL l = 1) := by
  unfold wdL wdN
  constructor
  · intro h
    have h1 := h 1 (by omega) (by omega)
    unfold okB at h1
    rw [if_pos rfl, if_pos rfl] at h1
    have h2 := h 2 (by omega) (by omega)
    unfold okB at h2
    rw [if_neg (by omega), if_neg (by omega)] at h2
    clear h
    repeat' split
    all_goals omega
  · intro k h1 h2 h3
    have hk : k = 1 ∨ k = 2 := by omega
    unfold okB at h3
    rcases hk with rfl | rfl
    · rw [if_pos rfl, if_pos rfl] at h3
      repeat' split
      all_goals omega
    · rw [if_neg (by omega), if_neg (by omega)] at h3
      repeat' split
      all_goals omega
set_option maxHeartbeats 4000000 in
theorem wide3 (s : ByteArray) (i : Nat) (w : World) (h : i < s.size) (hs : s.size ≤ 1099511627776) (hc : 225 ≤ s[i].toNat ∧ s[i].toNat ≤ 236) :
    Calls Tryd.prog 12 #[.string s, .int .i64 (i : Int)] w fun e w' => e = .returned (.int .i64 (wdL (s.data.toList.drop i) : Int)) ∧ w' = w := by
  have g0 := gB0 s i h
  have HW : Hid _ := wdc3 (s.data.toList.drop i) (by rw [g0]; exact hc)
  have g194 : ((194 : Int) ≤ (s[i].toNat : Int)) := by omega
  have g224 : ((224 : Int) ≤ (s[i].toNat : Int)) := by omega
  have g240 : ¬ ((240 : Int) ≤ (s[i].toNat : Int)) := by omega
  have l223 : ¬ ((s[i].toNat : Int) ≤ 223) := by omega
  have l239 : ((s[i].toNat : Int) ≤ 239) := by omega
  have l244 : ((s[i].toNat : Int) ≤ 244) := by omega
  have e224 : ¬ (s[i].toNat : Int) = 224 := by omega
  have b224 : ((s[i].toNat : Int) == 224) = false := beq_eq_false_iff_ne.2 e224
  have e237 : ¬ (s[i].toNat : Int) = 237 := by omega
  have b237 : ((s[i].toNat : Int) == 237) = false := beq_eq_false_iff_ne.2 e237
  have e240 : ¬ (s[i].toNat : Int) = 240 := by omega
  have b240 : ((s[i].toNat : Int) == 240) = false := beq_eq_false_iff_ne.2 e240
  have e244 : ¬ (s[i].toNat : Int) = 244 := by omega
  have b244 : ((s[i].toNat : Int) == 244) = false := beq_eq_false_iff_ne.2 e244
  by_cases hl : s.size - i < 3
  · have hli : (s.size : Int) - (i : Int) < 3 := by omega
    have HE : Hid (wdL (s.data.toList.drop i) = 1) := HW.out.2 (s.size - i) (by omega) hl (fun ho => by
      unfold okB at ho
      rw [gB_out (by rw [List.length_drop, Array.length_toList]; exact Nat.le_refl _)] at ho
      by_cases h1 : s.size - i = 1
      · rw [if_pos h1] at ho; omega
      · rw [if_neg h1] at ho; omega)
    clear HW
    go_enter Tryd.func12, Tryd.ntmps12
    go_wp2
    go_ret
    exact ⟨by rw [HE.out]; rfl, rfl⟩
  · have hli : ¬ (s.size : Int) - (i : Int) < 3 := by omega
    have hii : (i : Int) ≤ (s.size : Int) := by omega
    go_enter Tryd.func12, Tryd.ntmps12
    go_wp2
    go_loopw [7, 8, 9, 10] (fun a b x _ wr => ∃ (k lo hi : Nat), 1 ≤ k ∧ k ≤ 3 ∧ x = .int .i64 (k : Int) ∧ a = .int .i64 (lo : Int) ∧ b = .int .i64 (hi : Int) ∧ (lo = if k = 1 then 128 else 128) ∧ (hi = if k = 1 then 191 else 191) ∧ (∀ j, 1 ≤ j → j < k → okB (s.data.toList.drop i) 128 191 j) ∧ wr = w) (fun _ _ x _ _ => 3 - (intOf x).toNat)
    case atStart => exact ⟨1, 128, 191, by omega, by omega, rfl, rfl, rfl, rfl, rfl, fun j h1 h2 => by omega, rfl⟩
    case round =>
      obtain ⟨k, lo, hi, hk1, hk2, rfl, rfl, rfl, hlo, hhi, hall, rfl⟩ := hrel
      have HA : Hid (∀ j, 1 ≤ j → j < k → okB (s.data.toList.drop i) 128 191 j) := hall
      have HLO : Hid (lo = if k = 1 then 128 else 128) := hlo
      have HHI : Hid (hi = if k = 1 then 191 else 191) := hhi
      clear hlo hhi hall g194 g224 g240 l223 l239 l244 e224 b224 e237 b237 e240 b240 e244 b244
      by_cases hkn : k < 3
      · have hki : (k : Int) < 3 := by omega
        have hik : i + k < s.size := by omega
        have hiki : (i : Int) + (k : Int) < (s.size : Int) := by omega
        have HG : Hid (gB (s.data.toList.drop i) k = s[i + k].toNat) := gBk s i k hik
        have hbl : s[i + k].toNat < 256 := s[i + k].toNat_lt
        have hbi : (s[i + k].toNat : Int) < 256 := by omega
        by_cases hb1 : s[i + k].toNat < lo
        · have hb1i : (s[i + k].toNat : Int) < (lo : Int) := by omega
          have HE : Hid (wdL (s.data.toList.drop i) = 1) := HW.out.2 k hk1 hkn (fun ho => by unfold okB at ho; rw [HG.out, ← HLO.out] at ho; omega)
          clear HW
          go_wp2
          go_ret
          exact ⟨by rw [HE.out]; rfl, rfl⟩
        · have hb1i : ¬ (s[i + k].toNat : Int) < (lo : Int) := by omega
          by_cases hb2 : hi < s[i + k].toNat
          · have hb2i : (hi : Int) < (s[i + k].toNat : Int) := by omega
            have HE : Hid (wdL (s.data.toList.drop i) = 1) := HW.out.2 k hk1 hkn (fun ho => by unfold okB at ho; rw [HG.out, ← HHI.out] at ho; omega)
            clear HW
            go_wp2
            go_ret
            exact ⟨by rw [HE.out]; rfl, rfl⟩
          · have hb2i : ¬ (hi : Int) < (s[i + k].toNat : Int) := by omega
            have HA2 : Hid (∀ j, 1 ≤ j → j < k + 1 → okB (s.data.toList.drop i) 128 191 j) := by
              intro j h1 h2
              rcases Nat.lt_or_ge j k with h3 | h3
              · exact HA.out j h1 h3
              · obtain rfl : j = k := by omega
                unfold okB
                rw [HG.out, ← HLO.out, ← HHI.out]
                omega
            go_wp2
            go_roundw
            case rel => exact ⟨k + 1, 128, 191, by omega, by omega, by go_num, rfl, rfl, by rw [if_neg (by omega)], by rw [if_neg (by omega)], HA2.out, trivial⟩
            case measure => simp [intOf]; omega
      · have hki : ¬ (k : Int) < 3 := by omega
        have HE : Hid (wdL (s.data.toList.drop i) = 3) := HW.out.1 (fun j h1 h2 => HA.out j h1 (by omega))
        clear HW
        go_wp2
        go_ret
        exact ⟨by rw [HE.out]; rfl, rfl⟩
theorem wdc4 (l : List UInt8) (hc : 237 ≤ gB l 0 ∧ gB l 0 ≤ 237) : ((∀ j, 1 ≤ j → j < 3 → okB l 128 159 j) → wdL l = 3) ∧ (∀ k, 1 ≤ k → k < 3 → ¬ okB l 128 159 k → wdL l = 1) := by
  unfold wdL wdN
  constructor
  · intro h
    have h1 := h 1 (by omega) (by omega)
    unfold okB at h1
    rw [if_pos rfl, if_pos rfl] at h1
    have h2 := h 2 (by omega) (by omega)
    unfold okB at h2
    rw [if_neg (by omega), if_neg (by omega)] at h2
    clear h
    repeat' split
    all_goals omega
  · intro k h1 h2 h3
    have hk : k = 1 ∨ k = 2 := by omega
    unfold okB at h3
    rcases hk with rfl | rfl
    · rw [if_pos rfl, if_pos rfl] at h3
      repeat' split
      all_goals omega
    · rw [if_neg (by omega), if_neg (by omega)] at h3
      repeat' split
      all_goals omega
set_option maxHeartbeats 4000000 in
theorem wide4 (s : ByteArray) (i : Nat) (w : World) (h : i < s.size) (hs : s.size ≤ 1099511627776) (hc : 237 ≤ s[i].toNat ∧ s[i].toNat ≤ 237) :
    Calls Tryd.prog 12 #[.string s, .int .i64 (i : Int)] w fun e w' => e = .returned (.int .i64 (wdL (s.data.toList.drop i) : Int)) ∧ w' = w := by
  have g0 := gB0 s i h
  have HW : Hid _ := wdc4 (s.data.toList.drop i) (by rw [g0]; exact hc)
  have g194 : ((194 : Int) ≤ (s[i].toNat : Int)) := by omega
  have g224 : ((224 : Int) ≤ (s[i].toNat : Int)) := by omega
  have g240 : ¬ ((240 : Int) ≤ (s[i].toNat : Int)) := by omega
  have l223 : ¬ ((s[i].toNat : Int) ≤ 223) := by omega
  have l239 : ((s[i].toNat : Int) ≤ 239) := by omega
  have l244 : ((s[i].toNat : Int) ≤ 244) := by omega
  have e224 : ¬ (s[i].toNat : Int) = 224 := by omega
  have b224 : ((s[i].toNat : Int) == 224) = false := beq_eq_false_iff_ne.2 e224
  have e237 : (s[i].toNat : Int) = 237 := by omega
  have b237 : ((s[i].toNat : Int) == 237) = true := beq_iff_eq.2 e237
  have e240 : ¬ (s[i].toNat : Int) = 240 := by omega
  have b240 : ((s[i].toNat : Int) == 240) = false := beq_eq_false_iff_ne.2 e240
  have e244 : ¬ (s[i].toNat : Int) = 244 := by omega
  have b244 : ((s[i].toNat : Int) == 244) = false := beq_eq_false_iff_ne.2 e244
  by_cases hl : s.size - i < 3
  · have hli : (s.size : Int) - (i : Int) < 3 := by omega
    have HE : Hid (wdL (s.data.toList.drop i) = 1) := HW.out.2 (s.size - i) (by omega) hl (fun ho => by
      unfold okB at ho
      rw [gB_out (by rw [List.length_drop, Array.length_toList]; exact Nat.le_refl _)] at ho
      by_cases h1 : s.size - i = 1
      · rw [if_pos h1] at ho; omega
      · rw [if_neg h1] at ho; omega)
    clear HW
    go_enter Tryd.func12, Tryd.ntmps12
    go_wp2
    go_ret
    exact ⟨by rw [HE.out]; rfl, rfl⟩
  · have hli : ¬ (s.size : Int) - (i : Int) < 3 := by omega
    have hii : (i : Int) ≤ (s.size : Int) := by omega
    go_enter Tryd.func12, Tryd.ntmps12
    go_wp2
    go_loopw [7, 8, 9, 10] (fun a b x _ wr => ∃ (k lo hi : Nat), 1 ≤ k ∧ k ≤ 3 ∧ x = .int .i64 (k : Int) ∧ a = .int .i64 (lo : Int) ∧ b = .int .i64 (hi : Int) ∧ (lo = if k = 1 then 128 else 128) ∧ (hi = if k = 1 then 159 else 191) ∧ (∀ j, 1 ≤ j → j < k → okB (s.data.toList.drop i) 128 159 j) ∧ wr = w) (fun _ _ x _ _ => 3 - (intOf x).toNat)
    case atStart => exact ⟨1, 128, 159, by omega, by omega, rfl, rfl, rfl, rfl, rfl, fun j h1 h2 => by omega, rfl⟩
    case round =>
      obtain ⟨k, lo, hi, hk1, hk2, rfl, rfl, rfl, hlo, hhi, hall, rfl⟩ := hrel
      have HA : Hid (∀ j, 1 ≤ j → j < k → okB (s.data.toList.drop i) 128 159 j) := hall
      have HLO : Hid (lo = if k = 1 then 128 else 128) := hlo
      have HHI : Hid (hi = if k = 1 then 159 else 191) := hhi
      clear hlo hhi hall g194 g224 g240 l223 l239 l244 e224 b224 e237 b237 e240 b240 e244 b244
      by_cases hkn : k < 3
      · have hki : (k : Int) < 3 := by omega
        have hik : i + k < s.size := by omega
        have hiki : (i : Int) + (k : Int) < (s.size : Int) := by omega
        have HG : Hid (gB (s.data.toList.drop i) k = s[i + k].toNat) := gBk s i k hik
        have hbl : s[i + k].toNat < 256 := s[i + k].toNat_lt
        have hbi : (s[i + k].toNat : Int) < 256 := by omega
        by_cases hb1 : s[i + k].toNat < lo
        · have hb1i : (s[i + k].toNat : Int) < (lo : Int) := by omega
          have HE : Hid (wdL (s.data.toList.drop i) = 1) := HW.out.2 k hk1 hkn (fun ho => by unfold okB at ho; rw [HG.out, ← HLO.out] at ho; omega)
          clear HW
          go_wp2
          go_ret
          exact ⟨by rw [HE.out]; rfl, rfl⟩
        · have hb1i : ¬ (s[i + k].toNat : Int) < (lo : Int) := by omega
          by_cases hb2 : hi < s[i + k].toNat
          · have hb2i : (hi : Int) < (s[i + k].toNat : Int) := by omega
            have HE : Hid (wdL (s.data.toList.drop i) = 1) := HW.out.2 k hk1 hkn (fun ho => by unfold okB at ho; rw [HG.out, ← HHI.out] at ho; omega)
            clear HW
            go_wp2
            go_ret
            exact ⟨by rw [HE.out]; rfl, rfl⟩
          · have hb2i : ¬ (hi : Int) < (s[i + k].toNat : Int) := by omega
            have HA2 : Hid (∀ j, 1 ≤ j → j < k + 1 → okB (s.data.toList.drop i) 128 159 j) := by
              intro j h1 h2
              rcases Nat.lt_or_ge j k with h3 | h3
              · exact HA.out j h1 h3
              · obtain rfl : j = k := by omega
                unfold okB
                rw [HG.out, ← HLO.out, ← HHI.out]
                omega
            go_wp2
            go_roundw
            case rel => exact ⟨k + 1, 128, 191, by omega, by omega, by go_num, rfl, rfl, by rw [if_neg (by omega)], by rw [if_neg (by omega)], HA2.out, trivial⟩
            case measure => simp [intOf]; omega
      · have hki : ¬ (k : Int) < 3 := by omega
        have HE : Hid (wdL (s.data.toList.drop i) = 3) := HW.out.1 (fun j h1 h2 => HA.out j h1 (by omega))
        clear HW
        go_wp2
        go_ret
        exact ⟨by rw [HE.out]; rfl, rfl⟩
theorem wdc5 (l : List UInt8) (hc : 238 ≤ gB l 0 ∧ gB l 0 ≤ 239) : ((∀ j, 1 ≤ j → j < 3 → okB l 128 191 j) → wdL l = 3) ∧ (∀ k, 1 ≤ k → k < 3 → ¬ okB l 128 191 k → wdL l = 1) := by
  unfold wdL wdN
  constructor
  · intro h
    have h1 := h 1 (by omega) (by omega)
    unfold okB at h1
    rw [if_pos rfl, if_pos rfl] at h1
    have h2 := h 2 (by omega) (by omega)
    unfold okB at h2
    rw [if_neg (by omega), if_neg (by omega)] at h2
    clear h
    repeat' split
    all_goals omega
  · intro k h1 h2 h3
    have hk : k = 1 ∨ k = 2 := by omega
    unfold okB at h3
    rcases hk with rfl | rfl
    · rw [if_pos rfl, if_pos rfl] at h3
      repeat' split
      all_goals omega
    · rw [if_neg (by omega), if_neg (by omega)] at h3
      repeat' split
      all_goals omega
set_option maxHeartbeats 4000000 in
theorem wide5 (s : ByteArray) (i : Nat) (w : World) (h : i < s.size) (hs : s.size ≤ 1099511627776) (hc : 238 ≤ s[i].toNat ∧ s[i].toNat ≤ 239) :
    Calls Tryd.prog 12 #[.string s, .int .i64 (i : Int)] w fun e w' => e = .returned (.int .i64 (wdL (s.data.toList.drop i) : Int)) ∧ w' = w := by
  have g0 := gB0 s i h
  have HW : Hid _ := wdc5 (s.data.toList.drop i) (by rw [g0]; exact hc)
  have g194 : ((194 : Int) ≤ (s[i].toNat : Int)) := by omega
  have g224 : ((224 : Int) ≤ (s[i].toNat : Int)) := by omega
  have g240 : ¬ ((240 : Int) ≤ (s[i].toNat : Int)) := by omega
  have l223 : ¬ ((s[i].toNat : Int) ≤ 223) := by omega
  have l239 : ((s[i].toNat : Int) ≤ 239) := by omega
  have l244 : ((s[i].toNat : Int) ≤ 244) := by omega
  have e224 : ¬ (s[i].toNat : Int) = 224 := by omega
  have b224 : ((s[i].toNat : Int) == 224) = false := beq_eq_false_iff_ne.2 e224
  have e237 : ¬ (s[i].toNat : Int) = 237 := by omega
  have b237 : ((s[i].toNat : Int) == 237) = false := beq_eq_false_iff_ne.2 e237
  have e240 : ¬ (s[i].toNat : Int) = 240 := by omega
  have b240 : ((s[i].toNat : Int) == 240) = false := beq_eq_false_iff_ne.2 e240
  have e244 : ¬ (s[i].toNat : Int) = 244 := by omega
  have b244 : ((s[i].toNat : Int) == 244) = false := beq_eq_false_iff_ne.2 e244
  by_cases hl : s.size - i < 3
  · have hli : (s.size : Int) - (i : Int) < 3 := by omega
    have HE : Hid (wdL (s.data.toList.drop i) = 1) := HW.out.2 (s.size - i) (by omega) hl (fun ho => by
      unfold okB at ho
      rw [gB_out (by rw [List.length_drop, Array.length_toList]; exact Nat.le_refl _)] at ho
      by_cases h1 : s.size - i = 1
      · rw [if_pos h1] at ho; omega
      · rw [if_neg h1] at ho; omega)
    clear HW
    go_enter Tryd.func12, Tryd.ntmps12
    go_wp2
    go_ret
    exact ⟨by rw [HE.out]; rfl, rfl⟩
  · have hli : ¬ (s.size : Int) - (i : Int) < 3 := by omega
    have hii : (i : Int) ≤ (s.size : Int) := by omega
    go_enter Tryd.func12, Tryd.ntmps12
    go_wp2
    go_loopw [7, 8, 9, 10] (fun a b x _ wr => ∃ (k lo hi : Nat), 1 ≤ k ∧ k ≤ 3 ∧ x = .int .i64 (k : Int) ∧ a = .int .i64 (lo : Int) ∧ b = .int .i64 (hi : Int) ∧ (lo = if k = 1 then 128 else 128) ∧ (hi = if k = 1 then 191 else 191) ∧ (∀ j, 1 ≤ j → j < k → okB (s.data.toList.drop i) 128 191 j) ∧ wr = w) (fun _ _ x _ _ => 3 - (intOf x).toNat)
    case atStart => exact ⟨1, 128, 191, by omega, by omega, rfl, rfl, rfl, rfl, rfl, fun j h1 h2 => by omega, rfl⟩
    case round =>
      obtain ⟨k, lo, hi, hk1, hk2, rfl, rfl, rfl, hlo, hhi, hall, rfl⟩ := hrel
      have HA : Hid (∀ j, 1 ≤ j → j < k → okB (s.data.toList.drop i) 128 191 j) := hall
      have HLO : Hid (lo = if k = 1 then 128 else 128) := hlo
      have HHI : Hid (hi = if k = 1 then 191 else 191) := hhi
      clear hlo hhi hall g194 g224 g240 l223 l239 l244 e224 b224 e237 b237 e240 b240 e244 b244
      by_cases hkn : k < 3
      · have hki : (k : Int) < 3 := by omega
        have hik : i + k < s.size := by omega
        have hiki : (i : Int) + (k : Int) < (s.size : Int) := by omega
        have HG : Hid (gB (s.data.toList.drop i) k = s[i + k].toNat) := gBk s i k hik
        have hbl : s[i + k].toNat < 256 := s[i + k].toNat_lt
        have hbi : (s[i + k].toNat : Int) < 256 := by omega
        by_cases hb1 : s[i + k].toNat < lo
        · have hb1i : (s[i + k].toNat : Int) < (lo : Int) := by omega
          have HE : Hid (wdL (s.data.toList.drop i) = 1) := HW.out.2 k hk1 hkn (fun ho => by unfold okB at ho; rw [HG.out, ← HLO.out] at ho; omega)
          clear HW
          go_wp2
          go_ret
          exact ⟨by rw [HE.out]; rfl, rfl⟩
        · have hb1i : ¬ (s[i + k].toNat : Int) < (lo : Int) := by omega
          by_cases hb2 : hi < s[i + k].toNat
          · have hb2i : (hi : Int) < (s[i + k].toNat : Int) := by omega
            have HE : Hid (wdL (s.data.toList.drop i) = 1) := HW.out.2 k hk1 hkn (fun ho => by unfold okB at ho; rw [HG.out, ← HHI.out] at ho; omega)
            clear HW
            go_wp2
            go_ret
            exact ⟨by rw [HE.out]; rfl, rfl⟩
          · have hb2i : ¬ (hi : Int) < (s[i + k].toNat : Int) := by omega
            have HA2 : Hid (∀ j, 1 ≤ j → j < k + 1 → okB (s.data.toList.drop i) 128 191 j) := by
              intro j h1 h2
              rcases Nat.lt_or_ge j k with h3 | h3
              · exact HA.out j h1 h3
              · obtain rfl : j = k := by omega
                unfold okB
                rw [HG.out, ← HLO.out, ← HHI.out]
                omega
            go_wp2
            go_roundw
            case rel => exact ⟨k + 1, 128, 191, by omega, by omega, by go_num, rfl, rfl, by rw [if_neg (by omega)], by rw [if_neg (by omega)], HA2.out, trivial⟩
            case measure => simp [intOf]; omega
      · have hki : ¬ (k : Int) < 3 := by omega
        have HE : Hid (wdL (s.data.toList.drop i) = 3) := HW.out.1 (fun j h1 h2 => HA.out j h1 (by omega))
        clear HW
        go_wp2
        go_ret
        exact ⟨by rw [HE.out]; rfl, rfl⟩
theorem wdc6 (l : List UInt8) (hc : 240 ≤ gB l 0 ∧ gB l 0 ≤ 240) : ((∀ j, 1 ≤ j → j < 4 → okB l 144 191 j) → wdL l = 4) ∧ (∀ k, 1 ≤ k → k < 4 → ¬ okB l 144 191 k → wdL l = 1) := by
  unfold wdL wdN
  constructor
  · intro h
    have h1 := h 1 (by omega) (by omega)
    unfold okB at h1
    rw [if_pos rfl, if_pos rfl] at h1
    have h2 := h 2 (by omega) (by omega)
    unfold okB at h2
    rw [if_neg (by omega), if_neg (by omega)] at h2
    have h3 := h 3 (by omega) (by omega)
    unfold okB at h3
    rw [if_neg (by omega), if_neg (by omega)] at h3
    clear h
    repeat' split
    all_goals omega
  · intro k h1 h2 h3
    have hk : k = 1 ∨ k = 2 ∨ k = 3 := by omega
    unfold okB at h3
    rcases hk with rfl | rfl | rfl
    · rw [if_pos rfl, if_pos rfl] at h3
      repeat' split
      all_goals omega
    · rw [if_neg (by omega), if_neg (by omega)] at h3
      repeat' split
      all_goals omega
    · rw [if_neg (by omega), if_neg (by omega)] at h3
      repeat' split
      all_goals omega
set_option maxHeartbeats 4000000 in
theorem wide6 (s : ByteArray) (i : Nat) (w : World) (h : i < s.size) (hs : s.size ≤ 1099511627776) (hc : 240 ≤ s[i].toNat ∧ s[i].toNat ≤ 240) :
    Calls Tryd.prog 12 #[.string s, .int .i64 (i : Int)] w fun e w' => e = .returned (.int .i64 (wdL (s.data.toList.drop i) : Int)) ∧ w' = w := by
  have g0 := gB0 s i h
  have HW : Hid _ := wdc6 (s.data.toList.drop i) (by rw [g0]; exact hc)
  have g194 : ((194 : Int) ≤ (s[i].toNat : Int)) := by omega
  have g224 : ((224 : Int) ≤ (s[i].toNat : Int)) := by omega
  have g240 : ((240 : Int) ≤ (s[i].toNat : Int)) := by omega
  have l223 : ¬ ((s[i].toNat : Int) ≤ 223) := by omega
  have l239 : ¬ ((s[i].toNat : Int) ≤ 239) := by omega
  have l244 : ((s[i].toNat : Int) ≤ 244) := by omega
  have e224 : ¬ (s[i].toNat : Int) = 224 := by omega
  have b224 : ((s[i].toNat : Int) == 224) = false := beq_eq_false_iff_ne.2 e224
  have e237 : ¬ (s[i].toNat : Int) = 237 := by omega
  have b237 : ((s[i].toNat : Int) == 237) = false := beq_eq_false_iff_ne.2 e237
  have e240 : (s[i].toNat : Int) = 240 := by omega
  have b240 : ((s[i].toNat : Int) == 240) = true := beq_iff_eq.2 e240
  have e244 : ¬ (s[i].toNat : Int) = 244 := by omega
  have b244 : ((s[i].toNat : Int) == 244) = false := beq_eq_false_iff_ne.2 e244
  by_cases hl : s.size - i < 4
  · have hli : (s.size : Int) - (i : Int) < 4 := by omega
    have HE : Hid (wdL (s.data.toList.drop i) = 1) := HW.out.2 (s.size - i) (by omega) hl (fun ho => by
      unfold okB at ho
      rw [gB_out (by rw [List.length_drop, Array.length_toList]; exact Nat.le_refl _)] at ho
      by_cases h1 : s.size - i = 1
      · rw [if_pos h1] at ho; omega
      · rw [if_neg h1] at ho; omega)
    clear HW
    go_enter Tryd.func12, Tryd.ntmps12
    go_wp2
    go_ret
    exact ⟨by rw [HE.out]; rfl, rfl⟩
  · have hli : ¬ (s.size : Int) - (i : Int) < 4 := by omega
    have hii : (i : Int) ≤ (s.size : Int) := by omega
    go_enter Tryd.func12, Tryd.ntmps12
    go_wp2
    go_loopw [7, 8, 9, 10] (fun a b x _ wr => ∃ (k lo hi : Nat), 1 ≤ k ∧ k ≤ 4 ∧ x = .int .i64 (k : Int) ∧ a = .int .i64 (lo : Int) ∧ b = .int .i64 (hi : Int) ∧ (lo = if k = 1 then 144 else 128) ∧ (hi = if k = 1 then 191 else 191) ∧ (∀ j, 1 ≤ j → j < k → okB (s.data.toList.drop i) 144 191 j) ∧ wr = w) (fun _ _ x _ _ => 4 - (intOf x).toNat)
    case atStart => exact ⟨1, 144, 191, by omega, by omega, rfl, rfl, rfl, rfl, rfl, fun j h1 h2 => by omega, rfl⟩
    case round =>
      obtain ⟨k, lo, hi, hk1, hk2, rfl, rfl, rfl, hlo, hhi, hall, rfl⟩ := hrel
      have HA : Hid (∀ j, 1 ≤ j → j < k → okB (s.data.toList.drop i) 144 191 j) := hall
      have HLO : Hid (lo = if k = 1 then 144 else 128) := hlo
      have HHI : Hid (hi = if k = 1 then 191 else 191) := hhi
      clear hlo hhi hall g194 g224 g240 l223 l239 l244 e224 b224 e237 b237 e240 b240 e244 b244
      by_cases hkn : k < 4
      · have hki : (k : Int) < 4 := by omega
        have hik : i + k < s.size := by omega
        have hiki : (i : Int) + (k : Int) < (s.size : Int) := by omega
        have HG : Hid (gB (s.data.toList.drop i) k = s[i + k].toNat) := gBk s i k hik
        have hbl : s[i + k].toNat < 256 := s[i + k].toNat_lt
        have hbi : (s[i + k].toNat : Int) < 256 := by omega
        by_cases hb1 : s[i + k].toNat < lo
        · have hb1i : (s[i + k].toNat : Int) < (lo : Int) := by omega
          have HE : Hid (wdL (s.data.toList.drop i) = 1) := HW.out.2 k hk1 hkn (fun ho => by unfold okB at ho; rw [HG.out, ← HLO.out] at ho; omega)
          clear HW
          go_wp2
          go_ret
          exact ⟨by rw [HE.out]; rfl, rfl⟩
        · have hb1i : ¬ (s[i + k].toNat : Int) < (lo : Int) := by omega
          by_cases hb2 : hi < s[i + k].toNat
          · have hb2i : (hi : Int) < (s[i + k].toNat : Int) := by omega
            have HE : Hid (wdL (s.data.toList.drop i) = 1) := HW.out.2 k hk1 hkn (fun ho => by unfold okB at ho; rw [HG.out, ← HHI.out] at ho; omega)
            clear HW
            go_wp2
            go_ret
            exact ⟨by rw [HE.out]; rfl, rfl⟩
          · have hb2i : ¬ (hi : Int) < (s[i + k].toNat : Int) := by omega
            have HA2 : Hid (∀ j, 1 ≤ j → j < k + 1 → okB (s.data.toList.drop i) 144 191 j) := by
              intro j h1 h2
              rcases Nat.lt_or_ge j k with h3 | h3
              · exact HA.out j h1 h3
              · obtain rfl : j = k := by omega
                unfold okB
                rw [HG.out, ← HLO.out, ← HHI.out]
                omega
            go_wp2
            go_roundw
            case rel => exact ⟨k + 1, 128, 191, by omega, by omega, by go_num, rfl, rfl, by rw [if_neg (by omega)], by rw [if_neg (by omega)], HA2.out, trivial⟩
            case measure => simp [intOf]; omega
      · have hki : ¬ (k : Int) < 4 := by omega
        have HE : Hid (wdL (s.data.toList.drop i) = 4) := HW.out.1 (fun j h1 h2 => HA.out j h1 (by omega))
        clear HW
        go_wp2
        go_ret
        exact ⟨by rw [HE.out]; rfl, rfl⟩
theorem wdc7 (l : List UInt8) (hc : 241 ≤ gB l 0 ∧ gB l 0 ≤ 243) : ((∀ j, 1 ≤ j → j < 4 → okB l 128 191 j) → wdL l = 4) ∧ (∀ k, 1 ≤ k → k < 4 → ¬ okB l 128 191 k → wdL l = 1) := by
  unfold wdL wdN
  constructor
  · intro h
    have h1 := h 1 (by omega) (by omega)
    unfold okB at h1
    rw [if_pos rfl, if_pos rfl] at h1
    have h2 := h 2 (by omega) (by omega)
    unfold okB at h2
    rw [if_neg (by omega), if_neg (by omega)] at h2
    have h3 := h 3 (by omega) (by omega)
    unfold okB at h3
    rw [if_neg (by omega), if_neg (by omega)] at h3
    clear h
    repeat' split
    all_goals omega
  · intro k h1 h2 h3
    have hk : k = 1 ∨ k = 2 ∨ k = 3 := by omega
    unfold okB at h3
    rcases hk with rfl | rfl | rfl
    · rw [if_pos rfl, if_pos rfl] at h3
      repeat' split
      all_goals omega
    · rw [if_neg (by omega), if_neg (by omega)] at h3
      repeat' split
      all_goals omega
    · rw [if_neg (by omega), if_neg (by omega)] at h3
      repeat' split
      all_goals omega
set_option maxHeartbeats 4000000 in
theorem wide7 (s : ByteArray) (i : Nat) (w : World) (h : i < s.size) (hs : s.size ≤ 1099511627776) (hc : 241 ≤ s[i].toNat ∧ s[i].toNat ≤ 243) :
    Calls Tryd.prog 12 #[.string s, .int .i64 (i : Int)] w fun e w' => e = .returned (.int .i64 (wdL (s.data.toList.drop i) : Int)) ∧ w' = w := by
  have g0 := gB0 s i h
  have HW : Hid _ := wdc7 (s.data.toList.drop i) (by rw [g0]; exact hc)
  have g194 : ((194 : Int) ≤ (s[i].toNat : Int)) := by omega
  have g224 : ((224 : Int) ≤ (s[i].toNat : Int)) := by omega
  have g240 : ((240 : Int) ≤ (s[i].toNat : Int)) := by omega
  have l223 : ¬ ((s[i].toNat : Int) ≤ 223) := by omega
  have l239 : ¬ ((s[i].toNat : Int) ≤ 239) := by omega
  have l244 : ((s[i].toNat : Int) ≤ 244) := by omega
  have e224 : ¬ (s[i].toNat : Int) = 224 := by omega
  have b224 : ((s[i].toNat : Int) == 224) = false := beq_eq_false_iff_ne.2 e224
  have e237 : ¬ (s[i].toNat : Int) = 237 := by omega
  have b237 : ((s[i].toNat : Int) == 237) = false := beq_eq_false_iff_ne.2 e237
  have e240 : ¬ (s[i].toNat : Int) = 240 := by omega
  have b240 : ((s[i].toNat : Int) == 240) = false := beq_eq_false_iff_ne.2 e240
  have e244 : ¬ (s[i].toNat : Int) = 244 := by omega
  have b244 : ((s[i].toNat : Int) == 244) = false := beq_eq_false_iff_ne.2 e244
  by_cases hl : s.size - i < 4
  · have hli : (s.size : Int) - (i : Int) < 4 := by omega
    have HE : Hid (wdL (s.data.toList.drop i) = 1) := HW.out.2 (s.size - i) (by omega) hl (fun ho => by
      unfold okB at ho
      rw [gB_out (by rw [List.length_drop, Array.length_toList]; exact Nat.le_refl _)] at ho
      by_cases h1 : s.size - i = 1
      · rw [if_pos h1] at ho; omega
      · rw [if_neg h1] at ho; omega)
    clear HW
    go_enter Tryd.func12, Tryd.ntmps12
    go_wp2
    go_ret
    exact ⟨by rw [HE.out]; rfl, rfl⟩
  · have hli : ¬ (s.size : Int) - (i : Int) < 4 := by omega
    have hii : (i : Int) ≤ (s.size : Int) := by omega
    go_enter Tryd.func12, Tryd.ntmps12
    go_wp2
    go_loopw [7, 8, 9, 10] (fun a b x _ wr => ∃ (k lo hi : Nat), 1 ≤ k ∧ k ≤ 4 ∧ x = .int .i64 (k : Int) ∧ a = .int .i64 (lo : Int) ∧ b = .int .i64 (hi : Int) ∧ (lo = if k = 1 then 128 else 128) ∧ (hi = if k = 1 then 191 else 191) ∧ (∀ j, 1 ≤ j → j < k → okB (s.data.toList.drop i) 128 191 j) ∧ wr = w) (fun _ _ x _ _ => 4 - (intOf x).toNat)
    case atStart => exact ⟨1, 128, 191, by omega, by omega, rfl, rfl, rfl, rfl, rfl, fun j h1 h2 => by omega, rfl⟩
    case round =>
      obtain ⟨k, lo, hi, hk1, hk2, rfl, rfl, rfl, hlo, hhi, hall, rfl⟩ := hrel
      have HA : Hid (∀ j, 1 ≤ j → j < k → okB (s.data.toList.drop i) 128 191 j) := hall
      have HLO : Hid (lo = if k = 1 then 128 else 128) := hlo
      have HHI : Hid (hi = if k = 1 then 191 else 191) := hhi
      clear hlo hhi hall g194 g224 g240 l223 l239 l244 e224 b224 e237 b237 e240 b240 e244 b244
      by_cases hkn : k < 4
      · have hki : (k : Int) < 4 := by omega
        have hik : i + k < s.size := by omega
        have hiki : (i : Int) + (k : Int) < (s.size : Int) := by omega
        have HG : Hid (gB (s.data.toList.drop i) k = s[i + k].toNat) := gBk s i k hik
        have hbl : s[i + k].toNat < 256 := s[i + k].toNat_lt
        have hbi : (s[i + k].toNat : Int) < 256 := by omega
        by_cases hb1 : s[i + k].toNat < lo
        · have hb1i : (s[i + k].toNat : Int) < (lo : Int) := by omega
          have HE : Hid (wdL (s.data.toList.drop i) = 1) := HW.out.2 k hk1 hkn (fun ho => by unfold okB at ho; rw [HG.out, ← HLO.out] at ho; omega)
          clear HW
          go_wp2
          go_ret
          exact ⟨by rw [HE.out]; rfl, rfl⟩
        · have hb1i : ¬ (s[i + k].toNat : Int) < (lo : Int) := by omega
          by_cases hb2 : hi < s[i + k].toNat
          · have hb2i : (hi : Int) < (s[i + k].toNat : Int) := by omega
            have HE : Hid (wdL (s.data.toList.drop i) = 1) := HW.out.2 k hk1 hkn (fun ho => by unfold okB at ho; rw [HG.out, ← HHI.out] at ho; omega)
            clear HW
            go_wp2
            go_ret
            exact ⟨by rw [HE.out]; rfl, rfl⟩
          · have hb2i : ¬ (hi : Int) < (s[i + k].toNat : Int) := by omega
            have HA2 : Hid (∀ j, 1 ≤ j → j < k + 1 → okB (s.data.toList.drop i) 128 191 j) := by
              intro j h1 h2
              rcases Nat.lt_or_ge j k with h3 | h3
              · exact HA.out j h1 h3
              · obtain rfl : j = k := by omega
                unfold okB
                rw [HG.out, ← HLO.out, ← HHI.out]
                omega
            go_wp2
            go_roundw
            case rel => exact ⟨k + 1, 128, 191, by omega, by omega, by go_num, rfl, rfl, by rw [if_neg (by omega)], by rw [if_neg (by omega)], HA2.out, trivial⟩
            case measure => simp [intOf]; omega
      · have hki : ¬ (k : Int) < 4 := by omega
        have HE : Hid (wdL (s.data.toList.drop i) = 4) := HW.out.1 (fun j h1 h2 => HA.out j h1 (by omega))
        clear HW
        go_wp2
        go_ret
        exact ⟨by rw [HE.out]; rfl, rfl⟩
theorem wdc8 (l : List UInt8) (hc : 244 ≤ gB l 0 ∧ gB l 0 ≤ 244) : ((∀ j, 1 ≤ j → j < 4 → okB l 128 143 j) → wdL l = 4) ∧ (∀ k, 1 ≤ k → k < 4 → ¬ okB l 128 143 k → wdL l = 1) := by
  unfold wdL wdN
  constructor
  · intro h
    have h1 := h 1 (by omega) (by omega)
    unfold okB at h1
    rw [if_pos rfl, if_pos rfl] at h1
    have h2 := h 2 (by omega) (by omega)
    unfold okB at h2
    rw [if_neg (by omega), if_neg (by omega)] at h2
    have h3 := h 3 (by omega) (by omega)
    unfold okB at h3
    rw [if_neg (by omega), if_neg (by omega)] at h3
    clear h
    repeat' split
    all_goals omega
  · intro k h1 h2 h3
    have hk : k = 1 ∨ k = 2 ∨ k = 3 := by omega
    unfold okB at h3
    rcases hk with rfl | rfl | rfl
    · rw [if_pos rfl, if_pos rfl] at h3
      repeat' split
      all_goals omega
    · rw [if_neg (by omega), if_neg (by omega)] at h3
      repeat' split
      all_goals omega
    · rw [if_neg (by omega), if_neg (by omega)] at h3
      repeat' split
      all_goals omega
set_option maxHeartbeats 4000000 in
theorem wide8 (s : ByteArray) (i : Nat) (w : World) (h : i < s.size) (hs : s.size ≤ 1099511627776) (hc : 244 ≤ s[i].toNat ∧ s[i].toNat ≤ 244) :
    Calls Tryd.prog 12 #[.string s, .int .i64 (i : Int)] w fun e w' => e = .returned (.int .i64 (wdL (s.data.toList.drop i) : Int)) ∧ w' = w := by
  have g0 := gB0 s i h
  have HW : Hid _ := wdc8 (s.data.toList.drop i) (by rw [g0]; exact hc)
  have g194 : ((194 : Int) ≤ (s[i].toNat : Int)) := by omega
  have g224 : ((224 : Int) ≤ (s[i].toNat : Int)) := by omega
  have g240 : ((240 : Int) ≤ (s[i].toNat : Int)) := by omega
  have l223 : ¬ ((s[i].toNat : Int) ≤ 223) := by omega
  have l239 : ¬ ((s[i].toNat : Int) ≤ 239) := by omega
  have l244 : ((s[i].toNat : Int) ≤ 244) := by omega
  have e224 : ¬ (s[i].toNat : Int) = 224 := by omega
  have b224 : ((s[i].toNat : Int) == 224) = false := beq_eq_false_iff_ne.2 e224
  have e237 : ¬ (s[i].toNat : Int) = 237 := by omega
  have b237 : ((s[i].toNat : Int) == 237) = false := beq_eq_false_iff_ne.2 e237
  have e240 : ¬ (s[i].toNat : Int) = 240 := by omega
  have b240 : ((s[i].toNat : Int) == 240) = false := beq_eq_false_iff_ne.2 e240
  have e244 : (s[i].toNat : Int) = 244 := by omega
  have b244 : ((s[i].toNat : Int) == 244) = true := beq_iff_eq.2 e244
  by_cases hl : s.size - i < 4
  · have hli : (s.size : Int) - (i : Int) < 4 := by omega
    have HE : Hid (wdL (s.data.toList.drop i) = 1) := HW.out.2 (s.size - i) (by omega) hl (fun ho => by
      unfold okB at ho
      rw [gB_out (by rw [List.length_drop, Array.length_toList]; exact Nat.le_refl _)] at ho
      by_cases h1 : s.size - i = 1
      · rw [if_pos h1] at ho; omega
      · rw [if_neg h1] at ho; omega)
    clear HW
    go_enter Tryd.func12, Tryd.ntmps12
    go_wp2
    go_ret
    exact ⟨by rw [HE.out]; rfl, rfl⟩
  · have hli : ¬ (s.size : Int) - (i : Int) < 4 := by omega
    have hii : (i : Int) ≤ (s.size : Int) := by omega
    go_enter Tryd.func12, Tryd.ntmps12
    go_wp2
    go_loopw [7, 8, 9, 10] (fun a b x _ wr => ∃ (k lo hi : Nat), 1 ≤ k ∧ k ≤ 4 ∧ x = .int .i64 (k : Int) ∧ a = .int .i64 (lo : Int) ∧ b = .int .i64 (hi : Int) ∧ (lo = if k = 1 then 128 else 128) ∧ (hi = if k = 1 then 143 else 191) ∧ (∀ j, 1 ≤ j → j < k → okB (s.data.toList.drop i) 128 143 j) ∧ wr = w) (fun _ _ x _ _ => 4 - (intOf x).toNat)
    case atStart => exact ⟨1, 128, 143, by omega, by omega, rfl, rfl, rfl, rfl, rfl, fun j h1 h2 => by omega, rfl⟩
    case round =>
      obtain ⟨k, lo, hi, hk1, hk2, rfl, rfl, rfl, hlo, hhi, hall, rfl⟩ := hrel
      have HA : Hid (∀ j, 1 ≤ j → j < k → okB (s.data.toList.drop i) 128 143 j) := hall
      have HLO : Hid (lo = if k = 1 then 128 else 128) := hlo
      have HHI : Hid (hi = if k = 1 then 143 else 191) := hhi
      clear hlo hhi hall g194 g224 g240 l223 l239 l244 e224 b224 e237 b237 e240 b240 e244 b244
      by_cases hkn : k < 4
      · have hki : (k : Int) < 4 := by omega
        have hik : i + k < s.size := by omega
        have hiki : (i : Int) + (k : Int) < (s.size : Int) := by omega
        have HG : Hid (gB (s.data.toList.drop i) k = s[i + k].toNat) := gBk s i k hik
        have hbl : s[i + k].toNat < 256 := s[i + k].toNat_lt
        have hbi : (s[i + k].toNat : Int) < 256 := by omega
        by_cases hb1 : s[i + k].toNat < lo
        · have hb1i : (s[i + k].toNat : Int) < (lo : Int) := by omega
          have HE : Hid (wdL (s.data.toList.drop i) = 1) := HW.out.2 k hk1 hkn (fun ho => by unfold okB at ho; rw [HG.out, ← HLO.out] at ho; omega)
          clear HW
          go_wp2
          go_ret
          exact ⟨by rw [HE.out]; rfl, rfl⟩
        · have hb1i : ¬ (s[i + k].toNat : Int) < (lo : Int) := by omega
          by_cases hb2 : hi < s[i + k].toNat
          · have hb2i : (hi : Int) < (s[i + k].toNat : Int) := by omega
            have HE : Hid (wdL (s.data.toList.drop i) = 1) := HW.out.2 k hk1 hkn (fun ho => by unfold okB at ho; rw [HG.out, ← HHI.out] at ho; omega)
            clear HW
            go_wp2
            go_ret
            exact ⟨by rw [HE.out]; rfl, rfl⟩
          · have hb2i : ¬ (hi : Int) < (s[i + k].toNat : Int) := by omega
            have HA2 : Hid (∀ j, 1 ≤ j → j < k + 1 → okB (s.data.toList.drop i) 128 143 j) := by
              intro j h1 h2
              rcases Nat.lt_or_ge j k with h3 | h3
              · exact HA.out j h1 h3
              · obtain rfl : j = k := by omega
                unfold okB
                rw [HG.out, ← HLO.out, ← HHI.out]
                omega
            go_wp2
            go_roundw
            case rel => exact ⟨k + 1, 128, 191, by omega, by omega, by go_num, rfl, rfl, by rw [if_neg (by omega)], by rw [if_neg (by omega)], HA2.out, trivial⟩
            case measure => simp [intOf]; omega
      · have hki : ¬ (k : Int) < 4 := by omega
        have HE : Hid (wdL (s.data.toList.drop i) = 4) := HW.out.1 (fun j h1 h2 => HA.out j h1 (by omega))
        clear HW
        go_wp2
        go_ret
        exact ⟨by rw [HE.out]; rfl, rfl⟩
theorem wdc9 (l : List UInt8) (hc : 245 ≤ gB l 0 ∧ gB l 0 ≤ 255) : ((∀ j, 1 ≤ j → j < 1 → okB l 128 191 j) → wdL l = 1) ∧ (∀ k, 1 ≤ k → k < 1 → ¬ okB l 128 191 k → wdL l = 1) := by
  unfold wdL wdN
  constructor
  · intro h
    clear h
    repeat' split
    all_goals omega
  · intro k h1 h2 h3
    omega
set_option maxHeartbeats 4000000 in
theorem wide9 (s : ByteArray) (i : Nat) (w : World) (h : i < s.size) (hs : s.size ≤ 1099511627776) (hc : 245 ≤ s[i].toNat ∧ s[i].toNat ≤ 255) :
    Calls Tryd.prog 12 #[.string s, .int .i64 (i : Int)] w fun e w' => e = .returned (.int .i64 (wdL (s.data.toList.drop i) : Int)) ∧ w' = w := by
  have g0 := gB0 s i h
  have HW : Hid _ := wdc9 (s.data.toList.drop i) (by rw [g0]; exact hc)
  have g194 : ((194 : Int) ≤ (s[i].toNat : Int)) := by omega
  have g224 : ((224 : Int) ≤ (s[i].toNat : Int)) := by omega
  have g240 : ((240 : Int) ≤ (s[i].toNat : Int)) := by omega
  have l223 : ¬ ((s[i].toNat : Int) ≤ 223) := by omega
  have l239 : ¬ ((s[i].toNat : Int) ≤ 239) := by omega
  have l244 : ¬ ((s[i].toNat : Int) ≤ 244) := by omega
  have e224 : ¬ (s[i].toNat : Int) = 224 := by omega
  have b224 : ((s[i].toNat : Int) == 224) = false := beq_eq_false_iff_ne.2 e224
  have e237 : ¬ (s[i].toNat : Int) = 237 := by omega
  have b237 : ((s[i].toNat : Int) == 237) = false := beq_eq_false_iff_ne.2 e237
  have e240 : ¬ (s[i].toNat : Int) = 240 := by omega
  have b240 : ((s[i].toNat : Int) == 240) = false := beq_eq_false_iff_ne.2 e240
  have e244 : ¬ (s[i].toNat : Int) = 244 := by omega
  have b244 : ((s[i].toNat : Int) == 244) = false := beq_eq_false_iff_ne.2 e244
  by_cases hl : s.size - i < 1
  · have hli : (s.size : Int) - (i : Int) < 1 := by omega
    have HE : Hid (wdL (s.data.toList.drop i) = 1) := HW.out.1 (fun j h1 h2 => by omega)
    clear HW
    go_enter Tryd.func12, Tryd.ntmps12
    go_wp2
    go_ret
    exact ⟨by rw [HE.out]; rfl, rfl⟩
  · have hli : ¬ (s.size : Int) - (i : Int) < 1 := by omega
    have hii : (i : Int) ≤ (s.size : Int) := by omega
    go_enter Tryd.func12, Tryd.ntmps12
    go_wp2
    go_loopw [7, 8, 9, 10] (fun a b x _ wr => ∃ (k lo hi : Nat), 1 ≤ k ∧ k ≤ 1 ∧ x = .int .i64 (k : Int) ∧ a = .int .i64 (lo : Int) ∧ b = .int .i64 (hi : Int) ∧ (lo = if k = 1 then 128 else 128) ∧ (hi = if k = 1 then 191 else 191) ∧ (∀ j, 1 ≤ j → j < k → okB (s.data.toList.drop i) 128 191 j) ∧ wr = w) (fun _ _ x _ _ => 1 - (intOf x).toNat)
    case atStart => exact ⟨1, 128, 191, by omega, by omega, rfl, rfl, rfl, rfl, rfl, fun j h1 h2 => by omega, rfl⟩
    case round =>
      obtain ⟨k, lo, hi, hk1, hk2, rfl, rfl, rfl, hlo, hhi, hall, rfl⟩ := hrel
      have HA : Hid (∀ j, 1 ≤ j → j < k → okB (s.data.toList.drop i) 128 191 j) := hall
      have HLO : Hid (lo = if k = 1 then 128 else 128) := hlo
      have HHI : Hid (hi = if k = 1 then 191 else 191) := hhi
      clear hlo hhi hall g194 g224 g240 l223 l239 l244 e224 b224 e237 b237 e240 b240 e244 b244
      by_cases hkn : k < 1
      · omega
      · have hki : ¬ (k : Int) < 1 := by omega
        have HE : Hid (wdL (s.data.toList.drop i) = 1) := HW.out.1 (fun j h1 h2 => HA.out j h1 (by omega))
        clear HW
        go_wp2
        go_ret
        exact ⟨by rw [HE.out]; rfl, rfl⟩
theorem wideR (s : ByteArray) (i : Nat) (w : World) (h : i < s.size) (hs : s.size ≤ 1099511627776) :
    Calls Tryd.prog 12 #[.string s, .int .i64 (i : Int)] w fun e w' => e = .returned (.int .i64 (wdL (s.data.toList.drop i) : Int)) ∧ w' = w := by
  have hb : s[i].toNat < 256 := s[i].toNat_lt
  have hc : (0 ≤ s[i].toNat ∧ s[i].toNat ≤ 193) ∨ (194 ≤ s[i].toNat ∧ s[i].toNat ≤ 223) ∨ (224 ≤ s[i].toNat ∧ s[i].toNat ≤ 224) ∨ (225 ≤ s[i].toNat ∧ s[i].toNat ≤ 236) ∨ (237 ≤ s[i].toNat ∧ s[i].toNat ≤ 237) ∨ (238 ≤ s[i].toNat ∧ s[i].toNat ≤ 239) ∨ (240 ≤ s[i].toNat ∧ s[i].toNat ≤ 240) ∨ (241 ≤ s[i].toNat ∧ s[i].toNat ≤ 243) ∨ (244 ≤ s[i].toNat ∧ s[i].toNat ≤ 244) ∨ (245 ≤ s[i].toNat ∧ s[i].toNat ≤ 255) := by omega
  rcases hc with hc | hc | hc | hc | hc | hc | hc | hc | hc | hc
  · exact wide0 s i w h hs hc
  · exact wide1 s i w h hs hc
  · exact wide2 s i w h hs hc
  · exact wide3 s i w h hs hc
  · exact wide4 s i w h hs hc
  · exact wide5 s i w h hs hc
  · exact wide6 s i w h hs hc
  · exact wide7 s i w h hs hc
  · exact wide8 s i w h hs hc
  · exact wide9 s i w h hs hc
end Go.Proofs.YtfofionocnbohaaDoor
