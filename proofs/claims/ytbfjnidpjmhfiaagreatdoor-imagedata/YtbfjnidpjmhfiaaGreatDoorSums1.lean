import Derived.Test.YtbfjnidpjmhfiaaGreatDoorCrc9
import Derived.Test.YtbfjnidpjmhfiaaGreatDoorCrc6
namespace Go.Proofs.YtbfjnidpjmhfiaaGreatDoor
open Go.ChangeShapes Go.WideShapes Go.ChangeAt Go.RowKit Go.MuLone
set_option linter.unusedVariables false

set_option maxRecDepth 100000 in
theorem down_any (r : Nat) (w : World) (hr : r < 4294967296) :
    Calls Tryz.prog 104 #[.int .u32 (r : Int)] w fun e w' => e = .returned (.int .u32 (nN r : Nat)) ∧ w' = w := by
  by_cases h2 : r % 2 = 1
  · have hx : bits .xor .u32 ((r : Int) / 2) 2197175160 = ((nN r : Nat) : Int) := by
      have := u32_xor_nat (r / 2) 2197175160 (by omega) (by omega)
      rw [show ((r : Int) / 2) = ((r / 2 : Nat) : Int) by omega]
      unfold nN
      rw [if_pos h2]
      exact this
    have h3 : ((r : Int) % 2 == 1) = true := by simp; omega
    have h4 : (r : Int).tmod 2 = (r : Int) % 2 := Int.tmod_eq_emod_of_nonneg (by omega)
    have h5 : (r : Int).tdiv 2 = (r : Int) / 2 := Int.tdiv_eq_ediv_of_nonneg (by omega)
    go_enter Tryz.func104, Tryz.ntmps104
    go_wp2
    go_ret
    exact ⟨rfl, rfl⟩
  · have HE : Hid (((nN r : Nat) : Int) = (r : Int) / 2) := by show _ = _; unfold nN; rw [if_neg h2]; omega
    have h3 : ((r : Int) % 2 == 1) = false := by simp; omega
    have h4 : (r : Int).tmod 2 = (r : Int) % 2 := Int.tmod_eq_emod_of_nonneg (by omega)
    have h5 : (r : Int).tdiv 2 = (r : Int) / 2 := Int.tdiv_eq_ediv_of_nonneg (by omega)
    go_enter Tryz.func104, Tryz.ntmps104
    go_wp2
    go_ret
    exact ⟨by rw [HE.out]; rfl, rfl⟩
set_option maxRecDepth 100000 in
set_option maxHeartbeats 1600000 in
theorem ref_extend (c : Nat) (s : ByteArray) (w : World) (hc : c < 4294967296) (hz : s.size ≤ 9223372036854775807) :
    Calls Tryz.prog 93 #[.int .u32 (c : Int), .string s] w fun e w' => e = .returned (.int .u32 (4294967295 - ovN (4294967295 - c) s.data.toList : Nat)) ∧ w' = w := by
  have h1 := u32_compl c hc
  go_enter Tryz.func93, Tryz.ntmps93
  go_wp2
  go_loop [5, 6] (fun x i => ∃ k : Nat, k ≤ s.size ∧ i = .int .i64 k ∧ x = .int .u32 (ovN (4294967295 - c) (s.data.toList.take k) : Nat)) (fun _ i => s.size - (intOf i).toNat)
  case atStart => exact ⟨0, by omega, rfl, rfl⟩
  case round =>
    obtain ⟨k, hk, rfl, rfl⟩ := hrel
    have hq := ovN_lt (s.data.toList.take k) (4294967295 - c) (by omega)
    by_cases h2 : k < s.size
    · have HN : Hid (ovN (4294967295 - c) (s.data.toList.take (k + 1)) = itN 8 (ovN (4294967295 - c) (s.data.toList.take k) ^^^ s[k].toNat)) := by show _ = _; rw [ovN_take _ s k h2, mN_it]
      generalize ovN (4294967295 - c) (s.data.toList.take k) = q at *
      have hcc := s[k].toNat_lt
      have hx : bits .xor .u32 (q : Int) ((s[k].toNat : Nat) : Int) = ((q ^^^ s[k].toNat : Nat) : Int) := u32_xor_nat _ _ hq (by omega)
      have HX : Hid (q ^^^ s[k].toNat < 4294967296) := Nat.xor_lt_two_pow (n := 32) hq (by omega)
      go_wp2
      go_loop [5, 7] (fun x i => ∃ m : Nat, m ≤ 8 ∧ i = .int .i64 m ∧ x = .int .u32 (itN m (q ^^^ s[k].toNat) : Nat)) (fun _ i => 8 - (intOf i).toNat)
      case atStart => exact ⟨0, by omega, rfl, rfl⟩
      case round =>
        obtain ⟨m, hm, rfl, rfl⟩ := hrel
        have hi := itN_lt m _ HX.out
        by_cases h3 : m < 8
        · have HI : Hid (itN (m + 1) (q ^^^ s[k].toNat) = nN (itN m (q ^^^ s[k].toNat))) := itN_add m 1 _
          generalize itN m (q ^^^ s[k].toNat) = t at *
          go_wp2_with (go_at_call 104; refine (down_any t _ hi).mono ?_; rintro e w' ⟨rfl, rfl⟩)
          go_round
          case rel => exact ⟨m + 1, by omega, by go_num, by rw [HI.out]⟩
          case measure => simp [intOf]; omega
        · have e8 : m = 8 := by omega
          subst e8
          go_wp2
          go_round
          case rel => exact ⟨k + 1, by omega, by go_num, by rw [HN.out]⟩
          case measure => simp [intOf]; omega
    · have HE : Hid (s.data.toList.take k = s.data.toList) := all_taken s k (by omega)
      have hy := u32_compl _ hq
      go_wp2
      go_ret
      exact ⟨by rw [HE.out]; rfl, rfl⟩
theorem crN_nil : crN [] = 0 := by decide +kernel
set_option maxRecDepth 100000 in
set_option maxHeartbeats 1600000 in
theorem ref_checksum (a : Value) (ps : List ByteArray) (B : Nat) (w : World) (ha : SeesS w B a ps) (hz : ∀ p ∈ ps, p.size ≤ 9223372036854775807) :
    Calls Tryz.prog 76 #[a] w fun e w' => e = .returned (.int .u32 (crN (joinS ps) : Nat)) ∧ w' = w := by
  obtain ⟨ao, cap, rfl, hl1, hc1, hs1⟩ := ha
  have HA : Hid _ := hs1
  clear hs1
  go_enter Tryz.func76, Tryz.ntmps76
  go_wp2
  go_loop [3, 4] (fun c i => ∃ k : Nat, k ≤ ps.length ∧ i = .int .i64 k ∧ c = .int .u32 (crN (joinS (ps.take k)) : Nat)) (fun _ i => ps.length - (intOf i).toNat)
  case atStart => exact ⟨0, by omega, rfl, by rw [show crN (joinS (ps.take 0)) = 0 from crN_nil]; rfl⟩
  case round =>
    obtain ⟨k, hk, rfl, rfl⟩ := hrel
    have hq := crN_lt (joinS (ps.take k))
    by_cases h1 : k < ps.length
    · obtain ⟨b1, o1, e1, hb1, x0⟩ := HA.out k h1
      subst e1
      have hz1 := hz _ (List.getElem_mem h1)
      have HJ : Hid (crN (joinS (ps.take (k + 1))) = 4294967295 - ovN (4294967295 - crN (joinS (ps.take k))) ps[k].data.toList) := by
        show _ = _
        have l1 := ovN_lt (joinS (ps.take k)) 4294967295 (by omega)
        have e1 : 4294967295 - crN (joinS (ps.take k)) = ovN 4294967295 (joinS (ps.take k)) := by unfold crN; omega
        rw [e1, ← ovN_app]
        unfold crN joinS
        rw [List.take_succ_eq_append_getElem h1, List.flatMap_append]
        simp
      generalize crN (joinS (ps.take k)) = q at *
      generalize ps[k] = p at *
      go_wp2_with (go_at_call 93; refine (ref_extend q p _ hq hz1).mono ?_; rintro e w' ⟨rfl, rfl⟩)
      go_round
      case rel => exact ⟨k + 1, by omega, by go_num, by rw [HJ.out]⟩
      case measure => simp [intOf]; omega
    · have HE : Hid (joinS (ps.take k) = joinS ps) := by show _ = _; rw [List.take_of_length_le (by omega)]
      go_wp2
      go_ret
      exact ⟨by rw [← HE.out]; rfl, rfl⟩
end Go.Proofs.YtbfjnidpjmhfiaaGreatDoor
