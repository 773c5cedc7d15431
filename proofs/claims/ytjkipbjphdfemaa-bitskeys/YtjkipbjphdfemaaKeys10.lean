import Derived.Test.YtjkipbjphdfemaaKeys9
namespace Go.Proofs.Ytjkipbjphdfemaa
open Go.ChangeShapes Go.WideShapes Go.ChangeAt Go.RowKit
set_option linter.unusedVariables false

set_option maxRecDepth 100000 in
set_option maxHeartbeats 800000 in
theorem ref_key0 (i : Int) (t : ByteArray) (B : Nat) (w : World) (hB : B ≤ w.heap.size) :
    Calls Try.prog 31 #[.agg #[.int .i64 0, .int .i64 i, .string t]] w fun e w' => ∃ b', e = .returned b' ∧ ownB w' B b' [16] ∧ Below B w w' := by
  have HB : Hid (Below B w (w.alloc (.cells #[.int .i64 0, .int .i64 i, .string t] 41))) := (Below.refl _ _).alloc hB _
  go_enter Try.func31, Try.ntmps31
  go_wp2_with (at_builtin; refine app_oneL (by rfl) _ _ (by rfl) B _ [] _ (ownB_nil _ _) (by rfl) (w.heap.size + 1) (by simp) (by rfl) (by simp) (by simp; omega) ?_; intro v' w1 hown1 hbel1 hgr1; have HO1 : Hid _ := hown1; have HB1 : Hid _ := hbel1; clear hown1 hbel1 hgr1)
  go_ret
  exact ⟨_, rfl, HO1.out, HB.out.trans HB1.out⟩
set_option maxRecDepth 100000 in
set_option maxHeartbeats 800000 in
theorem ref_key1 (i : Int) (t : ByteArray) (B : Nat) (w : World) (hB : B ≤ w.heap.size) (h0 : 0 ≤ i) (h1 : i ≤ 1) :
    Calls Try.prog 31 #[.agg #[.int .i64 1, .int .i64 i, .string t]] w fun e w' => ∃ b', e = .returned b' ∧ ownB w' B b' [32 + i] ∧ Below B w w' := by
  have HB : Hid (Below B w (w.alloc (.cells #[.int .i64 1, .int .i64 i, .string t] 41))) := (Below.refl _ _).alloc hB _
  have hm : (32 + i) % 256 = 32 + i := by omega
  go_enter Try.func31, Try.ntmps31
  go_wp2_with (at_builtin; refine app_oneL (by rfl) _ _ (by rfl) B _ [] _ (ownB_nil _ _) (by rfl) (w.heap.size + 1) (by simp) (by rfl) (by simp) (by simp; omega) ?_; intro v' w1 hown1 hbel1 hgr1; have HO1 : Hid _ := hown1; have HB1 : Hid _ := hbel1; clear hown1 hbel1 hgr1)
  go_ret
  exact ⟨_, rfl, HO1.out, HB.out.trans HB1.out⟩
set_option maxRecDepth 100000 in
set_option maxHeartbeats 1600000 in
theorem ref_key3 (i : Int) (t : ByteArray) (B : Nat) (w : World) (hB : B ≤ w.heap.size) (hs : t.size ≤ 4096) :
    Calls Try.prog 31 #[.agg #[.int .i64 3, .int .i64 i, .string t]] w fun e w' => ∃ b', e = .returned b' ∧ ownB w' B b' (80 :: escL t.data.toList ++ [0, 1]) ∧ Below B w w' := by
  have HB0 : Hid (Below B w (w.alloc (.cells #[.int .i64 3, .int .i64 i, .string t] 41))) := (Below.refl _ _).alloc hB _
  have HC0 : Hid ((w.alloc (.cells #[.int .i64 3, .int .i64 i, .string t] 41)).cell? ⟨w.heap.size, 2, none⟩ = some (.string t)) := by show _ = _; simp [go_sem]
  have HS0 : Hid (w.heap.size < (w.alloc (.cells #[.int .i64 3, .int .i64 i, .string t] 41)).heap.size) := lt_alloc _ _
  have hne : some w.heap.size ≠ (Value.slice none 0 0).ownBlock := by simp [Value.ownBlock]
  go_enter Try.func31, Try.ntmps31
  go_wp2_with (at_builtin; refine app_oneL (by rfl) _ _ (by rfl) B (.slice none 0 0) [] _ (ownB_nil _ _) (by rfl) (w.heap.size + 1) (by simp) (by rfl) (by simp) (by simp; omega) ?_; intro v' w1 hown1 hbel1 hgr1; have hc1 := hgr1.cell HC0.out HS0.out hne; have HO1 : Hid (ownB w1 B v' ([] ++ [80])) := hown1; have HB1 : Hid _ := hbel1; have HG1 : Hid (Gr (.slice none 0 0) (w.alloc (.cells #[.int .i64 3, .int .i64 i, .string t] 41)) v' w1) := hgr1; clear hown1 hbel1 hgr1)
  generalize hW : w.alloc (.cells #[.int .i64 3, .int .i64 i, .string t] 41) = W at *
  generalize w.heap.size = n at *
  go_loopw [3, 8] (fun c i wr => ∃ k : Nat, k ≤ t.size ∧ i = .int .i64 k ∧ ownB wr B c ([] ++ [80] ++ escL (t.data.toList.take k)) ∧ Below B W wr ∧ Gr (.slice none 0 0) W c wr) (fun _ i _ => t.size - (intOf i).toNat)
  case atStart => exact ⟨0, by omega, rfl, by simpa [escL] using HO1.out, HB1.out, HG1.out⟩
  case round =>
    obtain ⟨k, hk, rfl, hown2, hbel2, hgr2⟩ := hrel
    have hcr := hgr2.cell HC0.out HS0.out hne
    have HO2 : Hid (ownB wr B _ ([] ++ [80] ++ escL (t.data.toList.take k))) := hown2
    have HB2 : Hid (Below B W wr) := hbel2
    have HG2 : Hid (Gr (.slice none 0 0) W _ wr) := hgr2
    have hBr : B ≤ wr.heap.size := by have := HS0.out; have := hbel2.size; omega
    have hlen : ([] ++ [80] ++ escL (t.data.toList.take k)).length ≤ 140737488354000 := by have := esc_take_len t k hs; simp only [List.nil_append, List.length_append, List.length_singleton]; omega
    clear hown2 hbel2 hgr2 hc1 HO1 HB1 HG1
    by_cases hlt : k < t.size
    · have hk0 : (0 : Int) ≤ (k : Int) := by omega
      have hk1 : (k : Int) < (t.size : Int) := by omega
      have HT := esc_take t k hlt
      by_cases hz : t[k] = 0
      · have hz2 : (t[k].toNat : Int) = 0 := by rw [hz]; rfl
        have HT2 : Hid (escL (t.data.toList.take (k + 1)) = escL (t.data.toList.take k) ++ [0] ++ [255]) := by show _ = _; rw [HT, hz]; simp [escL]
        clear HT
        go_wp2_with (at_builtin; first | (refine app_oneL (by rfl) _ _ (by rfl) B _ _ _ HO2.out (by rfl) _ (by rfl) (by rfl) (by omega) hBr ?_; intro v3 w3 hown3 hbel3 hgr3; have hc3 := (HG2.out.trans hgr3).cell HC0.out HS0.out hne; have HO3 : Hid (ownB w3 B v3 (_ ++ _)) := hown3; have HB3 : Hid (Below B wr w3) := hbel3; have HG3 : Hid (Gr _ wr v3 w3) := hgr3; have hB3 : B ≤ w3.heap.size := Nat.le_trans hBr hbel3.size; clear hown3 hbel3 hgr3) | (refine app_oneL (by rfl) _ _ (by rfl) B _ _ _ HO3.out (by rfl) _ (by rfl) (by rfl) (by rw [List.length_append, List.length_singleton]; omega) hB3 ?_; intro v4 w4 hown4 hbel4 hgr4; have hc4 := (HG2.out.trans (HG3.out.trans hgr4)).cell HC0.out HS0.out hne; have HO4 : Hid (ownB w4 B v4 (_ ++ _)) := hown4; have HB4 : Hid (Below B w3 w4) := hbel4; have HG4 : Hid (Gr v3 w3 v4 w4) := hgr4; clear hown4 hbel4 hgr4))
        go_roundw
        case rel =>
          refine ⟨k + 1, by omega, by go_num, ?_, HB2.out.trans (HB3.out.trans HB4.out), HG2.out.trans (HG3.out.trans HG4.out)⟩
          rw [HT2.out, ← List.append_assoc, ← List.append_assoc]
          exact HO4.out
        case measure => simp [intOf]; omega
      · have hz2 : ¬ (t[k].toNat : Int) = 0 := fun h => hz (UInt8.toNat_inj.1 (by have e : UInt8.toNat 0 = 0 := rfl; omega))
        have HT2 : Hid (escL (t.data.toList.take (k + 1)) = escL (t.data.toList.take k) ++ [(t[k].toNat : Int)]) := by show _ = _; rw [HT]; simp [escL, hz]
        clear HT
        go_wp2_with (at_builtin; first | (refine app_oneL (by rfl) _ _ (by rfl) B _ _ _ HO2.out (by rfl) _ (by rfl) (by rfl) (by omega) hBr ?_; intro v3 w3 hown3 hbel3 hgr3; have hc3 := (HG2.out.trans hgr3).cell HC0.out HS0.out hne; have HO3 : Hid (ownB w3 B v3 (_ ++ _)) := hown3; have HB3 : Hid (Below B wr w3) := hbel3; have HG3 : Hid (Gr _ wr v3 w3) := hgr3; have hB3 : B ≤ w3.heap.size := Nat.le_trans hBr hbel3.size; clear hown3 hbel3 hgr3))
        go_roundw
        case rel =>
          refine ⟨k + 1, by omega, by go_num, ?_, HB2.out.trans HB3.out, HG2.out.trans HG3.out⟩
          rw [HT2.out, ← List.append_assoc]
          exact HO3.out
        case measure => simp [intOf]; omega
    · have hk1 : ¬ (k : Int) < (t.size : Int) := by omega
      have hke : t.data.toList.take k = t.data.toList := List.take_of_length_le (by rw [Array.length_toList]; show t.size ≤ k; omega)
      go_wp2_with (at_builtin; refine app_two (by rfl) _ _ (by rfl) B _ _ _ _ HO2.out (by rfl) _ (by rfl) (by rfl) (by omega) hBr ?_; intro v3 w3 hown3 hbel3 hgr3; have HO3 : Hid (ownB w3 B v3 (_ ++ _)) := hown3; have HB3 : Hid (Below B wr w3) := hbel3; have HG3 : Hid (Gr _ wr v3 w3) := hgr3; clear hown3 hbel3 hgr3)
      go_ret
      refine ⟨_, rfl, ?_, HB0.out.trans (HB2.out.trans HB3.out)⟩
      rw [hke] at HO3
      have h9 := HO3.out
      rw [List.append_assoc, List.append_assoc] at h9
      exact h9
end Go.Proofs.Ytjkipbjphdfemaa
