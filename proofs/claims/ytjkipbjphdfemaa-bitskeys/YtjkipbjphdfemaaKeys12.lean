import Derived.Test.YtjkipbjphdfemaaKeys11
import Derived.Test.YtjkipbjphdfemaaKeys8
namespace Go.Proofs.Ytjkipbjphdfemaa
open Go.ChangeShapes Go.WideShapes Go.ChangeAt Go.RowKit
set_option linter.unusedVariables false

theorem keyV_ne (v : Int × Int × ByteArray) : keyV v ≠ [] := by
  unfold keyV
  split
  · simp
  · split
    · simp
    · split
      · unfold keyI; split <;> simp
      · simp
theorem ownB.form {w : World} {B : Nat} {v : Value} {xs : List Int} (h : ownB w B v xs) (hne : xs ≠ []) : ∃ g cap, v = .slice (some ⟨g, 0, none⟩) xs.length cap := by
  rcases h.2 with ⟨_, h2⟩ | ⟨g, cap, cur, e, _⟩
  · exact absurd (List.eq_nil_of_length_eq_zero h2) hne
  · exact ⟨g, cap, e⟩
theorem ref_keyOf (v : Int × Int × ByteArray) (B : Nat) (w : World) (hB : B ≤ w.heap.size) (hok : okV v) (h0 : -9223372036854775808 ≤ v.2.1) (h1 : v.2.1 ≤ 9223372036854775807) :
    Calls Try.prog 31 #[.agg #[.int .i64 v.1, .int .i64 v.2.1, .string v.2.2]] w fun e w' => ∃ g cap, e = .returned (.slice (some ⟨g, 0, none⟩) (keyV v).length cap) ∧ ownB w' B (.slice (some ⟨g, 0, none⟩) (keyV v).length cap) (keyV v) ∧ Below B w w' := by
  obtain ⟨kd, i, t⟩ := v
  have fin : ∀ {e : Ending} {w' : World}, (∃ b', e = .returned b' ∧ ownB w' B b' (keyV (kd, i, t)) ∧ Below B w w') → ∃ g cap, e = .returned (.slice (some ⟨g, 0, none⟩) (keyV (kd, i, t)).length cap) ∧ ownB w' B (.slice (some ⟨g, 0, none⟩) (keyV (kd, i, t)).length cap) (keyV (kd, i, t)) ∧ Below B w w' := by
    rintro e w' ⟨b', rfl, ho, hb⟩
    obtain ⟨g, cap, rfl⟩ := ho.form (keyV_ne _)
    exact ⟨g, cap, rfl, ho, hb⟩
  unfold okV at hok
  simp only at hok h0 h1
  rcases hok with rfl | ⟨rfl, h2, h3⟩ | rfl | ⟨rfl, h2⟩
  · exact (ref_key0 i t B w hB).mono fun e w' h => fin h
  · exact (ref_key1 i t B w hB h2 h3).mono fun e w' h => fin h
  · exact (ref_key2 i t B w hB h0 h1).mono fun e w' h => fin h
  · exact (ref_key3 i t B w hB h2).mono fun e w' h => fin h
set_option maxRecDepth 100000 in
set_option maxHeartbeats 3200000 in
theorem ref_keyG (a : Value) (vs : List (Int × Int × ByteArray)) (B : Nat) (w : World) (hB : B ≤ w.heap.size) (ha : SeesV w B a vs) (hv : ∀ v ∈ vs, v.2.2.size ≤ 9223372036854775807 ∧ -9223372036854775808 ≤ v.2.1 ∧ v.2.1 ≤ 9223372036854775807) :
    Calls Try.prog 15 #[a] w fun e w' => e = .returned (if 16 < vs.length then .tuple #[.string ⟨#[]⟩, .int .i64 18] else if faultL vs = 0 then .tuple #[.string (strOfNums (keyL vs)), .int .i64 0] else .tuple #[.string ⟨#[]⟩, .int .i64 (faultL vs)]) ∧ Below B w w' := by
  have hC := ref_faults a vs B w hB ha (fun v h => (hv v h).1)
  have HA0 : Hid (SeesV w B a vs) := ha
  obtain ⟨ao, cap, rfl, hl1, hc1, hs1⟩ := ha
  clear hs1
  by_cases hm : 16 < vs.length
  · rw [if_pos hm] at hC ⊢
    go_enter Try.func15, Try.ntmps15
    go_wp2_with fail
    refine hC.mono ?_
    rintro e w1 ⟨rfl, hb1⟩
    have HB1 : Hid (Below B w w1) := hb1
    clear hb1 HA0 hC
    go_wp2
    go_ret2
    exact ⟨rfl, HB1.out⟩
  rw [if_neg hm] at hC ⊢
  by_cases hf : faultL vs = 0
  · rw [if_pos hf]
    rw [hf] at hC
    go_enter Try.func15, Try.ntmps15
    go_wp2_with fail
    refine hC.mono ?_
    rintro e w1 ⟨rfl, hb1⟩
    have HA := HA0.out.later hb1
    have HB1 : Hid (Below B w w1) := hb1
    have hB1 : B ≤ w1.heap.size := by have := hb1.size; omega
    clear hb1 HA0 hC
    obtain ⟨ao', cap', e', hl1', hc1', hs1⟩ := HA
    simp only [Value.slice.injEq, true_and] at e'
    obtain ⟨rfl, rfl⟩ := e'
    have HA2 : Hid _ := hs1
    clear hs1
    have hok := faultL_zero vs hf
    go_wp2
    go_loopw [5, 6] (fun c i wr => ∃ k : Nat, k ≤ vs.length ∧ i = .int .i64 k ∧ ownB wr B c (keyL (vs.take k)) ∧ Below B w1 wr) (fun _ i _ => vs.length - (intOf i).toNat)
    case atStart => exact ⟨0, by omega, rfl, ownB_nil _ _, Below.refl _ _⟩
    case round =>
      obtain ⟨k, hk, rfl, hown, hbel⟩ := hrel
      have HO : Hid (ownB wr B _ (keyL (vs.take k))) := hown
      have HBl : Hid (Below B w1 wr) := hbel
      have hBr : B ≤ wr.heap.size := by have := hbel.size; omega
      have hx : (keyL (vs.take k)).length ≤ 140737488340000 := by
        have h3 := keyL_len (vs.take k) (fun v hv => hok v (List.mem_of_mem_take hv))
        have h4 : (vs.take k).length ≤ 16 := by rw [List.length_take]; omega
        omega
      clear hown hbel
      by_cases h1 : k < vs.length
      · obtain ⟨b1, o1, e1, hb1, x0, x1, x2⟩ := HA2.out k h1
        have y0 := (HBl.out.cell (p := ⟨b1, o1 + k * 3, none⟩) hb1).trans x0
        have y1 := (HBl.out.cell (p := ⟨b1, o1 + k * 3 + 1, none⟩) hb1).trans x1
        have y2 := (HBl.out.cell (p := ⟨b1, o1 + k * 3 + 2, none⟩) hb1).trans x2
        clear x0 x1 x2
        subst e1
        have HK : Hid (keyL (vs.take (k + 1)) = keyL (vs.take k) ++ keyV vs[k]) := keyL_take vs k h1
        have hvs := hv _ (List.getElem_mem h1)
        have hvo := hok _ (List.getElem_mem h1)
        have hkl := keyV_len _ hvo
        go_wp2_with fail
        refine (ref_keyOf vs[k] _ _ (Nat.le_refl _) hvo hvs.2.1 hvs.2.2).mono ?_
        rintro e w2 ⟨g2, cap2, rfl, hown2, hbel2⟩
        have HO2 : Hid (ownB w2 B _ (keyL (vs.take k))) := HO.out.later hbel2
        have HB2 : Hid (Below B w1 w2) := HBl.out.trans (hbel2.mono hBr)
        have HT2 : Hid (ownB w2 wr.heap.size (.slice (some ⟨g2, 0, none⟩) (keyV vs[k]).length cap2) (keyV vs[k])) := hown2
        have hB2 : B ≤ w2.heap.size := Nat.le_trans hBr hbel2.size
        clear hown2 hbel2 y0 y1 y2 HO HBl
        go_wp2_with (at_builtin; refine app_slice (by rfl) _ _ (by rfl) B _ _ _ _ HO2.out (by rfl) _ _ _ rfl HT2.out (by rfl) (by omega) hB2 ?_; intro v4 w4 hown4 hbel4; have HO4 : Hid (ownB w4 B v4 (_ ++ _)) := hown4; have HB4 : Hid (Below B w2 w4) := hbel4; clear hown4 hbel4)
        go_roundw
        case rel => exact ⟨k + 1, by omega, by go_num, by rw [HK.out]; exact HO4.out, HB2.out.trans HB4.out⟩
        case measure => simp [intOf]; omega
      · have hke : vs.take k = vs := List.take_of_length_le (by omega)
        rw [hke] at HO
        have hcv := HO.out.conv
        go_wp2
        go_ret2
        exact ⟨rfl, HB1.out.trans HBl.out⟩
  · rw [if_neg hf]
    generalize faultL vs = c at *
    have hcc : (c != 0) = true := by simpa using hf
    go_enter Try.func15, Try.ntmps15
    go_wp2_with fail
    refine hC.mono ?_
    rintro e w1 ⟨rfl, hb1⟩
    have HB1 : Hid (Below B w w1) := hb1
    clear hb1 HA0 hC
    go_wp2
    go_ret2
    exact ⟨rfl, HB1.out⟩
end Go.Proofs.Ytjkipbjphdfemaa
