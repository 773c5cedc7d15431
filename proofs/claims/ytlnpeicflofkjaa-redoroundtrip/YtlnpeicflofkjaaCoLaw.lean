import Derived.Test.YtlnpeicflofkjaaCoL1
namespace Go.Proofs.Ytlnpeicflofkjaa
open Go.ChangeShapes Go.WideShapes Go.ChangeAt Go.RowKit
set_option linter.unusedVariables false
set_option maxRecDepth 100000
/-- The commit that came in, in its box. -/
structure Tc (w0 W : World) (s : Int) (v : Value) (vs : List W3) : Prop where
  zn : w0.heap.size < W.heap.size
  a0 : W.cell? ⟨w0.heap.size, 0, none⟩ = some (.int .u64 s)
  a1 : W.cell? ⟨w0.heap.size, 1, none⟩ = some v
  sv : SeesW W W.heap.size v vs
  bel : Below w0.heap.size w0 W
theorem Tc.step {w0 W W' : World} {s : Int} {v : Value} {vs : List W3} (h : Tc w0 W s v vs) (hb : Below W.heap.size W W') : Tc w0 W' s v vs :=
  ⟨Nat.lt_of_lt_of_le h.zn hb.size, (hb.cell (p := ⟨w0.heap.size, 0, none⟩) h.zn).trans h.a0, (hb.cell (p := ⟨w0.heap.size, 1, none⟩) h.zn).trans h.a1, (h.sv.later hb).mono hb.size, h.bel.trans (hb.mono h.bel.size)⟩
theorem Tc.box (w : World) (s : Int) (v : Value) (vs : List W3) (hv : SeesW w w.heap.size v vs) : Tc w (box1 w s v) s v vs :=
  ⟨by rw [box1_size]; omega, box1_0 _ _ _, box1_1 _ _ _, (hv.later (box1_below _ _ _)).mono (box1_below _ _ _).size, box1_below _ _ _⟩
set_option maxHeartbeats 800000 in
theorem trip_walk (s : Int) (v : Value) (vs : List W3) (t : ByteArray) (w : World) (hv : SeesW w w.heap.size v vs) (hl : (vs.length + 1) * 40 ≤ 140737488355328) (ht : t.size ≤ 1125899906842624) :
    Calls Try.prog 5 #[.agg #[.int .u64 s, v], .string t] w fun e w' => e = .returned (.bool true) ∧ Below w.heap.size w w' := by
  have h47 : vs.length ≤ 140737488355328 := by omega
  have HO : Hid (Calls Try.prog 6 #[.agg #[.int .u64 s, v]] (box1 w s v) fun e w' => ∃ v', e = .returned (.agg #[.int .u64 s, v']) ∧ ownW w' (box1 w s v).heap.size v' vs ∧ Below (box1 w s v).heap.size (box1 w s v) w') :=
    own_any s v vs w.heap.size (box1 w s v) (box1_below _ _ _).size (hv.later (box1_below _ _ _)) hl
  have HT : Hid (Tc w (box1 w s v) s v vs) := Tc.box w s v vs hv
  obtain ⟨ao, cap, rfl, hl1, hc1, hs1⟩ := hv
  clear hs1 hl1 hc1 hl
  have HR : Hid (∀ W u, SeesW W W.heap.size u vs → Calls Try.prog 7 #[.agg #[.int .u64 s, u]] W fun e w' => e = .returned (.tuple #[.string (encR s vs).1, .int .i64 (encR s vs).2]) ∧ Below W.heap.size W w') := fun W u h => encode_any s u vs W.heap.size W (Nat.le_refl _) h
  have HQ : Hid (∀ W u, SeesW W W.heap.size u vs → Calls Try.prog 11 #[.agg #[.int .u64 s, u]] W fun e w' => e = .returned (.bool (mayC s vs)) ∧ Below W.heap.size W w') := fun W u h => refMay_any s u vs W.heap.size W (Nat.le_refl _) h
  go_enter Try.func5, Try.ntmps5
  go_wp2_with fail
  refine HO.out.mono ?_
  rintro e w1 ⟨u, rfl, ho, hb⟩
  have hu := ho.seesAll h47
  obtain ⟨sp, nn, cp, rfl⟩ := ho.isSlice
  have HT1 : Hid (Tc w w1 s (.slice ao vs.length cap) vs) := HT.out.step hb
  have HU : Hid (∀ _ : Unit, _) := fun _ => hu
  clear ho hb hu HO HT
  go_wp2_with fail
  refine (HR.out _ _ (HU.out ())).mono ?_
  rintro e w3 ⟨rfl, hb⟩
  have HT3 : Hid (Tc w w3 s (.slice ao vs.length cap) vs) := HT1.out.step hb
  have a0 := HT3.out.a0
  have a1 := HT3.out.a1
  clear hb HT1 HU
  go_wp2_with fail
  clear a0 a1
  refine (HQ.out _ _ HT3.out.sv).mono ?_
  rintro e w4 ⟨rfl, hb⟩
  have HT4 : Hid (Tc w w4 s (.slice ao vs.length cap) vs) := HT3.out.step hb
  clear hb HT3
  cases hm : mayC s vs with
  | false =>
    have he : encR s vs = (⟨#[]⟩, 112) := by unfold encR; rw [hm]; rfl
    simp only [he]
    clear hm he HR HQ
    go_wp2_with fail
    refine (numR_any _ _).mono ?_
    rintro e w5 ⟨rfl, rfl⟩
    go_wp2_with fail
    refine (decodeC t _ ht).mono ?_
    rintro e wA ⟨hbA, h2A⟩
    have HBA : Hid (Below w.heap.size w wA) := (HT4.out.step hbA).bel
    cases hrt : rdCo t with
    | none =>
      rw [hrt] at h2A
      obtain rfl := h2A
      clear hbA
      go_wp2_with fail
      refine (numR_any _ _).mono ?_
      rintro e wB ⟨rfl, rfl⟩
      go_wp2_with fail
      refine (numR_any _ _).mono ?_
      rintro e wB ⟨rfl, rfl⟩
      go_wp2
      go_ret
      exact ⟨rfl, HBA.out.alloc HBA.out.size _⟩
    | some y =>
      obtain ⟨st, us⟩ := y
      rw [hrt] at h2A
      obtain ⟨dA, rfl, hdA⟩ := h2A
      obtain ⟨hf1, hf2⟩ := rdCo_form _ _ _ hrt
      have hlu : us.length ≤ 128 := by
        simp only [mayC, Bool.and_eq_true, decide_eq_true_eq] at hf2
        omega
      have hdA2 := hdA.seesAll (by omega)
      obtain ⟨pA, nA, cA, rfl⟩ := hdA.isSlice
      have heA : encR st us = (t, 0) := by unfold encR; rw [hf2, if_pos rfl, ← hf1]
      have hbB : Below wA.heap.size wA (wA.alloc (.cells #[.int .u64 st, .slice pA nA cA] 25)) := (Below.refl _ _).alloc (Nat.le_refl _) _
      have HE : Hid (Calls Try.prog 7 #[.agg #[.int .u64 st, .slice pA nA cA]] (wA.alloc (.cells #[.int .u64 st, .slice pA nA cA] 25)) fun e w' => e = .returned (.tuple #[.string (encR st us).1, .int .i64 (encR st us).2]) ∧ Below (wA.alloc (.cells #[.int .u64 st, .slice pA nA cA] 25)).heap.size (wA.alloc (.cells #[.int .u64 st, .slice pA nA cA] 25)) w') := encode_any st _ us _ _ (Nat.le_refl _) ((hdA2.later hbB).mono hbB.size)
      have HBB : Hid (Below w.heap.size w (wA.alloc (.cells #[.int .u64 st, .slice pA nA cA] 25))) := HBA.out.trans (hbB.mono HBA.out.size)
      rw [heA] at HE
      clear hbA hdA hdA2 hf1 hf2 hlu heA hbB hrt
      go_wp2_with fail
      refine (numR_any _ _).mono ?_
      rintro e wB ⟨rfl, rfl⟩
      go_wp2_with fail
      refine HE.out.mono ?_
      rintro e wD ⟨rfl, hb⟩
      have HBD : Hid (Below w.heap.size w wD) := HBB.out.trans (hb.mono HBB.out.size)
      clear hb
      go_wp2_with fail
      refine (numR_any _ _).mono ?_
      rintro e wE ⟨rfl, rfl⟩
      go_wp2
      go_ret
      exact ⟨rfl, HBD.out⟩
  | true =>
    have he : encR s vs = (strOfNums (encCo s vs), 0) := by unfold encR; rw [hm]; rfl
    simp only [he]
    have HX : Hid (rdCo (strOfNums (encCo s vs)) = some (s, vs)) := rt_back s vs hm
    have HX2 : Hid (∀ t : ByteArray, t.size = 1 → rdCo (strOfNums (encCo s vs) ++ t) = none) := rt_more s vs hm
    have HX3 : Hid (∀ n : Nat, n < (strOfNums (encCo s vs)).size → rdCo ((strOfNums (encCo s vs)).extract 0 n) = none) := fun n hn => rt_less s vs hm n (by rw [nums_size] at hn; exact hn)
    have hz : 1 ≤ (strOfNums (encCo s vs)).size ∧ (strOfNums (encCo s vs)).size ≤ 100000 := by rw [nums_size]; exact encCo_len s vs hm
    obtain ⟨hz1, hz2⟩ := hz
    clear hm he HR HQ
    generalize strOfNums (encCo s vs) = b at *
    go_wp2_with fail
    refine (numR_any _ _).mono ?_
    rintro e w5 ⟨rfl, rfl⟩
    go_wp2_with fail
    refine (decodeC b _ (by omega)).mono ?_
    rintro e w6 ⟨hb, h2⟩
    rw [HX.out] at h2
    obtain ⟨d, rfl, hd⟩ := h2
    have HT5 : Hid (Tc w w6 s (.slice ao vs.length cap) vs) := HT4.out.step hb
    have hd2 := hd.seesAll h47
    obtain ⟨dp, dn, dc, rfl⟩ := hd.isSlice
    have HT : Hid (Tw w (w6.alloc (.cells #[.int .u64 s, .slice dp dn dc] 25)) w.heap.size w6.heap.size s (.slice ao vs.length cap) (.slice dp dn dc) vs) := by
      have hbA : Below w6.heap.size w6 (w6.alloc (.cells #[.int .u64 s, .slice dp dn dc] 25)) := (Below.refl _ _).alloc (Nat.le_refl _) _
      have h5 := HT5.out.step hbA
      exact ⟨h5.zn, by rw [sizeAl]; omega, h5.a0, h5.a1, by simp [go_sem], by simp [go_sem], h5.sv, (hd2.later hbA).mono hbA.size, h5.bel⟩
    have a0 := HT.out.a0
    have a1 := HT.out.a1
    clear hd hd2 hb HT4 HT5
    go_wp2_with fail
    generalize w6.alloc (.cells #[.int .u64 s, .slice dp dn dc] 25) = W7 at *
    generalize w6.heap.size = g at *
    clear a0 a1
    refine (sameC_any s s _ _ vs vs _ _ (Nat.le_refl _) HT.out.sv HT.out.su).mono ?_
    rintro e w8 ⟨rfl, hb⟩
    have HT8 : Hid (Tw w w8 w.heap.size g s (.slice ao vs.length cap) (.slice dp dn dc) vs) := HT.out.step hb
    clear hb HT
    have hdt : decide (s = s ∧ vs = vs) = true := by simp
    rw [hdt]
    clear hdt
    go_wp2_with fail
    refine (numR_any _ _).mono ?_
    rintro e w9 ⟨rfl, rfl⟩
    have HY2 : Hid (∀ W, Calls Try.prog 12 #[.string (b ++ ⟨#[120]⟩)] W (DcC W none)) := by
      have h1 : (⟨#[120]⟩ : ByteArray).size = 1 := rfl
      have h2 : (b ++ ⟨#[120]⟩).size ≤ 1125899906842624 := by rw [ByteArray.size_append, h1]; omega
      intro W
      have h3 := decodeC _ W h2
      rw [HX2.out _ h1] at h3
      exact h3
    have HY3 : Hid (∀ W, Calls Try.prog 12 #[.string (b.extract 0 (b.size - 1))] W (DcC W none)) := by
      have h2 : (b.extract 0 (b.size - 1)).size ≤ 1125899906842624 := by rw [ByteArray.size_extract]; omega
      intro W
      have h3 := decodeC _ W h2
      rw [HX3.out _ (by omega)] at h3
      exact h3
    have hne : b.toList.isEmpty = false := by
      cases h : b.toList.isEmpty with
      | false => rfl
      | true =>
        rw [ByteArray.toList_eq, List.isEmpty_iff, ← List.length_eq_zero_iff, Array.length_toList] at h
        have h' : b.size = 0 := h
        omega
    go_wp2_with fail
    refine (HY2.out _).mono ?_
    rintro e wC ⟨hb, h2⟩
    obtain rfl := h2
    have HT9 : Hid (Tw w wC w.heap.size g s (.slice ao vs.length cap) (.slice dp dn dc) vs) := HT8.out.step hb
    clear hb HT8
    go_wp2_with fail
    refine (HY3.out _).mono ?_
    rintro e wF ⟨hb, h2⟩
    obtain rfl := h2
    have HT10 : Hid (Tw w wF w.heap.size g s (.slice ao vs.length cap) (.slice dp dn dc) vs) := HT9.out.step (((Below.refl _ _).alloc (Nat.le_refl _) _).trans (hb.mono (by rw [sizeAl]; omega)))
    clear hb HT9
    go_wp2_with fail
    refine (numR_any _ _).mono ?_
    rintro e wG ⟨rfl, rfl⟩
    go_wp2_with fail
    refine (numR_any _ _).mono ?_
    rintro e wH ⟨rfl, rfl⟩
    go_wp2_with fail
    refine (decodeC t _ ht).mono ?_
    rintro e wA ⟨hbA, h2A⟩
    have HBA : Hid (Below w.heap.size w wA) := ((HT10.out.step ((Below.refl _ _).alloc (Nat.le_refl _) _)).step hbA).bel
    cases hrt : rdCo t with
    | none =>
      rw [hrt] at h2A
      obtain rfl := h2A
      clear hbA
      go_wp2_with fail
      refine (numR_any _ _).mono ?_
      rintro e wB ⟨rfl, rfl⟩
      go_wp2_with fail
      refine (numR_any _ _).mono ?_
      rintro e wB ⟨rfl, rfl⟩
      go_wp2
      go_ret
      exact ⟨rfl, HBA.out.alloc HBA.out.size _⟩
    | some y =>
      obtain ⟨st, us⟩ := y
      rw [hrt] at h2A
      obtain ⟨dA, rfl, hdA⟩ := h2A
      obtain ⟨hf1, hf2⟩ := rdCo_form _ _ _ hrt
      have hlu : us.length ≤ 128 := by
        simp only [mayC, Bool.and_eq_true, decide_eq_true_eq] at hf2
        omega
      have hdA2 := hdA.seesAll (by omega)
      obtain ⟨pA, nA, cA, rfl⟩ := hdA.isSlice
      have heA : encR st us = (t, 0) := by unfold encR; rw [hf2, if_pos rfl, ← hf1]
      have hbB : Below wA.heap.size wA (wA.alloc (.cells #[.int .u64 st, .slice pA nA cA] 25)) := (Below.refl _ _).alloc (Nat.le_refl _) _
      have HE : Hid (Calls Try.prog 7 #[.agg #[.int .u64 st, .slice pA nA cA]] (wA.alloc (.cells #[.int .u64 st, .slice pA nA cA] 25)) fun e w' => e = .returned (.tuple #[.string (encR st us).1, .int .i64 (encR st us).2]) ∧ Below (wA.alloc (.cells #[.int .u64 st, .slice pA nA cA] 25)).heap.size (wA.alloc (.cells #[.int .u64 st, .slice pA nA cA] 25)) w') := encode_any st _ us _ _ (Nat.le_refl _) ((hdA2.later hbB).mono hbB.size)
      have HBB : Hid (Below w.heap.size w (wA.alloc (.cells #[.int .u64 st, .slice pA nA cA] 25))) := HBA.out.trans (hbB.mono HBA.out.size)
      rw [heA] at HE
      clear hbA hdA hdA2 hf1 hf2 hlu heA hbB hrt
      go_wp2_with fail
      refine (numR_any _ _).mono ?_
      rintro e wB ⟨rfl, rfl⟩
      go_wp2_with fail
      refine HE.out.mono ?_
      rintro e wD ⟨rfl, hb⟩
      have HBD : Hid (Below w.heap.size w wD) := HBB.out.trans (hb.mono HBB.out.size)
      clear hb
      go_wp2_with fail
      refine (numR_any _ _).mono ?_
      rintro e wE ⟨rfl, rfl⟩
      go_wp2
      go_ret
      exact ⟨rfl, HBD.out⟩
theorem trip_open (s : Int) (a : Option Addr) (len cap : Nat) (t : ByteArray) (W : World) (hv : len ≤ 140737488355328 → ∃ vs : List W3, vs.length = len ∧ SeesW W W.heap.size (.slice a len cap) vs ∧ ∀ v ∈ vs, (Lit.int .i64 v.1).wf = true) (room : len * 40 ≤ reachBytes) (ht : t.size ≤ reachBytes) :
    Calls Try.prog 5 #[.agg #[.int .u64 s, .slice a len cap], .string t] W fun e w' => e = .returned (.bool true) ∧ Below W.heap.size W w' := by
  unfold reachBytes at room ht
  obtain ⟨vs, rfl, hs, _⟩ := hv (by omega)
  exact trip_walk s _ vs t W hs (by omega) (by omega)
end Go.Proofs.Ytlnpeicflofkjaa
