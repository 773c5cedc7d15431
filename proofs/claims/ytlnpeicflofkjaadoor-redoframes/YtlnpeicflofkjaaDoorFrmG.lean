import Derived.Test.YtlnpeicflofkjaaDoorFrmD
namespace Go.Proofs.YtlnpeicflofkjaaDoor
open Go.ChangeShapes Go.WideShapes Go.ChangeAt Go.RowKit
set_option linter.unusedVariables false
set_option maxRecDepth 100000
theorem ext_le (t : ByteArray) (a b : Nat) : (t.extract a b).size ≤ t.size := by rw [ByteArray.size_extract]; omega
theorem refDec_out (s : ByteArray) (p : Int) (w : World) (hp : p < 0 ∨ (s.size : Int) < p ∨ (s.size : Int) < p + 24) (h0 : -9223372036854775808 ≤ p) (h1 : p ≤ 9223372036854775807) (hs : s.size ≤ 140737488351232) :
    Calls Tryd.prog 11 #[.string s, .int .i64 p] w fun e w' => e = .returned (.tuple #[zeroF, .int .i64 p, .int .i64 1]) ∧ Below w.heap.size w w' := by
  have HB : Hid (∀ o, Below w.heap.size w (w.alloc o)) := fun o => (Below.refl _ _).alloc (Nat.le_refl _) o
  have HX : Hid (w.heap.size = w.heap.size) := rfl
  have HR : Hid (∀ a b c, Fr3 (w.alloc (.cells #[a, b, c] 27)) w.heap.size a b c) := fun a b c => heap_alloc_new w _
  by_cases c1 : p < 0
  · go_enter Tryd.func11, Tryd.ntmps11
    go_wp2
    exact bodyPost_ret (ret_frameT rfl _ _ _ _ _ w.heap.size (by rfl) (HR.out _ _ _)) rfl ⟨rfl, HB.out _⟩
  · by_cases c2 : (s.size : Int) < p
    · go_enter Tryd.func11, Tryd.ntmps11
      go_wp2
      exact bodyPost_ret (ret_frameT rfl _ _ _ _ _ w.heap.size (by rfl) (HR.out _ _ _)) rfl ⟨rfl, HB.out _⟩
    · have c3 : (s.size : Int) < p + 24 := by omega
      go_enter Tryd.func11, Tryd.ntmps11
      go_wp2
      exact bodyPost_ret (ret_frameT rfl _ _ _ _ _ w.heap.size (by rfl) (HR.out _ _ _)) rfl ⟨rfl, HB.out _⟩
set_option maxHeartbeats 3200000 in
theorem refDec_in (s : ByteArray) (p : Nat) (w : World) (hp : p + 24 ≤ s.size) (hs : s.size ≤ 140737488351232) :
    Calls Tryd.prog 11 #[.string s, .int .i64 p] w fun e w' => e = .returned (.tuple #[(dcV s p).1, .int .i64 (dcV s p).2.1, .int .i64 (dcV s p).2.2]) ∧ Below w.heap.size w w' := by
  have HDc := dcV_in (s := s) (p := p) (by omega)
  have HD : Hid (dfE (s.extract p s.size) = if (s.extract p s.size).size < 24 then 1 else if (s.extract p s.size).extract 0 2 ≠ strOfNums [83, 70] then 2 else if fxV (s.extract p s.size) 20 4 ≠ crN ((s.extract p s.size).extract 0 20).data.toList then 3
    else if bAt (s.extract p s.size) 3 ≠ 0 ∨ mayFr (bAt (s.extract p s.size) 2) (fxV (s.extract p s.size) 8 8) (fxV (s.extract p s.size) 4 4) = false then 4
    else if (s.extract p s.size).size < 24 + fxV (s.extract p s.size) 4 4 then 1
    else if fxV (s.extract p s.size) 16 4 ≠ crN ((s.extract p s.size).extract 24 (24 + fxV (s.extract p s.size) 4 4)).data.toList then 5 else 0) := rfl
  have HFr : Hid (frV (s.extract p s.size) = .agg #[.int .i64 (bAt (s.extract p s.size) 2 : Nat), .int .u64 (fxV (s.extract p s.size) 8 8 : Nat), .string ((s.extract p s.size).extract 24 (24 + fxV (s.extract p s.size) 4 4))]) := rfl
  obtain ⟨hc1, hc2, hc3, hc4⟩ := cut_head s p hp
  have zH : (s.extract p (p + 24)).size = 24 := by rw [ByteArray.size_extract]; omega
  have zt : (s.extract p s.size).size = s.size - p := by rw [ByteArray.size_extract]; omega
  have ztl : (s.extract p s.size).size ≤ 9223372036854775807 := by omega
  have HZ : Hid (Fr3 (w.alloc (.cells #[.int .i64 0, .int .u64 0, .string ⟨#[]⟩] 27)) w.heap.size (.int .i64 0) (.int .u64 0) (.string ⟨#[]⟩)) := heap_alloc_new w _
  have HB : Hid (Below w.heap.size w (w.alloc (.cells #[.int .i64 0, .int .u64 0, .string ⟨#[]⟩] 27))) := (Below.refl _ _).alloc (Nat.le_refl _) _
  have hn : w.heap.size < (w.alloc (.cells #[.int .i64 0, .int .u64 0, .string ⟨#[]⟩] 27)).heap.size := by simp
  have Hc1 : Hid _ := hc1
  have Hc2 : Hid _ := hc2
  have Hc3 : Hid _ := hc3
  have Hc4 : Hid _ := hc4
  have HDC : Hid _ := HDc
  clear hc1 hc2 hc3 hc4 HDc
  have b2 : (((s.extract p (p + 24)).extract 0 2).toList == [83, 70]) = decide ((s.extract p s.size).extract 0 2 = strOfNums [83, 70]) := by rw [two_beq, Hc2.out 2 (by omega)]
  have hD1 := HD.out.trans (if_neg (by omega))
  by_cases c2 : ¬ (s.extract p s.size).extract 0 2 = strOfNums [83, 70]
  · have d2 : (((s.extract p (p + 24)).extract 0 2).toList == [83, 70]) = false := by rw [b2]; simpa using c2
    have HE : Hid (dcV s p = (zeroF, (p : Int), 2)) := by
      show _ = _
      have hd := hD1.trans (if_pos c2)
      rw [HDC.out, hd, if_neg (by decide)]
    clear hD1 b2 c2 HD
    go_enter Tryd.func11, Tryd.ntmps11
    go_wp2
    exact bodyPost_ret (ret_frameT rfl _ _ _ _ _ w.heap.size (by rfl) HZ.out) rfl ⟨by rw [HE.out]; rfl, HB.out⟩
  replace c2 := Decidable.not_not.1 c2
  have d2 : (((s.extract p (p + 24)).extract 0 2).toList == [83, 70]) = true := by rw [b2]; simpa using c2
  have hD2 := hD1.trans (if_neg (fun h => h c2))
  have hk2' : bAt (s.extract p (p + 24)) 2 = bAt (s.extract p s.size) 2 := Hc3.out 2 (by omega)
  have hk3' : bAt (s.extract p (p + 24)) 3 = bAt (s.extract p s.size) 3 := Hc3.out 3 (by omega)
  have r32 : ∀ (q : Nat) (W : World), q + 4 ≤ 24 → Calls Tryd.prog 23 #[.string (s.extract p (p + 24)), .int .i64 q] W fun e w' => e = .returned (.tuple #[.int .u32 (fxV (s.extract p s.size) q 4 : Nat), .int .i64 ((q : Int) + 4), .int .i64 0]) ∧ w' = W := fun q W hq => by
    have he : rF (s.extract p (p + 24)) (q : Int) = (((fxV (s.extract p (p + 24)) q 4 : Nat) : Int), (q : Int) + 4, 0) := rd3_ok _ q (0 : Int) (tF _) (by omega) (by show fxE _ q 4 = 0; unfold fxE; rw [if_pos (by omega)])
    have hc := ref_f32 (s.extract p (p + 24)) q W (by omega)
    rw [he, Hc1.out q 4 (by omega)] at hc
    exact hc
  have r64 : ∀ (W : World), Calls Tryd.prog 24 #[.string (s.extract p (p + 24)), .int .i64 8] W fun e w' => e = .returned (.tuple #[.int .u64 (fxV (s.extract p s.size) 8 8 : Nat), .int .i64 16, .int .i64 0]) ∧ w' = W := fun W => by
    have he : rX (s.extract p (p + 24)) ((8 : Nat) : Int) = (((fxV (s.extract p (p + 24)) 8 8 : Nat) : Int), ((8 : Nat) : Int) + 8, 0) := rd3_ok _ 8 (0 : Int) (tX _) (by omega) (by show fxE _ 8 8 = 0; unfold fxE; rw [if_pos (by omega)])
    have hc := ref_f64 (s.extract p (p + 24)) ((8 : Nat) : Int) W (by omega)
    rw [he, Hc1.out 8 8 (by omega)] at hc
    exact hc
  have R20 : Hid _ := fun W => r32 20 W (by omega)
  have R4 : Hid _ := fun W => r32 4 W (by omega)
  have R16 : Hid _ := fun W => r32 16 W (by omega)
  have R8 : Hid _ := r64
  have S20 : Hid (∀ W, Calls Tryd.prog 22 #[.string ((s.extract p (p + 24)).extract 0 20)] W fun e w' => e = .returned (.int .u32 (crN ((s.extract p s.size).extract 0 20).data.toList : Nat)) ∧ Below W.heap.size W w') := fun W => by
    rw [Hc2.out 20 (by omega)]
    exact refSum_any _ W (Nat.le_trans (ext_le _ _ _) ztl)
  have SB : Hid (∀ W, p + 24 + fxV (s.extract p s.size) 4 4 ≤ s.size → Calls Tryd.prog 22 #[.string (s.extract (p + 24) (p + 24 + fxV (s.extract p s.size) 4 4))] W fun e w' => e = .returned (.int .u32 (crN ((s.extract p s.size).extract 24 (24 + fxV (s.extract p s.size) 4 4)).data.toList : Nat)) ∧ Below W.heap.size W w') := fun W h => by
    rw [Hc4.out _ h]
    exact refSum_any _ W (Nat.le_trans (ext_le _ _ _) ztl)
  have FM : Hid (∀ W, Calls Tryd.prog 19 #[.int .i64 (bAt (s.extract p s.size) 2 : Nat), .int .u64 (fxV (s.extract p s.size) 8 8 : Nat), .int .i64 (fxV (s.extract p s.size) 4 4 : Nat)] W fun e w' => e = .returned (.bool (mayFr (bAt (s.extract p s.size) 2 : Nat) (fxV (s.extract p s.size) 8 8 : Nat) (fxV (s.extract p s.size) 4 4 : Nat))) ∧ w' = W) := fun W => frameMay_any _ _ _ W
  have hn4 := size_u32 (s.extract p s.size) 4
  have hk2 : ((s.extract p (p + 24))[2]'(by omega)).toNat = bAt (s.extract p s.size) 2 := (bAt_of _ 2 (by omega)).symm.trans hk2'
  have hk3 : ((s.extract p (p + 24))[3]'(by omega)).toNat = bAt (s.extract p s.size) 3 := (bAt_of _ 3 (by omega)).symm.trans hk3'
  have hwb : IntKind.i64.wrap ((bAt (s.extract p s.size) 2 : Nat) : Int) = ((bAt (s.extract p s.size) 2 : Nat) : Int) := by
    have := ((s.extract p (p + 24))[2]'(by omega)).toNat_lt
    rw [IntKind.wrap_i64]
    omega
  have HD2 : Hid _ := hD2
  have Hc4b : Hid _ := Hc4.out (fxV (s.extract p s.size) 4 4)
  clear hD1 hD2 b2 c2 HD r32 r64 hk2' hk3' Hc1 Hc2 Hc3 Hc4
  generalize crN ((s.extract p s.size).extract 0 20).data.toList = c20 at *
  generalize crN ((s.extract p s.size).extract 24 (24 + fxV (s.extract p s.size) 4 4)).data.toList = cb at *
  generalize fxV (s.extract p s.size) 20 4 = v20 at *
  generalize fxV (s.extract p s.size) 16 4 = v16 at *
  generalize fxV (s.extract p s.size) 8 8 = l8 at *
  generalize (s.extract p s.size).extract 24 (24 + fxV (s.extract p s.size) 4 4) = bd at *
  generalize fxV (s.extract p s.size) 4 4 = n4 at *
  generalize bAt (s.extract p s.size) 2 = kb at *
  generalize bAt (s.extract p s.size) 3 = x3 at *
  go_enter Tryd.func11, Tryd.ntmps11
  go_wp2_with fail
  generalize w.alloc (.cells #[.int .i64 0, .int .u64 0, .string ⟨#[]⟩] 27) = W0 at *
  refine (R20.out _).mono ?_
  rintro e w1 ⟨rfl, rfl⟩
  go_wp2_with fail
  refine (S20.out _).mono ?_
  rintro e w2 ⟨rfl, hb⟩
  have HZ2 : Hid (Fr3 w2 w.heap.size (.int .i64 0) (.int .u64 0) (.string ⟨#[]⟩)) := HZ.out.later hb hn
  have HB2 : Hid (Below w.heap.size w w2) := HB.out.trans (hb.mono HB.out.size)
  have z0 := HZ2.out.c0
  have z1 := HZ2.out.c1
  have z2 := HZ2.out.c2
  have y0 := HZ2.out.free 0
  have y1 := HZ2.out.free 1
  have y2 := HZ2.out.free 2
  have hn2 : w.heap.size < w2.heap.size := Nat.lt_of_lt_of_le hn hb.size
  clear hb HZ HB hn
  by_cases c3 : v20 ≠ c20
  · have HE : Hid (dcV s p = (zeroF, (p : Int), 3)) := by
      show _ = _
      have hd : dfE (s.extract p s.size) = 3 := HD2.out.trans (if_pos c3)
      rw [HDC.out, hd, if_neg (by decide)]
    have d3 : ((v20 : Int) != (c20 : Int)) = true := by simp; omega
    clear HD2 c3
    go_wp2
    refine bodyPost_ret (ret_frameT rfl _ _ _ _ _ w.heap.size (by rfl) (HZ2.out.set _ _ _)) rfl ⟨by rw [HE.out]; rfl, ?_⟩
    exact ((HB2.out.setCell (p := ⟨w.heap.size, 0, none⟩) (Nat.le_refl _) _).setCell (p := ⟨w.heap.size, 1, none⟩) (Nat.le_refl _) _).setCell (p := ⟨w.heap.size, 2, none⟩) (Nat.le_refl _) _
  have hD3 := HD2.out.trans (if_neg c3)
  have d3 : ((v20 : Int) != (c20 : Int)) = false := by simp; omega
  have HD3 : Hid _ := hD3
  clear hD3 HD2 c3
  go_wp2_with fail
  refine (R4.out _).mono ?_
  rintro e w3 ⟨rfl, rfl⟩
  go_wp2_with fail
  refine (R8.out _).mono ?_
  rintro e w4 ⟨rfl, rfl⟩
  go_wp2_with fail
  by_cases c5 : mayFr (kb : Nat) (l8 : Nat) (n4 : Nat) = false
  · rw [c5] at FM
    have HE : Hid (dcV s p = (zeroF, (p : Int), 4)) := by
      show _ = _
      have hd : dfE (s.extract p s.size) = 4 := HD3.out.trans (if_pos (Or.inr c5))
      rw [HDC.out, hd, if_neg (by decide)]
    clear HD3 c5
    refine (FM.out _).mono ?_
    rintro e w5 ⟨rfl, rfl⟩
    go_wp2
    refine bodyPost_ret (ret_frameT rfl _ _ _ _ _ w.heap.size (by rfl) (HZ2.out.set _ _ _)) rfl ⟨by rw [HE.out]; rfl, ?_⟩
    exact ((HB2.out.setCell (p := ⟨w.heap.size, 0, none⟩) (Nat.le_refl _) _).setCell (p := ⟨w.heap.size, 1, none⟩) (Nat.le_refl _) _).setCell (p := ⟨w.heap.size, 2, none⟩) (Nat.le_refl _) _
  have c5' : mayFr (kb : Nat) (l8 : Nat) (n4 : Nat) = true := by simpa using c5
  rw [c5'] at FM
  refine (FM.out _).mono ?_
  rintro e w5 ⟨rfl, rfl⟩
  by_cases c4 : x3 ≠ 0
  · have HE : Hid (dcV s p = (zeroF, (p : Int), 4)) := by
      show _ = _
      have hd : dfE (s.extract p s.size) = 4 := HD3.out.trans (if_pos (Or.inl c4))
      rw [HDC.out, hd, if_neg (by decide)]
    have d4 : ((x3 : Int) != 0) = true := by simp; omega
    clear HD3 c5 c5' c4 FM
    go_wp2
    refine bodyPost_ret (ret_frameT rfl _ _ _ _ _ w.heap.size (by rfl) (HZ2.out.set _ _ _)) rfl ⟨by rw [HE.out]; rfl, ?_⟩
    exact ((HB2.out.setCell (p := ⟨w.heap.size, 0, none⟩) (Nat.le_refl _) _).setCell (p := ⟨w.heap.size, 1, none⟩) (Nat.le_refl _) _).setCell (p := ⟨w.heap.size, 2, none⟩) (Nat.le_refl _) _
  have hD4 := HD3.out.trans (if_neg (fun h => h.elim c4 c5))
  have d4 : ((x3 : Int) != 0) = false := by simp; omega
  have HD4 : Hid _ := hD4
  clear hD4 HD3 c5 c5' c4 FM
  by_cases c6 : s.size < p + 24 + n4
  · have HE : Hid (dcV s p = (zeroF, (p : Int), 1)) := by
      show _ = _
      have hd : dfE (s.extract p s.size) = 1 := HD4.out.trans (if_pos (by omega))
      rw [HDC.out, hd, if_neg (by decide)]
    clear HD4
    go_wp2
    refine bodyPost_ret (ret_frameT rfl _ _ _ _ _ w.heap.size (by rfl) (HZ2.out.set _ _ _)) rfl ⟨by rw [HE.out]; rfl, ?_⟩
    exact ((HB2.out.setCell (p := ⟨w.heap.size, 0, none⟩) (Nat.le_refl _) _).setCell (p := ⟨w.heap.size, 1, none⟩) (Nat.le_refl _) _).setCell (p := ⟨w.heap.size, 2, none⟩) (Nat.le_refl _) _
  have hD5 := HD4.out.trans (if_neg (by omega))
  have HD5 : Hid _ := hD5
  have c6' : p + 24 + n4 ≤ s.size := by omega
  clear hD5 HD4 c6
  go_wp2_with fail
  refine (R16.out _).mono ?_
  rintro e w6 ⟨rfl, rfl⟩
  go_wp2_with fail
  refine (SB.out _ c6').mono ?_
  rintro e w7 ⟨rfl, hb⟩
  have HZ7 : Hid (Fr3 w7 w.heap.size (.int .i64 0) (.int .u64 0) (.string ⟨#[]⟩)) := HZ2.out.later hb hn2
  have HB7 : Hid (Below w.heap.size w w7) := HB2.out.trans (hb.mono HB2.out.size)
  clear z0 z1 z2 y0 y1 y2
  have z0 := HZ7.out.c0
  have z1 := HZ7.out.c1
  have z2 := HZ7.out.c2
  have y0 := HZ7.out.free 0
  have y1 := HZ7.out.free 1
  have y2 := HZ7.out.free 2
  clear hb HZ2 HB2 hn2
  have hbd : s.extract (p + 24) (p + 24 + n4) = bd := Hc4b.out c6'
  by_cases c7 : v16 ≠ cb
  · have HE : Hid (dcV s p = (zeroF, (p : Int), 5)) := by
      show _ = _
      have hd : dfE (s.extract p s.size) = 5 := HD5.out.trans (if_pos c7)
      rw [HDC.out, hd, if_neg (by decide)]
    have d7 : ((v16 : Int) != (cb : Int)) = true := by simp; omega
    clear HD5 c7
    go_wp2
    refine bodyPost_ret (ret_frameT rfl _ _ _ _ _ w.heap.size (by rfl) (HZ7.out.set _ _ _)) rfl ⟨by rw [HE.out]; rfl, ?_⟩
    exact ((HB7.out.setCell (p := ⟨w.heap.size, 0, none⟩) (Nat.le_refl _) _).setCell (p := ⟨w.heap.size, 1, none⟩) (Nat.le_refl _) _).setCell (p := ⟨w.heap.size, 2, none⟩) (Nat.le_refl _) _
  have HE : Hid (dcV s p = (.agg #[.int .i64 (kb : Nat), .int .u64 (l8 : Nat), .string bd], (p : Int) + 24 + (n4 : Nat), 0)) := by
    show _ = _
    have hd : dfE (s.extract p s.size) = 0 := HD5.out.trans (if_neg c7)
    rw [HDC.out, if_pos hd, HFr.out]
  have d7 : ((v16 : Int) != (cb : Int)) = false := by simp; omega
  clear HD5 c7
  go_wp2
  refine bodyPost_ret (ret_frameT rfl _ _ _ _ _ w.heap.size (by rfl) (HZ7.out.set _ _ _)) rfl ⟨by rw [HE.out]; rfl, ?_⟩
  exact ((HB7.out.setCell (p := ⟨w.heap.size, 0, none⟩) (Nat.le_refl _) _).setCell (p := ⟨w.heap.size, 1, none⟩) (Nat.le_refl _) _).setCell (p := ⟨w.heap.size, 2, none⟩) (Nat.le_refl _) _
theorem refDec_any (s : ByteArray) (p : Int) (w : World) (h0 : -9223372036854775808 ≤ p) (h1 : p ≤ 9223372036854775807) (hs : s.size ≤ 140737488351232) :
    Calls Tryd.prog 11 #[.string s, .int .i64 p] w fun e w' => e = .returned (.tuple #[(dcV s p).1, .int .i64 (dcV s p).2.1, .int .i64 (dcV s p).2.2]) ∧ Below w.heap.size w w' := by
  by_cases h : 0 ≤ p ∧ p + 24 ≤ s.size
  · obtain ⟨n, rfl⟩ := Int.eq_ofNat_of_zero_le h.1
    exact refDec_in s n w (by omega) hs
  · have he : dcV s p = (zeroF, p, 1) := by
      by_cases hin : 0 ≤ p ∧ p ≤ s.size
      · obtain ⟨n, rfl⟩ := Int.eq_ofNat_of_zero_le hin.1
        have hd : dfE (s.extract n s.size) = 1 := by
          unfold dfE
          rw [if_pos (by rw [ByteArray.size_extract]; omega)]
        rw [dcV_in (by omega), hd, if_neg (by decide)]
      · exact dcV_out hin
    rw [he]
    exact refDec_out s p w (by omega) h0 h1 hs
end Go.Proofs.YtlnpeicflofkjaaDoor
