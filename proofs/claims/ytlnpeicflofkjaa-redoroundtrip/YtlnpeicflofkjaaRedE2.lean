import Derived.Test.YtlnpeicflofkjaaRedE1
namespace Go.Proofs.Ytlnpeicflofkjaa
open Go.ChangeShapes Go.WideShapes Go.ChangeAt Go.RowKit
set_option linter.unusedVariables false
set_option maxRecDepth 100000
set_option maxHeartbeats 6400000 in
theorem encode_any (s : Int) (v : Value) (vs : List W3) (B : Nat) (w : World) (hB : B ≤ w.heap.size) (hv : SeesW w B v vs) :
    Calls Try.prog 7 #[.agg #[.int .u64 s, v]] w fun e w' => e = .returned (.tuple #[.string (encR s vs).1, .int .i64 (encR s vs).2]) ∧ Below w.heap.size w w' := by
  have HV : Hid (∀ _ : Unit, SeesW w B v vs) := fun _ => hv
  obtain ⟨ao, cap, rfl, hl1, hc1, hs1⟩ := hv
  have HA : Hid (∀ _ : Unit, _) := fun _ => hs1
  clear hs1
  have HM : Hid (Calls Try.prog 13 #[.agg #[.int .u64 s, .slice ao vs.length cap]] (box1 w s (.slice ao vs.length cap)) fun e w' => e = .returned (.bool (mayC s vs)) ∧ Below (box1 w s (.slice ao vs.length cap)).heap.size (box1 w s (.slice ao vs.length cap)) w') :=
    mayBe_any s _ vs B _ (Nat.le_trans hB (box1_below _ _ _).size) ((HV.out ()).later ((box1_below _ _ _).mono hB))
  have HX : Hid (∀ wr, Below (w.heap.size + 1) (box1 w s (.slice ao vs.length cap)) wr → Below w.heap.size w wr ∧ w.heap.size + 1 ≤ wr.heap.size ∧ wr.cell? ⟨w.heap.size, 0, none⟩ = some (.int .u64 s) ∧ wr.cell? ⟨w.heap.size, 1, none⟩ = some (.slice ao vs.length cap)) := fun wr h =>
    ⟨(box1_below _ _ _).trans (h.mono (by omega)), by have := h.size; rw [box1_size] at this; exact this, (h.cell (p := ⟨w.heap.size, 0, none⟩) (by simp only; omega)).trans (box1_0 _ _ _), (h.cell (p := ⟨w.heap.size, 1, none⟩) (by simp only; omega)).trans (box1_1 _ _ _)⟩
  have HZ : Hid ((box1 w s (.slice ao vs.length cap)).heap.size = w.heap.size + 1) := box1_size _ _ _
  have HR : Hid (∀ b, mayC s vs = b → encR s vs = if b = true then (strOfNums (encCo s vs), 0) else (⟨#[]⟩, 112)) := fun b hb => by unfold encR; rw [hb]
  generalize encR s vs = r at *
  cases hm : mayC s vs
  · rw [hm] at HM
    have HE := HR.out _ hm
    simp only [Bool.false_eq_true, if_false] at HE
    subst HE
    clear hm HR
    go_enter Try.func7, Try.ntmps7
    go_wp2_with fail
    refine HM.out.mono ?_
    rintro e w1 ⟨rfl, hb⟩
    have HB1 : Hid (Below w.heap.size w w1) := (HX.out w1 (hb.mono (by rw [HZ.out]; omega))).1
    clear hb
    go_wp2
    go_ret2
    exact ⟨rfl, HB1.out⟩
  · rw [hm] at HM
    have HE := HR.out _ hm
    simp only [if_true] at HE
    subst HE
    obtain ⟨⟨hs0, hs9⟩, ⟨hn0, hn9⟩, hall⟩ := mayC_len hm
    have HW : Hid (∀ k (h : k < vs.length), mayW vs[k] = true) := fun k h => okAll_get hall k h
    clear hm HR hall
    go_enter Try.func7, Try.ntmps7
    go_wp2_with fail
    refine HM.out.mono ?_
    rintro e w1 ⟨rfl, hb⟩
    have HB1 : Hid (Below (w.heap.size + 1) (box1 w s (.slice ao vs.length cap)) w1) := hb.mono (by rw [HZ.out]; omega)
    obtain ⟨q1, q2, c0, c1⟩ := HX.out w1 HB1.out
    clear hb q1 HM
    go_wp2_with fail
    refine (uvarint s w1 (by omega) (by omega)).mono ?_
    rintro e w2 ⟨rfl, hb⟩
    have HB2 : Hid (Below (w.heap.size + 1) (box1 w s (.slice ao vs.length cap)) w2) := HB1.out.trans (hb.mono q2)
    have q3 := hb.size
    have hcv := conv_bytes w2 (strOfNums (uvB s))
    obtain ⟨hO, hb3⟩ := conv_ownMB w2 (w.heap.size + 1) (strOfNums (uvB s)) (by omega) (by rw [strOfNums_size]; have := uvB_len s; omega)
    rw [txtStr _ (uvB_byt s (by omega) (by omega))] at hO
    have HO3 : Hid (ownMB _ (w.heap.size + 1) _ (uvB s)) := hO
    have HB3 : Hid (Below (w.heap.size + 1) (box1 w s (.slice ao vs.length cap)) (Lib.bytesWorld w2 5 (strOfNums (uvB s)))) := HB2.out.trans (hb3.mono (by omega))
    have HS3 : Hid (w2.heap.size ≤ (Lib.bytesWorld w2 5 (strOfNums (uvB s))).heap.size) := hb3.size
    obtain ⟨q1, q4, d0, d1⟩ := HX.out _ HB3.out
    clear hb hO hb3 q1 c0 c1 HB1 HB2
    go_wp2_with fail
    clear d0 d1 hcv
    generalize (Value.slice (some ⟨w2.heap.size, 0, none⟩) (strOfNums (uvB s)).size (grownCap w2 (strOfNums (uvB s)).size 0 5)) = v3 at *
    generalize Lib.bytesWorld w2 5 (strOfNums (uvB s)) = w3 at *
    refine (uvarint (vs.length : Int) w3 (by omega) (by omega)).mono ?_
    rintro e w4 ⟨rfl, hb⟩
    have HO4 : Hid (ownMB w4 (w.heap.size + 1) v3 (uvB s)) := HO3.out.later hb
    have HB4 : Hid (Below (w.heap.size + 1) (box1 w s (.slice ao vs.length cap)) w4) := HB3.out.trans (hb.mono q4)
    have q5 := (HX.out w4 HB4.out).2.1
    have HL : Hid ((uvB s).length + (strOfNums (uvB (vs.length : Int))).size ≤ 140737488355328) := by show _ ≤ _; rw [strOfNums_size]; have := uvB_len s; have := uvB_len (vs.length : Int); omega
    have HT : Hid (txtN (strOfNums (uvB (vs.length : Int))) = uvB (vs.length : Int)) := txtStr _ (uvB_byt _ (by omega) (by omega))
    clear hb HO3 HB3 HS3
    go_wp2_with (at_builtin; refine app_mstr (by rfl) _ _ (by rfl) (w.heap.size + 1) _ (uvB s) _ HO4.out (by rfl) (by rfl) HL.out q5 ?_; intro v5 w5 ho hb hk; have HO5 : Hid (ownMB w5 (w.heap.size + 1) v5 (uvB s ++ uvB (vs.length : Int))) := (by rw [HT.out] at ho; exact ho); have HB5 : Hid (Below (w.heap.size + 1) (box1 w s (.slice ao vs.length cap)) w5) := HB4.out.trans hb; have d1 := (HX.out w5 HB5.out).2.2.2; clear ho hb hk HO4 HB4)
    clear d1 HL HT
    go_loopw [4, 24] (fun c i wr => ∃ k : Nat, k ≤ vs.length ∧ i = .int .i64 k ∧ ownMB wr (w.heap.size + 1) c (uvB s ++ uvB (vs.length : Int) ++ (vs.take k).flatMap encWr) ∧ Below (w.heap.size + 1) (box1 w s (.slice ao vs.length cap)) wr) (fun _ i _ => vs.length - (intOf i).toNat)
    case atStart => exact ⟨0, by omega, rfl, by simpa using HO5.out, HB5.out⟩
    case round =>
      obtain ⟨k, hk1, rfl, hown, hbel⟩ := hrel
      have HO : Hid (ownMB wr (w.heap.size + 1) _ (uvB s ++ uvB (vs.length : Int) ++ (vs.take k).flatMap encWr)) := hown
      have HBl : Hid (Below (w.heap.size + 1) (box1 w s (.slice ao vs.length cap)) wr) := hbel
      obtain ⟨hW, hsz, _, _⟩ := HX.out wr hbel
      have HWw : Hid (Below w.heap.size w wr) := hW
      clear hown hbel hW
      by_cases h1 : k < vs.length
      · obtain ⟨b1, o1, e1, hb1, x0, x1, x2⟩ := HA.out () k h1
        have y0 := (HWw.out.cell (p := ⟨b1, o1 + k * 3, none⟩) (by simp only; omega)).trans x0
        have y1 := (HWw.out.cell (p := ⟨b1, o1 + k * 3 + 1, none⟩) (by simp only; omega)).trans x1
        have y2 := (HWw.out.cell (p := ⟨b1, o1 + k * 3 + 2, none⟩) (by simp only; omega)).trans x2
        clear x0 x1 x2
        subst e1
        have hmw := HW.out k h1
        obtain ⟨p1, p2, p3, p4⟩ := mayW_parts hmw
        have hel := encs_len (vs.take k) (fun p hp => by
          obtain ⟨j, hj, rfl⟩ := List.getElem_of_mem hp
          rw [List.length_take] at hj
          rw [List.getElem_take]
          exact HW.out j (by omega))
        rw [List.length_take] at hel
        have HLn : Hid ((uvB s ++ uvB (vs.length : Int) ++ (vs.take k).flatMap encWr).length ≤ 1000000) := by
          show _ ≤ _
          have := uvB_len s
          have := uvB_len (vs.length : Int)
          rw [List.length_append, List.length_append]
          omega
        have HTk : Hid _ := encs_take vs k h1
        have p2m : vs[k].2.1.size ≤ 1048576 := by omega
        have p3m : vs[k].2.2.size ≤ 1048576 := by omega
        have HS0 : Hid (St w.heap.size (box1 w s (.slice (some ⟨b1, o1, none⟩) vs.length cap)) (wr.alloc (.cells #[.int .i64 vs[k].1, .string vs[k].2.1, .string vs[k].2.2] 34)) _ (uvB s ++ uvB (vs.length : Int) ++ (vs.take k).flatMap encWr) wr.heap.size vs[k]) :=
          ⟨HO.out.later ((Below.refl _ _).alloc (Nat.le_refl _) _), heap_alloc_new _ _, fun h => by have := ownsM.lt HO.out _ h.symm; omega, HBl.out.trans ((Below.refl _ _).alloc hsz _), by rw [sizeAl]; omega⟩
        have hu1 := uvB_len (vs[k].2.1.size : Int)
        have hu2 := uvB_len (vs[k].2.2.size : Int)
        have hLn := HLn.out
        have HL1 : Hid ((uvB s ++ uvB (vs.length : Int) ++ (vs.take k).flatMap encWr).length + 1 ≤ 140737488355328) := by show _ ≤ _; omega
        have HL2 : Hid (((uvB s ++ uvB (vs.length : Int) ++ (vs.take k).flatMap encWr) ++ [vs[k].1 % 256]).length + (strOfNums (uvB (vs[k].2.1.size : Int)) ++ vs[k].2.1).size ≤ 140737488355328) := by
          show _ ≤ _
          rw [ByteArray.size_append, strOfNums_size, List.length_append, List.length_cons, List.length_nil]; omega
        have HL3 : Hid ((((uvB s ++ uvB (vs.length : Int) ++ (vs.take k).flatMap encWr) ++ [vs[k].1 % 256]) ++ (uvB vs[k].2.1.size ++ txtN vs[k].2.1)).length + (strOfNums (uvB (vs[k].2.2.size : Int)) ++ vs[k].2.2).size ≤ 140737488355328) := by
          show _ ≤ _
          rw [ByteArray.size_append, strOfNums_size]; simp only [List.length_append, List.length_cons, List.length_nil, txtN_len] at hLn ⊢; omega
        clear hel hmw hu1 hu2 hLn HLn HO
        rcases p4 with hkd | ⟨hkd, _⟩
        · have hkb : (vs[k].1 == 1) = true := by simp [hkd]
          have HWr : Hid ((((uvB s ++ uvB (vs.length : Int) ++ (vs.take k).flatMap encWr) ++ [vs[k].1 % 256]) ++ (uvB vs[k].2.1.size ++ txtN vs[k].2.1)) ++ (uvB vs[k].2.2.size ++ txtN vs[k].2.2) = (uvB s ++ uvB (vs.length : Int) ++ (vs.take k).flatMap encWr) ++ encWr vs[k]) := by show _ = _; unfold encWr; rw [if_pos hkd]; simp only [List.append_assoc]
          clear hkd p1 p2 p3
          go_wp2_with (at_builtin; refine app_mone (by rfl) _ _ (by rfl) (w.heap.size + 1) _ (uvB s ++ uvB (vs.length : Int) ++ (vs.take k).flatMap encWr) _ HS0.out.own (by rfl) (wr.heap.size + 1) (by rw [sizeAl]) (by rfl) HL1.out HS0.out.ge ?_; intro v6 w6 ho hb hk; have HS6 : Hid (St w.heap.size (box1 w s (.slice (some ⟨b1, o1, none⟩) vs.length cap)) w6 v6 ((uvB s ++ uvB (vs.length : Int) ++ (vs.take k).flatMap encWr) ++ [vs[k].1 % 256]) wr.heap.size vs[k]) := HS0.out.app ho hb hk; have c1 := HS6.out.c.2.1; clear ho hb hk HS0)
          clear c1
          refine (blobR_any _ _ p2m).mono ?_
          rintro e w7 ⟨rfl, hb⟩
          have HS7 : Hid (St w.heap.size (box1 w s (.slice (some ⟨b1, o1, none⟩) vs.length cap)) w7 v6 ((uvB s ++ uvB (vs.length : Int) ++ (vs.take k).flatMap encWr) ++ [vs[k].1 % 256]) wr.heap.size vs[k]) := HS6.out.step hb
          clear hb HS6
          go_wp2_with (at_builtin; refine app_mstr (by rfl) _ _ (by rfl) (w.heap.size + 1) _ ((uvB s ++ uvB (vs.length : Int) ++ (vs.take k).flatMap encWr) ++ [vs[k].1 % 256]) _ HS7.out.own (by rfl) (by rfl) HL2.out HS7.out.ge ?_; intro v8 w8 ho hb hk; rw [txtBlob _ p2m] at ho; have HS8 : Hid (St w.heap.size (box1 w s (.slice (some ⟨b1, o1, none⟩) vs.length cap)) w8 v8 (((uvB s ++ uvB (vs.length : Int) ++ (vs.take k).flatMap encWr) ++ [vs[k].1 % 256]) ++ (uvB vs[k].2.1.size ++ txtN vs[k].2.1)) wr.heap.size vs[k]) := HS7.out.app ho hb hk; have c0 := HS8.out.c.1; have c2 := HS8.out.c.2.2; clear ho hb hk HS7)
          clear c0 c2
          refine (blobR_any _ _ p3m).mono ?_
          rintro e w9 ⟨rfl, hb⟩
          have HS9 : Hid (St w.heap.size (box1 w s (.slice (some ⟨b1, o1, none⟩) vs.length cap)) w9 v8 (((uvB s ++ uvB (vs.length : Int) ++ (vs.take k).flatMap encWr) ++ [vs[k].1 % 256]) ++ (uvB vs[k].2.1.size ++ txtN vs[k].2.1)) wr.heap.size vs[k]) := HS8.out.step hb
          clear hb HS8
          go_wp2_with (at_builtin; refine app_mstr (by rfl) _ _ (by rfl) (w.heap.size + 1) _ (((uvB s ++ uvB (vs.length : Int) ++ (vs.take k).flatMap encWr) ++ [vs[k].1 % 256]) ++ (uvB vs[k].2.1.size ++ txtN vs[k].2.1)) _ HS9.out.own (by rfl) (by rfl) HL3.out HS9.out.ge ?_; intro v10 w10 ho hb hk; rw [txtBlob _ p3m] at ho; have HS10 : Hid (St w.heap.size (box1 w s (.slice (some ⟨b1, o1, none⟩) vs.length cap)) w10 v10 ((((uvB s ++ uvB (vs.length : Int) ++ (vs.take k).flatMap encWr) ++ [vs[k].1 % 256]) ++ (uvB vs[k].2.1.size ++ txtN vs[k].2.1)) ++ (uvB vs[k].2.2.size ++ txtN vs[k].2.2)) wr.heap.size vs[k]) := HS9.out.app ho hb hk; clear ho hb hk HS9)
          go_roundw
          case rel => exact ⟨k + 1, by omega, by go_num, by rw [HTk.out, ← List.append_assoc, ← HWr.out]; exact HS10.out.own, HS10.out.bel⟩
          case measure => simp [intOf]; omega
        · have hkb : (vs[k].1 == 1) = false := by simp [hkd]
          have HWr : Hid ((((uvB s ++ uvB (vs.length : Int) ++ (vs.take k).flatMap encWr) ++ [vs[k].1 % 256]) ++ (uvB vs[k].2.1.size ++ txtN vs[k].2.1)) = (uvB s ++ uvB (vs.length : Int) ++ (vs.take k).flatMap encWr) ++ encWr vs[k]) := by show _ = _; unfold encWr; rw [if_neg (by omega)]; simp only [List.append_assoc, List.append_nil]
          clear hkd p1 p2 p3
          go_wp2_with (at_builtin; refine app_mone (by rfl) _ _ (by rfl) (w.heap.size + 1) _ (uvB s ++ uvB (vs.length : Int) ++ (vs.take k).flatMap encWr) _ HS0.out.own (by rfl) (wr.heap.size + 1) (by rw [sizeAl]) (by rfl) HL1.out HS0.out.ge ?_; intro v6 w6 ho hb hk; have HS6 : Hid (St w.heap.size (box1 w s (.slice (some ⟨b1, o1, none⟩) vs.length cap)) w6 v6 ((uvB s ++ uvB (vs.length : Int) ++ (vs.take k).flatMap encWr) ++ [vs[k].1 % 256]) wr.heap.size vs[k]) := HS0.out.app ho hb hk; have c1 := HS6.out.c.2.1; clear ho hb hk HS0)
          clear c1
          refine (blobR_any _ _ p2m).mono ?_
          rintro e w7 ⟨rfl, hb⟩
          have HS7 : Hid (St w.heap.size (box1 w s (.slice (some ⟨b1, o1, none⟩) vs.length cap)) w7 v6 ((uvB s ++ uvB (vs.length : Int) ++ (vs.take k).flatMap encWr) ++ [vs[k].1 % 256]) wr.heap.size vs[k]) := HS6.out.step hb
          clear hb HS6
          go_wp2_with (at_builtin; refine app_mstr (by rfl) _ _ (by rfl) (w.heap.size + 1) _ ((uvB s ++ uvB (vs.length : Int) ++ (vs.take k).flatMap encWr) ++ [vs[k].1 % 256]) _ HS7.out.own (by rfl) (by rfl) HL2.out HS7.out.ge ?_; intro v8 w8 ho hb hk; rw [txtBlob _ p2m] at ho; have HS8 : Hid (St w.heap.size (box1 w s (.slice (some ⟨b1, o1, none⟩) vs.length cap)) w8 v8 (((uvB s ++ uvB (vs.length : Int) ++ (vs.take k).flatMap encWr) ++ [vs[k].1 % 256]) ++ (uvB vs[k].2.1.size ++ txtN vs[k].2.1)) wr.heap.size vs[k]) := HS7.out.app ho hb hk; have c0 := HS8.out.c.1; have c2 := HS8.out.c.2.2; clear ho hb hk HS7)
          clear c0 c2
          go_roundw
          case rel => exact ⟨k + 1, by omega, by go_num, by rw [HTk.out, ← List.append_assoc, ← HWr.out]; exact HS8.out.own, HS8.out.bel⟩
          case measure => simp [intOf]; omega
      · have e : k = vs.length := by omega
        subst e
        have ho := HO.out
        rw [List.take_length] at ho
        have hcv := ho.conv
        have HE : Hid (uvB s ++ uvB (vs.length : Int) ++ vs.flatMap encWr = encCo s vs) := rfl
        rw [HE.out] at hcv
        clear ho HO
        go_wp2
        go_ret2
        exact ⟨rfl, HWw.out⟩
end Go.Proofs.Ytlnpeicflofkjaa
