import Derived.Test.YtlnpeicflofkjaaRedE1
import Derived.Test.YtlnpeicflofkjaaRedR1
namespace Go.Proofs.Ytlnpeicflofkjaa
open Go.ChangeShapes Go.WideShapes Go.ChangeAt Go.RowKit
set_option linter.unusedVariables false
set_option maxRecDepth 100000
theorem conv_one (W : World) (c : Int) : (convert 41 9 (.slice (some ⟨W.heap.size, 0, none⟩) 1 1)).run Try.prog (W.alloc (.cells #[.int .u8 c] 5)) = .ok (.string (strOfNums [c])) (W.alloc (.cells #[.int .u8 c] 5)) := by
  refine run_convert_bytes_arg _ 41 5 Try.underlying41 Try.underlying5 W.heap.size 0 1 1 [c] rfl (fun i hi => ?_) 9 Try.underlying9
  match i, hi with
  | 0, _ => simp [go_sem]
theorem refBlob_any (s : ByteArray) (w : World) (hs : s.size ≤ 1048576) : Calls Try.prog 17 #[.string s] w fun e w' => e = .returned (.tuple #[.string (strOfNums (uvB s.size ++ txtN s)), .int .i64 0]) ∧ Below w.heap.size w w' := by
  have hb := ref_blob s w (by omega)
  have he : blobV s = (strOfNums (uvB s.size ++ txtN s), 0) := by unfold blobV; rw [if_pos hs, strApp, strTxt]
  rw [he] at hb
  exact hb
/-- What stands behind the test of a commit. -/
abbrev RX (n : Nat) (s : Int) (sl : Value) (W1 W : World) : Prop := W.cell? ⟨n, 0, none⟩ = some (.int .u64 s) ∧ W.cell? ⟨n, 1, none⟩ = some sl ∧ Hid (Below (n + 1) W1 W ∧ n + 1 ≤ W.heap.size)
theorem RX.step {n : Nat} {s : Int} {sl : Value} {W1 W W' : World} (hb : Below W.heap.size W W') (h : RX n s sl W1 W) : RX n s sl W1 W' := by
  obtain ⟨c0, c1, H⟩ := h
  have hz : n < W.heap.size := H.out.2
  exact ⟨(hb.cell (p := ⟨n, 0, none⟩) hz).trans c0, (hb.cell (p := ⟨n, 1, none⟩) hz).trans c1, ⟨H.out.1.trans (hb.mono H.out.2), Nat.le_trans H.out.2 hb.size⟩⟩
theorem RX.drew {n : Nat} {s : Int} {sl : Value} {W1 W : World} (h : RX n s sl W1 W) : RX n s sl W1 W.drew := RX.step (Below.refl _ _).drew h
theorem RX.out {n : Nat} {s : Int} {sl : Value} {W1 W : World} (h : RX n s sl W1 W) : Below (n + 1) W1 W ∧ n + 1 ≤ W.heap.size := h.2.2
theorem RX.mk {n : Nat} {s : Int} {sl : Value} {W1 W : World} (hb : Below (n + 1) W1 W) (hz : n + 1 ≤ W.heap.size) (c0 : W.cell? ⟨n, 0, none⟩ = some (.int .u64 s)) (c1 : W.cell? ⟨n, 1, none⟩ = some sl) : RX n s sl W1 W := ⟨c0, c1, ⟨hb, hz⟩⟩
theorem add_nums {P : Program} (xs ys : List Int) (h : xs.length + ys.length ≤ 9223372036854775807) (w : World) : (Op.stringOp .add (strOfNums xs) (strOfNums ys)).run P w = .ok (.string (strOfNums (xs ++ ys))) w := by
  rw [strApp]
  exact run_string_add_sum w _ _ (by rw [strOfNums_size, strOfNums_size]; exact h)
/-- A write in its block. -/
structure Bk (W1 : World) (n : Nat) (W : World) (g : Nat) (p : W3) : Prop where
  blk : W.heap[g]? = some (.cells #[.int .i64 p.1, .string p.2.1, .string p.2.2] 34)
  bel : Below (n + 1) W1 W
  ge : n + 1 ≤ W.heap.size
theorem Bk.step {W1 : World} {n : Nat} {W W' : World} {g : Nat} {p : W3} (h : Bk W1 n W g p) (hb : Below W.heap.size W W') : Bk W1 n W' g p :=
  ⟨(hb.block g (Array.getElem?_eq_some_iff.1 h.blk).1).trans h.blk, h.bel.trans (hb.mono h.ge), Nat.le_trans h.ge hb.size⟩
theorem Bk.c {W1 : World} {n : Nat} {W : World} {g : Nat} {p : W3} (h : Bk W1 n W g p) : W.cell? ⟨g, 0, none⟩ = some (.int .i64 p.1) ∧ W.cell? ⟨g, 1, none⟩ = some (.string p.2.1) ∧ W.cell? ⟨g, 2, none⟩ = some (.string p.2.2) := ⟨(cellWH h.blk 0).trans rfl, (cellWH h.blk 1).trans rfl, (cellWH h.blk 2).trans rfl⟩
set_option maxHeartbeats 6400000 in
theorem refEncode_any (s : Int) (v : Value) (vs : List W3) (B : Nat) (w : World) (hB : B ≤ w.heap.size) (hv : SeesW w B v vs) :
    Calls Try.prog 8 #[.agg #[.int .u64 s, v]] w fun e w' => e = .returned (.tuple #[.string (encR s vs).1, .int .i64 (encR s vs).2]) ∧ Below w.heap.size w w' := by
  have HV : Hid (∀ _ : Unit, SeesW w B v vs) := fun _ => hv
  obtain ⟨ao, cap, rfl, hl1, hc1, hs1⟩ := hv
  have HA : Hid (∀ _ : Unit, _) := fun _ => hs1
  clear hs1
  have HM : Hid (Calls Try.prog 11 #[.agg #[.int .u64 s, .slice ao vs.length cap]] (box1 w s (.slice ao vs.length cap)) fun e w' => e = .returned (.bool (mayC s vs)) ∧ Below (box1 w s (.slice ao vs.length cap)).heap.size (box1 w s (.slice ao vs.length cap)) w') :=
    refMay_any s _ vs B _ (Nat.le_trans hB (box1_below _ _ _).size) ((HV.out ()).later ((box1_below _ _ _).mono hB))
  have HX : Hid (∀ wr, Below (w.heap.size + 1) (box1 w s (.slice ao vs.length cap)) wr → Below w.heap.size w wr ∧ w.heap.size + 1 ≤ wr.heap.size ∧ wr.cell? ⟨w.heap.size, 0, none⟩ = some (.int .u64 s) ∧ wr.cell? ⟨w.heap.size, 1, none⟩ = some (.slice ao vs.length cap)) := fun wr h =>
    ⟨(box1_below _ _ _).trans (h.mono (by omega)), by have := h.size; rw [box1_size] at this; exact this, (h.cell (p := ⟨w.heap.size, 0, none⟩) (by simp only; omega)).trans (box1_0 _ _ _), (h.cell (p := ⟨w.heap.size, 1, none⟩) (by simp only; omega)).trans (box1_1 _ _ _)⟩
  have HZ : Hid ((box1 w s (.slice ao vs.length cap)).heap.size = w.heap.size + 1) := box1_size _ _ _
  have HR : Hid (∀ b, mayC s vs = b → encR s vs = if b = true then (strOfNums (encCo s vs), 0) else (⟨#[]⟩, 112)) := fun b hb => by unfold encR; rw [hb]
  generalize encR s vs = r at *
  cases hm : mayC s vs
  · rw [hm] at HM
    have HE := HR.out _ hm
    simp only [Bool.false_eq_true, if_false] at HE
    subst HE
    clear hm HR
    go_enter Try.func8, Try.ntmps8
    go_wp2_with fail
    refine HM.out.mono ?_
    rintro e w1 ⟨rfl, hb⟩
    have HB1 : Hid (Below w.heap.size w w1) := (HX.out w1 (hb.mono (by rw [HZ.out]; omega))).1
    clear hb
    go_wp2
    go_ret2
    exact ⟨rfl, HB1.out⟩
  · rw [hm] at HM
    have HE := HR.out _ hm
    simp only [if_true] at HE
    subst HE
    obtain ⟨⟨hs0, hs9⟩, ⟨hn0, hn9⟩, hall⟩ := mayC_len hm
    have HW : Hid (∀ k (h : k < vs.length), mayW vs[k] = true) := fun k h => okAll_get hall k h
    clear hm HR hall
    have hu0 := uvB_len s
    have hu1 := uvB_len (vs.length : Int)
    have hadd := add_nums (P := Try.prog) (uvB s) (uvB (vs.length : Int)) (by omega)
    have s0 : (0 : Int) ≤ s := by omega
    have s9 : s ≤ 18446744073709551615 := by omega
    have m0 : (0 : Int) ≤ (vs.length : Int) := by omega
    have m9 : (vs.length : Int) ≤ 18446744073709551615 := by omega
    have HU : Hid (∀ x W, (0 ≤ x ∧ x ≤ 18446744073709551615) → Calls Try.prog 16 #[.int .u64 x] W fun e w' => e = .returned (.string (strOfNums (uvB x))) ∧ Below W.heap.size W w') := fun x W h => ref_uvarint x W h.1 h.2
    go_enter Try.func8, Try.ntmps8
    go_wp2_with fail
    refine HM.out.mono ?_
    rintro e w1 ⟨rfl, hb⟩
    have X : RX w.heap.size s (.slice ao vs.length cap) (box1 w s (.slice ao vs.length cap)) w1 := by
      have h1 : Below (w.heap.size + 1) (box1 w s (.slice ao vs.length cap)) w1 := hb.mono (by rw [HZ.out]; omega)
      obtain ⟨_, a2, a3, a4⟩ := HX.out w1 h1
      exact RX.mk h1 a2 a3 a4
    clear hb HM
    go_wp2_with fail
    have hwr : IntKind.u64.wrap (vs.length : Int) = (vs.length : Int) := by show (vs.length : Int) % 18446744073709551616 = _; omega
    go_region_held3 (fun W' => W'.cell? ⟨w.heap.size, 0, none⟩ = some (.int .u64 s) ∧ W'.cell? ⟨w.heap.size, 1, none⟩ = some (.slice ao vs.length cap) ∧ Hid (Below (w.heap.size + 1) (box1 w s (.slice ao vs.length cap)) W' ∧ w.heap.size + 1 ≤ W'.heap.size)) (first | assumption | exact RX.drew (by assumption)) (first | (go_at_call 16; refine (HU.out _ _ (by first | exact ⟨s0, s9⟩ | exact ⟨m0, m9⟩)).mono ?_; rintro e w1 ⟨rfl, hb⟩; have hS := RX.step hb (by assumption); clear hb))
    have HB5 : Hid (Below (w.heap.size + 1) (box1 w s (.slice ao vs.length cap)) w1) := (RX.out hS).1
    clear hS X hadd hwr HU s0 s9 m0 m9
    have d1 := (HX.out w1 HB5.out).2.2.2
    go_wp2_with fail
    clear d1
    go_loopw [5, 6] (fun c i wr => ∃ k : Nat, k ≤ vs.length ∧ i = .int .i64 k ∧ c = .string (strOfNums (uvB s ++ uvB (vs.length : Int) ++ (vs.take k).flatMap encWr)) ∧ Below (w.heap.size + 1) (box1 w s (.slice ao vs.length cap)) wr) (fun _ i _ => vs.length - (intOf i).toNat)
    case atStart => exact ⟨0, by omega, rfl, by simp, HB5.out⟩
    case round =>
      obtain ⟨k, hk1, rfl, rfl, hbel⟩ := hrel
      have HBl : Hid (Below (w.heap.size + 1) (box1 w s (.slice ao vs.length cap)) wr) := hbel
      obtain ⟨hW, hsz, _, d1⟩ := HX.out wr hbel
      have HWw : Hid (Below w.heap.size w wr) := hW
      clear hbel hW
      by_cases h1 : k < vs.length
      · obtain ⟨b1, o1, e1, hb1, x0, x1, x2⟩ := HA.out () k h1
        have y0 := (HWw.out.cell (p := ⟨b1, o1 + k * 3, none⟩) (by simp only; omega)).trans x0
        have y1 := (HWw.out.cell (p := ⟨b1, o1 + k * 3 + 1, none⟩) (by simp only; omega)).trans x1
        have y2 := (HWw.out.cell (p := ⟨b1, o1 + k * 3 + 2, none⟩) (by simp only; omega)).trans x2
        clear x0 x1 x2
        subst e1
        have hmw := HW.out k h1
        obtain ⟨p1, p2, p3, p4⟩ := mayW_parts hmw
        have hel := encs_len (vs.take k) (fun p hp => by
          obtain ⟨j, hj, rfl⟩ := List.getElem_of_mem hp
          rw [List.length_take] at hj
          rw [List.getElem_take]
          exact HW.out j (by omega))
        rw [List.length_take] at hel
        have p2m : vs[k].2.1.size ≤ 1048576 := by omega
        have p3m : vs[k].2.2.size ≤ 1048576 := by omega
        have hv1 := uvB_len (vs[k].2.1.size : Int)
        have hv2 := uvB_len (vs[k].2.2.size : Int)
        have hLn : (uvB s ++ uvB (vs.length : Int) ++ (vs.take k).flatMap encWr).length ≤ 1000000 := by
          rw [List.length_append, List.length_append]
          omega
        have A1 := add_nums (P := Try.prog) (uvB s ++ uvB (vs.length : Int) ++ (vs.take k).flatMap encWr) [vs[k].1 % 256] (by rw [List.length_cons, List.length_nil]; omega)
        have A2 := add_nums (P := Try.prog) ((uvB s ++ uvB (vs.length : Int) ++ (vs.take k).flatMap encWr) ++ [vs[k].1 % 256]) (uvB (vs[k].2.1.size : Int) ++ txtN vs[k].2.1) (by simp only [List.length_append, List.length_cons, List.length_nil, txtN_len] at hLn ⊢; omega)
        have A3 := add_nums (P := Try.prog) (((uvB s ++ uvB (vs.length : Int) ++ (vs.take k).flatMap encWr) ++ [vs[k].1 % 256]) ++ (uvB (vs[k].2.1.size : Int) ++ txtN vs[k].2.1)) (uvB (vs[k].2.2.size : Int) ++ txtN vs[k].2.2) (by simp only [List.length_append, List.length_cons, List.length_nil, txtN_len] at hLn ⊢; omega)
        have hcv := fun W => conv_one W (vs[k].1 % 256)
        have HTk : Hid _ := encs_take vs k h1
        have HS0 : Hid (Bk (box1 w s (.slice (some ⟨b1, o1, none⟩) vs.length cap)) w.heap.size (wr.alloc (.cells #[.int .i64 vs[k].1, .string vs[k].2.1, .string vs[k].2.2] 34)) wr.heap.size vs[k]) := ⟨heap_alloc_new _ _, HBl.out.trans ((Below.refl _ _).alloc hsz _), by rw [sizeAl]; omega⟩
        clear hel hmw hv1 hv2 hLn hu0 hu1
        rcases p4 with hkd | ⟨hkd, _⟩
        · have hkb : (vs[k].1 == 1) = true := by simp [hkd]
          have HF : Hid (strOfNums ((((uvB s ++ uvB (vs.length : Int) ++ (vs.take k).flatMap encWr) ++ [vs[k].1 % 256]) ++ (uvB (vs[k].2.1.size : Int) ++ txtN vs[k].2.1)) ++ (uvB (vs[k].2.2.size : Int) ++ txtN vs[k].2.2)) = strOfNums (uvB s ++ uvB (vs.length : Int) ++ (vs.take (k + 1)).flatMap encWr)) := by show _ = _; congr 1; rw [HTk.out, ← List.append_assoc]; unfold encWr; rw [if_pos hkd]; simp only [List.append_assoc]
          clear hkd p1 p2 p3 HTk
          have HQ : Hid (∀ W, Calls Try.prog 17 #[.string vs[k].2.1] W fun e w' => e = .returned (.tuple #[.string (strOfNums (uvB (vs[k].2.1.size : Int) ++ txtN vs[k].2.1)), .int .i64 0]) ∧ Below W.heap.size W w') := fun W => refBlob_any _ W p2m
          have HD : Hid (∀ W, Calls Try.prog 17 #[.string vs[k].2.2] W fun e w' => e = .returned (.tuple #[.string (strOfNums (uvB (vs[k].2.2.size : Int) ++ txtN vs[k].2.2)), .int .i64 0]) ∧ Below W.heap.size W w') := fun W => refBlob_any _ W p3m
          clear p2m p3m
          generalize strOfNums ((((uvB s ++ uvB (vs.length : Int) ++ (vs.take k).flatMap encWr) ++ [vs[k].1 % 256]) ++ (uvB (vs[k].2.1.size : Int) ++ txtN vs[k].2.1)) ++ (uvB (vs[k].2.2.size : Int) ++ txtN vs[k].2.2)) = t3 at *
          generalize strOfNums (((uvB s ++ uvB (vs.length : Int) ++ (vs.take k).flatMap encWr) ++ [vs[k].1 % 256]) ++ (uvB (vs[k].2.1.size : Int) ++ txtN vs[k].2.1)) = t2 at *
          generalize strOfNums ((uvB s ++ uvB (vs.length : Int) ++ (vs.take k).flatMap encWr) ++ [vs[k].1 % 256]) = t1 at *
          generalize strOfNums (uvB s ++ uvB (vs.length : Int) ++ (vs.take k).flatMap encWr) = t0 at *
          generalize strOfNums (uvB (vs[k].2.1.size : Int) ++ txtN vs[k].2.1) = kb at *
          generalize strOfNums (uvB (vs[k].2.2.size : Int) ++ txtN vs[k].2.2) = db at *
          generalize strOfNums [vs[k].1 % 256] = cb at *
          go_wp2_with fail
          refine (HQ.out _).mono ?_
          rintro e w7 ⟨rfl, hb⟩
          have HS7 : Hid (Bk (box1 w s (.slice (some ⟨b1, o1, none⟩) vs.length cap)) w.heap.size w7 wr.heap.size vs[k]) := HS0.out.step hb
          have HS8 : Hid (Bk (box1 w s (.slice (some ⟨b1, o1, none⟩) vs.length cap)) w.heap.size (w7.alloc (.cells #[.int .u8 (vs[k].1 % 256)] 5)) wr.heap.size vs[k]) := HS7.out.step ((Below.refl _ _).alloc (Nat.le_refl _) _)
          have c0 := HS7.out.c.1
          have e0 := HS8.out.c.1
          have e2 := HS8.out.c.2.2
          clear hb HS0 HS7
          go_wp2_with fail
          clear c0 e0 e2
          generalize w7.alloc (.cells #[.int .u8 (vs[k].1 % 256)] 5) = w8 at *
          refine (HD.out _).mono ?_
          rintro e w9 ⟨rfl, hb⟩
          have HS9 : Hid (Bk (box1 w s (.slice (some ⟨b1, o1, none⟩) vs.length cap)) w.heap.size w9 wr.heap.size vs[k]) := HS8.out.step hb
          clear hb HS8
          go_wp2
          go_roundw
          case rel => exact ⟨k + 1, by omega, by go_num, by rw [HF.out], HS9.out.bel⟩
          case measure => simp [intOf]; omega
        · have hkb : (vs[k].1 == 1) = false := by simp [hkd]
          have HF : Hid (strOfNums (((uvB s ++ uvB (vs.length : Int) ++ (vs.take k).flatMap encWr) ++ [vs[k].1 % 256]) ++ (uvB (vs[k].2.1.size : Int) ++ txtN vs[k].2.1)) = strOfNums (uvB s ++ uvB (vs.length : Int) ++ (vs.take (k + 1)).flatMap encWr)) := by show _ = _; congr 1; rw [HTk.out, ← List.append_assoc]; unfold encWr; rw [if_neg (by omega)]; simp only [List.append_assoc, List.append_nil]
          clear hkd p1 p2 p3 HTk
          have HQ : Hid (∀ W, Calls Try.prog 17 #[.string vs[k].2.1] W fun e w' => e = .returned (.tuple #[.string (strOfNums (uvB (vs[k].2.1.size : Int) ++ txtN vs[k].2.1)), .int .i64 0]) ∧ Below W.heap.size W w') := fun W => refBlob_any _ W p2m
          have HD : Hid (∀ W, Calls Try.prog 17 #[.string vs[k].2.2] W fun e w' => e = .returned (.tuple #[.string (strOfNums (uvB (vs[k].2.2.size : Int) ++ txtN vs[k].2.2)), .int .i64 0]) ∧ Below W.heap.size W w') := fun W => refBlob_any _ W p3m
          clear p2m p3m
          generalize strOfNums ((((uvB s ++ uvB (vs.length : Int) ++ (vs.take k).flatMap encWr) ++ [vs[k].1 % 256]) ++ (uvB (vs[k].2.1.size : Int) ++ txtN vs[k].2.1)) ++ (uvB (vs[k].2.2.size : Int) ++ txtN vs[k].2.2)) = t3 at *
          generalize strOfNums (((uvB s ++ uvB (vs.length : Int) ++ (vs.take k).flatMap encWr) ++ [vs[k].1 % 256]) ++ (uvB (vs[k].2.1.size : Int) ++ txtN vs[k].2.1)) = t2 at *
          generalize strOfNums ((uvB s ++ uvB (vs.length : Int) ++ (vs.take k).flatMap encWr) ++ [vs[k].1 % 256]) = t1 at *
          generalize strOfNums (uvB s ++ uvB (vs.length : Int) ++ (vs.take k).flatMap encWr) = t0 at *
          generalize strOfNums (uvB (vs[k].2.1.size : Int) ++ txtN vs[k].2.1) = kb at *
          generalize strOfNums (uvB (vs[k].2.2.size : Int) ++ txtN vs[k].2.2) = db at *
          generalize strOfNums [vs[k].1 % 256] = cb at *
          go_wp2_with fail
          refine (HQ.out _).mono ?_
          rintro e w7 ⟨rfl, hb⟩
          have HS7 : Hid (Bk (box1 w s (.slice (some ⟨b1, o1, none⟩) vs.length cap)) w.heap.size w7 wr.heap.size vs[k]) := HS0.out.step hb
          have HS8 : Hid (Bk (box1 w s (.slice (some ⟨b1, o1, none⟩) vs.length cap)) w.heap.size (w7.alloc (.cells #[.int .u8 (vs[k].1 % 256)] 5)) wr.heap.size vs[k]) := HS7.out.step ((Below.refl _ _).alloc (Nat.le_refl _) _)
          have c0 := HS7.out.c.1
          have e0 := HS8.out.c.1
          clear hb HS0 HS7
          go_wp2
          go_roundw
          case rel => exact ⟨k + 1, by omega, by go_num, by rw [HF.out], HS8.out.bel⟩
          case measure => simp [intOf]; omega
      · have e : k = vs.length := by omega
        subst e
        have HE : Hid ((uvB s ++ uvB (vs.length : Int) ++ (vs.take vs.length).flatMap encWr) = encCo s vs) := by show _ = _; rw [List.take_length]; rfl
        rw [HE.out]
        go_wp2
        go_ret2
        exact ⟨rfl, HWw.out⟩
end Go.Proofs.Ytlnpeicflofkjaa
