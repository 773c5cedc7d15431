import Derived.Test.YtlidkdnfibfnfaaGreatDoorLxS10
namespace Go.Proofs.YtlidkdnfibfnfaaGreatDoor
open Go.ChangeShapes Go.WideShapes Go.ChangeAt Go.RowKit
set_option linter.unusedVariables false
set_option maxRecDepth 100000
theorem saddL (a b : ByteArray) (h : a.size + b.size ≤ 140737488355328) : ∀ (w : World), (Op.stringOp .add a b).run Tryz.prog w = .ok (.string (a ++ b)) w := fun w => run_string_add_sum w _ _ (by omega)
theorem quo_grow (s : ByteArray) (q j : Nat) (acc l : List UInt8) (k : Nat) (h : quoP s q j acc = some (l, k)) (hq : q < 256) : l.length ≤ acc.length + (k - j) := by
  revert h acc
  refine by_size (P := fun j => ∀ acc, quoP s q j acc = some (l, k) → l.length ≤ acc.length + (k - j)) s.size (fun j ih acc h => ?_) j
  have hadv := quoP_adv s q j acc l k hq h
  by_cases hl : j < s.size
  · by_cases h1 : bA s j = q
    · by_cases h2 : bA s (j + 1) = q
      · rw [quoP_two hl h1 h2] at h
        have h3 := quoP_adv s q (j + 2) _ l k hq h
        have := ih (j + 2) (by omega) _ h
        rw [List.length_append] at this
        simp only [List.length_cons, List.length_nil] at this
        omega
      · rw [quoP_end hl h1 h2] at h
        injection h with h
        injection h with h4 h5
        subst h4
        omega
    · rw [quoP_step hl h1] at h
      have h3 := quoP_adv s q (j + 1) _ l k hq h
      have := ih (j + 1) (by omega) _ h
      rw [List.length_append] at this
      simp only [List.length_cons, List.length_nil] at this
      omega
  · rw [quoP_none hl] at h; cases h
theorem quo_len (s : ByteArray) (q p : Nat) (l : List UInt8) (k : Nat) (h : quoP s q (p + 1) [] = some (l, k)) (hs : s.size ≤ 65536) (hq : q < 256 := by omega) : l.length ≤ 65536 := by
  have h1 := quo_grow s q (p + 1) [] l k h hq
  have h2 := quoP_adv s q (p + 1) [] l k hq h
  rw [List.length_nil] at h1
  omega
/-- How reading what stands between quotes ends. -/
def QuoR (R : Nat) (s : ByteArray) (p : Nat) (c : UInt8) (e : Ending) (w' : World) : Prop := match quoP s c.toNat (p + 1) [] with
  | none => e = gaveUp 151 p
  | some (l, j) => e = .returned (.string ⟨l.toArray⟩) ∧ Sc w' R s j
set_option maxHeartbeats 3200000 in
theorem quotedT (R : Nat) (s : ByteArray) (p : Nat) (c : UInt8) (w : World) (h : Sc w R s p) (hs : s.size ≤ 65536) (hp : p < s.size) (hg : GX w) (hR : 11 ≤ R) :
    Calls Tryz.prog 53 #[.pointer (some ⟨R, 0, none⟩), .string ⟨#[c]⟩] w fun e w' => QuoR R s p c e w' ∧ Fr R w w' := by
  obtain ⟨m, hm⟩ := hg.mx
  have HS : Hid (Sc w R s p) := h
  have HIX : Hid (∀ v : ByteArray, v.size ≤ 65536 → Calls Tryz.prog 41 #[.string v, .string ⟨#[c]⟩] w fun e w' => e = .returned (.int .i64 (Lib.index v.data.toList [c])) ∧ w' = w) := fun v hv => Tryz.strings_Index v ⟨#[c]⟩ m w (by omega) hm
  have HPX : Hid (∀ v : ByteArray, v.size ≤ 65536 → _) := fun v hv => preT v ⟨#[c]⟩ w (show 1 ≤ 65536 by omega) hv
  have HG : Hid (GX w) := hg
  have c0 := h.cell0
  have c1 := h.cell1
  clear h hg hm
  go_enter Tryz.func53, Tryz.ntmps53
  go_wp2
  go_loopw [6, 7] (fun x _ wr => ∃ (nx : Nat) (acc : List UInt8), x = .int .i64 (nx : Int) ∧ p + 1 ≤ nx ∧ nx ≤ s.size ∧ wr = w ∧ quoP s c.toNat (p + 1) [] = quoP s c.toNat nx acc ∧ ∀ t, rpl c (digsL s (p + 1) nx ++ t) = acc ++ rpl c t) (fun x _ _ => s.size - (intOf x).toNat)
  case atStart => exact ⟨p + 1, [], by go_num, Nat.le_refl _, by omega, rfl, rfl, fun t => by rw [digsL_nil]; rfl⟩
  case round =>
    obtain ⟨nx, acc, rfl, hn1, hn2, rfl, hq, hr⟩ := hrel
    have HQ : Hid (quoP s c.toNat (p + 1) [] = quoP s c.toNat nx acc) := hq
    have HRP : Hid (∀ t, rpl c (digsL s (p + 1) nx ++ t) = acc ++ rpl c t) := hr
    clear hq hr
    have HI : Hid (∀ _ : Unit, _) := fun _ => HIX.out (s.extract nx s.size) (by rw [ByteArray.size_extract]; omega)
    rw [rest_list] at HI
    have HF : Hid _ := fst_ix s c nx hn2
    generalize Lib.index (s.data.toList.drop nx) [c] = r at *
    go_wp2_with fail
    refine (HI.out ()).mono ?_
    rintro e w2 ⟨rfl, rfl⟩
    clear HI
    rcases HF.out with ⟨rfl, hno⟩ | ⟨n, rfl, hn3, hbq, hall⟩
    · have HE : Hid (quoP s c.toNat (p + 1) [] = none) := HQ.out.trans (quo_none s c.toNat nx hn2 hno acc)
      clear hno HF
      go_wp2
      exact ⟨rfl, by unfold QuoR; rw [HE.out]; rfl, Fr.refl _ _⟩
    · have hn0 : ¬ (n : Int) < 0 := by omega
      have HRun : Hid (quoP s c.toNat (p + 1) [] = quoP s c.toNat (nx + n) (acc ++ digsL s nx (nx + n))) := HQ.out.trans (quo_run s c.toNat nx n (by omega) hall acc)
      have HRp2 : Hid (∀ t, rpl c (digsL s (p + 1) (nx + n) ++ t) = (acc ++ digsL s nx (nx + n)) ++ rpl c t) := fun t => by
        rw [digs_join s (p + 1) nx (nx + n) (by omega) (by omega) (by omega), List.append_assoc, HRP.out, rpl_run s c nx n (by omega) hall, List.append_assoc]
      have HBQ : Hid (bA s (nx + n) = c.toNat) := hbq
      clear hbq hall HF HQ HRP
      obtain ⟨k, hk⟩ : ∃ k, nx + n = k := ⟨_, rfl⟩
      rw [hk] at HRun HRp2 HBQ hn3
      generalize acc ++ digsL s nx k = A at *
      have hki : (nx : Int) + (n : Int) = (k : Int) := by omega
      have HP : Hid (∀ _ : Unit, _) := fun _ => HPX.out (s.extract (k + 1) s.size) (by rw [ByteArray.size_extract]; omega)
      rw [rest_one c (by omega)] at HP
      have hkt : ((k : Int) + 1).toNat = k + 1 := by omega
      have hpt : ((p : Int) + 1).toNat = p + 1 := by omega
      by_cases h2 : bA s (k + 1) = c.toNat
      · rw [decide_eq_true h2] at HP
        have hk1 : k + 1 < s.size := bA_lt (by rw [h2]; have := c.toNat_lt; omega)
        obtain ⟨e2, es⟩ := digs_two s k c hk1 HBQ.out h2
        have HRun3 : Hid (quoP s c.toNat (p + 1) [] = quoP s c.toNat (k + 2) (A ++ [c])) := by
          show quoP s c.toNat (p + 1) [] = quoP s c.toNat (k + 2) (A ++ [c])
          rw [HRun.out, quoP_two hn3 HBQ.out h2, es]
        have HRp3 : Hid (∀ t, rpl c (digsL s (p + 1) (k + 2) ++ t) = (A ++ [c]) ++ rpl c t) := fun t => by
          rw [digs_join s (p + 1) k (k + 2) (by omega) (by omega) (by omega), List.append_assoc, HRp2.out, e2, show [c, c] ++ t = c :: c :: t from rfl, rpl_two, List.append_assoc]
          rfl
        clear h2 e2 es HRun HRp2 HBQ hk
        go_wp2_with fail
        refine (HP.out ()).mono ?_
        rintro e w3 ⟨rfl, rfl⟩
        go_wp2
        go_roundw
        case rel => exact ⟨k + 2, A ++ [c], by go_num, by omega, by omega, trivial, HRun3.out, HRp3.out⟩
        case measure => simp [intOf]; omega
      · rw [decide_eq_false h2] at HP
        have HEnd : Hid (quoP s c.toNat (p + 1) [] = some (A, k + 1)) := HRun.out.trans (quoP_end hn3 HBQ.out h2)
        have HRe : Hid (Lib.replaceAll (s.extract (p + 1) k).data.toList [c, c] [c] = A) := by
          show Lib.replaceAll (s.extract (p + 1) k).data.toList [c, c] [c] = A
          have := HRp2.out []
          rw [List.append_nil, rpl_nil, List.append_nil] at this
          rw [rpl_all, digsL_ext, this]
        clear h2 HRun HRp2 HBQ
        have f1 := HS.out.free 1
        have HS3 : Hid (Sc (w2.setCell ⟨R, 1, none⟩ (.int .i64 ((k : Int) + 1))) R s (k + 1)) := by
          have := HS.out.move (k + 1)
          rwa [show ((k + 1 : Nat) : Int) = (k : Int) + 1 from by omega] at this
        have hc0 := HS3.out.cell0
        have hcut := cut_any s (p + 1) k (by omega) (by omega)
        have hsum := saddL ⟨#[c]⟩ ⟨#[c]⟩ (show 1 + 1 ≤ 140737488355328 by omega)
        rw [show (⟨#[c]⟩ ++ ⟨#[c]⟩ : ByteArray) = ⟨#[c, c]⟩ from by apply ByteArray.ext; simp] at hsum
        have HF3 : Hid (Fr R w2 (w2.setCell ⟨R, 1, none⟩ (.int .i64 ((k : Int) + 1)))) := (Fr.refl R w2).setCell (p := ⟨R, 1, none⟩) rfl _
        obtain ⟨m2, hm2⟩ := (HG.out.later HF3.out.toBelow hR).mx
        have hez : (s.extract (p + 1) k).size ≤ 65536 := by rw [ByteArray.size_extract]; omega
        have HRA : Hid (∀ _ : Unit, _) := fun _ => Tryz.strings_ReplaceAll (s.extract (p + 1) k) ⟨#[c, c]⟩ ⟨#[c]⟩ m2 (w2.setCell ⟨R, 1, none⟩ (.int .i64 ((k : Int) + 1))) (by omega) hm2 (show 1 ≤ 2 by omega) (by
          have := Lib.countB_le ⟨#[c, c]⟩ (show 1 ≤ 2 by omega) (s.extract (p + 1) k).size (s.extract (p + 1) k) (Nat.le_refl _)
          show (s.extract (p + 1) k).size + Lib.countB (s.extract (p + 1) k) ⟨#[c, c]⟩ * 1 ≤ _
          omega)
        rw [show (ByteArray.mk #[c, c]).data.toList = [c, c] from rfl, show (ByteArray.mk #[c]).data.toList = [c] from rfl, HRe.out] at HRA
        clear hm2
        go_wp2_with fail
        refine (HP.out ()).mono ?_
        rintro e w3 ⟨rfl, rfl⟩
        go_wp2_with fail
        refine (HRA.out ()).mono ?_
        rintro e w4 ⟨rfl, hb4⟩
        have HS4 : Hid (Sc w4 R s (k + 1)) := HS3.out.later hb4
        have HF4 : Hid (Fr R w3 w4) := HF3.out.trans (Fr.of (Nat.le_of_lt HS3.out.lt) hb4)
        clear hb4 HRA
        go_wp2
        go_ret
        refine ⟨?_, HF4.out⟩
        unfold QuoR
        rw [HEnd.out]
        exact ⟨rfl, HS4.out⟩
set_option maxHeartbeats 3200000 in
theorem quotedNameT (R : Nat) (s : ByteArray) (p : Nat) (w : World) (h : Sc w R s p) (hs : s.size ≤ 65536) (hp : p < s.size) (hg : GX w) (hR : 11 ≤ R) (r : Except Int (TK × Nat)) (hr : r = match quoP s 34 (p + 1) [] with | none => .error 151 | some (l, j) => if l.length < 1 ∨ 32 < l.length then .error 153 else .ok (⟨1, ⟨l.toArray⟩, 0, p⟩, j)) :
    Calls Tryz.prog 32 #[.pointer (some ⟨R, 0, none⟩)] w fun e w' => TokR R s p r e w' ∧ Fr R w w' := by
  have HT : Hid (TkS R s w (w.alloc (.cells tkZ 30)) p) := TkS.new h
  have HQ : Hid (∀ _ : Unit, _) := fun _ => quotedT R s p 34 (w.alloc (.cells tkZ 30)) HT.out.sc hs hp (HT.out.gx hg hR) hR
  have c1 := HT.out.sc.cell1
  have HRr : Hid _ := hr
  clear h hg hr
  go_enter Tryz.func32, Tryz.ntmps32
  go_wp2_with fail
  refine (HQ.out ()).mono ?_
  rintro e w1 ⟨hq, hf1⟩
  unfold QuoR at hq
  rw [show (34 : UInt8).toNat = 34 from rfl] at hq
  rcases hqp : quoP s 34 (p + 1) [] with _ | ⟨l, j⟩
  · rw [hqp] at hq
    dsimp only at hq
    subst hq
    have HN : Hid (r = .error 151) := by show r = .error 151; rw [HRr.out, hqp]
    have HF : Hid (Fr R w w1) := HT.out.fr.trans hf1
    clear hqp hf1 HQ
    unfold gaveUp
    go_wp2
    exact ⟨rfl, by unfold TokR; rw [HN.out]; rfl, HF.out⟩
  · rw [hqp] at hq
    obtain ⟨rfl, hsc⟩ := hq
    have HT1 : Hid (TkS R s w w1 j) := HT.out.next hf1 hsc
    have HN : Hid (r = if l.length < 1 ∨ 32 < l.length then .error 153 else .ok (⟨1, ⟨l.toArray⟩, 0, p⟩, j)) := by show r = _; rw [HRr.out, hqp]
    have hlz : l.length ≤ 65536 := quo_len s 34 p l j hqp hs
    have hz : (ByteArray.mk l.toArray).size = l.length := by show l.toArray.size = _; simp
    clear hqp hf1 hsc HQ HT c1 HRr
    by_cases hc : l.length < 1 ∨ 32 < l.length
    · have HE : Hid (r = .error 153) := HN.out.trans (if_pos hc)
      have HNA : Hid (∀ _ : Unit, _) := fun _ => nameAt_no (ByteArray.mk l.toArray) p w1 (by omega) (by omega)
      clear hz
      generalize ByteArray.mk l.toArray = V at *
      go_wp2_with fail
      refine (HNA.out ()).mono ?_
      rintro e w2 ⟨rfl, hb2⟩
      have HT2 : Hid (TkS R s w w2 j) := HT1.out.below hb2
      clear hb2 HNA
      unfold gaveUp
      go_wp2
      exact ⟨rfl, by unfold TokR; rw [HE.out]; rfl, HT2.out.fr⟩
    · have HE : Hid (r = .ok (⟨1, ⟨l.toArray⟩, 0, p⟩, j)) := HN.out.trans (if_neg hc)
      have HNA : Hid (∀ _ : Unit, _) := fun _ => nameAt_ok (ByteArray.mk l.toArray) p w1 (by omega)
      clear hz
      generalize ByteArray.mk l.toArray = V at *
      go_wp2_with fail
      refine (HNA.out ()).mono ?_
      rintro e w2 ⟨rfl, hb2⟩
      have HT2 : Hid (TkS R s w w2 j) := HT1.out.below hb2
      clear hb2 HNA HT1
      obtain ⟨c0, c1, c2, c3, f0, f1, f2, f3⟩ := zTk HT2.out.bx
      unfold tkC
      go_wp2
      refine bodyPost_ret (results_cell_row rfl _ _ w.heap.size _ _ (0, 0) _ (by rfl) (set4 HT2.out.bx) Tryz.underlying30 rfl infoTk) rfl ⟨?_, (HT2.out.done _ _ _ _).2⟩
      unfold TokR
      rw [HE.out]
      exact ⟨rfl, (HT2.out.done _ _ _ _).1⟩
set_option maxHeartbeats 3200000 in
theorem quotedTextT (R : Nat) (s : ByteArray) (p : Nat) (w : World) (h : Sc w R s p) (hs : s.size ≤ 65536) (hp : p < s.size) (hg : GX w) (hR : 11 ≤ R) (r : Except Int (TK × Nat)) (hr : r = match quoP s 39 (p + 1) [] with | none => .error 151 | some (l, j) => if 4096 < l.length then .error 4 else .ok (⟨4, ⟨l.toArray⟩, 0, p⟩, j)) :
    Calls Tryz.prog 33 #[.pointer (some ⟨R, 0, none⟩)] w fun e w' => TokR R s p r e w' ∧ Fr R w w' := by
  have HT : Hid (TkS R s w (w.alloc (.cells tkZ 30)) p) := TkS.new h
  have HQ : Hid (∀ _ : Unit, _) := fun _ => quotedT R s p 39 (w.alloc (.cells tkZ 30)) HT.out.sc hs hp (HT.out.gx hg hR) hR
  have c1 := HT.out.sc.cell1
  have HRr : Hid _ := hr
  clear h hg hr
  go_enter Tryz.func33, Tryz.ntmps33
  go_wp2_with fail
  refine (HQ.out ()).mono ?_
  rintro e w1 ⟨hq, hf1⟩
  unfold QuoR at hq
  rw [show (39 : UInt8).toNat = 39 from rfl] at hq
  rcases hqp : quoP s 39 (p + 1) [] with _ | ⟨l, j⟩
  · rw [hqp] at hq
    dsimp only at hq
    subst hq
    have HN : Hid (r = .error 151) := by show r = .error 151; rw [HRr.out, hqp]
    have HF : Hid (Fr R w w1) := HT.out.fr.trans hf1
    clear hqp hf1 HQ
    unfold gaveUp
    go_wp2
    exact ⟨rfl, by unfold TokR; rw [HN.out]; rfl, HF.out⟩
  · rw [hqp] at hq
    obtain ⟨rfl, hsc⟩ := hq
    have HT1 : Hid (TkS R s w w1 j) := HT.out.next hf1 hsc
    have HN : Hid (r = if 4096 < l.length then .error 4 else .ok (⟨4, ⟨l.toArray⟩, 0, p⟩, j)) := by show r = _; rw [HRr.out, hqp]
    have hlz : l.length ≤ 65536 := quo_len s 39 p l j hqp hs
    have hz : (ByteArray.mk l.toArray).size = l.length := by show l.toArray.size = _; simp
    clear hqp hf1 hsc HQ HT c1 HRr
    by_cases hc : 4096 < l.length
    · have HE : Hid (r = .error 4) := HN.out.trans (if_pos hc)
      have HNA : Hid (∀ _ : Unit, _) := fun _ => textAt_no (ByteArray.mk l.toArray) p w1 (by omega) (by omega)
      clear hz
      generalize ByteArray.mk l.toArray = V at *
      go_wp2_with fail
      refine (HNA.out ()).mono ?_
      rintro e w2 ⟨rfl, hb2⟩
      have HT2 : Hid (TkS R s w w2 j) := HT1.out.below hb2
      clear hb2 HNA
      unfold gaveUp
      go_wp2
      exact ⟨rfl, by unfold TokR; rw [HE.out]; rfl, HT2.out.fr⟩
    · have HE : Hid (r = .ok (⟨4, ⟨l.toArray⟩, 0, p⟩, j)) := HN.out.trans (if_neg hc)
      have HNA : Hid (∀ _ : Unit, _) := fun _ => textAt_ok (ByteArray.mk l.toArray) p w1 (by omega)
      clear hz
      generalize ByteArray.mk l.toArray = V at *
      go_wp2_with fail
      refine (HNA.out ()).mono ?_
      rintro e w2 ⟨rfl, hb2⟩
      have HT2 : Hid (TkS R s w w2 j) := HT1.out.below hb2
      clear hb2 HNA HT1
      obtain ⟨c0, c1, c2, c3, f0, f1, f2, f3⟩ := zTk HT2.out.bx
      unfold tkC
      go_wp2
      refine bodyPost_ret (results_cell_row rfl _ _ w.heap.size _ _ (0, 0) _ (by rfl) (set4 HT2.out.bx) Tryz.underlying30 rfl infoTk) rfl ⟨?_, (HT2.out.done _ _ _ _).2⟩
      unfold TokR
      rw [HE.out]
      exact ⟨rfl, (HT2.out.done _ _ _ _).1⟩
end Go.Proofs.YtlidkdnfibfnfaaGreatDoor
