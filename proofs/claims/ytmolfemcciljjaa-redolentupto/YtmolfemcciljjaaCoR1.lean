import Derived.Test.YtmolfemcciljjaaCoD5
import Derived.Test.YtmolfemcciljjaaReads7
import Derived.Test.YtmolfemcciljjaaRedR1
namespace Go.Proofs.Ytmolfemcciljjaa
open Go.ChangeShapes Go.WideShapes Go.ChangeAt Go.RowKit
set_option linter.unusedVariables false
set_option maxRecDepth 100000
theorem ret_write2 {fn : Func} {p u : Tmp} (h : fn.results = #[.cell p 47, .tmp u]) (tmps : Array Value) (w : World) (k : Int) (a t : ByteArray) (x : Value) (g : Nat) (hp : tmps.getD p undef = .pointer (some ⟨g, 0, none⟩)) (hu : tmps.getD u undef = x) (hg : Wr3 w g (.int .i64 k) (.string a) (.string t)) :
    (results fn tmps).run Try.prog w = .ok (.tuple #[.agg #[.int .i64 k, .string a, .string t], x]) w := by
  subst hu
  have hp' : tmps[p]?.getD undef = .pointer (some ⟨g, 0, none⟩) := by simpa using hp
  unfold Wr3 at hg
  simp [results, h, hp', asAddr, run_loadVar_row w g 47 47 _ (0, 0) _ hg Try.underlying47 rfl infoWr]
/-- The document's readWrite: the write and the place behind it, or -1. -/
def RwC (w : World) (s : ByteArray) (p : Nat) (e : Ending) (w' : World) : Prop :=
  Below w.heap.size w w' ∧ match rdWr s p with
    | some (v, q) => e = .returned (.tuple #[.agg #[.int .i64 v.1, .string v.2.1, .string v.2.2], .int .i64 q])
    | none => e = .returned (.tuple #[.agg #[.int .i64 0, .string ⟨#[]⟩, .string ⟨#[]⟩], .int .i64 (-1)])
theorem RwC.no {w w' : World} {s : ByteArray} {p : Nat} (hb : Below w.heap.size w w') (h : rdWr s p = none) : RwC w s p (.returned (.tuple #[.agg #[.int .i64 0, .string ⟨#[]⟩, .string ⟨#[]⟩], .int .i64 (-1)])) w' := ⟨hb, by rw [h]⟩
theorem RwC.yes {w w' : World} {s : ByteArray} {p q : Nat} {k : Int} {a t : ByteArray} (hb : Below w.heap.size w w') (h : rdWr s p = some ((k, a, t), q)) : RwC w s p (.returned (.tuple #[.agg #[.int .i64 k, .string a, .string t], .int .i64 q])) w' := ⟨hb, by rw [h]⟩
theorem Wr3.new (w : World) (a b c : Value) : Wr3 (w.alloc (.cells #[a, b, c] 47)) w.heap.size a b c := heap_alloc_new w _
theorem Wr3.later {W W' : World} {g : Nat} {a b c : Value} (h : Wr3 W g a b c) (hb : Below W.heap.size W W') : Wr3 W' g a b c := (hb.block g h.lt).trans h
theorem Wr3.set1 {W : World} {g : Nat} {a b c : Value} (h : Wr3 W g a b c) (b' : Value) : Wr3 (W.setCell ⟨g, 1, none⟩ b') g a b' c := by
  unfold Wr3 at h ⊢
  simp [World.setCell, Array.getElem?_modify, h]
set_option maxHeartbeats 3200000 in
theorem refWrite (s : ByteArray) (p : Nat) (w : World) (hp : p ≤ s.size) (hs : s.size ≤ 1125899906842624) :
    Calls Try.prog 16 #[.string s, .int .i64 p] w (RwC w s p) := by
  have HB0 : Hid (Below w.heap.size w (w.alloc (.cells #[.int .i64 0, .string ⟨#[]⟩, .string ⟨#[]⟩] 47))) := (Below.refl _ _).alloc (Nat.le_refl _) _
  have HZ0 : Hid (Wr3 (w.alloc (.cells #[.int .i64 0, .string ⟨#[]⟩, .string ⟨#[]⟩] 47)) w.heap.size (.int .i64 0) (.string ⟨#[]⟩) (.string ⟨#[]⟩)) := Wr3.new w _ _ _
  by_cases c1 : p < s.size
  · have HR1 : Hid (∀ W, Calls Try.prog 22 #[.string s, .int .i64 ((p : Int) + 1)] W fun e w' => e = .returned (.tuple #[.string (rB s ((p : Int) + 1)).1, .int .i64 (rB s ((p : Int) + 1)).2.1, .int .i64 (rB s ((p : Int) + 1)).2.2]) ∧ w' = W) := fun W => ref_blob_read s _ W hs
    have hA : bytA s p = (s[p].toNat : Int) := by unfold bytA; rw [dif_pos c1]
    have h256 := s[p].toNat_lt
    have hw : IntKind.i64.wrap (s[p].toNat : Int) = (s[p].toNat : Int) := by rw [IntKind.wrap_i64]; omega
    have hrw : IntKind.i64.wrap ((p : Int) + 1) = (p : Int) + 1 := by rw [IntKind.wrap_i64]; omega
    have HY : Hid (rdWr s p = if (rbV s (p + 1) 1048576).2.2 = 0 then
      if bytA s p = 1 then
        if (rbV s (p + 1 + (rbV s (p + 1) 1048576).2.1) 1048576).2.2 = 0 then some ((1, (rbV s (p + 1) 1048576).1, (rbV s (p + 1 + (rbV s (p + 1) 1048576).2.1) 1048576).1), p + 1 + (rbV s (p + 1) 1048576).2.1 + (rbV s (p + 1 + (rbV s (p + 1) 1048576).2.1) 1048576).2.1)
        else none
      else some ((bytA s p, (rbV s (p + 1) 1048576).1, ⟨#[]⟩), p + 1 + (rbV s (p + 1) 1048576).2.1)
    else none) := by
      show _ = _
      unfold rdWr
      rw [if_pos c1]
    have hp1 : p + 1 ≤ s.size := c1
    have HG : Hid (Wr3 ((w.alloc (.cells #[.int .i64 0, .string ⟨#[]⟩, .string ⟨#[]⟩] 47)).alloc (.cells #[.int .i64 (s[p].toNat : Int), .string ⟨#[]⟩, .string ⟨#[]⟩] 47)) (w.heap.size + 1) (.int .i64 (s[p].toNat : Int)) (.string ⟨#[]⟩) (.string ⟨#[]⟩)) := by
      have := Wr3.new (w.alloc (.cells #[.int .i64 0, .string ⟨#[]⟩, .string ⟨#[]⟩] 47)) (.int .i64 (s[p].toNat : Int)) (.string ⟨#[]⟩) (.string ⟨#[]⟩)
      rwa [sizeAl] at this
    have HZ : Hid (Wr3 ((w.alloc (.cells #[.int .i64 0, .string ⟨#[]⟩, .string ⟨#[]⟩] 47)).alloc (.cells #[.int .i64 (s[p].toNat : Int), .string ⟨#[]⟩, .string ⟨#[]⟩] 47)) w.heap.size (.int .i64 0) (.string ⟨#[]⟩) (.string ⟨#[]⟩)) := HZ0.out.later ((Below.refl _ _).alloc (Nat.le_refl _) _)
    have HB : Hid (Below w.heap.size w ((w.alloc (.cells #[.int .i64 0, .string ⟨#[]⟩, .string ⟨#[]⟩] 47)).alloc (.cells #[.int .i64 (s[p].toNat : Int), .string ⟨#[]⟩, .string ⟨#[]⟩] 47))) := HB0.out.alloc HB0.out.size _
    clear HZ0 HB0
    rw [hA] at HY
    go_enter Try.func16, Try.ntmps16
    go_wp2_with fail
    generalize (w.alloc (.cells #[.int .i64 0, .string ⟨#[]⟩, .string ⟨#[]⟩] 47)).alloc (.cells #[.int .i64 (s[p].toNat : Int), .string ⟨#[]⟩, .string ⟨#[]⟩] 47) = W at *
    clear hA hw hrw
    generalize hkb : ((s[p].toNat : Nat) : Int) = kb at *
    clear hkb h256
    have hR1 := HR1.out W
    clear HR1
    have ep : Hid (((p : Int) + 1) = ((p + 1 : Nat) : Int)) := by show _ = _; omega
    by_cases c2 : (rbV s (p + 1) 1048576).2.2 = 0
    · have he : rB s ((p : Int) + 1) = ((rbV s (p + 1) 1048576).1, ((p + 1 : Nat) : Int) + (rbV s (p + 1) 1048576).2.1, 0) := by rw [ep.out]; exact rd3_ok s (p + 1) ByteArray.empty (tB s) hp1 c2
      have hin := (rb_form s (p + 1) 1048576 c2).2.2.2
      rw [if_pos c2] at HY
      rw [he] at hR1
      simp only at hR1
      clear he c2
      generalize (rbV s (p + 1) 1048576).1 = key at *
      generalize (rbV s (p + 1) 1048576).2.1 = m at *
      refine hR1.mono ?_
      rintro e w1 ⟨rfl, rfl⟩
      clear hR1
      have g0 := HG.out.c0
      have f1 := HG.out.free 1
      have g1 := HG.out.c1
      have q0 := (HG.out.set1 (.string key)).c0
      by_cases c3 : kb = 1
      · subst c3
        rw [if_pos rfl] at HY
        have hR2 := ref_blob_read s (((p + 1 + m : Nat) : Int)) (w1.setCell ⟨w.heap.size + 1, 1, none⟩ (.string key)) hs
        rw [show (((p + 1 + m : Nat) : Int)) = ((p + 1 : Nat) : Int) + (m : Int) from by omega] at hR2
        have HR2 : Hid (∀ _ : Unit, _) := fun _ => hR2
        clear hR2
        go_wp2_with fail
        have hR2 := HR2.out ()
        clear HR2
        have ep2 : Hid (((p + 1 : Nat) : Int) + (m : Int) = ((p + 1 + m : Nat) : Int)) := by show _ = _; omega
        have HG2 : Hid (Wr3 (w1.setCell ⟨w.heap.size + 1, 1, none⟩ (.string key)) (w.heap.size + 1) (.int .i64 1) (.string key) (.string ⟨#[]⟩)) := HG.out.set1 _
        have HZ2 : Hid (Wr3 (w1.setCell ⟨w.heap.size + 1, 1, none⟩ (.string key)) w.heap.size (.int .i64 0) (.string ⟨#[]⟩) (.string ⟨#[]⟩)) := HZ.out.other _ (by simp only; omega)
        have HB2 : Hid (Below w.heap.size w (w1.setCell ⟨w.heap.size + 1, 1, none⟩ (.string key))) := HB.out.setCell (p := ⟨w.heap.size + 1, 1, none⟩) (by simp only; omega) _
        clear HG HZ HB g0 g1 f1 q0
        generalize w1.setCell ⟨w.heap.size + 1, 1, none⟩ (.string key) = W2 at *
        by_cases c4 : (rbV s (p + 1 + m) 1048576).2.2 = 0
        · have he : rB s (((p + 1 : Nat) : Int) + (m : Int)) = ((rbV s (p + 1 + m) 1048576).1, ((p + 1 + m : Nat) : Int) + (rbV s (p + 1 + m) 1048576).2.1, 0) := by rw [ep2.out]; exact rd3_ok s (p + 1 + m) ByteArray.empty (tB s) hin c4
          rw [if_pos c4] at HY
          rw [he] at hR2
          simp only at hR2
          clear he c4
          generalize (rbV s (p + 1 + m) 1048576).1 = dat at *
          generalize (rbV s (p + 1 + m) 1048576).2.1 = m2 at *
          refine hR2.mono ?_
          rintro e w2 ⟨rfl, rfl⟩
          clear hR2
          have f2 := HG2.out.free 2
          have g2 := HG2.out.c2
          have hG3 := HG2.out.set2 (.string dat)
          have r0 := hG3.c0
          have r1 := hG3.c1
          have r2 := hG3.c2
          have HG3 : Hid _ := hG3
          have z0 := (HZ2.out.other (p := ⟨w.heap.size + 1, 2, none⟩) (.string dat) (by simp only; omega)).free 0
          have y0 := (HZ2.out.other (p := ⟨w.heap.size + 1, 2, none⟩) (.string dat) (by simp only; omega)).c0
          have z1 := (HZ2.out.other (p := ⟨w.heap.size + 1, 2, none⟩) (.string dat) (by simp only; omega)).free 1
          have y1 := (HZ2.out.other (p := ⟨w.heap.size + 1, 2, none⟩) (.string dat) (by simp only; omega)).c1
          have z2 := (HZ2.out.other (p := ⟨w.heap.size + 1, 2, none⟩) (.string dat) (by simp only; omega)).free 2
          have y2 := (HZ2.out.other (p := ⟨w.heap.size + 1, 2, none⟩) (.string dat) (by simp only; omega)).c2
          clear hG3
          go_wp2
          have hZ4 := (HZ2.out.other (p := ⟨w.heap.size + 1, 2, none⟩) (.string dat) (by simp only; omega)).set (.int .i64 1) (.string key) (.string dat)
          have hB4 := (((HB2.out.setCell (p := ⟨w.heap.size + 1, 2, none⟩) (by simp only; omega) (.string dat)).setCell (p := ⟨w.heap.size, 0, none⟩) (Nat.le_refl _) (.int .i64 1)).setCell (p := ⟨w.heap.size, 1, none⟩) (Nat.le_refl _) (.string key)).setCell (p := ⟨w.heap.size, 2, none⟩) (Nat.le_refl _) (.string dat)
          have he := RwC.yes hB4 HY.out
          rw [show ((p + 1 + m + m2 : Nat) : Int) = ((p + 1 + m : Nat) : Int) + (m2 : Int) from by omega] at he
          exact bodyPost_ret (ret_write2 rfl _ _ _ _ _ _ w.heap.size (by rfl) (by rfl) hZ4) rfl he
        · have he : rB s (((p + 1 : Nat) : Int) + (m : Int)) = (ByteArray.empty, ((p + 1 + m : Nat) : Int), (rbV s (p + 1 + m) 1048576).2.2) := by rw [ep2.out]; exact rd3_err s (p + 1 + m) ByteArray.empty (tB s) hin c4
          rw [if_neg c4] at HY
          rw [he] at hR2
          simp only at hR2
          have hcc : ((rbV s (p + 1 + m) 1048576).2.2 != 0) = true := by simpa using c4
          clear he c4
          generalize (rbV s (p + 1 + m) 1048576).2.2 = c at *
          refine hR2.mono ?_
          rintro e w2 ⟨rfl, rfl⟩
          clear hR2
          have z0 := HZ2.out.free 0
          have y0 := HZ2.out.c0
          have z1 := HZ2.out.free 1
          have y1 := HZ2.out.c1
          have z2 := HZ2.out.free 2
          have y2 := HZ2.out.c2
          go_wp2
          have hZ4 := HZ2.out.set (.int .i64 0) (.string ⟨#[]⟩) (.string ⟨#[]⟩)
          have hB4 := ((HB2.out.setCell (p := ⟨w.heap.size, 0, none⟩) (Nat.le_refl _) (.int .i64 0)).setCell (p := ⟨w.heap.size, 1, none⟩) (Nat.le_refl _) (.string ⟨#[]⟩)).setCell (p := ⟨w.heap.size, 2, none⟩) (Nat.le_refl _) (.string ⟨#[]⟩)
          exact bodyPost_ret (ret_write2 rfl _ _ _ _ _ (.int .i64 (-1)) w.heap.size (by rfl) (by rfl) hZ4) rfl (RwC.no hB4 HY.out)
      · rw [if_neg c3] at HY
        have hcc : (kb == 1) = false := by simpa using c3
        have hG3 := HG.out.set1 (.string key)
        have r1 := hG3.c1
        have r2 := hG3.c2
        have HG3 : Hid _ := hG3
        have z0 := (HZ.out.other (p := ⟨w.heap.size + 1, 1, none⟩) (.string key) (by simp only; omega)).free 0
        have y0 := (HZ.out.other (p := ⟨w.heap.size + 1, 1, none⟩) (.string key) (by simp only; omega)).c0
        have z1 := (HZ.out.other (p := ⟨w.heap.size + 1, 1, none⟩) (.string key) (by simp only; omega)).free 1
        have y1 := (HZ.out.other (p := ⟨w.heap.size + 1, 1, none⟩) (.string key) (by simp only; omega)).c1
        have z2 := (HZ.out.other (p := ⟨w.heap.size + 1, 1, none⟩) (.string key) (by simp only; omega)).free 2
        have y2 := (HZ.out.other (p := ⟨w.heap.size + 1, 1, none⟩) (.string key) (by simp only; omega)).c2
        clear hG3 c3
        go_wp2
        have hZ4 := (HZ.out.other (p := ⟨w.heap.size + 1, 1, none⟩) (.string key) (by simp only; omega)).set (.int .i64 kb) (.string key) (.string ⟨#[]⟩)
        have hB4 := (((HB.out.setCell (p := ⟨w.heap.size + 1, 1, none⟩) (by simp only; omega) (.string key)).setCell (p := ⟨w.heap.size, 0, none⟩) (Nat.le_refl _) (.int .i64 kb)).setCell (p := ⟨w.heap.size, 1, none⟩) (Nat.le_refl _) (.string key)).setCell (p := ⟨w.heap.size, 2, none⟩) (Nat.le_refl _) (.string ⟨#[]⟩)
        have he := RwC.yes hB4 HY.out
        rw [show ((p + 1 + m : Nat) : Int) = ((p + 1 : Nat) : Int) + (m : Int) from by omega] at he
        exact bodyPost_ret (ret_write2 rfl _ _ _ _ _ _ w.heap.size (by rfl) (by rfl) hZ4) rfl he
    · have he : rB s ((p : Int) + 1) = (ByteArray.empty, ((p + 1 : Nat) : Int), (rbV s (p + 1) 1048576).2.2) := by rw [ep.out]; exact rd3_err s (p + 1) ByteArray.empty (tB s) hp1 c2
      rw [if_neg c2] at HY
      rw [he] at hR1
      simp only at hR1
      have hcc : ((rbV s (p + 1) 1048576).2.2 != 0) = true := by simpa using c2
      clear he c2
      generalize (rbV s (p + 1) 1048576).2.2 = c at *
      refine hR1.mono ?_
      rintro e w1 ⟨rfl, rfl⟩
      clear hR1
      have z0 := HZ.out.free 0
      have y0 := HZ.out.c0
      have z1 := HZ.out.free 1
      have y1 := HZ.out.c1
      have z2 := HZ.out.free 2
      have y2 := HZ.out.c2
      go_wp2
      have hZ4 := HZ.out.set (.int .i64 0) (.string ⟨#[]⟩) (.string ⟨#[]⟩)
      have hB4 := ((HB.out.setCell (p := ⟨w.heap.size, 0, none⟩) (Nat.le_refl _) (.int .i64 0)).setCell (p := ⟨w.heap.size, 1, none⟩) (Nat.le_refl _) (.string ⟨#[]⟩)).setCell (p := ⟨w.heap.size, 2, none⟩) (Nat.le_refl _) (.string ⟨#[]⟩)
      exact bodyPost_ret (ret_write2 rfl _ _ _ _ _ (.int .i64 (-1)) w.heap.size (by rfl) (by rfl) hZ4) rfl (RwC.no hB4 HY.out)
  · have hn : rdWr s p = none := by unfold rdWr; rw [if_neg c1]
    go_enter Try.func16, Try.ntmps16
    go_wp2
    exact bodyPost_ret (ret_write2 rfl _ _ _ _ _ (.int .i64 (-1)) w.heap.size (by rfl) (by rfl) HZ0.out) rfl (RwC.no HB0.out hn)
end Go.Proofs.Ytmolfemcciljjaa
