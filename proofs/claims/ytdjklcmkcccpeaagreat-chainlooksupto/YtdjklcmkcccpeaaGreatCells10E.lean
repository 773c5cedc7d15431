import Derived.Test.YtdjklcmkcccpeaaGreatCells9E
import Derived.Test.YtdjklcmkcccpeaaGreatGatesE
namespace Go.Proofs.YtdjklcmkcccpeaaGreat
open Go.ChangeShapes Go.WideShapes Go.ChangeAt Go.RowKit Go.MuLone Go.RwLone
set_option linter.unusedVariables false
set_option maxRecDepth 100000
set_option maxHeartbeats 1600000
theorem missing_holds {w : World} {L : Lay} {S : AS} (h : Holds w L S) : Calls Tryz.prog 66 #[.pointer (some ⟨L.b, 0, none⟩)] w fun e w' => e = .returned (.bool false) ∧ w' = w := missing_not L.b S.wd w (by have := h.hw.1; omega) h.c0
theorem alloc_full (L : Lay) (S : AS) (w : World) (p : Ent) (sp : Option Addr) (m c : Nat) (h : Holds w L S) (hm : m ≤ S.wd) (hr : S.rc = 0) (hl : S.lk = 0) (h0 : S.count = 0) : Calls Tryz.prog 40 #[.pointer (some ⟨L.b, 0, none⟩), .agg #[.string p.nm, .string p.dt, .int .i64 p.tl], .slice sp m c] w fun e w' => e = .returned (.tuple #[.int .i64 0, .int .i64 21]) ∧ Holds w' L { S with rc := 0, lk := 0, acc := wrap64 (S.acc + 1) } ∧ Keeps L.has w w' := by
  have c0 := h.c0
  have H : Hid (Holds (boxW w p) L S) := h.alloc _
  have HW : Hid (Keeps L.has w (boxW w p)) := (Keeps.refl _ _).alloc _
  have c0b := H.out.c0
  clear h
  go_enter_defers Tryz.func40, Tryz.ntmps40
  go_wp2_with fail
  refine (missing_holds H.out).mono ?_
  rintro e w' ⟨rfl, hw'⟩
  rw [← hw'] at H HW
  clear hw' c0 c0b
  have c0 := H.out.c0
  go_wp2_with fail
  refine (gate_rlock H.out hr).mono ?_
  rintro e w1 ⟨rfl, h1, k1⟩
  have H1 : Hid (Holds w1 L { S with rc := 1 } ∧ Keeps L.has w' w1) := ⟨h1, k1⟩
  clear h1 k1 H c0
  go_wp2_with fail
  refine (que_lock H1.out.1 hl).mono ?_
  rintro e w2 ⟨rfl, h2, k2⟩
  have H2 : Hid (Holds w2 L { S with rc := 1, lk := 1 } ∧ Keeps L.has w' w2) := ⟨h2, H1.out.2.trans k2⟩
  clear h2 k2 H1
  go_wp2_with fail
  refine (acc_add H2.out.1).mono ?_
  rintro e w3 ⟨v, rfl, h3, k3⟩
  have H3 : Hid (Holds w3 L { S with rc := 1, lk := 1, acc := wrap64 (S.acc + 1) } ∧ Keeps L.has w' w3) := ⟨h3, H2.out.2.trans k3⟩
  clear h3 k3 H2
  go_wp2_with fail
  refine (que_none H3.out.1 h0).mono ?_
  rintro e w4 ⟨rfl, h4, k4⟩
  have H4 : Hid (Holds w4 L { S with rc := 1, lk := 1, acc := wrap64 (S.acc + 1) } ∧ Keeps L.has w' w4) := ⟨h4, H3.out.2.trans k4⟩
  clear h4 k4 H3
  go_wp2_with fail
  refine leaves_cons (f := 70) (args := #[.pointer (some ⟨L.b, 9, none⟩)]) (by simp) (by simp [go_sem]) ?_
  refine (que_unlockD H4.out.1 rfl .returning).mono ?_
  rintro e u' w5 ⟨rfl, rfl, h5, k5⟩
  refine leaves_cons (f := 68) (args := #[.pointer (some ⟨L.b, 3, none⟩)]) (by simp [settle]) (by simp [go_sem]) ?_
  refine (gate_runlockD h5 rfl .returning).mono ?_
  rintro e u' w6 ⟨rfl, rfl, h6, k6⟩
  exact ⟨_, results_tmp2 rfl _ _ _, rfl, h6, HW.out.trans ((H4.out.2.trans k5).trans k6)⟩
theorem alloc_ok (L : Lay) (S : AS) (w : World) (p : Ent) (sp : Option Addr) (m c k : Nat) (f : Nat → Int) (h : Holds w L S) (hg : Given w L sp m f) (hm : m ≤ S.wd) (hr : S.rc = 0) (hl : S.lk = 0) (hf : S.front < S.n) (h0 : 0 < S.count) (hc : S.count ≤ S.n) (hk : S.ring S.front = (k : Int) + 1) (hkn : k < S.n) : Calls Tryz.prog 40 #[.pointer (some ⟨L.b, 0, none⟩), .agg #[.string p.nm, .string p.dt, .int .i64 p.tl], .slice sp m c] w fun e w' => e = .returned (.tuple #[.int .i64 ((k : Int) + 1), .int .i64 0]) ∧ Holds w' L ({ S with rc := 0, lk := 0, acc := wrap64 (S.acc + 1), front := (S.front + 1) % S.n, count := S.count - 1 }.laid k p (valW m f)) ∧ Keeps L.has w w' := by
  have c0 := h.c0
  have H : Hid (Holds (boxW w p) L S ∧ Given (boxW w p) L sp m f) := ⟨h.alloc _, hg.keeps ((Keeps.refl _ _).alloc _)⟩
  have HW : Hid (Keeps L.has w (boxW w p)) := (Keeps.refl _ _).alloc _
  have hb1 : (boxW w p).heap[w.heap.size]? = some (.cells #[.string p.nm, .string p.dt, .int .i64 p.tl] 45) := heap_alloc_last _ _ _ rfl
  have HBX : Hid (∀ W, Keeps L.has (boxW w p) W → W.cell? ⟨w.heap.size, 0, none⟩ = some (.string p.nm) ∧ W.cell? ⟨w.heap.size, 1, none⟩ = some (.string p.dt) ∧ W.cell? ⟨w.heap.size, 2, none⟩ = some (.int .i64 p.tl)) := fun W k => by
    have e := (k.block w.heap.size (Array.getElem?_eq_some_iff.1 hb1).1 (fun e => by rcases e with e | e | e | e <;> (have := h.lb; have := h.ls; have := h.lu; have := h.lq; omega))).trans hb1
    exact ⟨(cell?_heap e 0).trans rfl, (cell?_heap e 1).trans rfl, (cell?_heap e 2).trans rfl⟩
  have c0b := H.out.1.c0
  have HF : Hid (S.front < S.n ∧ 0 < S.count ∧ S.count ≤ S.n) := ⟨hf, h0, hc⟩
  have HK : Hid (S.ring S.front = (k : Int) + 1) := hk
  clear h hg hf h0 hc hk hb1
  have hne : ¬ (k : Int) + 1 = 0 := by omega
  go_enter_defers Tryz.func40, Tryz.ntmps40
  go_wp2_with fail
  refine (missing_holds H.out.1).mono ?_
  rintro e w' ⟨rfl, hw'⟩
  rw [← hw'] at H HW HBX
  clear hw' c0 c0b
  have c0 := H.out.1.c0
  go_wp2_with fail
  refine (gate_rlock H.out.1 hr).mono ?_
  rintro e w1 ⟨rfl, h1, k1⟩
  have H1 : Hid (Holds w1 L { S with rc := 1 } ∧ Keeps L.has w' w1) := ⟨h1, k1⟩
  clear h1 k1 c0
  go_wp2_with fail
  refine (que_lock H1.out.1 hl).mono ?_
  rintro e w2 ⟨rfl, h2, k2⟩
  have H2 : Hid (Holds w2 L { S with rc := 1, lk := 1 } ∧ Keeps L.has w' w2) := ⟨h2, H1.out.2.trans k2⟩
  clear h2 k2 H1
  go_wp2_with fail
  refine (acc_add H2.out.1).mono ?_
  rintro e w3 ⟨v, rfl, h3, k3⟩
  have H3 : Hid (Holds w3 L { S with rc := 1, lk := 1, acc := wrap64 (S.acc + 1) } ∧ Keeps L.has w' w3) := ⟨h3, H2.out.2.trans k3⟩
  clear h3 k3 H2
  go_wp2_with fail
  refine (que_take H3.out.1 HF.out.1 HF.out.2.1 HF.out.2.2).mono ?_
  rintro e w4 ⟨rfl, h4, k4⟩
  have H4 : Hid (Holds w4 L { S with rc := 1, lk := 1, acc := wrap64 (S.acc + 1), front := (S.front + 1) % S.n, count := S.count - 1 } ∧ Keeps L.has w' w4) := ⟨h4, H3.out.2.trans k4⟩
  clear h4 k4 H3
  simp only [HK.out]
  obtain ⟨b0, b1, b2⟩ := HBX.out w4 H4.out.2
  go_wp2_with fail
  clear b0 b1 b2
  refine (lay_any L { S with rc := 1, lk := 1, acc := wrap64 (S.acc + 1), front := (S.front + 1) % S.n, count := S.count - 1 } w4 k p sp m c f hkn hm H4.out.1 (H.out.2.keeps H4.out.2)).mono ?_
  rintro e w5 ⟨rfl, h5, k5⟩
  have H5 : Hid (Holds w5 L ({ S with rc := 1, lk := 1, acc := wrap64 (S.acc + 1), front := (S.front + 1) % S.n, count := S.count - 1 }.laid k p (valW m f)) ∧ Keeps L.has w' w5) := ⟨h5, H4.out.2.trans k5⟩
  clear h5 k5 H4 H HF HK
  go_wp2_with fail
  refine leaves_cons (f := 70) (args := #[.pointer (some ⟨L.b, 9, none⟩)]) (by simp) (by simp [go_sem]) ?_
  refine (que_unlockD H5.out.1 rfl .returning).mono ?_
  rintro e u' w6 ⟨rfl, rfl, h6, k6⟩
  refine leaves_cons (f := 68) (args := #[.pointer (some ⟨L.b, 3, none⟩)]) (by simp [settle]) (by simp [go_sem]) ?_
  refine (gate_runlockD h6 rfl .returning).mono ?_
  rintro e u' w7 ⟨rfl, rfl, h7, k7⟩
  exact ⟨_, results_tmp2 rfl _ _ _, rfl, h7, HW.out.trans ((H5.out.2.trans k6).trans k7)⟩
end Go.Proofs.YtdjklcmkcccpeaaGreat
