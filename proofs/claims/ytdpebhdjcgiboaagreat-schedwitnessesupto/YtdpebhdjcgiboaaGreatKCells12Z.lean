import Derived.Test.YtdpebhdjcgiboaaGreatKCells8Z
import Derived.Conc.RwLoneW
import Derived.Test.YtdpebhdjcgiboaaGreatKCells9Z
namespace Go.Proofs.YtdpebhdjcgiboaaGreat
open Go.ChangeShapes Go.WideShapes Go.ChangeAt Go.RowKit Go.MuLone Go.RwLone
set_option linter.unusedVariables false
theorem w32_up : wrap32 (0 + 1) = 1 := by unfold wrap32; decide
theorem w32_down : wrap32 (1 + -1) = 0 := by unfold wrap32; decide
theorem gate_rlock {w : World} {L : Lay} {S : AS} (h : Holds w L S) (hr : S.rc = 0) : Calls Tryz.prog 105 #[.pointer (some ⟨L.b, 3, none⟩)] w fun e w' => e = .returned (.tuple #[]) ∧ Holds w' L { S with rc := 1 } ∧ Keeps L.has w w' := by
  refine (rlock_open rwRLib L.b 3 0 _ _ w h.c3 h.c6 (by rw [← hr]; exact h.c7) (h.fz _ _ (Or.inl rfl)) (by rw [w32_up]; decide)).mono ?_
  rintro e w' ⟨rfl, rfl⟩
  rw [w32_up]
  exact ⟨rfl, h.setRc 1, (Keeps.refl _ _).setCell (Or.inl rfl) _⟩
theorem gate_runlockD {w : World} {L : Lay} {S : AS} (h : Holds w L S) (hr : S.rc = 1) (u : FrameMode) : CallsD Tryz.prog 106 #[.pointer (some ⟨L.b, 3, none⟩)] u w fun e u' w' => u' = u ∧ (e = .returned (.tuple #[]) ∧ Holds w' L { S with rc := 0 } ∧ Keeps L.has w w') := by
  refine (runlock_deferred rwRLib L.b 3 1 _ _ u w h.c3 h.c5 (by rw [← hr]; exact h.c7) (h.fz _ _ (Or.inl rfl)) (by rw [w32_down]; decide)).mono ?_
  rintro e u' w' ⟨rfl, rfl, rfl⟩
  rw [w32_down]
  exact ⟨rfl, rfl, h.setRc 0, (Keeps.refl _ _).setCell (Or.inl rfl) _⟩
theorem gate_lock {w : World} {L : Lay} {S : AS} (h : Holds w L S) (hg : S.g0 = 0) (hr : S.rc = 0) : Calls Tryz.prog 161 #[.pointer (some ⟨L.b, 3, none⟩)] w fun e w' => e = .returned (.tuple #[]) ∧ Holds w' L { S with g0 := 1, rc := -1073741824 } ∧ Keeps L.has w w' := by
  refine (wlock_free rwWLib L.b 3 _ _ w (by rw [← hg]; exact h.c3) h.c5 h.c6 (by rw [← hr]; exact h.c7) (h.fz _ _ (Or.inl rfl)) (h.fz _ _ (Or.inl rfl))).mono ?_
  rintro e w' ⟨rfl, rfl⟩
  exact ⟨rfl, (h.setG0 1).setRc (-1073741824), ((Keeps.refl _ _).setCell (Or.inl rfl) _).setCell (Or.inl rfl) _⟩
theorem gate_unlockD {w : World} {L : Lay} {S : AS} (h : Holds w L S) (hg : S.g0 = 1) (hr : S.rc = -1073741824) (u : FrameMode) : CallsD Tryz.prog 162 #[.pointer (some ⟨L.b, 3, none⟩)] u w fun e u' w' => u' = u ∧ (e = .returned (.tuple #[]) ∧ Holds w' L { S with g0 := 0, rc := 0 } ∧ Keeps L.has w w') := by
  refine (wunlock_deferred rwWLib L.b 3 _ _ u w (by rw [← hg]; exact h.c3) h.c5 h.c6 (by rw [← hr]; exact h.c7) (h.fz _ _ (Or.inl rfl)) (h.fz _ _ (Or.inl rfl))).mono ?_
  rintro e u' w' ⟨rfl, rfl, rfl⟩
  exact ⟨rfl, rfl, (h.setRc 0).setG0 0, ((Keeps.refl _ _).setCell (Or.inl rfl) _).setCell (Or.inl rfl) _⟩
theorem que_lock {w : World} {L : Lay} {S : AS} (h : Holds w L S) (hr : S.lk = 0) : Calls Tryz.prog 107 #[.pointer (some ⟨L.b, 9, none⟩)] w fun e w' => e = .returned (.tuple #[]) ∧ Holds w' L { S with lk := 1 } ∧ Keeps L.has w w' := by
  refine (lock_free muLib ⟨L.b, 9, none⟩ w (by rw [← hr]; exact h.c9) (h.fz _ _ (Or.inl rfl))).mono ?_
  rintro e w' ⟨rfl, rfl⟩
  exact ⟨rfl, h.setLk 1, (Keeps.refl _ _).setCell (Or.inl rfl) _⟩
theorem que_unlockD {w : World} {L : Lay} {S : AS} (h : Holds w L S) (hr : S.lk = 1) (u : FrameMode) : CallsD Tryz.prog 108 #[.pointer (some ⟨L.b, 9, none⟩)] u w fun e u' w' => u' = u ∧ (e = .returned (.tuple #[]) ∧ Holds w' L { S with lk := 0 } ∧ Keeps L.has w w') := by
  refine (unlock_deferred muLib ⟨L.b, 9, none⟩ u w (by rw [← hr]; exact h.c9) (h.fz _ _ (Or.inl rfl))).mono ?_
  rintro e u' w' ⟨rfl, rfl, rfl⟩
  exact ⟨rfl, rfl, h.setLk 0, (Keeps.refl _ _).setCell (Or.inl rfl) _⟩
theorem acc_add {w : World} {L : Lay} {S : AS} (h : Holds w L S) : Calls Tryz.prog 109 #[.pointer (some ⟨L.b, 14, none⟩), .int .i64 1] w fun e w' => ∃ v, e = .returned v ∧ Holds w' L { S with acc := wrap64 (S.acc + 1) } ∧ Keeps L.has w w' := by
  refine (i64_add _ _ _ w h.c14 (h.fz _ _ (Or.inl rfl))).mono ?_
  rintro e w' ⟨rfl, rfl⟩
  exact ⟨_, rfl, h.setAcc _, (Keeps.refl _ _).setCell (Or.inl rfl) _⟩
theorem Holds.que {w : World} {L : Lay} {S : AS} (h : Holds w L S) : Que w L.b 9 L.q S.n S.front S.count := ⟨h.c11, h.c12, h.c13⟩
theorem que_take {w : World} {L : Lay} {S : AS} (h : Holds w L S) (hf : S.front < S.n) (h0 : 0 < S.count) (hc : S.count ≤ S.n) : Calls Tryz.prog 110 #[.pointer (some ⟨L.b, 9, none⟩)] w fun e w' => e = .returned (.int .i64 (S.ring S.front)) ∧ Holds w' L { S with front := (S.front + 1) % S.n, count := S.count - 1 } ∧ Keeps L.has w w' := by
  refine (take_some L.b 9 L.q S.n S.front S.count _ _ w h.que hf hc h0 (by have := h.hn.2; omega) rfl (h.ri _ hf) (h.fz _ _ (Or.inl rfl)) (h.fz _ _ (Or.inl rfl))).mono ?_
  rintro e w' ⟨rfl, rfl⟩
  have e1 : (S.count : Int) - 1 = ((S.count - 1 : Nat) : Int) := by omega
  rw [e1]
  exact ⟨rfl, ((h.setFront _).setCount _).drew.drew, (((Keeps.refl _ _).setCell (Or.inl rfl) _).setCell (Or.inl rfl) _).drew.drew⟩
end Go.Proofs.YtdpebhdjcgiboaaGreat

namespace Go.Proofs.YtdpebhdjcgiboaaGreat
open Go.ChangeShapes Go.WideShapes Go.ChangeAt Go.RowKit Go.MuLone Go.RwLone
set_option linter.unusedVariables false
set_option maxRecDepth 100000
set_option maxHeartbeats 1600000
theorem missing_holds {w : World} {L : Lay} {S : AS} (h : Holds w L S) : Calls Tryz.prog 104 #[.pointer (some ⟨L.b, 0, none⟩)] w fun e w' => e = .returned (.bool false) ∧ w' = w := missing_not L.b S.wd w (by have := h.hw.1; omega) h.c0
theorem alloc_ok (L : Lay) (S : AS) (w : World) (sp : Option Addr) (m c k : Nat) (f : Nat → Int) (h : Holds w L S) (hg : Given w L sp m f) (hm : m ≤ S.wd) (hr : S.rc = 0) (hl : S.lk = 0) (hf : S.front < S.n) (h0 : 0 < S.count) (hc : S.count ≤ S.n) (hk : S.ring S.front = (k : Int) + 1) (hkn : k < S.n) : Calls Tryz.prog 60 #[.pointer (some ⟨L.b, 0, none⟩), .agg #[], .slice sp m c] w fun e w' => e = .returned (.tuple #[.int .i64 ((k : Int) + 1), .int .i64 0]) ∧ Holds w' L ({ S with rc := 0, lk := 0, acc := wrap64 (S.acc + 1), front := (S.front + 1) % S.n, count := S.count - 1 }.laid k (valW m f)) ∧ Keeps L.has w w' := by
  have c0 := h.c0
  have H : Hid (Holds (boxW w) L S ∧ Given (boxW w) L sp m f) := ⟨h.alloc _, hg.keeps ((Keeps.refl _ _).alloc _)⟩
  have HW : Hid (Keeps L.has w (boxW w)) := (Keeps.refl _ _).alloc _
  have c0b := H.out.1.c0
  have HF : Hid (S.front < S.n ∧ 0 < S.count ∧ S.count ≤ S.n) := ⟨hf, h0, hc⟩
  have HK : Hid (S.ring S.front = (k : Int) + 1) := hk
  clear h hg hf h0 hc hk
  have hne : ¬ (k : Int) + 1 = 0 := by omega
  go_enter_defers Tryz.func60, Tryz.ntmps60
  go_wp2_with fail
  refine (missing_holds H.out.1).mono ?_
  rintro e w' ⟨rfl, hw'⟩
  rw [← hw'] at H HW
  clear hw' c0 c0b
  have c0 := H.out.1.c0
  go_wp2_with fail
  refine (gate_rlock H.out.1 hr).mono ?_
  rintro e w1 ⟨rfl, h1, k1⟩
  have H1 : Hid (Holds w1 L { S with rc := 1 } ∧ Keeps L.has w' w1) := ⟨h1, k1⟩
  clear h1 k1 c0
  go_wp2_with fail
  refine (que_lock H1.out.1 hl).mono ?_
  rintro e w2 ⟨rfl, h2, k2⟩
  have H2 : Hid (Holds w2 L { S with rc := 1, lk := 1 } ∧ Keeps L.has w' w2) := ⟨h2, H1.out.2.trans k2⟩
  clear h2 k2 H1
  go_wp2_with fail
  refine (acc_add H2.out.1).mono ?_
  rintro e w3 ⟨v, rfl, h3, k3⟩
  have H3 : Hid (Holds w3 L { S with rc := 1, lk := 1, acc := wrap64 (S.acc + 1) } ∧ Keeps L.has w' w3) := ⟨h3, H2.out.2.trans k3⟩
  clear h3 k3 H2
  go_wp2_with fail
  refine (que_take H3.out.1 HF.out.1 HF.out.2.1 HF.out.2.2).mono ?_
  rintro e w4 ⟨rfl, h4, k4⟩
  have H4 : Hid (Holds w4 L { S with rc := 1, lk := 1, acc := wrap64 (S.acc + 1), front := (S.front + 1) % S.n, count := S.count - 1 } ∧ Keeps L.has w' w4) := ⟨h4, H3.out.2.trans k4⟩
  clear h4 k4 H3
  simp only [HK.out]
  go_wp2_with fail
  refine (lay_any L { S with rc := 1, lk := 1, acc := wrap64 (S.acc + 1), front := (S.front + 1) % S.n, count := S.count - 1 } w4 k sp m c f hkn hm H4.out.1 (H.out.2.keeps H4.out.2)).mono ?_
  rintro e w5 ⟨rfl, h5, k5⟩
  have H5 : Hid (Holds w5 L ({ S with rc := 1, lk := 1, acc := wrap64 (S.acc + 1), front := (S.front + 1) % S.n, count := S.count - 1 }.laid k (valW m f)) ∧ Keeps L.has w' w5) := ⟨h5, H4.out.2.trans k5⟩
  clear h5 k5 H4 H HF HK
  go_wp2_with fail
  refine leaves_cons (f := 108) (args := #[.pointer (some ⟨L.b, 9, none⟩)]) (by simp) (by simp [go_sem]) ?_
  refine (que_unlockD H5.out.1 rfl .returning).mono ?_
  rintro e u' w6 ⟨rfl, rfl, h6, k6⟩
  refine leaves_cons (f := 106) (args := #[.pointer (some ⟨L.b, 3, none⟩)]) (by simp [settle]) (by simp [go_sem]) ?_
  refine (gate_runlockD h6 rfl .returning).mono ?_
  rintro e u' w7 ⟨rfl, rfl, h7, k7⟩
  exact ⟨_, results_tmp2 rfl _ _ _, rfl, h7, HW.out.trans ((H5.out.2.trans k6).trans k7)⟩
end Go.Proofs.YtdpebhdjcgiboaaGreat

namespace Go.Proofs.YtdpebhdjcgiboaaGreat
open Go.ChangeShapes Go.WideShapes Go.ChangeAt Go.RowKit Go.MuLone Go.RwLone
set_option linter.unusedVariables false
set_option maxRecDepth 100000
set_option maxHeartbeats 1600000
theorem word_ok (L : Lay) (S : AS) (w : World) (k j : Nat) (h : Holds w L S) (hk : k < S.n) (hu : S.use k = true) (hj : j < S.wd) : Calls Tryz.prog 192 #[.pointer (some ⟨L.b, 0, none⟩), .int .i64 ((k : Int) + 1), .int .i64 (j : Int)] w fun e w' => e = .returned (.tuple #[.pointer (some ⟨L.u, k * S.wd + j, none⟩), .int .i64 0]) ∧ w' = w.drew := by
  have hwd := h.hw.2
  have c0 := h.c0
  have H : Hid (Holds w L S) := h
  have i1 : (j : Int) < (S.wd : Int) := by omega
  clear h
  go_enter Tryz.func192, Tryz.ntmps192
  go_wp2_with fail
  refine (reach_ok L S w k hk hu H.out).mono ?_
  rintro e w' ⟨rfl, rfl⟩
  go_wp2_with fail
  refine (cellsOf_any L S _ k hk H.out).mono ?_
  rintro e w' ⟨rfl, rfl⟩
  go_wp2
  go_ret2
  exact ⟨rfl, rfl⟩
theorem access_load (L : Lay) (S : AS) (w : World) (k j : Nat) (c1 : Value) (wo : Nat → Int) (B : Nat → Prop) (X : World → Prop) (h : Holds w L S) (hr : S.rc = 0) (hk : k < S.n) (hu : S.use k = true) (hj : j < S.wd) (hB : ∀ k, L.has k → B k) (hX : ∀ W W', Keeps L.has W W' → X W → X W')
    (HC : Hid (∀ W, Holds W L { S with rc := 1, acc := wrap64 (S.acc + 1) } → Keeps L.has w W → Calls Tryz.prog 182 #[.pointer (some ⟨L.u, k * S.wd + j, none⟩), c1] W fun e w' => e = .returned (.tuple #[]) ∧ Holds w' L { S with rc := 1, acc := wrap64 (S.acc + 1), word := wo } ∧ Keeps B W w' ∧ X w')) :
    Calls Tryz.prog 166 #[.pointer (some ⟨L.b, 0, none⟩), .int .i64 ((k : Int) + 1), .int .i64 (j : Int), .func (.func 182) #[] #[c1]] w fun e w' => e = .returned (.int .i64 0) ∧ Holds w' L { S with rc := 0, acc := wrap64 (S.acc + 1), word := wo } ∧ Keeps B w w' ∧ X w' := by
  have H : Hid (Holds w L S) := h
  have HB : Hid ((∀ k, L.has k → B k) ∧ ∀ W W', Keeps L.has W W' → X W → X W') := ⟨hB, hX⟩
  clear h hB hX
  go_enter_defers Tryz.func166, Tryz.ntmps166
  go_wp2_with fail
  refine (missing_holds H.out).mono ?_
  rintro e w' ⟨rfl, rfl⟩
  go_wp2_with fail
  refine (gate_rlock H.out hr).mono ?_
  rintro e w1 ⟨rfl, h1, k1⟩
  have H1 : Hid (Holds w1 L { S with rc := 1 } ∧ Keeps L.has w' w1) := ⟨h1, k1⟩
  clear h1 k1 H
  go_wp2_with fail
  refine (word_ok L { S with rc := 1 } w1 k j H1.out.1 hk hu hj).mono ?_
  rintro e w2 ⟨rfl, rfl⟩
  have H2 : Hid (Holds w1.drew L { S with rc := 1 } ∧ Keeps L.has w' w1.drew) := ⟨H1.out.1.drew, H1.out.2.drew⟩
  clear H1
  go_wp2_with fail
  refine (acc_add H2.out.1).mono ?_
  rintro e w3 ⟨v, rfl, h3, k3⟩
  have H3 : Hid (Holds w3 L { S with rc := 1, acc := wrap64 (S.acc + 1) } ∧ Keeps L.has w' w3) := ⟨h3, H2.out.2.trans k3⟩
  clear h3 k3 H2
  go_wp2_with fail
  refine (HC.out w3 H3.out.1 H3.out.2).mono ?_
  rintro e w4 ⟨rfl, h4, k4, x4⟩
  have H4 : Hid (Holds w4 L { S with rc := 1, acc := wrap64 (S.acc + 1), word := wo } ∧ Keeps B w' w4 ∧ X w4) := ⟨h4, (H3.out.2.mono HB.out.1).trans k4, x4⟩
  clear h4 k4 x4 H3 HC
  go_wp2_with fail
  refine leaves_cons (f := 106) (args := #[.pointer (some ⟨L.b, 3, none⟩)]) (by simp) (by simp [go_sem]) ?_
  refine (gate_runlockD H4.out.1 rfl .returning).mono ?_
  rintro e u' w7 ⟨rfl, rfl, h7, k7⟩
  exact ⟨_, results_tmp rfl _ _ _, rfl, h7, H4.out.2.1.trans (k7.mono HB.out.1), HB.out.2 _ _ k7 H4.out.2.2⟩
theorem access_store (L : Lay) (S : AS) (w : World) (k j : Nat) (c1 : Value) (wo : Nat → Int) (B : Nat → Prop) (X : World → Prop) (h : Holds w L S) (hr : S.rc = 0) (hk : k < S.n) (hu : S.use k = true) (hj : j < S.wd) (hB : ∀ k, L.has k → B k) (hX : ∀ W W', Keeps L.has W W' → X W → X W')
    (HC : Hid (∀ W, Holds W L { S with rc := 1, acc := wrap64 (S.acc + 1) } → Keeps L.has w W → Calls Tryz.prog 167 #[.pointer (some ⟨L.u, k * S.wd + j, none⟩), c1] W fun e w' => e = .returned (.tuple #[]) ∧ Holds w' L { S with rc := 1, acc := wrap64 (S.acc + 1), word := wo } ∧ Keeps B W w' ∧ X w')) :
    Calls Tryz.prog 166 #[.pointer (some ⟨L.b, 0, none⟩), .int .i64 ((k : Int) + 1), .int .i64 (j : Int), .func (.func 167) #[] #[c1]] w fun e w' => e = .returned (.int .i64 0) ∧ Holds w' L { S with rc := 0, acc := wrap64 (S.acc + 1), word := wo } ∧ Keeps B w w' ∧ X w' := by
  have H : Hid (Holds w L S) := h
  have HB : Hid ((∀ k, L.has k → B k) ∧ ∀ W W', Keeps L.has W W' → X W → X W') := ⟨hB, hX⟩
  clear h hB hX
  go_enter_defers Tryz.func166, Tryz.ntmps166
  go_wp2_with fail
  refine (missing_holds H.out).mono ?_
  rintro e w' ⟨rfl, rfl⟩
  go_wp2_with fail
  refine (gate_rlock H.out hr).mono ?_
  rintro e w1 ⟨rfl, h1, k1⟩
  have H1 : Hid (Holds w1 L { S with rc := 1 } ∧ Keeps L.has w' w1) := ⟨h1, k1⟩
  clear h1 k1 H
  go_wp2_with fail
  refine (word_ok L { S with rc := 1 } w1 k j H1.out.1 hk hu hj).mono ?_
  rintro e w2 ⟨rfl, rfl⟩
  have H2 : Hid (Holds w1.drew L { S with rc := 1 } ∧ Keeps L.has w' w1.drew) := ⟨H1.out.1.drew, H1.out.2.drew⟩
  clear H1
  go_wp2_with fail
  refine (acc_add H2.out.1).mono ?_
  rintro e w3 ⟨v, rfl, h3, k3⟩
  have H3 : Hid (Holds w3 L { S with rc := 1, acc := wrap64 (S.acc + 1) } ∧ Keeps L.has w' w3) := ⟨h3, H2.out.2.trans k3⟩
  clear h3 k3 H2
  go_wp2_with fail
  refine (HC.out w3 H3.out.1 H3.out.2).mono ?_
  rintro e w4 ⟨rfl, h4, k4, x4⟩
  have H4 : Hid (Holds w4 L { S with rc := 1, acc := wrap64 (S.acc + 1), word := wo } ∧ Keeps B w' w4 ∧ X w4) := ⟨h4, (H3.out.2.mono HB.out.1).trans k4, x4⟩
  clear h4 k4 x4 H3 HC
  go_wp2_with fail
  refine leaves_cons (f := 106) (args := #[.pointer (some ⟨L.b, 3, none⟩)]) (by simp) (by simp [go_sem]) ?_
  refine (gate_runlockD H4.out.1 rfl .returning).mono ?_
  rintro e u' w7 ⟨rfl, rfl, h7, k7⟩
  exact ⟨_, results_tmp rfl _ _ _, rfl, h7, H4.out.2.1.trans (k7.mono HB.out.1), HB.out.2 _ _ k7 H4.out.2.2⟩
theorem access_cas (L : Lay) (S : AS) (w : World) (k j : Nat) (c1 c2 c3 : Value) (wo : Nat → Int) (B : Nat → Prop) (X : World → Prop) (h : Holds w L S) (hr : S.rc = 0) (hk : k < S.n) (hu : S.use k = true) (hj : j < S.wd) (hB : ∀ k, L.has k → B k) (hX : ∀ W W', Keeps L.has W W' → X W → X W')
    (HC : Hid (∀ W, Holds W L { S with rc := 1, acc := wrap64 (S.acc + 1) } → Keeps L.has w W → Calls Tryz.prog 183 #[.pointer (some ⟨L.u, k * S.wd + j, none⟩), c1, c2, c3] W fun e w' => e = .returned (.tuple #[]) ∧ Holds w' L { S with rc := 1, acc := wrap64 (S.acc + 1), word := wo } ∧ Keeps B W w' ∧ X w')) :
    Calls Tryz.prog 166 #[.pointer (some ⟨L.b, 0, none⟩), .int .i64 ((k : Int) + 1), .int .i64 (j : Int), .func (.func 183) #[] #[c1, c2, c3]] w fun e w' => e = .returned (.int .i64 0) ∧ Holds w' L { S with rc := 0, acc := wrap64 (S.acc + 1), word := wo } ∧ Keeps B w w' ∧ X w' := by
  have H : Hid (Holds w L S) := h
  have HB : Hid ((∀ k, L.has k → B k) ∧ ∀ W W', Keeps L.has W W' → X W → X W') := ⟨hB, hX⟩
  clear h hB hX
  go_enter_defers Tryz.func166, Tryz.ntmps166
  go_wp2_with fail
  refine (missing_holds H.out).mono ?_
  rintro e w' ⟨rfl, rfl⟩
  go_wp2_with fail
  refine (gate_rlock H.out hr).mono ?_
  rintro e w1 ⟨rfl, h1, k1⟩
  have H1 : Hid (Holds w1 L { S with rc := 1 } ∧ Keeps L.has w' w1) := ⟨h1, k1⟩
  clear h1 k1 H
  go_wp2_with fail
  refine (word_ok L { S with rc := 1 } w1 k j H1.out.1 hk hu hj).mono ?_
  rintro e w2 ⟨rfl, rfl⟩
  have H2 : Hid (Holds w1.drew L { S with rc := 1 } ∧ Keeps L.has w' w1.drew) := ⟨H1.out.1.drew, H1.out.2.drew⟩
  clear H1
  go_wp2_with fail
  refine (acc_add H2.out.1).mono ?_
  rintro e w3 ⟨v, rfl, h3, k3⟩
  have H3 : Hid (Holds w3 L { S with rc := 1, acc := wrap64 (S.acc + 1) } ∧ Keeps L.has w' w3) := ⟨h3, H2.out.2.trans k3⟩
  clear h3 k3 H2
  go_wp2_with fail
  refine (HC.out w3 H3.out.1 H3.out.2).mono ?_
  rintro e w4 ⟨rfl, h4, k4, x4⟩
  have H4 : Hid (Holds w4 L { S with rc := 1, acc := wrap64 (S.acc + 1), word := wo } ∧ Keeps B w' w4 ∧ X w4) := ⟨h4, (H3.out.2.mono HB.out.1).trans k4, x4⟩
  clear h4 k4 x4 H3 HC
  go_wp2_with fail
  refine leaves_cons (f := 106) (args := #[.pointer (some ⟨L.b, 3, none⟩)]) (by simp) (by simp [go_sem]) ?_
  refine (gate_runlockD H4.out.1 rfl .returning).mono ?_
  rintro e u' w7 ⟨rfl, rfl, h7, k7⟩
  exact ⟨_, results_tmp rfl _ _ _, rfl, h7, H4.out.2.1.trans (k7.mono HB.out.1), HB.out.2 _ _ k7 H4.out.2.2⟩
end Go.Proofs.YtdpebhdjcgiboaaGreat
