import Derived.Test.YteekompojgbkhaaGreatKCells11E
namespace Go.Proofs.YteekompojgbkhaaGreat
open Go.ChangeShapes Go.WideShapes Go.ChangeAt Go.RowKit Go.MuLone Go.RwLone
set_option linter.unusedVariables false
set_option maxRecDepth 100000
set_option maxHeartbeats 1600000
theorem word_ok (L : Lay) (S : AS) (w : World) (k j : Nat) (h : Holds w L S) (hk : k < S.n) (hu : S.use k = true) (hj : j < S.wd) : Calls Tryz.prog 214 #[.pointer (some ⟨L.b, 0, none⟩), .int .i64 ((k : Int) + 1), .int .i64 (j : Int)] w fun e w' => e = .returned (.tuple #[.pointer (some ⟨L.u, k * S.wd + j, none⟩), .int .i64 0]) ∧ w' = w.drew := by
  have hwd := h.hw.2
  have c0 := h.c0
  have H : Hid (Holds w L S) := h
  have i1 : (j : Int) < (S.wd : Int) := by omega
  clear h
  go_enter Tryz.func214, Tryz.ntmps214
  go_wp2_with fail
  refine (reach_ok L S w k hk hu H.out).mono ?_
  rintro e w' ⟨rfl, rfl⟩
  go_wp2_with fail
  refine (cellsOf_any L S _ k hk H.out).mono ?_
  rintro e w' ⟨rfl, rfl⟩
  go_wp2
  go_ret2
  exact ⟨rfl, rfl⟩
theorem word_no (L : Lay) (S : AS) (w : World) (x y : Int) (h : Holds w L S) (hx : ¬ S.live x) : Calls Tryz.prog 214 #[.pointer (some ⟨L.b, 0, none⟩), .int .i64 x, .int .i64 y] w fun e w' => e = .returned (.tuple #[.pointer none, .int .i64 22]) ∧ Holds w' L { S with miss := wrap64 (S.miss + 1) } ∧ Keeps L.has w w' := by
  go_enter Tryz.func214, Tryz.ntmps214
  go_wp2_with fail
  refine (reach_no L S w x hx h).mono ?_
  rintro e w' ⟨rfl, h2, k2⟩
  have H2 : Hid (Holds w' L { S with miss := wrap64 (S.miss + 1) } ∧ Keeps L.has w w') := ⟨h2, k2⟩
  clear h2 k2 h
  go_wp2
  go_ret2
  exact ⟨rfl, H2.out⟩
theorem access_load (L : Lay) (S : AS) (w : World) (k j : Nat) (c1 : Value) (wo : Nat → Int) (B : Nat → Prop) (X : World → Prop) (h : Holds w L S) (hr : S.rc = 0) (hk : k < S.n) (hu : S.use k = true) (hj : j < S.wd) (hB : ∀ k, L.has k → B k) (hX : ∀ W W', Keeps L.has W W' → X W → X W')
    (HC : Hid (∀ W, Holds W L { S with rc := 1, acc := wrap64 (S.acc + 1) } → Keeps L.has w W → Calls Tryz.prog 179 #[.pointer (some ⟨L.u, k * S.wd + j, none⟩), c1] W fun e w' => e = .returned (.tuple #[]) ∧ Holds w' L { S with rc := 1, acc := wrap64 (S.acc + 1), word := wo } ∧ Keeps B W w' ∧ X w')) :
    Calls Tryz.prog 178 #[.pointer (some ⟨L.b, 0, none⟩), .int .i64 ((k : Int) + 1), .int .i64 (j : Int), .func (.func 179) #[] #[c1]] w fun e w' => e = .returned (.int .i64 0) ∧ Holds w' L { S with rc := 0, acc := wrap64 (S.acc + 1), word := wo } ∧ Keeps B w w' ∧ X w' := by
  have H : Hid (Holds w L S) := h
  have HB : Hid ((∀ k, L.has k → B k) ∧ ∀ W W', Keeps L.has W W' → X W → X W') := ⟨hB, hX⟩
  clear h hB hX
  go_enter_defers Tryz.func178, Tryz.ntmps178
  go_wp2_with fail
  refine (missing_holds2 H.out).mono ?_
  rintro e w' ⟨rfl, rfl⟩
  go_wp2_with fail
  refine (gate_rlock H.out hr).mono ?_
  rintro e w1 ⟨rfl, h1, k1⟩
  have H1 : Hid (Holds w1 L { S with rc := 1 } ∧ Keeps L.has w' w1) := ⟨h1, k1⟩
  clear h1 k1 H
  go_wp2_with fail
  refine (word_ok L { S with rc := 1 } w1 k j H1.out.1 hk hu hj).mono ?_
  rintro e w2 ⟨rfl, rfl⟩
  have H2 : Hid (Holds w1.drew L { S with rc := 1 } ∧ Keeps L.has w' w1.drew) := ⟨H1.out.1.drew, H1.out.2.drew⟩
  clear H1
  go_wp2_with fail
  refine (acc_add H2.out.1).mono ?_
  rintro e w3 ⟨v, rfl, h3, k3⟩
  have H3 : Hid (Holds w3 L { S with rc := 1, acc := wrap64 (S.acc + 1) } ∧ Keeps L.has w' w3) := ⟨h3, H2.out.2.trans k3⟩
  clear h3 k3 H2
  go_wp2_with fail
  refine (HC.out w3 H3.out.1 H3.out.2).mono ?_
  rintro e w4 ⟨rfl, h4, k4, x4⟩
  have H4 : Hid (Holds w4 L { S with rc := 1, acc := wrap64 (S.acc + 1), word := wo } ∧ Keeps B w' w4 ∧ X w4) := ⟨h4, (H3.out.2.mono HB.out.1).trans k4, x4⟩
  clear h4 k4 x4 H3 HC
  go_wp2_with fail
  refine leaves_cons (f := 64) (args := #[.pointer (some ⟨L.b, 3, none⟩)]) (by simp) (by simp [go_sem]) ?_
  refine (gate_runlockD H4.out.1 rfl .returning).mono ?_
  rintro e u' w7 ⟨rfl, rfl, h7, k7⟩
  exact ⟨_, results_tmp rfl _ _ _, rfl, h7, H4.out.2.1.trans (k7.mono HB.out.1), HB.out.2 _ _ k7 H4.out.2.2⟩
theorem access_store (L : Lay) (S : AS) (w : World) (k j : Nat) (c1 : Value) (wo : Nat → Int) (B : Nat → Prop) (X : World → Prop) (h : Holds w L S) (hr : S.rc = 0) (hk : k < S.n) (hu : S.use k = true) (hj : j < S.wd) (hB : ∀ k, L.has k → B k) (hX : ∀ W W', Keeps L.has W W' → X W → X W')
    (HC : Hid (∀ W, Holds W L { S with rc := 1, acc := wrap64 (S.acc + 1) } → Keeps L.has w W → Calls Tryz.prog 222 #[.pointer (some ⟨L.u, k * S.wd + j, none⟩), c1] W fun e w' => e = .returned (.tuple #[]) ∧ Holds w' L { S with rc := 1, acc := wrap64 (S.acc + 1), word := wo } ∧ Keeps B W w' ∧ X w')) :
    Calls Tryz.prog 178 #[.pointer (some ⟨L.b, 0, none⟩), .int .i64 ((k : Int) + 1), .int .i64 (j : Int), .func (.func 222) #[] #[c1]] w fun e w' => e = .returned (.int .i64 0) ∧ Holds w' L { S with rc := 0, acc := wrap64 (S.acc + 1), word := wo } ∧ Keeps B w w' ∧ X w' := by
  have H : Hid (Holds w L S) := h
  have HB : Hid ((∀ k, L.has k → B k) ∧ ∀ W W', Keeps L.has W W' → X W → X W') := ⟨hB, hX⟩
  clear h hB hX
  go_enter_defers Tryz.func178, Tryz.ntmps178
  go_wp2_with fail
  refine (missing_holds2 H.out).mono ?_
  rintro e w' ⟨rfl, rfl⟩
  go_wp2_with fail
  refine (gate_rlock H.out hr).mono ?_
  rintro e w1 ⟨rfl, h1, k1⟩
  have H1 : Hid (Holds w1 L { S with rc := 1 } ∧ Keeps L.has w' w1) := ⟨h1, k1⟩
  clear h1 k1 H
  go_wp2_with fail
  refine (word_ok L { S with rc := 1 } w1 k j H1.out.1 hk hu hj).mono ?_
  rintro e w2 ⟨rfl, rfl⟩
  have H2 : Hid (Holds w1.drew L { S with rc := 1 } ∧ Keeps L.has w' w1.drew) := ⟨H1.out.1.drew, H1.out.2.drew⟩
  clear H1
  go_wp2_with fail
  refine (acc_add H2.out.1).mono ?_
  rintro e w3 ⟨v, rfl, h3, k3⟩
  have H3 : Hid (Holds w3 L { S with rc := 1, acc := wrap64 (S.acc + 1) } ∧ Keeps L.has w' w3) := ⟨h3, H2.out.2.trans k3⟩
  clear h3 k3 H2
  go_wp2_with fail
  refine (HC.out w3 H3.out.1 H3.out.2).mono ?_
  rintro e w4 ⟨rfl, h4, k4, x4⟩
  have H4 : Hid (Holds w4 L { S with rc := 1, acc := wrap64 (S.acc + 1), word := wo } ∧ Keeps B w' w4 ∧ X w4) := ⟨h4, (H3.out.2.mono HB.out.1).trans k4, x4⟩
  clear h4 k4 x4 H3 HC
  go_wp2_with fail
  refine leaves_cons (f := 64) (args := #[.pointer (some ⟨L.b, 3, none⟩)]) (by simp) (by simp [go_sem]) ?_
  refine (gate_runlockD H4.out.1 rfl .returning).mono ?_
  rintro e u' w7 ⟨rfl, rfl, h7, k7⟩
  exact ⟨_, results_tmp rfl _ _ _, rfl, h7, H4.out.2.1.trans (k7.mono HB.out.1), HB.out.2 _ _ k7 H4.out.2.2⟩
theorem access_cas (L : Lay) (S : AS) (w : World) (k j : Nat) (c1 c2 c3 : Value) (wo : Nat → Int) (B : Nat → Prop) (X : World → Prop) (h : Holds w L S) (hr : S.rc = 0) (hk : k < S.n) (hu : S.use k = true) (hj : j < S.wd) (hB : ∀ k, L.has k → B k) (hX : ∀ W W', Keeps L.has W W' → X W → X W')
    (HC : Hid (∀ W, Holds W L { S with rc := 1, acc := wrap64 (S.acc + 1) } → Keeps L.has w W → Calls Tryz.prog 225 #[.pointer (some ⟨L.u, k * S.wd + j, none⟩), c1, c2, c3] W fun e w' => e = .returned (.tuple #[]) ∧ Holds w' L { S with rc := 1, acc := wrap64 (S.acc + 1), word := wo } ∧ Keeps B W w' ∧ X w')) :
    Calls Tryz.prog 178 #[.pointer (some ⟨L.b, 0, none⟩), .int .i64 ((k : Int) + 1), .int .i64 (j : Int), .func (.func 225) #[] #[c1, c2, c3]] w fun e w' => e = .returned (.int .i64 0) ∧ Holds w' L { S with rc := 0, acc := wrap64 (S.acc + 1), word := wo } ∧ Keeps B w w' ∧ X w' := by
  have H : Hid (Holds w L S) := h
  have HB : Hid ((∀ k, L.has k → B k) ∧ ∀ W W', Keeps L.has W W' → X W → X W') := ⟨hB, hX⟩
  clear h hB hX
  go_enter_defers Tryz.func178, Tryz.ntmps178
  go_wp2_with fail
  refine (missing_holds2 H.out).mono ?_
  rintro e w' ⟨rfl, rfl⟩
  go_wp2_with fail
  refine (gate_rlock H.out hr).mono ?_
  rintro e w1 ⟨rfl, h1, k1⟩
  have H1 : Hid (Holds w1 L { S with rc := 1 } ∧ Keeps L.has w' w1) := ⟨h1, k1⟩
  clear h1 k1 H
  go_wp2_with fail
  refine (word_ok L { S with rc := 1 } w1 k j H1.out.1 hk hu hj).mono ?_
  rintro e w2 ⟨rfl, rfl⟩
  have H2 : Hid (Holds w1.drew L { S with rc := 1 } ∧ Keeps L.has w' w1.drew) := ⟨H1.out.1.drew, H1.out.2.drew⟩
  clear H1
  go_wp2_with fail
  refine (acc_add H2.out.1).mono ?_
  rintro e w3 ⟨v, rfl, h3, k3⟩
  have H3 : Hid (Holds w3 L { S with rc := 1, acc := wrap64 (S.acc + 1) } ∧ Keeps L.has w' w3) := ⟨h3, H2.out.2.trans k3⟩
  clear h3 k3 H2
  go_wp2_with fail
  refine (HC.out w3 H3.out.1 H3.out.2).mono ?_
  rintro e w4 ⟨rfl, h4, k4, x4⟩
  have H4 : Hid (Holds w4 L { S with rc := 1, acc := wrap64 (S.acc + 1), word := wo } ∧ Keeps B w' w4 ∧ X w4) := ⟨h4, (H3.out.2.mono HB.out.1).trans k4, x4⟩
  clear h4 k4 x4 H3 HC
  go_wp2_with fail
  refine leaves_cons (f := 64) (args := #[.pointer (some ⟨L.b, 3, none⟩)]) (by simp) (by simp [go_sem]) ?_
  refine (gate_runlockD H4.out.1 rfl .returning).mono ?_
  rintro e u' w7 ⟨rfl, rfl, h7, k7⟩
  exact ⟨_, results_tmp rfl _ _ _, rfl, h7, H4.out.2.1.trans (k7.mono HB.out.1), HB.out.2 _ _ k7 H4.out.2.2⟩
theorem access_load_no (L : Lay) (S : AS) (w : World) (x y : Int) (c1 : Value) (h : Holds w L S) (hr : S.rc = 0) (hx : ¬ S.live x) :
    Calls Tryz.prog 178 #[.pointer (some ⟨L.b, 0, none⟩), .int .i64 x, .int .i64 y, .func (.func 179) #[] #[c1]] w fun e w' => e = .returned (.int .i64 22) ∧ Holds w' L { S with rc := 0, miss := wrap64 (S.miss + 1) } ∧ Keeps L.has w w' := by
  have H : Hid (Holds w L S) := h
  clear h
  go_enter_defers Tryz.func178, Tryz.ntmps178
  go_wp2_with fail
  refine (missing_holds2 H.out).mono ?_
  rintro e w' ⟨rfl, rfl⟩
  go_wp2_with fail
  refine (gate_rlock H.out hr).mono ?_
  rintro e w1 ⟨rfl, h1, k1⟩
  have H1 : Hid (Holds w1 L { S with rc := 1 } ∧ Keeps L.has w' w1) := ⟨h1, k1⟩
  clear h1 k1 H
  go_wp2_with fail
  refine (word_no L { S with rc := 1 } w1 x y H1.out.1 hx).mono ?_
  rintro e w2 ⟨rfl, h2, k2⟩
  have H2 : Hid (Holds w2 L { S with rc := 1, miss := wrap64 (S.miss + 1) } ∧ Keeps L.has w' w2) := ⟨h2, H1.out.2.trans k2⟩
  clear h2 k2 H1
  go_wp2_with fail
  refine leaves_cons (f := 64) (args := #[.pointer (some ⟨L.b, 3, none⟩)]) (by simp) (by simp [go_sem]) ?_
  refine (gate_runlockD H2.out.1 rfl .returning).mono ?_
  rintro e u' w7 ⟨rfl, rfl, h7, k7⟩
  exact ⟨_, results_tmp rfl _ _ _, rfl, h7, H2.out.2.trans k7⟩
theorem access_store_no (L : Lay) (S : AS) (w : World) (x y : Int) (c1 : Value) (h : Holds w L S) (hr : S.rc = 0) (hx : ¬ S.live x) :
    Calls Tryz.prog 178 #[.pointer (some ⟨L.b, 0, none⟩), .int .i64 x, .int .i64 y, .func (.func 222) #[] #[c1]] w fun e w' => e = .returned (.int .i64 22) ∧ Holds w' L { S with rc := 0, miss := wrap64 (S.miss + 1) } ∧ Keeps L.has w w' := by
  have H : Hid (Holds w L S) := h
  clear h
  go_enter_defers Tryz.func178, Tryz.ntmps178
  go_wp2_with fail
  refine (missing_holds2 H.out).mono ?_
  rintro e w' ⟨rfl, rfl⟩
  go_wp2_with fail
  refine (gate_rlock H.out hr).mono ?_
  rintro e w1 ⟨rfl, h1, k1⟩
  have H1 : Hid (Holds w1 L { S with rc := 1 } ∧ Keeps L.has w' w1) := ⟨h1, k1⟩
  clear h1 k1 H
  go_wp2_with fail
  refine (word_no L { S with rc := 1 } w1 x y H1.out.1 hx).mono ?_
  rintro e w2 ⟨rfl, h2, k2⟩
  have H2 : Hid (Holds w2 L { S with rc := 1, miss := wrap64 (S.miss + 1) } ∧ Keeps L.has w' w2) := ⟨h2, H1.out.2.trans k2⟩
  clear h2 k2 H1
  go_wp2_with fail
  refine leaves_cons (f := 64) (args := #[.pointer (some ⟨L.b, 3, none⟩)]) (by simp) (by simp [go_sem]) ?_
  refine (gate_runlockD H2.out.1 rfl .returning).mono ?_
  rintro e u' w7 ⟨rfl, rfl, h7, k7⟩
  exact ⟨_, results_tmp rfl _ _ _, rfl, h7, H2.out.2.trans k7⟩
theorem access_cas_no (L : Lay) (S : AS) (w : World) (x y : Int) (c1 c2 c3 : Value) (h : Holds w L S) (hr : S.rc = 0) (hx : ¬ S.live x) :
    Calls Tryz.prog 178 #[.pointer (some ⟨L.b, 0, none⟩), .int .i64 x, .int .i64 y, .func (.func 225) #[] #[c1, c2, c3]] w fun e w' => e = .returned (.int .i64 22) ∧ Holds w' L { S with rc := 0, miss := wrap64 (S.miss + 1) } ∧ Keeps L.has w w' := by
  have H : Hid (Holds w L S) := h
  clear h
  go_enter_defers Tryz.func178, Tryz.ntmps178
  go_wp2_with fail
  refine (missing_holds2 H.out).mono ?_
  rintro e w' ⟨rfl, rfl⟩
  go_wp2_with fail
  refine (gate_rlock H.out hr).mono ?_
  rintro e w1 ⟨rfl, h1, k1⟩
  have H1 : Hid (Holds w1 L { S with rc := 1 } ∧ Keeps L.has w' w1) := ⟨h1, k1⟩
  clear h1 k1 H
  go_wp2_with fail
  refine (word_no L { S with rc := 1 } w1 x y H1.out.1 hx).mono ?_
  rintro e w2 ⟨rfl, h2, k2⟩
  have H2 : Hid (Holds w2 L { S with rc := 1, miss := wrap64 (S.miss + 1) } ∧ Keeps L.has w' w2) := ⟨h2, H1.out.2.trans k2⟩
  clear h2 k2 H1
  go_wp2_with fail
  refine leaves_cons (f := 64) (args := #[.pointer (some ⟨L.b, 3, none⟩)]) (by simp) (by simp [go_sem]) ?_
  refine (gate_runlockD H2.out.1 rfl .returning).mono ?_
  rintro e u' w7 ⟨rfl, rfl, h7, k7⟩
  exact ⟨_, results_tmp rfl _ _ _, rfl, h7, H2.out.2.trans k7⟩
end Go.Proofs.YteekompojgbkhaaGreat
