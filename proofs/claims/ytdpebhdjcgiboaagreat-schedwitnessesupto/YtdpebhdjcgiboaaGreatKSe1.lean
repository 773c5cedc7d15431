import Derived.Test.YtdpebhdjcgiboaaGreatKSdS
namespace Go.Proofs.YtdpebhdjcgiboaaGreat
set_option linter.unusedSimpArgs false
open Go.ChangeShapes Go.WideShapes Go.ChangeAt Go.RowKit Go.MuLone Go.RwLone
set_option linter.unusedVariables false
set_option maxRecDepth 100000
set_option maxHeartbeats 3200000
theorem access_add (L : Lay) (S : AS) (w : World) (k j : Nat) (c1 c2 : Value) (wo : Nat → Int) (B : Nat → Prop) (X : World → Prop) (h : Holds w L S) (hr : S.rc = 0) (hk : k < S.n) (hu : S.use k = true) (hj : j < S.wd) (hB : ∀ k, L.has k → B k) (hX : ∀ W W', Keeps L.has W W' → X W → X W')
    (HC : Hid (∀ W, Holds W L { S with rc := 1, acc := wrap64 (S.acc + 1) } → Keeps L.has w W → Calls Tryz.prog 185 #[.pointer (some ⟨L.u, k * S.wd + j, none⟩), c1, c2] W fun e w' => e = .returned (.tuple #[]) ∧ Holds w' L { S with rc := 1, acc := wrap64 (S.acc + 1), word := wo } ∧ Keeps B W w' ∧ X w')) :
    Calls Tryz.prog 166 #[.pointer (some ⟨L.b, 0, none⟩), .int .i64 ((k : Int) + 1), .int .i64 (j : Int), .func (.func 185) #[] #[c1, c2]] w fun e w' => e = .returned (.int .i64 0) ∧ Holds w' L { S with rc := 0, acc := wrap64 (S.acc + 1), word := wo } ∧ Keeps B w w' ∧ X w' := by
  have H : Hid (Holds w L S) := h
  have HB : Hid ((∀ k, L.has k → B k) ∧ ∀ W W', Keeps L.has W W' → X W → X W') := ⟨hB, hX⟩
  clear h hB hX
  go_enter_defers Tryz.func166, Tryz.ntmps166
  go_wp2_with fail
  refine (missing_holds H.out).mono ?_
  rintro e w' ⟨rfl, rfl⟩
  go_wp2_with fail
  refine (gate_rlock H.out hr).mono ?_
  rintro e w1 ⟨rfl, h1, k1⟩
  have H1 : Hid (Holds w1 L { S with rc := 1 } ∧ Keeps L.has w' w1) := ⟨h1, k1⟩
  clear h1 k1 H
  go_wp2_with fail
  refine (word_ok L { S with rc := 1 } w1 k j H1.out.1 hk hu hj).mono ?_
  rintro e w2 ⟨rfl, rfl⟩
  have H2 : Hid (Holds w1.drew L { S with rc := 1 } ∧ Keeps L.has w' w1.drew) := ⟨H1.out.1.drew, H1.out.2.drew⟩
  clear H1
  go_wp2_with fail
  refine (acc_add H2.out.1).mono ?_
  rintro e w3 ⟨v, rfl, h3, k3⟩
  have H3 : Hid (Holds w3 L { S with rc := 1, acc := wrap64 (S.acc + 1) } ∧ Keeps L.has w' w3) := ⟨h3, H2.out.2.trans k3⟩
  clear h3 k3 H2
  go_wp2_with fail
  refine (HC.out w3 H3.out.1 H3.out.2).mono ?_
  rintro e w4 ⟨rfl, h4, k4, x4⟩
  have H4 : Hid (Holds w4 L { S with rc := 1, acc := wrap64 (S.acc + 1), word := wo } ∧ Keeps B w' w4 ∧ X w4) := ⟨h4, (H3.out.2.mono HB.out.1).trans k4, x4⟩
  clear h4 k4 x4 H3 HC
  go_wp2_with fail
  refine leaves_cons (f := 106) (args := #[.pointer (some ⟨L.b, 3, none⟩)]) (by simp) (by simp [go_sem]) ?_
  refine (gate_runlockD H4.out.1 rfl .returning).mono ?_
  rintro e u' w7 ⟨rfl, rfl, h7, k7⟩
  exact ⟨_, results_tmp rfl _ _ _, rfl, h7, H4.out.2.1.trans (k7.mono HB.out.1), HB.out.2 _ _ k7 H4.out.2.2⟩
theorem add1_any (a : Addr) (g1 g2 : Nat) (x y : Int) (u : Value) (w : World) (h1 : w.cell? a = some (.int .u64 x)) (z : w.frozen? a = false) (q1 : w.cell? ⟨g1, 0, none⟩ = some (.int .u64 y)) (q2 : w.cell? ⟨g2, 0, none⟩ = some u) (z2 : w.frozen? ⟨g2, 0, none⟩ = false) (ha1 : a.block ≠ g1) (ha : a.block ≠ g2) (hg : g1 ≠ g2) (x0 : 0 ≤ x) (x1 : x < 18446744073709551616) : Calls Tryz.prog 185 #[.pointer (some a), .pointer (some ⟨g1, 0, none⟩), .pointer (some ⟨g2, 0, none⟩)] w fun e w' => e = .returned (.tuple #[]) ∧ w' = ((w.setCell a (.int .u64 (IntKind.u64.wrap (x + y)))).setCell ⟨g2, 0, none⟩ (.int .u64 x)).drew := by
  have q3 : (w.drew.setCell a (.int .u64 (IntKind.u64.wrap (x + y)))).cell? ⟨g1, 0, none⟩ = some (.int .u64 y) := (World.cell?_setCell_other _ _ _ _ (fun e => ha1 (congrArg Addr.block e))).trans q1
  have q4 : (w.drew.setCell a (.int .u64 (IntKind.u64.wrap (x + y)))).cell? ⟨g2, 0, none⟩ = some u := (World.cell?_setCell_other _ _ _ _ (fun e => ha (congrArg Addr.block e))).trans q2
  have z4 : (w.drew.setCell a (.int .u64 (IntKind.u64.wrap (x + y)))).frozen? ⟨g2, 0, none⟩ = false := by simpa using z2
  have q5 : ((w.drew.setCell a (.int .u64 (IntKind.u64.wrap (x + y)))).setCell ⟨g2, 0, none⟩ (.int .u64 x)).cell? ⟨g1, 0, none⟩ = some (.int .u64 y) := (World.cell?_setCell_other _ _ _ _ (fun e => hg (congrArg Addr.block e).symm)).trans q3
  have hw : IntKind.u64.wrap (IntKind.u64.wrap (x + y) - y) = x := by rw [IntKind.wrap_u64, IntKind.wrap_u64]; omega
  have q6 : (w.setCell a (.int .u64 (IntKind.u64.wrap (x + y)))).cell? ⟨g2, 0, none⟩ = some u := q4
  have z6 : (w.setCell a (.int .u64 (IntKind.u64.wrap (x + y)))).frozen? ⟨g2, 0, none⟩ = false := z4
  go_enter Tryz.func185, Tryz.ntmps185
  go_wp2_with fail
  (refine wp_region_held_drew (S := (fun W => W.cell? ⟨g1, 0, none⟩ = some (.int .u64 y))) (by kernel_rfl) q1 (fun hHeld => ?_); simp only [List.size_toArray, List.length_cons, List.length_nil, Nat.reduceAdd, Array.replicate_succ, Array.replicate_zero, List.push_toArray, List.append_toArray, List.nil_append, List.cons_append])
  refine rgT 0 (h := ?_)
  refine rgT 1 (h := ?_)
  refine rgT 3 (h := ?_)
  (refine rgS 2 (h := fun K hK => ?_); go_simp)
  refine (u64_add a x y w.drew h1 z).mono ?_
  rintro e w2 ⟨rfl, rfl⟩
  (refine hK.out _ _ q3 (fun hHeld => ?_); clear hK K; try simp only [Act.put, List.setIfInBounds_toArray, List.set_cons_zero, List.set_cons_succ])
  refine rgT 4 (h := ?_)
  (refine rgS 5 (h := fun K hK => ?_); go_simp)
  (refine hK.out _ _ q5 (fun hHeld => ?_); clear hK K; try simp only [Act.put, List.setIfInBounds_toArray, List.set_cons_zero, List.set_cons_succ])
  refine wpAnyH_done (by kernel_rfl) ?_ _
  exact ⟨rfl, .tuple #[], by simp [results, Tryz.results185], rfl, rfl⟩
abbrev adW (w : World) (y : Int) : World := (w.alloc (.cells #[.int .u64 y] 55)).alloc (.cells #[.int .u64 0] 55)
theorem add_ok (L : Lay) (S : AS) (w : World) (k j : Nat) (y : Int) (wo : Nat → Int) (HW : Hid (wo = upd S.word (k * S.wd + j) (IntKind.u64.wrap (S.word (k * S.wd + j) + y)))) (h : Holds w L S) (hr : S.rc = 0) (hk : k < S.n) (hu : S.use k = true) (hj : j < S.wd) (x0 : 0 ≤ S.word (k * S.wd + j)) (x1 : S.word (k * S.wd + j) < 18446744073709551616) : Calls Tryz.prog 160 #[.pointer (some ⟨L.b, 0, none⟩), .int .i64 ((k : Int) + 1), .int .i64 (j : Int), .int .u64 y] w fun e w' => e = .returned (.tuple #[.int .u64 (S.word (k * S.wd + j)), .int .i64 0]) ∧ Holds w' L { S with rc := 0, acc := wrap64 (S.acc + 1), word := wo } ∧ Keeps L.has w w' := by
  have hN : k * S.wd + S.wd ≤ S.n * S.wd := by rw [← Nat.succ_mul]; exact Nat.mul_le_mul_right _ hk
  have HA : Hid (∀ W, W = adW w y → Calls Tryz.prog 166 #[.pointer (some ⟨L.b, 0, none⟩), .int .i64 ((k : Int) + 1), .int .i64 (j : Int), .func (.func 185) #[] #[.pointer (some ⟨w.heap.size, 0, none⟩), .pointer (some ⟨w.heap.size + 1, 0, none⟩)]] W fun e w' => e = .returned (.int .i64 0) ∧ Hid (Holds w' L { S with rc := 0, acc := wrap64 (S.acc + 1), word := wo } ∧ Keeps L.has w w') ∧ w'.cell? ⟨w.heap.size + 1, 0, none⟩ = some (.int .u64 (S.word (k * S.wd + j)))) := by
    rintro W rfl
    have sz : (adW w y).heap.size = w.heap.size + 2 := by simp
    have e1 : (adW w y).heap[w.heap.size]? = some (.cells #[.int .u64 y] 55) := (Below.heap_alloc _ _ _ (by simp)).trans (heap_alloc_last _ _ _ rfl)
    have e2 : (adW w y).heap[w.heap.size + 1]? = some (.cells #[.int .u64 0] 55) := heap_alloc_last _ _ _ (by simp)
    have n1 := h.notNew (Nat.le_refl _)
    have n2 := h.notNew (g := w.heap.size + 1) (by omega)
    refine (access_add L S _ k j _ _ wo (fun k => L.has k ∨ w.heap.size ≤ k) (fun W => w.heap.size + 1 < W.heap.size ∧ W.cell? ⟨w.heap.size + 1, 0, none⟩ = some (.int .u64 (S.word (k * S.wd + j)))) ((h.alloc _).alloc _) hr hk hu hj (fun k => Or.inl) ?_ ?_).mono ?_
    · rintro W W' hK ⟨x1, x2⟩
      exact ⟨Nat.lt_of_lt_of_le x1 hK.size, (hK.cell (p := ⟨w.heap.size + 1, 0, none⟩) x1 n2).trans x2⟩
    · intro W hW hK
      have hs : w.heap.size + 1 < W.heap.size := Nat.lt_of_lt_of_le (by rw [szAl, szAl]; omega) hK.size
      have q1 : W.cell? ⟨w.heap.size, 0, none⟩ = some (.int .u64 y) := (hK.cell (p := ⟨w.heap.size, 0, none⟩) (by show w.heap.size < _; rw [szAl, szAl]; omega) n1).trans ((cell?_heap e1 0).trans rfl)
      have q2 : W.cell? ⟨w.heap.size + 1, 0, none⟩ = some (.int .u64 0) := (hK.cell (p := ⟨w.heap.size + 1, 0, none⟩) (by show w.heap.size + 1 < _; rw [szAl, szAl]; omega) n2).trans ((cell?_heap e2 0).trans rfl)
      have z2 : W.frozen? ⟨w.heap.size + 1, 0, none⟩ = false := (hK.frozen (p := ⟨w.heap.size + 1, 0, none⟩) (by show w.heap.size + 1 < _; rw [szAl, szAl]; omega) n2).trans (frozen?_heap e2 0)
      have lu : L.u < w.heap.size := h.lu
      refine (add1_any ⟨L.u, k * S.wd + j, none⟩ w.heap.size (w.heap.size + 1) (S.word (k * S.wd + j)) y _ W (hW.wo (k * S.wd + j) (by show _ < S.n * S.wd; omega)) (hW.fz L.u _ (.inr (.inr (.inl rfl)))) q1 q2 z2 (by show L.u ≠ _; omega) (by show L.u ≠ _; omega) (by omega) x0 x1).mono ?_
      rintro e w' ⟨rfl, rfl⟩
      have hs1 := hW.setWord (k * S.wd + j) (IntKind.u64.wrap (S.word (k * S.wd + j) + y))
      have q3 : (W.setCell ⟨L.u, k * S.wd + j, none⟩ (.int .u64 (IntKind.u64.wrap (S.word (k * S.wd + j) + y)))).cell? ⟨w.heap.size + 1, 0, none⟩ = some (.int .u64 0) := (World.cell?_setCell_other _ _ _ _ (fun e => by have := congrArg Addr.block e; simp at this; omega)).trans q2
      refine ⟨rfl, ?_, (((Keeps.refl _ _).setCell (p := ⟨L.u, k * S.wd + j, none⟩) (Or.inl (.inr (.inr (.inl rfl)))) _).setCell (p := ⟨w.heap.size + 1, 0, none⟩) (Or.inr (by show w.heap.size ≤ w.heap.size + 1; omega)) _).drew, ?_, World.cell?_setCell_same _ _ _ q3⟩
      · rw [HW.out]
        exact (hs1.far (p := ⟨w.heap.size + 1, 0, none⟩) n2 _).drew
      · show _ < ((W.setCell _ _).setCell _ _).heap.size
        simpa using hs
    · rintro e w' ⟨rfl, h1, k1, _, x1⟩
      exact ⟨rfl, ⟨h1, (((((Keeps.refl L.has w).alloc _).alloc _).wide w.heap.size).trans k1).fresh⟩, x1⟩
  clear h hN x0 x1
  go_enter Tryz.func160, Tryz.ntmps160
  go_wp2_with fail
  refine (HA.out _ rfl).mono ?_
  rintro e w' ⟨rfl, HR, x1⟩
  clear HA
  go_wp2
  go_ret2
  exact ⟨rfl, HR.out⟩
end Go.Proofs.YtdpebhdjcgiboaaGreat
