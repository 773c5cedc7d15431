import Derived.Test.YtdpebhdjcgiboaaGreatSr1
namespace Go.Proofs.YtdpebhdjcgiboaaGreat
set_option linter.unusedSimpArgs false
open Go.ChangeShapes Go.WideShapes Go.ChangeAt Go.RowKit Go.MuLone Go.RwLone
set_option linter.unusedVariables false
set_option maxRecDepth 100000
set_option maxHeartbeats 3200000
/-- The document's thread at work, its instruction in the box g. -/
structure Rk (w W : World) (R : Rd) (s : Ls) (g : Nat) (x : I8) : Prop where
  p : RP R W s
  bx : ∀ j u, (iV x)[j]? = some u → W.cell? ⟨g, j, none⟩ = some u
  k : Keeps (fRw R) w W
  gl : g < W.heap.size
  ng : ¬ fR R g
theorem Rk.still {w W W' : World} {R : Rd} {s : Ls} {g : Nat} {x : I8} (h : Rk w W R s g x) (k : Keeps (fun _ => False) W W') : Rk w W' R s g x :=
  ⟨h.p.still k, fun j u hu => (k.cell (p := ⟨g, j, none⟩) h.gl (fun e => e)).trans (h.bx j u hu), h.k.trans (k.mono (fun _ e => e.elim)), Nat.lt_of_lt_of_le h.gl k.size, h.ng⟩
theorem Rk.drew {w W : World} {R : Rd} {s : Ls} {g : Nat} {x : I8} (h : Rk w W R s g x) : Rk w W.drew R s g x := h.still (Keeps.refl _ _).drew
theorem Rk.put {w W : World} {R : Rd} {s s' : Ls} {g : Nat} {x : I8} {b j : Nat} {v : Value} (h : Rk w W R s g x) (hb : fRw R b) (p : RP R (W.setCell ⟨b, j, none⟩ v) s') : Rk w (W.setCell ⟨b, j, none⟩ v) R s' g x :=
  ⟨p, fun i u hu => (World.cell?_setCell_other _ _ _ _ (fun e => h.ng (.inl (by have e2 : b = g := congrArg Addr.block e; exact e2 ▸ hb)))).trans (h.bx i u hu), h.k.setCell (p := ⟨b, j, none⟩) hb _, by simpa using h.gl, h.ng⟩
theorem Rk.start {w : World} {R : Rd} {s : Ls} (x : I8) (h : RP R w s) : Rk w (w.alloc (.cells (iV x) 106)) R s w.heap.size x :=
  ⟨h.still ((Keeps.refl _ _).alloc _), fun j u hu => (cell?_heap (heap_alloc_last _ _ _ rfl) j).trans hu, (Keeps.refl _ _).alloc _, by simp, fun e => by have := h.lt _ e; omega⟩
theorem upd_upd {α : Type} (f : Nat → α) (i : Nat) (a b : α) : upd (upd f i a) i b = upd f i b := by
  funext k
  by_cases e : k = i
  · subst e; rw [upd_same, upd_same]
  · rw [upd_other _ _ e, upd_other _ _ e, upd_other _ _ e]
theorem RP.t0' {R : Rd} {w : World} {s : Ls} (h : RP R w s) {i ib m : Nat} (hi : i < R.n) (hia : R.ia i = some ⟨ib, 0, none⟩) (hml : (R.ins i).length = m) : w.cell? ⟨R.tb, i * 3, none⟩ = some (.slice (some ⟨ib, 0, none⟩) m (R.icap i)) := by
  have := h.t0 i hi
  rw [hia, hml] at this
  exact this
theorem RP.t2' {R : Rd} {w : World} {a : Nat → Int} {b : Nat → Nat → Int} {f : Nat → Nat} {i x : Nat} (h : RP R w ⟨a, b, upd f i x⟩) (hi : i < R.n) : w.cell? ⟨R.tb, i * 3 + 2, none⟩ = some (.int .i64 (x : Int)) := by
  have q : w.cell? ⟨R.tb, i * 3 + 2, none⟩ = some (.int .i64 ((upd f i x i : Nat) : Int)) := h.t2 i hi
  rw [upd_same] at q
  exact q
theorem rstep_done (R : Rd) (w : World) (s : Ls) (h : RP R w s) (i : Nat) (hi : i < R.n) (hn4 : R.n ≤ 4) (hp : ¬ s.pl i < (R.ins i).length) (hln : (R.ins i).length ≤ 1000) :
    Calls Tryz.prog 69 #[.pointer (some ⟨R.bk, 0, none⟩), .int .i64 (i : Int)] w fun e w' => e = .returned (.bool true) ∧ Keeps (fun _ => False) w w' := by
  have p1 := h.p1
  have i0 : (0 : Int) ≤ (i : Int) := Int.natCast_nonneg _
  have i1 : (i : Int) < (R.n : Int) := by omega
  have H : Hid (w.cell? ⟨R.tb, i * 3 + 2, none⟩ = some (.int .i64 (s.pl i : Int)) ∧ w.cell? ⟨R.tb, i * 3, none⟩ = some (.slice (R.ia i) (R.ins i).length (R.icap i))) := ⟨h.t2 i hi, h.t0 i hi⟩
  have hge : ((R.ins i).length : Int) ≤ (s.pl i : Int) := by omega
  clear h
  generalize (R.ins i).length = m at *
  generalize s.pl i = pl at *
  go_enter Tryz.func69, Tryz.ntmps69
  go_wp2_with fail
  (refine wp_region_held_drew (S := (fun W => W.cell? ⟨R.tb, i * 3 + 2, none⟩ = some (.int .i64 (pl : Int)) ∧ W.cell? ⟨R.tb, i * 3, none⟩ = some (.slice (R.ia i) m (R.icap i)))) (by kernel_rfl) H.out (fun hHeld => ?_); simp only [List.size_toArray, List.length_cons, List.length_nil, Nat.reduceAdd, Array.replicate_succ, Array.replicate_zero, List.push_toArray, List.append_toArray, List.nil_append, List.cons_append])
  refine rgT 0 (h := ?_)
  refine rgT 1 (h := ?_)
  refine rgT 2 (h := ?_)
  refine rgT 3 (h := ?_)
  refine rgT 4 (h := ?_)
  refine rgT 5 (h := ?_)
  refine rgT 6 (h := ?_)
  refine rgT 7 (h := ?_)
  refine rgT 8 (h := ?_)
  refine rgT 9 (h := ?_)
  refine wpAnyH_done (by kernel_rfl) ?_ _
  go_wp2
  go_ret
  exact ⟨rfl, (Keeps.refl _ _).drew⟩
theorem rstep_1 (R : Rd) (hR : RdOk R) (w : World) (s : Ls) (h : RP R w s) (i : Nat) (hi : i < R.n) (pl m ib : Nat) (c r nr ni orr oi n : Int) (hia : R.ia i = some ⟨ib, 0, none⟩) (hml : (R.ins i).length = m) (h8 : In8 w ib pl 1 c r nr ni orr oi n) (hpl : pl < m) (hm : m ≤ 1000) (hps : s.pl i = pl) (c0 : 0 ≤ c) (c1 : c < (R.wd : Int)) (r0 : 0 ≤ r) (r1 : r < 4) :
    Calls Tryz.prog 69 #[.pointer (some ⟨R.bk, 0, none⟩), .int .i64 (i : Int)] w fun e w' => e = .returned (.bool (decide (m ≤ pl + 1))) ∧ RP R w' ⟨s.wo, upd s.rg i (upd (s.rg i) r.toNat (s.wo c.toNat)), upd s.pl i (pl + 1)⟩ ∧ Keeps (fRw R) w w' := by
  obtain ⟨j, rfl⟩ : ∃ j : Nat, c = (j : Int) := ⟨c.toNat, by omega⟩
  have hj : j < R.wd := by omega
  have ej : ((j : Int)).toNat = j := by omega
  rw [ej]
  have j0 : (0 : Int) ≤ (j : Int) := Int.natCast_nonneg _
  obtain ⟨k, rfl⟩ : ∃ k : Nat, r = (k : Int) := ⟨r.toNat, by omega⟩
  have hk : k < 4 := by omega
  have ek : ((k : Int)).toNat = k := by omega
  rw [ek]
  have hr0 : (0 : Int) ≤ (k : Int) := Int.natCast_nonneg _
  have hr1 : (k : Int) < 4 := by omega
  have p1 := h.p1
  have i0 : (0 : Int) ≤ (i : Int) := Int.natCast_nonneg _
  have i1 : (i : Int) < (R.n : Int) := by omega
  have hp0 : (0 : Int) ≤ (pl : Int) := Int.natCast_nonneg _
  have hp1 : (pl : Int) < (m : Int) := by omega
  have hlt : ¬ (m : Int) ≤ (pl : Int) := by omega
  have ht2 := h.t2 i hi
  rw [hps] at ht2
  have ht0 := h.t0' hi hia hml
  have H : Hid (RP R w s ∧ w.cell? ⟨R.tb, i * 3 + 2, none⟩ = some (.int .i64 (pl : Int)) ∧ w.cell? ⟨R.tb, i * 3, none⟩ = some (.slice (some ⟨ib, 0, none⟩) m (R.icap i))) := ⟨h, ht2, ht0⟩
  have HA : Hid (∀ W, Keeps (fun _ => False) w W → W.cell? ⟨R.tb, i * 3 + 2, none⟩ = some (.int .i64 (pl : Int)) ∧ W.cell? ⟨R.tb, i * 3, none⟩ = some (.slice (some ⟨ib, 0, none⟩) m (R.icap i)) ∧ W.cell? ⟨ib, pl * 8, none⟩ = some (.int .i64 1) ∧ W.cell? ⟨ib, pl * 8 + 1, none⟩ = some (.int .i64 j) ∧ W.cell? ⟨ib, pl * 8 + 2, none⟩ = some (.int .i64 k) ∧ W.cell? ⟨ib, pl * 8 + 3, none⟩ = some (.int .i64 nr) ∧ W.cell? ⟨ib, pl * 8 + 4, none⟩ = some (.int .u64 ni) ∧ W.cell? ⟨ib, pl * 8 + 5, none⟩ = some (.int .i64 orr) ∧ W.cell? ⟨ib, pl * 8 + 6, none⟩ = some (.int .u64 oi) ∧ W.cell? ⟨ib, pl * 8 + 7, none⟩ = some (.int .i64 n)) := fun W k => by
    have q := h8.keeps k (fun e => e)
    exact ⟨((k.cell (p := ⟨R.tb, i * 3 + 2, none⟩) (h.lt _ (.inl (.inl rfl))) (fun e => e))).trans ht2, ((k.cell (p := ⟨R.tb, i * 3, none⟩) (h.lt _ (.inl (.inl rfl))) (fun e => e))).trans ht0, q.c0, q.c1, q.c2, q.c3, q.c4, q.c5, q.c6, q.c7⟩
  have HS : Hid (Rk w (w.alloc (.cells (iV ⟨1, j, k, nr, ni, orr, oi, n⟩) 106)).drew.drew R s w.heap.size ⟨1, j, k, nr, ni, orr, oi, n⟩) := (Rk.start _ h).drew.drew
  clear h ht2 ht0 h8
  go_enter Tryz.func69, Tryz.ntmps69
  go_wp2_with fail
  (refine wp_region_held_drew (S := (fun W => W.cell? ⟨R.tb, i * 3 + 2, none⟩ = some (.int .i64 (pl : Int)) ∧ W.cell? ⟨R.tb, i * 3, none⟩ = some (.slice (some ⟨ib, 0, none⟩) m (R.icap i)))) (by kernel_rfl) ⟨H.out.2.1, H.out.2.2⟩ (fun hHeld => ?_); simp only [List.size_toArray, List.length_cons, List.length_nil, Nat.reduceAdd, Array.replicate_succ, Array.replicate_zero, List.push_toArray, List.append_toArray, List.nil_append, List.cons_append])
  refine rgT 0 (h := ?_)
  refine rgT 1 (h := ?_)
  refine rgT 2 (h := ?_)
  refine rgT 3 (h := ?_)
  refine rgT 4 (h := ?_)
  refine rgT 5 (h := ?_)
  refine rgT 6 (h := ?_)
  refine rgT 7 (h := ?_)
  refine rgT 8 (h := ?_)
  refine rgT 9 (h := ?_)
  refine wpAnyH_done (by kernel_rfl) ?_ _
  go_wp2_with fail
  (refine wp_region_held_drew (S := (fun W => W.cell? ⟨R.tb, i * 3 + 2, none⟩ = some (.int .i64 (pl : Int)) ∧ W.cell? ⟨R.tb, i * 3, none⟩ = some (.slice (some ⟨ib, 0, none⟩) m (R.icap i)) ∧ W.cell? ⟨ib, pl * 8, none⟩ = some (.int .i64 1) ∧ W.cell? ⟨ib, pl * 8 + 1, none⟩ = some (.int .i64 j) ∧ W.cell? ⟨ib, pl * 8 + 2, none⟩ = some (.int .i64 k) ∧ W.cell? ⟨ib, pl * 8 + 3, none⟩ = some (.int .i64 nr) ∧ W.cell? ⟨ib, pl * 8 + 4, none⟩ = some (.int .u64 ni) ∧ W.cell? ⟨ib, pl * 8 + 5, none⟩ = some (.int .i64 orr) ∧ W.cell? ⟨ib, pl * 8 + 6, none⟩ = some (.int .u64 oi) ∧ W.cell? ⟨ib, pl * 8 + 7, none⟩ = some (.int .i64 n))) (by kernel_rfl) (HA.out _ (Keeps.refl _ _).drew.drew) (fun hHeld => ?_); simp only [List.size_toArray, List.length_cons, List.length_nil, Nat.reduceAdd, Array.replicate_succ, Array.replicate_zero, List.push_toArray, List.append_toArray, List.nil_append, List.cons_append])
  refine rgT 0 (h := ?_)
  refine rgT 1 (h := ?_)
  refine rgT 2 (h := ?_)
  refine rgT 3 (h := ?_)
  refine rgT 4 (h := ?_)
  refine rgT 5 (h := ?_)
  refine rgT 6 (h := ?_)
  refine rgT 7 (h := ?_)
  refine rgT 8 (h := ?_)
  refine rgT 9 (h := ?_)
  (refine rgS 10 (h := fun K hK => ?_); go_simp)
  (refine hK.out _ _ (HA.out _ ((Keeps.refl _ _).alloc _).drew.drew) (fun hHeld => ?_); clear hK K; try simp only [Act.put, List.setIfInBounds_toArray, List.set_cons_zero, List.set_cons_succ])
  (refine rgS 11 (h := fun K hK => ?_); go_simp)
  (refine hK.out _ _ (HA.out _ ((Keeps.refl _ _).alloc _).drew.drew) (fun hHeld => ?_); clear hK K; try simp only [Act.put, List.setIfInBounds_toArray, List.set_cons_zero, List.set_cons_succ])
  refine wpAnyH_done (by kernel_rfl) ?_ _
  clear H HA p1 hlt hp0 hp1
  change Hid (Rk w (w.alloc (.cells #[.int .i64 1, .int .i64 j, .int .i64 k, .int .i64 nr, .int .u64 ni, .int .i64 orr, .int .u64 oi, .int .i64 n] 106)).drew.drew R s w.heap.size ⟨1, j, k, nr, ni, orr, oi, n⟩) at HS
  generalize (w.alloc (.cells #[.int .i64 1, .int .i64 j, .int .i64 k, .int .i64 nr, .int .u64 ni, .int .i64 orr, .int .u64 oi, .int .i64 n] 106)).drew.drew = W0 at *
  generalize w.heap.size = g at *
  have t2 := HS.out.p.t2 i hi
  rw [hps] at t2
  have f2 := HS.out.p.fz R.tb (i * 3 + 2) (.inl rfl)
  have b0 := HS.out.bx 0 _ rfl
  have hw1 : (pl : Int) + 1 = ((pl + 1 : Nat) : Int) := by omega
  have H1 : Hid (Rk w (W0.setCell ⟨R.tb, i * 3 + 2, none⟩ (.int .i64 ((pl : Int) + 1))) R ⟨s.wo, s.rg, upd s.pl i (pl + 1)⟩ g ⟨1, j, k, nr, ni, orr, oi, n⟩) := by
    rw [hw1]
    exact HS.out.put (.inl rfl) (HS.out.p.setPl hR i (pl + 1) hi)
  clear hw1
  have nb : (⟨R.tb, i * 3 + 2, none⟩ : Addr) ≠ ⟨g, 0, none⟩ := fun e => HS.out.ng (.inl (.inl (congrArg Addr.block e).symm))
  have b1 := H1.out.bx 0 _ rfl
  go_wp2_with fail
  clear t2 f2 b0 nb b1 HS
  generalize W0.setCell ⟨R.tb, i * 3 + 2, none⟩ (.int .i64 ((pl : Int) + 1)) = W1 at *
  (refine wp_region_held_drew (S := (fun W => W.cell? ⟨R.tb, i * 3 + 1, none⟩ = some (.slice (some ⟨R.rb i, 0, none⟩) 4 4) ∧ W.cell? ⟨R.bk, 0, none⟩ = some (.slice (some ⟨R.cb, 0, none⟩) R.wd R.cc) ∧ W.cell? ⟨g, 1, none⟩ = some (.int .i64 j) ∧ W.cell? ⟨g, 2, none⟩ = some (.int .i64 k) ∧ W.cell? ⟨R.cb, j, none⟩ = some (.int .u64 (s.wo j)))) (by kernel_rfl) ⟨H1.out.p.t1 i hi, H1.out.p.p0, H1.out.bx 1 _ rfl, H1.out.bx 2 _ rfl, H1.out.p.ce j hj⟩ (fun hHeld => ?_); simp only [List.size_toArray, List.length_cons, List.length_nil, Nat.reduceAdd, Array.replicate_succ, Array.replicate_zero, List.push_toArray, List.append_toArray, List.nil_append, List.cons_append])
  refine rgT 0 (h := ?_)
  refine rgT 1 (h := ?_)
  refine rgT 2 (h := ?_)
  refine rgT 3 (h := ?_)
  refine rgT 4 (h := ?_)
  refine rgT 5 (h := ?_)
  refine rgT 6 (h := ?_)
  refine rgT 7 (h := ?_)
  refine rgT 8 (h := ?_)
  refine rgT 9 (h := ?_)
  refine rgT 10 (h := ?_)
  refine rgT 11 (h := ?_)
  refine rgT 12 (h := ?_)
  refine rgT 13 (h := ?_)
  refine rgT 14 (h := ?_)
  have c4 := H1.out.drew.p.rg i k hi hk
  have f4 := H1.out.drew.p.fz (R.rb i) k (.inr (.inr ⟨i, hi, rfl⟩))
  (refine rgS 15 (h := fun K hK => ?_); go_simp)
  have H2 : Hid (Rk w (W1.setCell ⟨R.rb i, k, none⟩ (.int .u64 (s.wo j))).drew R ⟨s.wo, upd s.rg i (upd (s.rg i) k (s.wo j)), upd s.pl i (pl + 1)⟩ g ⟨1, j, k, nr, ni, orr, oi, n⟩) := (H1.out.put (.inr (.inr ⟨i, hi, rfl⟩)) (H1.out.p.setRg hR i k (s.wo j) hi hk)).drew
  clear H1 c4 f4
  (refine hK.out _ _ ⟨H2.out.p.t1 i hi, H2.out.p.p0, H2.out.bx 1 _ rfl, H2.out.bx 2 _ rfl, H2.out.p.ce j hj⟩ (fun hHeld => ?_); clear hK K; try simp only [Act.put, List.setIfInBounds_toArray, List.set_cons_zero, List.set_cons_succ])
  refine wpAnyH_done (by kernel_rfl) ?_ _
  generalize (W1.setCell ⟨R.rb i, k, none⟩ (.int .u64 (s.wo j))).drew = W9 at *
  go_wp2_with fail
  (refine wp_region_held_drew (S := (fun W => W.cell? ⟨R.tb, i * 3 + 2, none⟩ = some (.int .i64 ((pl + 1 : Nat) : Int)) ∧ W.cell? ⟨R.tb, i * 3, none⟩ = some (.slice (some ⟨ib, 0, none⟩) m (R.icap i)))) (by kernel_rfl) ⟨H2.out.p.t2' hi, H2.out.p.t0' hi hia hml⟩ (fun hHeld => ?_); simp only [List.size_toArray, List.length_cons, List.length_nil, Nat.reduceAdd, Array.replicate_succ, Array.replicate_zero, List.push_toArray, List.append_toArray, List.nil_append, List.cons_append])
  refine rgT 0 (h := ?_)
  refine rgT 1 (h := ?_)
  refine rgT 2 (h := ?_)
  refine rgT 3 (h := ?_)
  refine rgT 4 (h := ?_)
  refine rgT 5 (h := ?_)
  refine rgT 6 (h := ?_)
  refine rgT 7 (h := ?_)
  refine rgT 8 (h := ?_)
  refine rgT 9 (h := ?_)
  refine rgT 10 (h := ?_)
  refine wpAnyH_done (by kernel_rfl) ?_ _
  go_wp2
  go_ret
  have e1 : decide ((m : Int) ≤ (((pl + 1 : Nat)) : Int)) = decide (m ≤ pl + 1) := by congr 1; exact propext ⟨fun h => by omega, fun h => by omega⟩
  exact ⟨by simpa using e1, H2.out.drew.p, H2.out.drew.k⟩
theorem rstep_2 (R : Rd) (hR : RdOk R) (w : World) (s : Ls) (h : RP R w s) (i : Nat) (hi : i < R.n) (pl m ib : Nat) (c r nr ni orr oi n : Int) (hia : R.ia i = some ⟨ib, 0, none⟩) (hml : (R.ins i).length = m) (h8 : In8 w ib pl 2 c r nr ni orr oi n) (hpl : pl < m) (hm : m ≤ 1000) (hps : s.pl i = pl) (c0 : 0 ≤ c) (c1 : c < (R.wd : Int)) (hv : nr ≤ 3) :
    Calls Tryz.prog 69 #[.pointer (some ⟨R.bk, 0, none⟩), .int .i64 (i : Int)] w fun e w' => e = .returned (.bool (decide (m ≤ pl + 1))) ∧ RP R w' ⟨upd s.wo c.toNat (valP (s.rg i) nr ni), s.rg, upd s.pl i (pl + 1)⟩ ∧ Keeps (fRw R) w w' := by
  obtain ⟨j, rfl⟩ : ∃ j : Nat, c = (j : Int) := ⟨c.toNat, by omega⟩
  have hj : j < R.wd := by omega
  have ej : ((j : Int)).toNat = j := by omega
  rw [ej]
  have j0 : (0 : Int) ≤ (j : Int) := Int.natCast_nonneg _
  obtain ⟨fr, hfr⟩ : ∃ x, x = valP (s.rg i) nr ni := ⟨_, rfl⟩
  rw [← hfr]
  have Hfr : Hid (fr = valP (s.rg i) nr ni) := hfr
  clear hfr
  have p1 := h.p1
  have i0 : (0 : Int) ≤ (i : Int) := Int.natCast_nonneg _
  have i1 : (i : Int) < (R.n : Int) := by omega
  have hp0 : (0 : Int) ≤ (pl : Int) := Int.natCast_nonneg _
  have hp1 : (pl : Int) < (m : Int) := by omega
  have hlt : ¬ (m : Int) ≤ (pl : Int) := by omega
  have ht2 := h.t2 i hi
  rw [hps] at ht2
  have ht0 := h.t0' hi hia hml
  have H : Hid (RP R w s ∧ w.cell? ⟨R.tb, i * 3 + 2, none⟩ = some (.int .i64 (pl : Int)) ∧ w.cell? ⟨R.tb, i * 3, none⟩ = some (.slice (some ⟨ib, 0, none⟩) m (R.icap i))) := ⟨h, ht2, ht0⟩
  have HA : Hid (∀ W, Keeps (fun _ => False) w W → W.cell? ⟨R.tb, i * 3 + 2, none⟩ = some (.int .i64 (pl : Int)) ∧ W.cell? ⟨R.tb, i * 3, none⟩ = some (.slice (some ⟨ib, 0, none⟩) m (R.icap i)) ∧ W.cell? ⟨ib, pl * 8, none⟩ = some (.int .i64 2) ∧ W.cell? ⟨ib, pl * 8 + 1, none⟩ = some (.int .i64 j) ∧ W.cell? ⟨ib, pl * 8 + 2, none⟩ = some (.int .i64 r) ∧ W.cell? ⟨ib, pl * 8 + 3, none⟩ = some (.int .i64 nr) ∧ W.cell? ⟨ib, pl * 8 + 4, none⟩ = some (.int .u64 ni) ∧ W.cell? ⟨ib, pl * 8 + 5, none⟩ = some (.int .i64 orr) ∧ W.cell? ⟨ib, pl * 8 + 6, none⟩ = some (.int .u64 oi) ∧ W.cell? ⟨ib, pl * 8 + 7, none⟩ = some (.int .i64 n)) := fun W k => by
    have q := h8.keeps k (fun e => e)
    exact ⟨((k.cell (p := ⟨R.tb, i * 3 + 2, none⟩) (h.lt _ (.inl (.inl rfl))) (fun e => e))).trans ht2, ((k.cell (p := ⟨R.tb, i * 3, none⟩) (h.lt _ (.inl (.inl rfl))) (fun e => e))).trans ht0, q.c0, q.c1, q.c2, q.c3, q.c4, q.c5, q.c6, q.c7⟩
  have HS : Hid (Rk w (w.alloc (.cells (iV ⟨2, j, r, nr, ni, orr, oi, n⟩) 106)).drew.drew R s w.heap.size ⟨2, j, r, nr, ni, orr, oi, n⟩) := (Rk.start _ h).drew.drew
  clear h ht2 ht0 h8
  go_enter Tryz.func69, Tryz.ntmps69
  go_wp2_with fail
  (refine wp_region_held_drew (S := (fun W => W.cell? ⟨R.tb, i * 3 + 2, none⟩ = some (.int .i64 (pl : Int)) ∧ W.cell? ⟨R.tb, i * 3, none⟩ = some (.slice (some ⟨ib, 0, none⟩) m (R.icap i)))) (by kernel_rfl) ⟨H.out.2.1, H.out.2.2⟩ (fun hHeld => ?_); simp only [List.size_toArray, List.length_cons, List.length_nil, Nat.reduceAdd, Array.replicate_succ, Array.replicate_zero, List.push_toArray, List.append_toArray, List.nil_append, List.cons_append])
  refine rgT 0 (h := ?_)
  refine rgT 1 (h := ?_)
  refine rgT 2 (h := ?_)
  refine rgT 3 (h := ?_)
  refine rgT 4 (h := ?_)
  refine rgT 5 (h := ?_)
  refine rgT 6 (h := ?_)
  refine rgT 7 (h := ?_)
  refine rgT 8 (h := ?_)
  refine rgT 9 (h := ?_)
  refine wpAnyH_done (by kernel_rfl) ?_ _
  go_wp2_with fail
  (refine wp_region_held_drew (S := (fun W => W.cell? ⟨R.tb, i * 3 + 2, none⟩ = some (.int .i64 (pl : Int)) ∧ W.cell? ⟨R.tb, i * 3, none⟩ = some (.slice (some ⟨ib, 0, none⟩) m (R.icap i)) ∧ W.cell? ⟨ib, pl * 8, none⟩ = some (.int .i64 2) ∧ W.cell? ⟨ib, pl * 8 + 1, none⟩ = some (.int .i64 j) ∧ W.cell? ⟨ib, pl * 8 + 2, none⟩ = some (.int .i64 r) ∧ W.cell? ⟨ib, pl * 8 + 3, none⟩ = some (.int .i64 nr) ∧ W.cell? ⟨ib, pl * 8 + 4, none⟩ = some (.int .u64 ni) ∧ W.cell? ⟨ib, pl * 8 + 5, none⟩ = some (.int .i64 orr) ∧ W.cell? ⟨ib, pl * 8 + 6, none⟩ = some (.int .u64 oi) ∧ W.cell? ⟨ib, pl * 8 + 7, none⟩ = some (.int .i64 n))) (by kernel_rfl) (HA.out _ (Keeps.refl _ _).drew.drew) (fun hHeld => ?_); simp only [List.size_toArray, List.length_cons, List.length_nil, Nat.reduceAdd, Array.replicate_succ, Array.replicate_zero, List.push_toArray, List.append_toArray, List.nil_append, List.cons_append])
  refine rgT 0 (h := ?_)
  refine rgT 1 (h := ?_)
  refine rgT 2 (h := ?_)
  refine rgT 3 (h := ?_)
  refine rgT 4 (h := ?_)
  refine rgT 5 (h := ?_)
  refine rgT 6 (h := ?_)
  refine rgT 7 (h := ?_)
  refine rgT 8 (h := ?_)
  refine rgT 9 (h := ?_)
  (refine rgS 10 (h := fun K hK => ?_); go_simp)
  (refine hK.out _ _ (HA.out _ ((Keeps.refl _ _).alloc _).drew.drew) (fun hHeld => ?_); clear hK K; try simp only [Act.put, List.setIfInBounds_toArray, List.set_cons_zero, List.set_cons_succ])
  (refine rgS 11 (h := fun K hK => ?_); go_simp)
  (refine hK.out _ _ (HA.out _ ((Keeps.refl _ _).alloc _).drew.drew) (fun hHeld => ?_); clear hK K; try simp only [Act.put, List.setIfInBounds_toArray, List.set_cons_zero, List.set_cons_succ])
  refine wpAnyH_done (by kernel_rfl) ?_ _
  clear H HA p1 hlt hp0 hp1
  change Hid (Rk w (w.alloc (.cells #[.int .i64 2, .int .i64 j, .int .i64 r, .int .i64 nr, .int .u64 ni, .int .i64 orr, .int .u64 oi, .int .i64 n] 106)).drew.drew R s w.heap.size ⟨2, j, r, nr, ni, orr, oi, n⟩) at HS
  generalize (w.alloc (.cells #[.int .i64 2, .int .i64 j, .int .i64 r, .int .i64 nr, .int .u64 ni, .int .i64 orr, .int .u64 oi, .int .i64 n] 106)).drew.drew = W0 at *
  generalize w.heap.size = g at *
  have t2 := HS.out.p.t2 i hi
  rw [hps] at t2
  have f2 := HS.out.p.fz R.tb (i * 3 + 2) (.inl rfl)
  have b0 := HS.out.bx 0 _ rfl
  have hw1 : (pl : Int) + 1 = ((pl + 1 : Nat) : Int) := by omega
  have H1 : Hid (Rk w (W0.setCell ⟨R.tb, i * 3 + 2, none⟩ (.int .i64 ((pl : Int) + 1))) R ⟨s.wo, s.rg, upd s.pl i (pl + 1)⟩ g ⟨2, j, r, nr, ni, orr, oi, n⟩) := by
    rw [hw1]
    exact HS.out.put (.inl rfl) (HS.out.p.setPl hR i (pl + 1) hi)
  clear hw1
  have nb : (⟨R.tb, i * 3 + 2, none⟩ : Addr) ≠ ⟨g, 0, none⟩ := fun e => HS.out.ng (.inl (.inl (congrArg Addr.block e).symm))
  have b1 := H1.out.bx 0 _ rfl
  go_wp2_with fail
  clear t2 f2 b0 nb b1 HS
  generalize W0.setCell ⟨R.tb, i * 3 + 2, none⟩ (.int .i64 ((pl : Int) + 1)) = W1 at *
  (refine wp_region_held_drew (S := (fun W => W.cell? ⟨g, 3, none⟩ = some (.int .i64 nr) ∧ W.cell? ⟨g, 4, none⟩ = some (.int .u64 ni) ∧ W.cell? ⟨R.tb, i * 3 + 1, none⟩ = some (.slice (some ⟨R.rb i, 0, none⟩) 4 4))) (by kernel_rfl) ⟨H1.out.bx 3 _ rfl, H1.out.bx 4 _ rfl, H1.out.p.t1 i hi⟩ (fun hHeld => ?_); simp only [List.size_toArray, List.length_cons, List.length_nil, Nat.reduceAdd, Array.replicate_succ, Array.replicate_zero, List.push_toArray, List.append_toArray, List.nil_append, List.cons_append])
  refine rgT 0 (h := ?_)
  refine rgT 1 (h := ?_)
  refine rgT 2 (h := ?_)
  refine rgT 3 (h := ?_)
  refine rgT 4 (h := ?_)
  refine rgT 5 (h := ?_)
  (refine rgS 6 (h := fun K hK => ?_); go_simp)
  refine (rvalue_any W1.drew R ⟨s.wo, s.rg, upd s.pl i (pl + 1)⟩ H1.out.drew.p i hi nr ni hv).mono ?_
  rintro e W2 ⟨he, k2⟩
  have he' : e = .returned (.int .u64 fr) := by rw [Hfr.out]; exact he
  subst he'
  have H2 : Hid (Rk w W2 R ⟨s.wo, s.rg, upd s.pl i (pl + 1)⟩ g ⟨2, j, r, nr, ni, orr, oi, n⟩) := H1.out.drew.still k2
  clear H1 k2 he
  (refine hK.out _ _ ⟨H2.out.bx 3 _ rfl, H2.out.bx 4 _ rfl, H2.out.p.t1 i hi⟩ (fun hHeld => ?_); clear hK K; try simp only [Act.put, List.setIfInBounds_toArray, List.set_cons_zero, List.set_cons_succ])
  refine rgT 7 (h := ?_)
  refine wpAnyH_done (by kernel_rfl) ?_ _
  have q0 := H2.out.bx 0 _ rfl
  go_wp2_with fail
  clear q0
  (refine wp_region_held_drew (S := (fun W => W.cell? ⟨R.bk, 0, none⟩ = some (.slice (some ⟨R.cb, 0, none⟩) R.wd R.cc) ∧ W.cell? ⟨g, 1, none⟩ = some (.int .i64 j))) (by kernel_rfl) ⟨H2.out.p.p0, H2.out.bx 1 _ rfl⟩ (fun hHeld => ?_); simp only [List.size_toArray, List.length_cons, List.length_nil, Nat.reduceAdd, Array.replicate_succ, Array.replicate_zero, List.push_toArray, List.append_toArray, List.nil_append, List.cons_append])
  refine rgT 0 (h := ?_)
  refine rgT 1 (h := ?_)
  refine rgT 2 (h := ?_)
  refine rgT 3 (h := ?_)
  refine rgT 4 (h := ?_)
  refine rgT 5 (h := ?_)
  refine rgT 6 (h := ?_)
  refine rgT 7 (h := ?_)
  have c4 := H2.out.drew.p.ce j hj
  have f4 := H2.out.drew.p.fz R.cb j (.inr (.inl rfl))
  (refine rgS 8 (h := fun K hK => ?_); go_simp)
  have H3 : Hid (Rk w (W2.setCell ⟨R.cb, j, none⟩ (.int .u64 fr)).drew R ⟨upd s.wo j fr, s.rg, upd s.pl i (pl + 1)⟩ g ⟨2, j, r, nr, ni, orr, oi, n⟩) := (H2.out.put (.inr (.inl rfl)) (H2.out.p.setWo hR j fr hj)).drew
  clear H2 c4 f4
  (refine hK.out _ _ ⟨H3.out.p.p0, H3.out.bx 1 _ rfl⟩ (fun hHeld => ?_); clear hK K; try simp only [Act.put, List.setIfInBounds_toArray, List.set_cons_zero, List.set_cons_succ])
  refine wpAnyH_done (by kernel_rfl) ?_ _
  generalize (W2.setCell ⟨R.cb, j, none⟩ (.int .u64 fr)).drew = W3 at *
  go_wp2_with fail
  (refine wp_region_held_drew (S := (fun W => W.cell? ⟨R.tb, i * 3 + 2, none⟩ = some (.int .i64 ((pl + 1 : Nat) : Int)) ∧ W.cell? ⟨R.tb, i * 3, none⟩ = some (.slice (some ⟨ib, 0, none⟩) m (R.icap i)))) (by kernel_rfl) ⟨H3.out.p.t2' hi, H3.out.p.t0' hi hia hml⟩ (fun hHeld => ?_); simp only [List.size_toArray, List.length_cons, List.length_nil, Nat.reduceAdd, Array.replicate_succ, Array.replicate_zero, List.push_toArray, List.append_toArray, List.nil_append, List.cons_append])
  refine rgT 0 (h := ?_)
  refine rgT 1 (h := ?_)
  refine rgT 2 (h := ?_)
  refine rgT 3 (h := ?_)
  refine rgT 4 (h := ?_)
  refine rgT 5 (h := ?_)
  refine rgT 6 (h := ?_)
  refine rgT 7 (h := ?_)
  refine rgT 8 (h := ?_)
  refine rgT 9 (h := ?_)
  refine rgT 10 (h := ?_)
  refine wpAnyH_done (by kernel_rfl) ?_ _
  go_wp2
  go_ret
  have e1 : decide ((m : Int) ≤ (((pl + 1 : Nat)) : Int)) = decide (m ≤ pl + 1) := by congr 1; exact propext ⟨fun h => by omega, fun h => by omega⟩
  exact ⟨by simpa using e1, H3.out.drew.p, H3.out.drew.k⟩
end Go.Proofs.YtdpebhdjcgiboaaGreat

namespace Go.Proofs.YtdpebhdjcgiboaaGreat
set_option linter.unusedSimpArgs false
open Go.ChangeShapes Go.WideShapes Go.ChangeAt Go.RowKit Go.MuLone Go.RwLone
set_option linter.unusedVariables false
set_option maxRecDepth 100000
set_option maxHeartbeats 3200000
theorem rstep_3h (R : Rd) (hR : RdOk R) (w : World) (s : Ls) (h : RP R w s) (i : Nat) (hi : i < R.n) (pl m ib : Nat) (c r nr ni orr oi n : Int) (hia : R.ia i = some ⟨ib, 0, none⟩) (hml : (R.ins i).length = m) (h8 : In8 w ib pl 3 c r nr ni orr oi n) (hpl : pl < m) (hm : m ≤ 1000) (hps : s.pl i = pl) (c0 : 0 ≤ c) (c1 : c < (R.wd : Int)) (r0 : 0 ≤ r) (r1 : r < 4) (hv : nr ≤ 3) (ho : orr ≤ 3) (hq : s.wo c.toNat = valP (s.rg i) orr oi) :
    Calls Tryz.prog 69 #[.pointer (some ⟨R.bk, 0, none⟩), .int .i64 (i : Int)] w fun e w' => e = .returned (.bool (decide (m ≤ pl + 1))) ∧ RP R w' ⟨upd s.wo c.toNat (valP (s.rg i) nr ni), upd s.rg i (upd (s.rg i) r.toNat 1), upd s.pl i (pl + 1)⟩ ∧ Keeps (fRw R) w w' := by
  obtain ⟨j, rfl⟩ : ∃ j : Nat, c = (j : Int) := ⟨c.toNat, by omega⟩
  have hj : j < R.wd := by omega
  have ej : ((j : Int)).toNat = j := by omega
  rw [ej] at hq ⊢
  have j0 : (0 : Int) ≤ (j : Int) := Int.natCast_nonneg _
  obtain ⟨k, rfl⟩ : ∃ k : Nat, r = (k : Int) := ⟨r.toNat, by omega⟩
  have hk : k < 4 := by omega
  have ek : ((k : Int)).toNat = k := by omega
  rw [ek]
  have hr0 : (0 : Int) ≤ (k : Int) := Int.natCast_nonneg _
  have hr1 : (k : Int) < 4 := by omega
  obtain ⟨fr, hfr⟩ : ∃ x, x = valP (s.rg i) nr ni := ⟨_, rfl⟩
  rw [← hfr]
  have Hfr : Hid (fr = valP (s.rg i) nr ni) := hfr
  clear hfr
  obtain ⟨ol, hol⟩ : ∃ x, x = valP (s.rg i) orr oi := ⟨_, rfl⟩
  rw [← hol] at hq
  have Hol : Hid (ol = valP (s.rg i) orr oi) := hol
  clear hol
  have p1 := h.p1
  have i0 : (0 : Int) ≤ (i : Int) := Int.natCast_nonneg _
  have i1 : (i : Int) < (R.n : Int) := by omega
  have hp0 : (0 : Int) ≤ (pl : Int) := Int.natCast_nonneg _
  have hp1 : (pl : Int) < (m : Int) := by omega
  have hlt : ¬ (m : Int) ≤ (pl : Int) := by omega
  have ht2 := h.t2 i hi
  rw [hps] at ht2
  have ht0 := h.t0' hi hia hml
  have H : Hid (RP R w s ∧ w.cell? ⟨R.tb, i * 3 + 2, none⟩ = some (.int .i64 (pl : Int)) ∧ w.cell? ⟨R.tb, i * 3, none⟩ = some (.slice (some ⟨ib, 0, none⟩) m (R.icap i))) := ⟨h, ht2, ht0⟩
  have HA : Hid (∀ W, Keeps (fun _ => False) w W → W.cell? ⟨R.tb, i * 3 + 2, none⟩ = some (.int .i64 (pl : Int)) ∧ W.cell? ⟨R.tb, i * 3, none⟩ = some (.slice (some ⟨ib, 0, none⟩) m (R.icap i)) ∧ W.cell? ⟨ib, pl * 8, none⟩ = some (.int .i64 3) ∧ W.cell? ⟨ib, pl * 8 + 1, none⟩ = some (.int .i64 j) ∧ W.cell? ⟨ib, pl * 8 + 2, none⟩ = some (.int .i64 k) ∧ W.cell? ⟨ib, pl * 8 + 3, none⟩ = some (.int .i64 nr) ∧ W.cell? ⟨ib, pl * 8 + 4, none⟩ = some (.int .u64 ni) ∧ W.cell? ⟨ib, pl * 8 + 5, none⟩ = some (.int .i64 orr) ∧ W.cell? ⟨ib, pl * 8 + 6, none⟩ = some (.int .u64 oi) ∧ W.cell? ⟨ib, pl * 8 + 7, none⟩ = some (.int .i64 n)) := fun W k => by
    have q := h8.keeps k (fun e => e)
    exact ⟨((k.cell (p := ⟨R.tb, i * 3 + 2, none⟩) (h.lt _ (.inl (.inl rfl))) (fun e => e))).trans ht2, ((k.cell (p := ⟨R.tb, i * 3, none⟩) (h.lt _ (.inl (.inl rfl))) (fun e => e))).trans ht0, q.c0, q.c1, q.c2, q.c3, q.c4, q.c5, q.c6, q.c7⟩
  have HS : Hid (Rk w (w.alloc (.cells (iV ⟨3, j, k, nr, ni, orr, oi, n⟩) 106)).drew.drew R s w.heap.size ⟨3, j, k, nr, ni, orr, oi, n⟩) := (Rk.start _ h).drew.drew
  clear h ht2 ht0 h8
  go_enter Tryz.func69, Tryz.ntmps69
  go_wp2_with fail
  (refine wp_region_held_drew (S := (fun W => W.cell? ⟨R.tb, i * 3 + 2, none⟩ = some (.int .i64 (pl : Int)) ∧ W.cell? ⟨R.tb, i * 3, none⟩ = some (.slice (some ⟨ib, 0, none⟩) m (R.icap i)))) (by kernel_rfl) ⟨H.out.2.1, H.out.2.2⟩ (fun hHeld => ?_); simp only [List.size_toArray, List.length_cons, List.length_nil, Nat.reduceAdd, Array.replicate_succ, Array.replicate_zero, List.push_toArray, List.append_toArray, List.nil_append, List.cons_append])
  refine rgT 0 (h := ?_)
  refine rgT 1 (h := ?_)
  refine rgT 2 (h := ?_)
  refine rgT 3 (h := ?_)
  refine rgT 4 (h := ?_)
  refine rgT 5 (h := ?_)
  refine rgT 6 (h := ?_)
  refine rgT 7 (h := ?_)
  refine rgT 8 (h := ?_)
  refine rgT 9 (h := ?_)
  refine wpAnyH_done (by kernel_rfl) ?_ _
  go_wp2_with fail
  (refine wp_region_held_drew (S := (fun W => W.cell? ⟨R.tb, i * 3 + 2, none⟩ = some (.int .i64 (pl : Int)) ∧ W.cell? ⟨R.tb, i * 3, none⟩ = some (.slice (some ⟨ib, 0, none⟩) m (R.icap i)) ∧ W.cell? ⟨ib, pl * 8, none⟩ = some (.int .i64 3) ∧ W.cell? ⟨ib, pl * 8 + 1, none⟩ = some (.int .i64 j) ∧ W.cell? ⟨ib, pl * 8 + 2, none⟩ = some (.int .i64 k) ∧ W.cell? ⟨ib, pl * 8 + 3, none⟩ = some (.int .i64 nr) ∧ W.cell? ⟨ib, pl * 8 + 4, none⟩ = some (.int .u64 ni) ∧ W.cell? ⟨ib, pl * 8 + 5, none⟩ = some (.int .i64 orr) ∧ W.cell? ⟨ib, pl * 8 + 6, none⟩ = some (.int .u64 oi) ∧ W.cell? ⟨ib, pl * 8 + 7, none⟩ = some (.int .i64 n))) (by kernel_rfl) (HA.out _ (Keeps.refl _ _).drew.drew) (fun hHeld => ?_); simp only [List.size_toArray, List.length_cons, List.length_nil, Nat.reduceAdd, Array.replicate_succ, Array.replicate_zero, List.push_toArray, List.append_toArray, List.nil_append, List.cons_append])
  refine rgT 0 (h := ?_)
  refine rgT 1 (h := ?_)
  refine rgT 2 (h := ?_)
  refine rgT 3 (h := ?_)
  refine rgT 4 (h := ?_)
  refine rgT 5 (h := ?_)
  refine rgT 6 (h := ?_)
  refine rgT 7 (h := ?_)
  refine rgT 8 (h := ?_)
  refine rgT 9 (h := ?_)
  (refine rgS 10 (h := fun K hK => ?_); go_simp)
  (refine hK.out _ _ (HA.out _ ((Keeps.refl _ _).alloc _).drew.drew) (fun hHeld => ?_); clear hK K; try simp only [Act.put, List.setIfInBounds_toArray, List.set_cons_zero, List.set_cons_succ])
  (refine rgS 11 (h := fun K hK => ?_); go_simp)
  (refine hK.out _ _ (HA.out _ ((Keeps.refl _ _).alloc _).drew.drew) (fun hHeld => ?_); clear hK K; try simp only [Act.put, List.setIfInBounds_toArray, List.set_cons_zero, List.set_cons_succ])
  refine wpAnyH_done (by kernel_rfl) ?_ _
  clear H HA p1 hlt hp0 hp1
  change Hid (Rk w (w.alloc (.cells #[.int .i64 3, .int .i64 j, .int .i64 k, .int .i64 nr, .int .u64 ni, .int .i64 orr, .int .u64 oi, .int .i64 n] 106)).drew.drew R s w.heap.size ⟨3, j, k, nr, ni, orr, oi, n⟩) at HS
  generalize (w.alloc (.cells #[.int .i64 3, .int .i64 j, .int .i64 k, .int .i64 nr, .int .u64 ni, .int .i64 orr, .int .u64 oi, .int .i64 n] 106)).drew.drew = W0 at *
  generalize w.heap.size = g at *
  have t2 := HS.out.p.t2 i hi
  rw [hps] at t2
  have f2 := HS.out.p.fz R.tb (i * 3 + 2) (.inl rfl)
  have b0 := HS.out.bx 0 _ rfl
  have hw1 : (pl : Int) + 1 = ((pl + 1 : Nat) : Int) := by omega
  have H1 : Hid (Rk w (W0.setCell ⟨R.tb, i * 3 + 2, none⟩ (.int .i64 ((pl : Int) + 1))) R ⟨s.wo, s.rg, upd s.pl i (pl + 1)⟩ g ⟨3, j, k, nr, ni, orr, oi, n⟩) := by
    rw [hw1]
    exact HS.out.put (.inl rfl) (HS.out.p.setPl hR i (pl + 1) hi)
  clear hw1
  have nb : (⟨R.tb, i * 3 + 2, none⟩ : Addr) ≠ ⟨g, 0, none⟩ := fun e => HS.out.ng (.inl (.inl (congrArg Addr.block e).symm))
  have b1 := H1.out.bx 0 _ rfl
  go_wp2_with fail
  clear t2 f2 b0 nb b1 HS
  generalize W0.setCell ⟨R.tb, i * 3 + 2, none⟩ (.int .i64 ((pl : Int) + 1)) = W1 at *
  (refine wp_region_held_drew (S := (fun W => W.cell? ⟨g, 3, none⟩ = some (.int .i64 nr) ∧ W.cell? ⟨g, 4, none⟩ = some (.int .u64 ni) ∧ W.cell? ⟨R.tb, i * 3 + 1, none⟩ = some (.slice (some ⟨R.rb i, 0, none⟩) 4 4))) (by kernel_rfl) ⟨H1.out.bx 3 _ rfl, H1.out.bx 4 _ rfl, H1.out.p.t1 i hi⟩ (fun hHeld => ?_); simp only [List.size_toArray, List.length_cons, List.length_nil, Nat.reduceAdd, Array.replicate_succ, Array.replicate_zero, List.push_toArray, List.append_toArray, List.nil_append, List.cons_append])
  refine rgT 0 (h := ?_)
  refine rgT 1 (h := ?_)
  refine rgT 2 (h := ?_)
  refine rgT 3 (h := ?_)
  refine rgT 4 (h := ?_)
  refine rgT 5 (h := ?_)
  (refine rgS 6 (h := fun K hK => ?_); go_simp)
  refine (rvalue_any W1.drew R ⟨s.wo, s.rg, upd s.pl i (pl + 1)⟩ H1.out.drew.p i hi nr ni hv).mono ?_
  rintro e W2 ⟨he, k2⟩
  have he' : e = .returned (.int .u64 fr) := by rw [Hfr.out]; exact he
  subst he'
  have H2 : Hid (Rk w W2 R ⟨s.wo, s.rg, upd s.pl i (pl + 1)⟩ g ⟨3, j, k, nr, ni, orr, oi, n⟩) := H1.out.drew.still k2
  clear H1 k2 he
  (refine hK.out _ _ ⟨H2.out.bx 3 _ rfl, H2.out.bx 4 _ rfl, H2.out.p.t1 i hi⟩ (fun hHeld => ?_); clear hK K; try simp only [Act.put, List.setIfInBounds_toArray, List.set_cons_zero, List.set_cons_succ])
  refine rgT 7 (h := ?_)
  refine wpAnyH_done (by kernel_rfl) ?_ _
  have q0 := H2.out.bx 0 _ rfl
  go_wp2_with fail
  clear q0
  (refine wp_region_held_drew (S := (fun W => W.cell? ⟨g, 5, none⟩ = some (.int .i64 orr) ∧ W.cell? ⟨g, 6, none⟩ = some (.int .u64 oi) ∧ W.cell? ⟨R.tb, i * 3 + 1, none⟩ = some (.slice (some ⟨R.rb i, 0, none⟩) 4 4))) (by kernel_rfl) ⟨H2.out.bx 5 _ rfl, H2.out.bx 6 _ rfl, H2.out.p.t1 i hi⟩ (fun hHeld => ?_); simp only [List.size_toArray, List.length_cons, List.length_nil, Nat.reduceAdd, Array.replicate_succ, Array.replicate_zero, List.push_toArray, List.append_toArray, List.nil_append, List.cons_append])
  refine rgT 0 (h := ?_)
  refine rgT 1 (h := ?_)
  refine rgT 2 (h := ?_)
  refine rgT 3 (h := ?_)
  refine rgT 4 (h := ?_)
  refine rgT 5 (h := ?_)
  (refine rgS 6 (h := fun K hK => ?_); go_simp)
  refine (rvalue_any W2.drew R ⟨s.wo, s.rg, upd s.pl i (pl + 1)⟩ H2.out.drew.p i hi orr oi ho).mono ?_
  rintro e W3 ⟨he, k2⟩
  have he' : e = .returned (.int .u64 ol) := by rw [Hol.out]; exact he
  subst he'
  have H3 : Hid (Rk w W3 R ⟨s.wo, s.rg, upd s.pl i (pl + 1)⟩ g ⟨3, j, k, nr, ni, orr, oi, n⟩) := H2.out.drew.still k2
  clear H2 k2 he
  (refine hK.out _ _ ⟨H3.out.bx 5 _ rfl, H3.out.bx 6 _ rfl, H3.out.p.t1 i hi⟩ (fun hHeld => ?_); clear hK K; try simp only [Act.put, List.setIfInBounds_toArray, List.set_cons_zero, List.set_cons_succ])
  refine rgT 7 (h := ?_)
  refine wpAnyH_done (by kernel_rfl) ?_ _
  have q0 := H3.out.bx 0 _ rfl
  go_wp2_with fail
  clear q0
  (refine wp_region_held_drew (S := (fun W => W.cell? ⟨R.bk, 0, none⟩ = some (.slice (some ⟨R.cb, 0, none⟩) R.wd R.cc) ∧ W.cell? ⟨g, 1, none⟩ = some (.int .i64 j) ∧ W.cell? ⟨R.cb, j, none⟩ = some (.int .u64 (s.wo j)))) (by kernel_rfl) ⟨H3.out.p.p0, H3.out.bx 1 _ rfl, H3.out.p.ce j hj⟩ (fun hHeld => ?_); simp only [List.size_toArray, List.length_cons, List.length_nil, Nat.reduceAdd, Array.replicate_succ, Array.replicate_zero, List.push_toArray, List.append_toArray, List.nil_append, List.cons_append])
  refine rgT 0 (h := ?_)
  refine rgT 1 (h := ?_)
  refine rgT 2 (h := ?_)
  refine rgT 3 (h := ?_)
  refine rgT 4 (h := ?_)
  refine rgT 5 (h := ?_)
  refine rgT 6 (h := ?_)
  refine rgT 7 (h := ?_)
  refine rgT 8 (h := ?_)
  refine rgT 9 (h := ?_)
  refine wpAnyH_done (by kernel_rfl) ?_ _
  go_wp2_with fail
  have H3d : Hid (Rk w W3.drew R ⟨s.wo, s.rg, upd s.pl i (pl + 1)⟩ g ⟨3, j, k, nr, ni, orr, oi, n⟩) := H3.out.drew
  clear H3
  generalize W3.drew = W4 at *
  (refine wp_region_held_drew (S := (fun W => W.cell? ⟨R.bk, 0, none⟩ = some (.slice (some ⟨R.cb, 0, none⟩) R.wd R.cc) ∧ W.cell? ⟨g, 1, none⟩ = some (.int .i64 j))) (by kernel_rfl) ⟨H3d.out.p.p0, H3d.out.bx 1 _ rfl⟩ (fun hHeld => ?_); simp only [List.size_toArray, List.length_cons, List.length_nil, Nat.reduceAdd, Array.replicate_succ, Array.replicate_zero, List.push_toArray, List.append_toArray, List.nil_append, List.cons_append])
  refine rgT 0 (h := ?_)
  refine rgT 1 (h := ?_)
  refine rgT 2 (h := ?_)
  refine rgT 3 (h := ?_)
  refine rgT 4 (h := ?_)
  refine rgT 5 (h := ?_)
  refine rgT 6 (h := ?_)
  refine rgT 7 (h := ?_)
  have c4 := H3d.out.drew.p.ce j hj
  have f4 := H3d.out.drew.p.fz R.cb j (.inr (.inl rfl))
  (refine rgS 8 (h := fun K hK => ?_); go_simp)
  have H5 : Hid (Rk w (W4.setCell ⟨R.cb, j, none⟩ (.int .u64 fr)).drew R ⟨upd s.wo j fr, s.rg, upd s.pl i (pl + 1)⟩ g ⟨3, j, k, nr, ni, orr, oi, n⟩) := (H3d.out.put (.inr (.inl rfl)) (H3d.out.p.setWo hR j fr hj)).drew
  clear H3d c4 f4
  (refine hK.out _ _ ⟨H5.out.p.p0, H5.out.bx 1 _ rfl⟩ (fun hHeld => ?_); clear hK K; try simp only [Act.put, List.setIfInBounds_toArray, List.set_cons_zero, List.set_cons_succ])
  refine wpAnyH_done (by kernel_rfl) ?_ _
  generalize (W4.setCell ⟨R.cb, j, none⟩ (.int .u64 fr)).drew = W5 at *
  go_wp2_with fail
  (refine wp_region_held_drew (S := (fun W => W.cell? ⟨R.tb, i * 3 + 1, none⟩ = some (.slice (some ⟨R.rb i, 0, none⟩) 4 4) ∧ W.cell? ⟨g, 2, none⟩ = some (.int .i64 k))) (by kernel_rfl) ⟨H5.out.p.t1 i hi, H5.out.bx 2 _ rfl⟩ (fun hHeld => ?_); simp only [List.size_toArray, List.length_cons, List.length_nil, Nat.reduceAdd, Array.replicate_succ, Array.replicate_zero, List.push_toArray, List.append_toArray, List.nil_append, List.cons_append])
  refine rgT 0 (h := ?_)
  refine rgT 1 (h := ?_)
  refine rgT 2 (h := ?_)
  refine rgT 3 (h := ?_)
  refine rgT 4 (h := ?_)
  refine rgT 5 (h := ?_)
  refine rgT 6 (h := ?_)
  have c4 := H5.out.drew.p.rg i k hi hk
  have f4 := H5.out.drew.p.fz (R.rb i) k (.inr (.inr ⟨i, hi, rfl⟩))
  (refine rgS 7 (h := fun K hK => ?_); go_simp)
  have H6 : Hid (Rk w (W5.setCell ⟨R.rb i, k, none⟩ (.int .u64 1)).drew R ⟨upd s.wo j fr, upd s.rg i (upd (s.rg i) k 1), upd s.pl i (pl + 1)⟩ g ⟨3, j, k, nr, ni, orr, oi, n⟩) := (H5.out.put (.inr (.inr ⟨i, hi, rfl⟩)) (H5.out.p.setRg hR i k 1 hi hk)).drew
  clear H5 c4 f4
  (refine hK.out _ _ ⟨H6.out.p.t1 i hi, H6.out.bx 2 _ rfl⟩ (fun hHeld => ?_); clear hK K; try simp only [Act.put, List.setIfInBounds_toArray, List.set_cons_zero, List.set_cons_succ])
  refine wpAnyH_done (by kernel_rfl) ?_ _
  generalize (W5.setCell ⟨R.rb i, k, none⟩ (.int .u64 1)).drew = W6 at *
  go_wp2_with fail
  (refine wp_region_held_drew (S := (fun W => W.cell? ⟨R.tb, i * 3 + 2, none⟩ = some (.int .i64 ((pl + 1 : Nat) : Int)) ∧ W.cell? ⟨R.tb, i * 3, none⟩ = some (.slice (some ⟨ib, 0, none⟩) m (R.icap i)))) (by kernel_rfl) ⟨H6.out.p.t2' hi, H6.out.p.t0' hi hia hml⟩ (fun hHeld => ?_); simp only [List.size_toArray, List.length_cons, List.length_nil, Nat.reduceAdd, Array.replicate_succ, Array.replicate_zero, List.push_toArray, List.append_toArray, List.nil_append, List.cons_append])
  refine rgT 0 (h := ?_)
  refine rgT 1 (h := ?_)
  refine rgT 2 (h := ?_)
  refine rgT 3 (h := ?_)
  refine rgT 4 (h := ?_)
  refine rgT 5 (h := ?_)
  refine rgT 6 (h := ?_)
  refine rgT 7 (h := ?_)
  refine rgT 8 (h := ?_)
  refine rgT 9 (h := ?_)
  refine rgT 10 (h := ?_)
  refine wpAnyH_done (by kernel_rfl) ?_ _
  go_wp2
  go_ret
  have e1 : decide ((m : Int) ≤ (((pl + 1 : Nat)) : Int)) = decide (m ≤ pl + 1) := by congr 1; exact propext ⟨fun h => by omega, fun h => by omega⟩
  exact ⟨by simpa using e1, H6.out.drew.p, H6.out.drew.k⟩
theorem rstep_3m (R : Rd) (hR : RdOk R) (w : World) (s : Ls) (h : RP R w s) (i : Nat) (hi : i < R.n) (pl m ib : Nat) (c r nr ni orr oi n : Int) (hia : R.ia i = some ⟨ib, 0, none⟩) (hml : (R.ins i).length = m) (h8 : In8 w ib pl 3 c r nr ni orr oi n) (hpl : pl < m) (hm : m ≤ 1000) (hps : s.pl i = pl) (c0 : 0 ≤ c) (c1 : c < (R.wd : Int)) (r0 : 0 ≤ r) (r1 : r < 4) (hv : nr ≤ 3) (ho : orr ≤ 3) (hq : ¬ s.wo c.toNat = valP (s.rg i) orr oi) :
    Calls Tryz.prog 69 #[.pointer (some ⟨R.bk, 0, none⟩), .int .i64 (i : Int)] w fun e w' => e = .returned (.bool (decide (m ≤ pl + 1))) ∧ RP R w' ⟨s.wo, upd s.rg i (upd (s.rg i) r.toNat 0), upd s.pl i (pl + 1)⟩ ∧ Keeps (fRw R) w w' := by
  obtain ⟨j, rfl⟩ : ∃ j : Nat, c = (j : Int) := ⟨c.toNat, by omega⟩
  have hj : j < R.wd := by omega
  have ej : ((j : Int)).toNat = j := by omega
  rw [ej] at hq
  have j0 : (0 : Int) ≤ (j : Int) := Int.natCast_nonneg _
  obtain ⟨k, rfl⟩ : ∃ k : Nat, r = (k : Int) := ⟨r.toNat, by omega⟩
  have hk : k < 4 := by omega
  have ek : ((k : Int)).toNat = k := by omega
  rw [ek]
  have hr0 : (0 : Int) ≤ (k : Int) := Int.natCast_nonneg _
  have hr1 : (k : Int) < 4 := by omega
  obtain ⟨fr, hfr⟩ : ∃ x, x = valP (s.rg i) nr ni := ⟨_, rfl⟩
  have Hfr : Hid (fr = valP (s.rg i) nr ni) := hfr
  clear hfr
  obtain ⟨ol, hol⟩ : ∃ x, x = valP (s.rg i) orr oi := ⟨_, rfl⟩
  rw [← hol] at hq
  have Hol : Hid (ol = valP (s.rg i) orr oi) := hol
  clear hol
  have p1 := h.p1
  have i0 : (0 : Int) ≤ (i : Int) := Int.natCast_nonneg _
  have i1 : (i : Int) < (R.n : Int) := by omega
  have hp0 : (0 : Int) ≤ (pl : Int) := Int.natCast_nonneg _
  have hp1 : (pl : Int) < (m : Int) := by omega
  have hlt : ¬ (m : Int) ≤ (pl : Int) := by omega
  have ht2 := h.t2 i hi
  rw [hps] at ht2
  have ht0 := h.t0' hi hia hml
  have H : Hid (RP R w s ∧ w.cell? ⟨R.tb, i * 3 + 2, none⟩ = some (.int .i64 (pl : Int)) ∧ w.cell? ⟨R.tb, i * 3, none⟩ = some (.slice (some ⟨ib, 0, none⟩) m (R.icap i))) := ⟨h, ht2, ht0⟩
  have HA : Hid (∀ W, Keeps (fun _ => False) w W → W.cell? ⟨R.tb, i * 3 + 2, none⟩ = some (.int .i64 (pl : Int)) ∧ W.cell? ⟨R.tb, i * 3, none⟩ = some (.slice (some ⟨ib, 0, none⟩) m (R.icap i)) ∧ W.cell? ⟨ib, pl * 8, none⟩ = some (.int .i64 3) ∧ W.cell? ⟨ib, pl * 8 + 1, none⟩ = some (.int .i64 j) ∧ W.cell? ⟨ib, pl * 8 + 2, none⟩ = some (.int .i64 k) ∧ W.cell? ⟨ib, pl * 8 + 3, none⟩ = some (.int .i64 nr) ∧ W.cell? ⟨ib, pl * 8 + 4, none⟩ = some (.int .u64 ni) ∧ W.cell? ⟨ib, pl * 8 + 5, none⟩ = some (.int .i64 orr) ∧ W.cell? ⟨ib, pl * 8 + 6, none⟩ = some (.int .u64 oi) ∧ W.cell? ⟨ib, pl * 8 + 7, none⟩ = some (.int .i64 n)) := fun W k => by
    have q := h8.keeps k (fun e => e)
    exact ⟨((k.cell (p := ⟨R.tb, i * 3 + 2, none⟩) (h.lt _ (.inl (.inl rfl))) (fun e => e))).trans ht2, ((k.cell (p := ⟨R.tb, i * 3, none⟩) (h.lt _ (.inl (.inl rfl))) (fun e => e))).trans ht0, q.c0, q.c1, q.c2, q.c3, q.c4, q.c5, q.c6, q.c7⟩
  have HS : Hid (Rk w (w.alloc (.cells (iV ⟨3, j, k, nr, ni, orr, oi, n⟩) 106)).drew.drew R s w.heap.size ⟨3, j, k, nr, ni, orr, oi, n⟩) := (Rk.start _ h).drew.drew
  clear h ht2 ht0 h8
  go_enter Tryz.func69, Tryz.ntmps69
  go_wp2_with fail
  (refine wp_region_held_drew (S := (fun W => W.cell? ⟨R.tb, i * 3 + 2, none⟩ = some (.int .i64 (pl : Int)) ∧ W.cell? ⟨R.tb, i * 3, none⟩ = some (.slice (some ⟨ib, 0, none⟩) m (R.icap i)))) (by kernel_rfl) ⟨H.out.2.1, H.out.2.2⟩ (fun hHeld => ?_); simp only [List.size_toArray, List.length_cons, List.length_nil, Nat.reduceAdd, Array.replicate_succ, Array.replicate_zero, List.push_toArray, List.append_toArray, List.nil_append, List.cons_append])
  refine rgT 0 (h := ?_)
  refine rgT 1 (h := ?_)
  refine rgT 2 (h := ?_)
  refine rgT 3 (h := ?_)
  refine rgT 4 (h := ?_)
  refine rgT 5 (h := ?_)
  refine rgT 6 (h := ?_)
  refine rgT 7 (h := ?_)
  refine rgT 8 (h := ?_)
  refine rgT 9 (h := ?_)
  refine wpAnyH_done (by kernel_rfl) ?_ _
  go_wp2_with fail
  (refine wp_region_held_drew (S := (fun W => W.cell? ⟨R.tb, i * 3 + 2, none⟩ = some (.int .i64 (pl : Int)) ∧ W.cell? ⟨R.tb, i * 3, none⟩ = some (.slice (some ⟨ib, 0, none⟩) m (R.icap i)) ∧ W.cell? ⟨ib, pl * 8, none⟩ = some (.int .i64 3) ∧ W.cell? ⟨ib, pl * 8 + 1, none⟩ = some (.int .i64 j) ∧ W.cell? ⟨ib, pl * 8 + 2, none⟩ = some (.int .i64 k) ∧ W.cell? ⟨ib, pl * 8 + 3, none⟩ = some (.int .i64 nr) ∧ W.cell? ⟨ib, pl * 8 + 4, none⟩ = some (.int .u64 ni) ∧ W.cell? ⟨ib, pl * 8 + 5, none⟩ = some (.int .i64 orr) ∧ W.cell? ⟨ib, pl * 8 + 6, none⟩ = some (.int .u64 oi) ∧ W.cell? ⟨ib, pl * 8 + 7, none⟩ = some (.int .i64 n))) (by kernel_rfl) (HA.out _ (Keeps.refl _ _).drew.drew) (fun hHeld => ?_); simp only [List.size_toArray, List.length_cons, List.length_nil, Nat.reduceAdd, Array.replicate_succ, Array.replicate_zero, List.push_toArray, List.append_toArray, List.nil_append, List.cons_append])
  refine rgT 0 (h := ?_)
  refine rgT 1 (h := ?_)
  refine rgT 2 (h := ?_)
  refine rgT 3 (h := ?_)
  refine rgT 4 (h := ?_)
  refine rgT 5 (h := ?_)
  refine rgT 6 (h := ?_)
  refine rgT 7 (h := ?_)
  refine rgT 8 (h := ?_)
  refine rgT 9 (h := ?_)
  (refine rgS 10 (h := fun K hK => ?_); go_simp)
  (refine hK.out _ _ (HA.out _ ((Keeps.refl _ _).alloc _).drew.drew) (fun hHeld => ?_); clear hK K; try simp only [Act.put, List.setIfInBounds_toArray, List.set_cons_zero, List.set_cons_succ])
  (refine rgS 11 (h := fun K hK => ?_); go_simp)
  (refine hK.out _ _ (HA.out _ ((Keeps.refl _ _).alloc _).drew.drew) (fun hHeld => ?_); clear hK K; try simp only [Act.put, List.setIfInBounds_toArray, List.set_cons_zero, List.set_cons_succ])
  refine wpAnyH_done (by kernel_rfl) ?_ _
  clear H HA p1 hlt hp0 hp1
  change Hid (Rk w (w.alloc (.cells #[.int .i64 3, .int .i64 j, .int .i64 k, .int .i64 nr, .int .u64 ni, .int .i64 orr, .int .u64 oi, .int .i64 n] 106)).drew.drew R s w.heap.size ⟨3, j, k, nr, ni, orr, oi, n⟩) at HS
  generalize (w.alloc (.cells #[.int .i64 3, .int .i64 j, .int .i64 k, .int .i64 nr, .int .u64 ni, .int .i64 orr, .int .u64 oi, .int .i64 n] 106)).drew.drew = W0 at *
  generalize w.heap.size = g at *
  have t2 := HS.out.p.t2 i hi
  rw [hps] at t2
  have f2 := HS.out.p.fz R.tb (i * 3 + 2) (.inl rfl)
  have b0 := HS.out.bx 0 _ rfl
  have hw1 : (pl : Int) + 1 = ((pl + 1 : Nat) : Int) := by omega
  have H1 : Hid (Rk w (W0.setCell ⟨R.tb, i * 3 + 2, none⟩ (.int .i64 ((pl : Int) + 1))) R ⟨s.wo, s.rg, upd s.pl i (pl + 1)⟩ g ⟨3, j, k, nr, ni, orr, oi, n⟩) := by
    rw [hw1]
    exact HS.out.put (.inl rfl) (HS.out.p.setPl hR i (pl + 1) hi)
  clear hw1
  have nb : (⟨R.tb, i * 3 + 2, none⟩ : Addr) ≠ ⟨g, 0, none⟩ := fun e => HS.out.ng (.inl (.inl (congrArg Addr.block e).symm))
  have b1 := H1.out.bx 0 _ rfl
  go_wp2_with fail
  clear t2 f2 b0 nb b1 HS
  generalize W0.setCell ⟨R.tb, i * 3 + 2, none⟩ (.int .i64 ((pl : Int) + 1)) = W1 at *
  (refine wp_region_held_drew (S := (fun W => W.cell? ⟨g, 3, none⟩ = some (.int .i64 nr) ∧ W.cell? ⟨g, 4, none⟩ = some (.int .u64 ni) ∧ W.cell? ⟨R.tb, i * 3 + 1, none⟩ = some (.slice (some ⟨R.rb i, 0, none⟩) 4 4))) (by kernel_rfl) ⟨H1.out.bx 3 _ rfl, H1.out.bx 4 _ rfl, H1.out.p.t1 i hi⟩ (fun hHeld => ?_); simp only [List.size_toArray, List.length_cons, List.length_nil, Nat.reduceAdd, Array.replicate_succ, Array.replicate_zero, List.push_toArray, List.append_toArray, List.nil_append, List.cons_append])
  refine rgT 0 (h := ?_)
  refine rgT 1 (h := ?_)
  refine rgT 2 (h := ?_)
  refine rgT 3 (h := ?_)
  refine rgT 4 (h := ?_)
  refine rgT 5 (h := ?_)
  (refine rgS 6 (h := fun K hK => ?_); go_simp)
  refine (rvalue_any W1.drew R ⟨s.wo, s.rg, upd s.pl i (pl + 1)⟩ H1.out.drew.p i hi nr ni hv).mono ?_
  rintro e W2 ⟨he, k2⟩
  have he' : e = .returned (.int .u64 fr) := by rw [Hfr.out]; exact he
  subst he'
  have H2 : Hid (Rk w W2 R ⟨s.wo, s.rg, upd s.pl i (pl + 1)⟩ g ⟨3, j, k, nr, ni, orr, oi, n⟩) := H1.out.drew.still k2
  clear H1 k2 he
  (refine hK.out _ _ ⟨H2.out.bx 3 _ rfl, H2.out.bx 4 _ rfl, H2.out.p.t1 i hi⟩ (fun hHeld => ?_); clear hK K; try simp only [Act.put, List.setIfInBounds_toArray, List.set_cons_zero, List.set_cons_succ])
  refine rgT 7 (h := ?_)
  refine wpAnyH_done (by kernel_rfl) ?_ _
  have q0 := H2.out.bx 0 _ rfl
  go_wp2_with fail
  clear q0
  (refine wp_region_held_drew (S := (fun W => W.cell? ⟨g, 5, none⟩ = some (.int .i64 orr) ∧ W.cell? ⟨g, 6, none⟩ = some (.int .u64 oi) ∧ W.cell? ⟨R.tb, i * 3 + 1, none⟩ = some (.slice (some ⟨R.rb i, 0, none⟩) 4 4))) (by kernel_rfl) ⟨H2.out.bx 5 _ rfl, H2.out.bx 6 _ rfl, H2.out.p.t1 i hi⟩ (fun hHeld => ?_); simp only [List.size_toArray, List.length_cons, List.length_nil, Nat.reduceAdd, Array.replicate_succ, Array.replicate_zero, List.push_toArray, List.append_toArray, List.nil_append, List.cons_append])
  refine rgT 0 (h := ?_)
  refine rgT 1 (h := ?_)
  refine rgT 2 (h := ?_)
  refine rgT 3 (h := ?_)
  refine rgT 4 (h := ?_)
  refine rgT 5 (h := ?_)
  (refine rgS 6 (h := fun K hK => ?_); go_simp)
  refine (rvalue_any W2.drew R ⟨s.wo, s.rg, upd s.pl i (pl + 1)⟩ H2.out.drew.p i hi orr oi ho).mono ?_
  rintro e W3 ⟨he, k2⟩
  have he' : e = .returned (.int .u64 ol) := by rw [Hol.out]; exact he
  subst he'
  have H3 : Hid (Rk w W3 R ⟨s.wo, s.rg, upd s.pl i (pl + 1)⟩ g ⟨3, j, k, nr, ni, orr, oi, n⟩) := H2.out.drew.still k2
  clear H2 k2 he
  (refine hK.out _ _ ⟨H3.out.bx 5 _ rfl, H3.out.bx 6 _ rfl, H3.out.p.t1 i hi⟩ (fun hHeld => ?_); clear hK K; try simp only [Act.put, List.setIfInBounds_toArray, List.set_cons_zero, List.set_cons_succ])
  refine rgT 7 (h := ?_)
  refine wpAnyH_done (by kernel_rfl) ?_ _
  have q0 := H3.out.bx 0 _ rfl
  go_wp2_with fail
  clear q0
  (refine wp_region_held_drew (S := (fun W => W.cell? ⟨R.bk, 0, none⟩ = some (.slice (some ⟨R.cb, 0, none⟩) R.wd R.cc) ∧ W.cell? ⟨g, 1, none⟩ = some (.int .i64 j) ∧ W.cell? ⟨R.cb, j, none⟩ = some (.int .u64 (s.wo j)))) (by kernel_rfl) ⟨H3.out.p.p0, H3.out.bx 1 _ rfl, H3.out.p.ce j hj⟩ (fun hHeld => ?_); simp only [List.size_toArray, List.length_cons, List.length_nil, Nat.reduceAdd, Array.replicate_succ, Array.replicate_zero, List.push_toArray, List.append_toArray, List.nil_append, List.cons_append])
  refine rgT 0 (h := ?_)
  refine rgT 1 (h := ?_)
  refine rgT 2 (h := ?_)
  refine rgT 3 (h := ?_)
  refine rgT 4 (h := ?_)
  refine rgT 5 (h := ?_)
  refine rgT 6 (h := ?_)
  refine rgT 7 (h := ?_)
  refine rgT 8 (h := ?_)
  refine rgT 9 (h := ?_)
  refine wpAnyH_done (by kernel_rfl) ?_ _
  go_wp2_with fail
  have H3d : Hid (Rk w W3.drew R ⟨s.wo, s.rg, upd s.pl i (pl + 1)⟩ g ⟨3, j, k, nr, ni, orr, oi, n⟩) := H3.out.drew
  clear H3
  generalize W3.drew = W4 at *
  (refine wp_region_held_drew (S := (fun W => W.cell? ⟨R.tb, i * 3 + 1, none⟩ = some (.slice (some ⟨R.rb i, 0, none⟩) 4 4) ∧ W.cell? ⟨g, 2, none⟩ = some (.int .i64 k))) (by kernel_rfl) ⟨H3d.out.p.t1 i hi, H3d.out.bx 2 _ rfl⟩ (fun hHeld => ?_); simp only [List.size_toArray, List.length_cons, List.length_nil, Nat.reduceAdd, Array.replicate_succ, Array.replicate_zero, List.push_toArray, List.append_toArray, List.nil_append, List.cons_append])
  refine rgT 0 (h := ?_)
  refine rgT 1 (h := ?_)
  refine rgT 2 (h := ?_)
  refine rgT 3 (h := ?_)
  refine rgT 4 (h := ?_)
  refine rgT 5 (h := ?_)
  refine rgT 6 (h := ?_)
  have c4 := H3d.out.drew.p.rg i k hi hk
  have f4 := H3d.out.drew.p.fz (R.rb i) k (.inr (.inr ⟨i, hi, rfl⟩))
  (refine rgS 7 (h := fun K hK => ?_); go_simp)
  have H6 : Hid (Rk w (W4.setCell ⟨R.rb i, k, none⟩ (.int .u64 0)).drew R ⟨s.wo, upd s.rg i (upd (s.rg i) k 0), upd s.pl i (pl + 1)⟩ g ⟨3, j, k, nr, ni, orr, oi, n⟩) := (H3d.out.put (.inr (.inr ⟨i, hi, rfl⟩)) (H3d.out.p.setRg hR i k 0 hi hk)).drew
  clear H3d c4 f4
  (refine hK.out _ _ ⟨H6.out.p.t1 i hi, H6.out.bx 2 _ rfl⟩ (fun hHeld => ?_); clear hK K; try simp only [Act.put, List.setIfInBounds_toArray, List.set_cons_zero, List.set_cons_succ])
  refine wpAnyH_done (by kernel_rfl) ?_ _
  generalize (W4.setCell ⟨R.rb i, k, none⟩ (.int .u64 0)).drew = W6 at *
  go_wp2_with fail
  (refine wp_region_held_drew (S := (fun W => W.cell? ⟨R.tb, i * 3 + 2, none⟩ = some (.int .i64 ((pl + 1 : Nat) : Int)) ∧ W.cell? ⟨R.tb, i * 3, none⟩ = some (.slice (some ⟨ib, 0, none⟩) m (R.icap i)))) (by kernel_rfl) ⟨H6.out.p.t2' hi, H6.out.p.t0' hi hia hml⟩ (fun hHeld => ?_); simp only [List.size_toArray, List.length_cons, List.length_nil, Nat.reduceAdd, Array.replicate_succ, Array.replicate_zero, List.push_toArray, List.append_toArray, List.nil_append, List.cons_append])
  refine rgT 0 (h := ?_)
  refine rgT 1 (h := ?_)
  refine rgT 2 (h := ?_)
  refine rgT 3 (h := ?_)
  refine rgT 4 (h := ?_)
  refine rgT 5 (h := ?_)
  refine rgT 6 (h := ?_)
  refine rgT 7 (h := ?_)
  refine rgT 8 (h := ?_)
  refine rgT 9 (h := ?_)
  refine rgT 10 (h := ?_)
  refine wpAnyH_done (by kernel_rfl) ?_ _
  go_wp2
  go_ret
  have e1 : decide ((m : Int) ≤ (((pl + 1 : Nat)) : Int)) = decide (m ≤ pl + 1) := by congr 1; exact propext ⟨fun h => by omega, fun h => by omega⟩
  exact ⟨by simpa using e1, H6.out.drew.p, H6.out.drew.k⟩
end Go.Proofs.YtdpebhdjcgiboaaGreat

namespace Go.Proofs.YtdpebhdjcgiboaaGreat
set_option linter.unusedSimpArgs false
open Go.ChangeShapes Go.WideShapes Go.ChangeAt Go.RowKit Go.MuLone Go.RwLone
set_option linter.unusedVariables false
set_option maxRecDepth 100000
set_option maxHeartbeats 3200000
theorem rstep_4 (R : Rd) (hR : RdOk R) (w : World) (s : Ls) (h : RP R w s) (i : Nat) (hi : i < R.n) (pl m ib : Nat) (c r nr ni orr oi n : Int) (hia : R.ia i = some ⟨ib, 0, none⟩) (hml : (R.ins i).length = m) (h8 : In8 w ib pl 4 c r nr ni orr oi n) (hpl : pl < m) (hm : m ≤ 1000) (hps : s.pl i = pl) (c0 : 0 ≤ c) (c1 : c < (R.wd : Int)) (r0 : 0 ≤ r) (r1 : r < 4) (hv : nr ≤ 3) :
    Calls Tryz.prog 69 #[.pointer (some ⟨R.bk, 0, none⟩), .int .i64 (i : Int)] w fun e w' => e = .returned (.bool (decide (m ≤ pl + 1))) ∧ RP R w' ⟨upd s.wo c.toNat ((s.wo c.toNat + valP (s.rg i) nr ni) % 18446744073709551616), upd s.rg i (upd (s.rg i) r.toNat (s.wo c.toNat)), upd s.pl i (pl + 1)⟩ ∧ Keeps (fRw R) w w' := by
  obtain ⟨j, rfl⟩ : ∃ j : Nat, c = (j : Int) := ⟨c.toNat, by omega⟩
  have hj : j < R.wd := by omega
  have ej : ((j : Int)).toNat = j := by omega
  rw [ej]
  have j0 : (0 : Int) ≤ (j : Int) := Int.natCast_nonneg _
  obtain ⟨k, rfl⟩ : ∃ k : Nat, r = (k : Int) := ⟨r.toNat, by omega⟩
  have hk : k < 4 := by omega
  have ek : ((k : Int)).toNat = k := by omega
  rw [ek]
  have hr0 : (0 : Int) ≤ (k : Int) := Int.natCast_nonneg _
  have hr1 : (k : Int) < 4 := by omega
  obtain ⟨fr, hfr⟩ : ∃ x, x = valP (s.rg i) nr ni := ⟨_, rfl⟩
  rw [← hfr]
  have Hfr : Hid (fr = valP (s.rg i) nr ni) := hfr
  clear hfr
  have p1 := h.p1
  have i0 : (0 : Int) ≤ (i : Int) := Int.natCast_nonneg _
  have i1 : (i : Int) < (R.n : Int) := by omega
  have hp0 : (0 : Int) ≤ (pl : Int) := Int.natCast_nonneg _
  have hp1 : (pl : Int) < (m : Int) := by omega
  have hlt : ¬ (m : Int) ≤ (pl : Int) := by omega
  have ht2 := h.t2 i hi
  rw [hps] at ht2
  have ht0 := h.t0' hi hia hml
  have H : Hid (RP R w s ∧ w.cell? ⟨R.tb, i * 3 + 2, none⟩ = some (.int .i64 (pl : Int)) ∧ w.cell? ⟨R.tb, i * 3, none⟩ = some (.slice (some ⟨ib, 0, none⟩) m (R.icap i))) := ⟨h, ht2, ht0⟩
  have HA : Hid (∀ W, Keeps (fun _ => False) w W → W.cell? ⟨R.tb, i * 3 + 2, none⟩ = some (.int .i64 (pl : Int)) ∧ W.cell? ⟨R.tb, i * 3, none⟩ = some (.slice (some ⟨ib, 0, none⟩) m (R.icap i)) ∧ W.cell? ⟨ib, pl * 8, none⟩ = some (.int .i64 4) ∧ W.cell? ⟨ib, pl * 8 + 1, none⟩ = some (.int .i64 j) ∧ W.cell? ⟨ib, pl * 8 + 2, none⟩ = some (.int .i64 k) ∧ W.cell? ⟨ib, pl * 8 + 3, none⟩ = some (.int .i64 nr) ∧ W.cell? ⟨ib, pl * 8 + 4, none⟩ = some (.int .u64 ni) ∧ W.cell? ⟨ib, pl * 8 + 5, none⟩ = some (.int .i64 orr) ∧ W.cell? ⟨ib, pl * 8 + 6, none⟩ = some (.int .u64 oi) ∧ W.cell? ⟨ib, pl * 8 + 7, none⟩ = some (.int .i64 n)) := fun W k => by
    have q := h8.keeps k (fun e => e)
    exact ⟨((k.cell (p := ⟨R.tb, i * 3 + 2, none⟩) (h.lt _ (.inl (.inl rfl))) (fun e => e))).trans ht2, ((k.cell (p := ⟨R.tb, i * 3, none⟩) (h.lt _ (.inl (.inl rfl))) (fun e => e))).trans ht0, q.c0, q.c1, q.c2, q.c3, q.c4, q.c5, q.c6, q.c7⟩
  have HS : Hid (Rk w (w.alloc (.cells (iV ⟨4, j, k, nr, ni, orr, oi, n⟩) 106)).drew.drew R s w.heap.size ⟨4, j, k, nr, ni, orr, oi, n⟩) := (Rk.start _ h).drew.drew
  clear h ht2 ht0 h8
  go_enter Tryz.func69, Tryz.ntmps69
  go_wp2_with fail
  (refine wp_region_held_drew (S := (fun W => W.cell? ⟨R.tb, i * 3 + 2, none⟩ = some (.int .i64 (pl : Int)) ∧ W.cell? ⟨R.tb, i * 3, none⟩ = some (.slice (some ⟨ib, 0, none⟩) m (R.icap i)))) (by kernel_rfl) ⟨H.out.2.1, H.out.2.2⟩ (fun hHeld => ?_); simp only [List.size_toArray, List.length_cons, List.length_nil, Nat.reduceAdd, Array.replicate_succ, Array.replicate_zero, List.push_toArray, List.append_toArray, List.nil_append, List.cons_append])
  refine rgT 0 (h := ?_)
  refine rgT 1 (h := ?_)
  refine rgT 2 (h := ?_)
  refine rgT 3 (h := ?_)
  refine rgT 4 (h := ?_)
  refine rgT 5 (h := ?_)
  refine rgT 6 (h := ?_)
  refine rgT 7 (h := ?_)
  refine rgT 8 (h := ?_)
  refine rgT 9 (h := ?_)
  refine wpAnyH_done (by kernel_rfl) ?_ _
  go_wp2_with fail
  (refine wp_region_held_drew (S := (fun W => W.cell? ⟨R.tb, i * 3 + 2, none⟩ = some (.int .i64 (pl : Int)) ∧ W.cell? ⟨R.tb, i * 3, none⟩ = some (.slice (some ⟨ib, 0, none⟩) m (R.icap i)) ∧ W.cell? ⟨ib, pl * 8, none⟩ = some (.int .i64 4) ∧ W.cell? ⟨ib, pl * 8 + 1, none⟩ = some (.int .i64 j) ∧ W.cell? ⟨ib, pl * 8 + 2, none⟩ = some (.int .i64 k) ∧ W.cell? ⟨ib, pl * 8 + 3, none⟩ = some (.int .i64 nr) ∧ W.cell? ⟨ib, pl * 8 + 4, none⟩ = some (.int .u64 ni) ∧ W.cell? ⟨ib, pl * 8 + 5, none⟩ = some (.int .i64 orr) ∧ W.cell? ⟨ib, pl * 8 + 6, none⟩ = some (.int .u64 oi) ∧ W.cell? ⟨ib, pl * 8 + 7, none⟩ = some (.int .i64 n))) (by kernel_rfl) (HA.out _ (Keeps.refl _ _).drew.drew) (fun hHeld => ?_); simp only [List.size_toArray, List.length_cons, List.length_nil, Nat.reduceAdd, Array.replicate_succ, Array.replicate_zero, List.push_toArray, List.append_toArray, List.nil_append, List.cons_append])
  refine rgT 0 (h := ?_)
  refine rgT 1 (h := ?_)
  refine rgT 2 (h := ?_)
  refine rgT 3 (h := ?_)
  refine rgT 4 (h := ?_)
  refine rgT 5 (h := ?_)
  refine rgT 6 (h := ?_)
  refine rgT 7 (h := ?_)
  refine rgT 8 (h := ?_)
  refine rgT 9 (h := ?_)
  (refine rgS 10 (h := fun K hK => ?_); go_simp)
  (refine hK.out _ _ (HA.out _ ((Keeps.refl _ _).alloc _).drew.drew) (fun hHeld => ?_); clear hK K; try simp only [Act.put, List.setIfInBounds_toArray, List.set_cons_zero, List.set_cons_succ])
  (refine rgS 11 (h := fun K hK => ?_); go_simp)
  (refine hK.out _ _ (HA.out _ ((Keeps.refl _ _).alloc _).drew.drew) (fun hHeld => ?_); clear hK K; try simp only [Act.put, List.setIfInBounds_toArray, List.set_cons_zero, List.set_cons_succ])
  refine wpAnyH_done (by kernel_rfl) ?_ _
  clear H HA p1 hlt hp0 hp1
  change Hid (Rk w (w.alloc (.cells #[.int .i64 4, .int .i64 j, .int .i64 k, .int .i64 nr, .int .u64 ni, .int .i64 orr, .int .u64 oi, .int .i64 n] 106)).drew.drew R s w.heap.size ⟨4, j, k, nr, ni, orr, oi, n⟩) at HS
  generalize (w.alloc (.cells #[.int .i64 4, .int .i64 j, .int .i64 k, .int .i64 nr, .int .u64 ni, .int .i64 orr, .int .u64 oi, .int .i64 n] 106)).drew.drew = W0 at *
  generalize w.heap.size = g at *
  have t2 := HS.out.p.t2 i hi
  rw [hps] at t2
  have f2 := HS.out.p.fz R.tb (i * 3 + 2) (.inl rfl)
  have b0 := HS.out.bx 0 _ rfl
  have hw1 : (pl : Int) + 1 = ((pl + 1 : Nat) : Int) := by omega
  have H1 : Hid (Rk w (W0.setCell ⟨R.tb, i * 3 + 2, none⟩ (.int .i64 ((pl : Int) + 1))) R ⟨s.wo, s.rg, upd s.pl i (pl + 1)⟩ g ⟨4, j, k, nr, ni, orr, oi, n⟩) := by
    rw [hw1]
    exact HS.out.put (.inl rfl) (HS.out.p.setPl hR i (pl + 1) hi)
  clear hw1
  have nb : (⟨R.tb, i * 3 + 2, none⟩ : Addr) ≠ ⟨g, 0, none⟩ := fun e => HS.out.ng (.inl (.inl (congrArg Addr.block e).symm))
  have b1 := H1.out.bx 0 _ rfl
  go_wp2_with fail
  clear t2 f2 b0 nb b1 HS
  generalize W0.setCell ⟨R.tb, i * 3 + 2, none⟩ (.int .i64 ((pl : Int) + 1)) = W1 at *
  (refine wp_region_held_drew (S := (fun W => W.cell? ⟨g, 3, none⟩ = some (.int .i64 nr) ∧ W.cell? ⟨g, 4, none⟩ = some (.int .u64 ni) ∧ W.cell? ⟨R.tb, i * 3 + 1, none⟩ = some (.slice (some ⟨R.rb i, 0, none⟩) 4 4))) (by kernel_rfl) ⟨H1.out.bx 3 _ rfl, H1.out.bx 4 _ rfl, H1.out.p.t1 i hi⟩ (fun hHeld => ?_); simp only [List.size_toArray, List.length_cons, List.length_nil, Nat.reduceAdd, Array.replicate_succ, Array.replicate_zero, List.push_toArray, List.append_toArray, List.nil_append, List.cons_append])
  refine rgT 0 (h := ?_)
  refine rgT 1 (h := ?_)
  refine rgT 2 (h := ?_)
  refine rgT 3 (h := ?_)
  refine rgT 4 (h := ?_)
  refine rgT 5 (h := ?_)
  (refine rgS 6 (h := fun K hK => ?_); go_simp)
  refine (rvalue_any W1.drew R ⟨s.wo, s.rg, upd s.pl i (pl + 1)⟩ H1.out.drew.p i hi nr ni hv).mono ?_
  rintro e W2 ⟨he, k2⟩
  have he' : e = .returned (.int .u64 fr) := by rw [Hfr.out]; exact he
  subst he'
  have H2 : Hid (Rk w W2 R ⟨s.wo, s.rg, upd s.pl i (pl + 1)⟩ g ⟨4, j, k, nr, ni, orr, oi, n⟩) := H1.out.drew.still k2
  clear H1 k2 he
  (refine hK.out _ _ ⟨H2.out.bx 3 _ rfl, H2.out.bx 4 _ rfl, H2.out.p.t1 i hi⟩ (fun hHeld => ?_); clear hK K; try simp only [Act.put, List.setIfInBounds_toArray, List.set_cons_zero, List.set_cons_succ])
  refine rgT 7 (h := ?_)
  refine wpAnyH_done (by kernel_rfl) ?_ _
  have q0 := H2.out.bx 0 _ rfl
  go_wp2_with fail
  clear q0
  (refine wp_region_held_drew (S := (fun W => W.cell? ⟨R.tb, i * 3 + 1, none⟩ = some (.slice (some ⟨R.rb i, 0, none⟩) 4 4) ∧ W.cell? ⟨R.bk, 0, none⟩ = some (.slice (some ⟨R.cb, 0, none⟩) R.wd R.cc) ∧ W.cell? ⟨g, 1, none⟩ = some (.int .i64 j) ∧ W.cell? ⟨g, 2, none⟩ = some (.int .i64 k) ∧ W.cell? ⟨R.cb, j, none⟩ = some (.int .u64 (s.wo j)))) (by kernel_rfl) ⟨H2.out.p.t1 i hi, H2.out.p.p0, H2.out.bx 1 _ rfl, H2.out.bx 2 _ rfl, H2.out.p.ce j hj⟩ (fun hHeld => ?_); simp only [List.size_toArray, List.length_cons, List.length_nil, Nat.reduceAdd, Array.replicate_succ, Array.replicate_zero, List.push_toArray, List.append_toArray, List.nil_append, List.cons_append])
  refine rgT 0 (h := ?_)
  refine rgT 1 (h := ?_)
  refine rgT 2 (h := ?_)
  refine rgT 3 (h := ?_)
  refine rgT 4 (h := ?_)
  refine rgT 5 (h := ?_)
  refine rgT 6 (h := ?_)
  refine rgT 7 (h := ?_)
  refine rgT 8 (h := ?_)
  refine rgT 9 (h := ?_)
  refine rgT 10 (h := ?_)
  refine rgT 11 (h := ?_)
  refine rgT 12 (h := ?_)
  refine rgT 13 (h := ?_)
  refine rgT 14 (h := ?_)
  have c4 := H2.out.drew.p.rg i k hi hk
  have f4 := H2.out.drew.p.fz (R.rb i) k (.inr (.inr ⟨i, hi, rfl⟩))
  (refine rgS 15 (h := fun K hK => ?_); go_simp)
  have H3 : Hid (Rk w (W2.setCell ⟨R.rb i, k, none⟩ (.int .u64 (s.wo j))).drew R ⟨s.wo, upd s.rg i (upd (s.rg i) k (s.wo j)), upd s.pl i (pl + 1)⟩ g ⟨4, j, k, nr, ni, orr, oi, n⟩) := (H2.out.put (.inr (.inr ⟨i, hi, rfl⟩)) (H2.out.p.setRg hR i k (s.wo j) hi hk)).drew
  clear H2 c4 f4
  (refine hK.out _ _ ⟨H3.out.p.t1 i hi, H3.out.p.p0, H3.out.bx 1 _ rfl, H3.out.bx 2 _ rfl, H3.out.p.ce j hj⟩ (fun hHeld => ?_); clear hK K; try simp only [Act.put, List.setIfInBounds_toArray, List.set_cons_zero, List.set_cons_succ])
  refine wpAnyH_done (by kernel_rfl) ?_ _
  generalize (W2.setCell ⟨R.rb i, k, none⟩ (.int .u64 (s.wo j))).drew = W9 at *
  go_wp2_with fail
  (refine wp_region_held_drew (S := (fun W => W.cell? ⟨R.bk, 0, none⟩ = some (.slice (some ⟨R.cb, 0, none⟩) R.wd R.cc) ∧ W.cell? ⟨g, 1, none⟩ = some (.int .i64 j))) (by kernel_rfl) ⟨H3.out.p.p0, H3.out.bx 1 _ rfl⟩ (fun hHeld => ?_); simp only [List.size_toArray, List.length_cons, List.length_nil, Nat.reduceAdd, Array.replicate_succ, Array.replicate_zero, List.push_toArray, List.append_toArray, List.nil_append, List.cons_append])
  refine rgT 0 (h := ?_)
  refine rgT 1 (h := ?_)
  refine rgT 2 (h := ?_)
  refine rgT 3 (h := ?_)
  refine rgT 4 (h := ?_)
  refine rgT 5 (h := ?_)
  refine rgT 6 (h := ?_)
  refine rgT 7 (h := ?_)
  refine rgT 8 (h := ?_)
  refine rgT 9 (h := ?_)
  refine rgT 10 (h := ?_)
  refine rgT 11 (h := ?_)
  refine rgT 12 (h := ?_)
  refine rgT 14 (h := ?_)
  have c4 := H3.out.drew.p.ce j hj
  have f4 := H3.out.drew.p.fz R.cb j (.inr (.inl rfl))
  (refine rgS 13 (h := fun K hK => ?_); go_simp)
  (refine hK.out _ _ ⟨H3.out.drew.p.p0, H3.out.drew.bx 1 _ rfl⟩ (fun hHeld => ?_); clear hK K; try simp only [Act.put, List.setIfInBounds_toArray, List.set_cons_zero, List.set_cons_succ])
  refine rgT 15 (h := ?_)
  refine rgT 16 (h := ?_)
  (refine rgS 17 (h := fun K hK => ?_); go_simp)
  have H4 : Hid (Rk w (W9.setCell ⟨R.cb, j, none⟩ (.int .u64 (IntKind.u64.wrap (s.wo j + fr)))).drew R ⟨upd s.wo j ((s.wo j + fr) % 18446744073709551616), upd s.rg i (upd (s.rg i) k (s.wo j)), upd s.pl i (pl + 1)⟩ g ⟨4, j, k, nr, ni, orr, oi, n⟩) := by
    rw [IntKind.wrap_u64]
    exact (H3.out.put (.inr (.inl rfl)) (H3.out.p.setWo hR j _ hj)).drew
  clear H3 c4 f4
  (refine hK.out _ _ ⟨H4.out.p.p0, H4.out.bx 1 _ rfl⟩ (fun hHeld => ?_); clear hK K; try simp only [Act.put, List.setIfInBounds_toArray, List.set_cons_zero, List.set_cons_succ])
  refine wpAnyH_done (by kernel_rfl) ?_ _
  generalize (W9.setCell ⟨R.cb, j, none⟩ (.int .u64 (IntKind.u64.wrap (s.wo j + fr)))).drew = W4 at *
  go_wp2_with fail
  (refine wp_region_held_drew (S := (fun W => W.cell? ⟨R.tb, i * 3 + 2, none⟩ = some (.int .i64 ((pl + 1 : Nat) : Int)) ∧ W.cell? ⟨R.tb, i * 3, none⟩ = some (.slice (some ⟨ib, 0, none⟩) m (R.icap i)))) (by kernel_rfl) ⟨H4.out.p.t2' hi, H4.out.p.t0' hi hia hml⟩ (fun hHeld => ?_); simp only [List.size_toArray, List.length_cons, List.length_nil, Nat.reduceAdd, Array.replicate_succ, Array.replicate_zero, List.push_toArray, List.append_toArray, List.nil_append, List.cons_append])
  refine rgT 0 (h := ?_)
  refine rgT 1 (h := ?_)
  refine rgT 2 (h := ?_)
  refine rgT 3 (h := ?_)
  refine rgT 4 (h := ?_)
  refine rgT 5 (h := ?_)
  refine rgT 6 (h := ?_)
  refine rgT 7 (h := ?_)
  refine rgT 8 (h := ?_)
  refine rgT 9 (h := ?_)
  refine rgT 10 (h := ?_)
  refine wpAnyH_done (by kernel_rfl) ?_ _
  go_wp2
  go_ret
  have e1 : decide ((m : Int) ≤ (((pl + 1 : Nat)) : Int)) = decide (m ≤ pl + 1) := by congr 1; exact propext ⟨fun h => by omega, fun h => by omega⟩
  exact ⟨by simpa using e1, H4.out.drew.p, H4.out.drew.k⟩
theorem rstep_5h (R : Rd) (hR : RdOk R) (w : World) (s : Ls) (h : RP R w s) (i : Nat) (hi : i < R.n) (pl m ib : Nat) (c r nr ni orr oi n : Int) (hia : R.ia i = some ⟨ib, 0, none⟩) (hml : (R.ins i).length = m) (h8 : In8 w ib pl 5 c r nr ni orr oi n) (hpl : pl < m) (hm : m ≤ 1000) (hps : s.pl i = pl) (r0 : 0 ≤ r) (r1 : r < 4) (hv : nr ≤ 3) (n0 : 1 ≤ n) (n1 : n ≤ 10) (hq : s.rg i r.toNat = valP (s.rg i) nr ni) (pp : Nat) (hpp : Hid (pp = min (pl + (1 + n.toNat)) m)) :
    Calls Tryz.prog 69 #[.pointer (some ⟨R.bk, 0, none⟩), .int .i64 (i : Int)] w fun e w' => e = .returned (.bool (decide (m ≤ pp))) ∧ RP R w' ⟨s.wo, s.rg, upd s.pl i (pp)⟩ ∧ Keeps (fRw R) w w' := by
  obtain ⟨k, rfl⟩ : ∃ k : Nat, r = (k : Int) := ⟨r.toNat, by omega⟩
  have hk : k < 4 := by omega
  have ek : ((k : Int)).toNat = k := by omega
  rw [ek] at hq
  have hr0 : (0 : Int) ≤ (k : Int) := Int.natCast_nonneg _
  have hr1 : (k : Int) < 4 := by omega
  obtain ⟨fr, hfr⟩ : ∃ x, x = valP (s.rg i) nr ni := ⟨_, rfl⟩
  rw [← hfr] at hq
  have Hfr : Hid (fr = valP (s.rg i) nr ni) := hfr
  clear hfr
  have p1 := h.p1
  have i0 : (0 : Int) ≤ (i : Int) := Int.natCast_nonneg _
  have i1 : (i : Int) < (R.n : Int) := by omega
  have hp0 : (0 : Int) ≤ (pl : Int) := Int.natCast_nonneg _
  have hp1 : (pl : Int) < (m : Int) := by omega
  have hlt : ¬ (m : Int) ≤ (pl : Int) := by omega
  have ht2 := h.t2 i hi
  rw [hps] at ht2
  have ht0 := h.t0' hi hia hml
  have H : Hid (RP R w s ∧ w.cell? ⟨R.tb, i * 3 + 2, none⟩ = some (.int .i64 (pl : Int)) ∧ w.cell? ⟨R.tb, i * 3, none⟩ = some (.slice (some ⟨ib, 0, none⟩) m (R.icap i))) := ⟨h, ht2, ht0⟩
  have HA : Hid (∀ W, Keeps (fun _ => False) w W → W.cell? ⟨R.tb, i * 3 + 2, none⟩ = some (.int .i64 (pl : Int)) ∧ W.cell? ⟨R.tb, i * 3, none⟩ = some (.slice (some ⟨ib, 0, none⟩) m (R.icap i)) ∧ W.cell? ⟨ib, pl * 8, none⟩ = some (.int .i64 5) ∧ W.cell? ⟨ib, pl * 8 + 1, none⟩ = some (.int .i64 c) ∧ W.cell? ⟨ib, pl * 8 + 2, none⟩ = some (.int .i64 k) ∧ W.cell? ⟨ib, pl * 8 + 3, none⟩ = some (.int .i64 nr) ∧ W.cell? ⟨ib, pl * 8 + 4, none⟩ = some (.int .u64 ni) ∧ W.cell? ⟨ib, pl * 8 + 5, none⟩ = some (.int .i64 orr) ∧ W.cell? ⟨ib, pl * 8 + 6, none⟩ = some (.int .u64 oi) ∧ W.cell? ⟨ib, pl * 8 + 7, none⟩ = some (.int .i64 n)) := fun W k => by
    have q := h8.keeps k (fun e => e)
    exact ⟨((k.cell (p := ⟨R.tb, i * 3 + 2, none⟩) (h.lt _ (.inl (.inl rfl))) (fun e => e))).trans ht2, ((k.cell (p := ⟨R.tb, i * 3, none⟩) (h.lt _ (.inl (.inl rfl))) (fun e => e))).trans ht0, q.c0, q.c1, q.c2, q.c3, q.c4, q.c5, q.c6, q.c7⟩
  have HS : Hid (Rk w (w.alloc (.cells (iV ⟨5, c, k, nr, ni, orr, oi, n⟩) 106)).drew.drew R s w.heap.size ⟨5, c, k, nr, ni, orr, oi, n⟩) := (Rk.start _ h).drew.drew
  clear h ht2 ht0 h8
  go_enter Tryz.func69, Tryz.ntmps69
  go_wp2_with fail
  (refine wp_region_held_drew (S := (fun W => W.cell? ⟨R.tb, i * 3 + 2, none⟩ = some (.int .i64 (pl : Int)) ∧ W.cell? ⟨R.tb, i * 3, none⟩ = some (.slice (some ⟨ib, 0, none⟩) m (R.icap i)))) (by kernel_rfl) ⟨H.out.2.1, H.out.2.2⟩ (fun hHeld => ?_); simp only [List.size_toArray, List.length_cons, List.length_nil, Nat.reduceAdd, Array.replicate_succ, Array.replicate_zero, List.push_toArray, List.append_toArray, List.nil_append, List.cons_append])
  refine rgT 0 (h := ?_)
  refine rgT 1 (h := ?_)
  refine rgT 2 (h := ?_)
  refine rgT 3 (h := ?_)
  refine rgT 4 (h := ?_)
  refine rgT 5 (h := ?_)
  refine rgT 6 (h := ?_)
  refine rgT 7 (h := ?_)
  refine rgT 8 (h := ?_)
  refine rgT 9 (h := ?_)
  refine wpAnyH_done (by kernel_rfl) ?_ _
  go_wp2_with fail
  (refine wp_region_held_drew (S := (fun W => W.cell? ⟨R.tb, i * 3 + 2, none⟩ = some (.int .i64 (pl : Int)) ∧ W.cell? ⟨R.tb, i * 3, none⟩ = some (.slice (some ⟨ib, 0, none⟩) m (R.icap i)) ∧ W.cell? ⟨ib, pl * 8, none⟩ = some (.int .i64 5) ∧ W.cell? ⟨ib, pl * 8 + 1, none⟩ = some (.int .i64 c) ∧ W.cell? ⟨ib, pl * 8 + 2, none⟩ = some (.int .i64 k) ∧ W.cell? ⟨ib, pl * 8 + 3, none⟩ = some (.int .i64 nr) ∧ W.cell? ⟨ib, pl * 8 + 4, none⟩ = some (.int .u64 ni) ∧ W.cell? ⟨ib, pl * 8 + 5, none⟩ = some (.int .i64 orr) ∧ W.cell? ⟨ib, pl * 8 + 6, none⟩ = some (.int .u64 oi) ∧ W.cell? ⟨ib, pl * 8 + 7, none⟩ = some (.int .i64 n))) (by kernel_rfl) (HA.out _ (Keeps.refl _ _).drew.drew) (fun hHeld => ?_); simp only [List.size_toArray, List.length_cons, List.length_nil, Nat.reduceAdd, Array.replicate_succ, Array.replicate_zero, List.push_toArray, List.append_toArray, List.nil_append, List.cons_append])
  refine rgT 0 (h := ?_)
  refine rgT 1 (h := ?_)
  refine rgT 2 (h := ?_)
  refine rgT 3 (h := ?_)
  refine rgT 4 (h := ?_)
  refine rgT 5 (h := ?_)
  refine rgT 6 (h := ?_)
  refine rgT 7 (h := ?_)
  refine rgT 8 (h := ?_)
  refine rgT 9 (h := ?_)
  (refine rgS 10 (h := fun K hK => ?_); go_simp)
  (refine hK.out _ _ (HA.out _ ((Keeps.refl _ _).alloc _).drew.drew) (fun hHeld => ?_); clear hK K; try simp only [Act.put, List.setIfInBounds_toArray, List.set_cons_zero, List.set_cons_succ])
  (refine rgS 11 (h := fun K hK => ?_); go_simp)
  (refine hK.out _ _ (HA.out _ ((Keeps.refl _ _).alloc _).drew.drew) (fun hHeld => ?_); clear hK K; try simp only [Act.put, List.setIfInBounds_toArray, List.set_cons_zero, List.set_cons_succ])
  refine wpAnyH_done (by kernel_rfl) ?_ _
  clear H HA p1 hlt hp0 hp1
  change Hid (Rk w (w.alloc (.cells #[.int .i64 5, .int .i64 c, .int .i64 k, .int .i64 nr, .int .u64 ni, .int .i64 orr, .int .u64 oi, .int .i64 n] 106)).drew.drew R s w.heap.size ⟨5, c, k, nr, ni, orr, oi, n⟩) at HS
  generalize (w.alloc (.cells #[.int .i64 5, .int .i64 c, .int .i64 k, .int .i64 nr, .int .u64 ni, .int .i64 orr, .int .u64 oi, .int .i64 n] 106)).drew.drew = W0 at *
  generalize w.heap.size = g at *
  have t2 := HS.out.p.t2 i hi
  rw [hps] at t2
  have f2 := HS.out.p.fz R.tb (i * 3 + 2) (.inl rfl)
  have b0 := HS.out.bx 0 _ rfl
  have hw1 : (pl : Int) + 1 = ((pl + 1 : Nat) : Int) := by omega
  have H1 : Hid (Rk w (W0.setCell ⟨R.tb, i * 3 + 2, none⟩ (.int .i64 ((pl : Int) + 1))) R ⟨s.wo, s.rg, upd s.pl i (pl + 1)⟩ g ⟨5, c, k, nr, ni, orr, oi, n⟩) := by
    rw [hw1]
    exact HS.out.put (.inl rfl) (HS.out.p.setPl hR i (pl + 1) hi)
  clear hw1
  have nb : (⟨R.tb, i * 3 + 2, none⟩ : Addr) ≠ ⟨g, 0, none⟩ := fun e => HS.out.ng (.inl (.inl (congrArg Addr.block e).symm))
  have b1 := H1.out.bx 0 _ rfl
  go_wp2_with fail
  clear t2 f2 b0 nb b1 HS
  generalize W0.setCell ⟨R.tb, i * 3 + 2, none⟩ (.int .i64 ((pl : Int) + 1)) = W1 at *
  (refine wp_region_held_drew (S := (fun W => W.cell? ⟨g, 3, none⟩ = some (.int .i64 nr) ∧ W.cell? ⟨g, 4, none⟩ = some (.int .u64 ni) ∧ W.cell? ⟨R.tb, i * 3 + 1, none⟩ = some (.slice (some ⟨R.rb i, 0, none⟩) 4 4))) (by kernel_rfl) ⟨H1.out.bx 3 _ rfl, H1.out.bx 4 _ rfl, H1.out.p.t1 i hi⟩ (fun hHeld => ?_); simp only [List.size_toArray, List.length_cons, List.length_nil, Nat.reduceAdd, Array.replicate_succ, Array.replicate_zero, List.push_toArray, List.append_toArray, List.nil_append, List.cons_append])
  refine rgT 0 (h := ?_)
  refine rgT 1 (h := ?_)
  refine rgT 2 (h := ?_)
  refine rgT 3 (h := ?_)
  refine rgT 4 (h := ?_)
  refine rgT 5 (h := ?_)
  (refine rgS 6 (h := fun K hK => ?_); go_simp)
  refine (rvalue_any W1.drew R ⟨s.wo, s.rg, upd s.pl i (pl + 1)⟩ H1.out.drew.p i hi nr ni hv).mono ?_
  rintro e W2 ⟨he, k2⟩
  have he' : e = .returned (.int .u64 fr) := by rw [Hfr.out]; exact he
  subst he'
  have H2 : Hid (Rk w W2 R ⟨s.wo, s.rg, upd s.pl i (pl + 1)⟩ g ⟨5, c, k, nr, ni, orr, oi, n⟩) := H1.out.drew.still k2
  clear H1 k2 he
  (refine hK.out _ _ ⟨H2.out.bx 3 _ rfl, H2.out.bx 4 _ rfl, H2.out.p.t1 i hi⟩ (fun hHeld => ?_); clear hK K; try simp only [Act.put, List.setIfInBounds_toArray, List.set_cons_zero, List.set_cons_succ])
  refine rgT 7 (h := ?_)
  refine wpAnyH_done (by kernel_rfl) ?_ _
  have q0 := H2.out.bx 0 _ rfl
  go_wp2_with fail
  clear q0
  (refine wp_region_held_drew (S := (fun W => W.cell? ⟨R.tb, i * 3 + 1, none⟩ = some (.slice (some ⟨R.rb i, 0, none⟩) 4 4) ∧ W.cell? ⟨g, 2, none⟩ = some (.int .i64 k) ∧ W.cell? ⟨R.rb i, k, none⟩ = some (.int .u64 (s.rg i k)))) (by kernel_rfl) ⟨H2.out.p.t1 i hi, H2.out.bx 2 _ rfl, H2.out.p.rg i k hi hk⟩ (fun hHeld => ?_); simp only [List.size_toArray, List.length_cons, List.length_nil, Nat.reduceAdd, Array.replicate_succ, Array.replicate_zero, List.push_toArray, List.append_toArray, List.nil_append, List.cons_append])
  refine rgT 0 (h := ?_)
  refine rgT 1 (h := ?_)
  refine rgT 2 (h := ?_)
  refine rgT 3 (h := ?_)
  refine rgT 4 (h := ?_)
  refine rgT 5 (h := ?_)
  refine rgT 6 (h := ?_)
  refine rgT 7 (h := ?_)
  refine rgT 8 (h := ?_)
  refine rgT 9 (h := ?_)
  refine wpAnyH_done (by kernel_rfl) ?_ _
  go_wp2_with fail
  have H3 : Hid (Rk w W2.drew R ⟨s.wo, s.rg, upd s.pl i (pl + 1)⟩ g ⟨5, c, k, nr, ni, orr, oi, n⟩) := H2.out.drew
  clear H2
  generalize W2.drew = W3 at *
  (refine wp_region_held_drew (S := (fun W => W.cell? ⟨g, 7, none⟩ = some (.int .i64 n) ∧ W.cell? ⟨R.tb, i * 3, none⟩ = some (.slice (some ⟨ib, 0, none⟩) m (R.icap i)))) (by kernel_rfl) ⟨H3.out.bx 7 _ rfl, H3.out.p.t0' hi hia hml⟩ (fun hHeld => ?_); simp only [List.size_toArray, List.length_cons, List.length_nil, Nat.reduceAdd, Array.replicate_succ, Array.replicate_zero, List.push_toArray, List.append_toArray, List.nil_append, List.cons_append])
  refine rgT 0 (h := ?_)
  refine rgT 1 (h := ?_)
  refine rgT 2 (h := ?_)
  refine rgT 3 (h := ?_)
  refine rgT 5 (h := ?_)
  refine rgT 6 (h := ?_)
  refine rgT 8 (h := ?_)
  refine rgT 9 (h := ?_)
  refine rgT 10 (h := ?_)
  refine rgT 11 (h := ?_)
  refine rgT 12 (h := ?_)
  have c4 := H3.out.drew.p.t2' hi
  have f4 := H3.out.drew.p.fz R.tb (i * 3 + 2) (.inl rfl)
  (refine rgS 4 (h := fun K hK => ?_); go_simp)
  (refine hK.out _ _ ⟨H3.out.drew.bx 7 _ rfl, H3.out.drew.p.t0' hi hia hml⟩ (fun hHeld => ?_); clear hK K; try simp only [Act.put, List.setIfInBounds_toArray, List.set_cons_zero, List.set_cons_succ])
  refine rgT 7 (h := ?_)
  refine rgT 13 (h := ?_)
  refine rgT 14 (h := ?_)
  refine rgT 15 (h := ?_)
  have hx : (if (m : Int) < IntKind.i64.wrap ((pl : Int) + 1 + n) then (m : Int) else IntKind.i64.wrap ((pl : Int) + 1 + n)) = (pp : Int) := by
    have e := hpp.out
    rw [IntKind.wrap_i64]
    split <;> omega
  have H4 : Hid (Rk w (W3.setCell ⟨R.tb, i * 3 + 2, none⟩ (.int .i64 (if (m : Int) < IntKind.i64.wrap ((pl : Int) + 1 + n) then (m : Int) else IntKind.i64.wrap ((pl : Int) + 1 + n)))).drew R ⟨s.wo, s.rg, upd s.pl i (pp)⟩ g ⟨5, c, k, nr, ni, orr, oi, n⟩) := by
    rw [hx]
    have q := H3.out.p.setPl hR i pp hi
    have eu : upd (upd s.pl i (pl + 1)) i pp = upd s.pl i pp := upd_upd _ _ _ _
    dsimp only at q
    rw [eu] at q
    exact (H3.out.put (.inl rfl) q).drew
  clear hx
  (refine rgS 16 (h := fun K hK => ?_); go_simp)
  clear H3 c4 f4
  (refine hK.out _ _ ⟨H4.out.bx 7 _ rfl, H4.out.p.t0' hi hia hml⟩ (fun hHeld => ?_); clear hK K; try simp only [Act.put, List.setIfInBounds_toArray, List.set_cons_zero, List.set_cons_succ])
  refine wpAnyH_done (by kernel_rfl) ?_ _
  generalize (if (m : Int) < IntKind.i64.wrap ((pl : Int) + 1 + n) then (m : Int) else IntKind.i64.wrap ((pl : Int) + 1 + n)) = mm at *
  generalize (W3.setCell ⟨R.tb, i * 3 + 2, none⟩ (.int .i64 mm)).drew = W5 at *
  go_wp2_with fail
  (refine wp_region_held_drew (S := (fun W => W.cell? ⟨R.tb, i * 3 + 2, none⟩ = some (.int .i64 ((pp : Nat) : Int)) ∧ W.cell? ⟨R.tb, i * 3, none⟩ = some (.slice (some ⟨ib, 0, none⟩) m (R.icap i)))) (by kernel_rfl) ⟨H4.out.p.t2' hi, H4.out.p.t0' hi hia hml⟩ (fun hHeld => ?_); simp only [List.size_toArray, List.length_cons, List.length_nil, Nat.reduceAdd, Array.replicate_succ, Array.replicate_zero, List.push_toArray, List.append_toArray, List.nil_append, List.cons_append])
  refine rgT 0 (h := ?_)
  refine rgT 1 (h := ?_)
  refine rgT 2 (h := ?_)
  refine rgT 3 (h := ?_)
  refine rgT 4 (h := ?_)
  refine rgT 5 (h := ?_)
  refine rgT 6 (h := ?_)
  refine rgT 7 (h := ?_)
  refine rgT 8 (h := ?_)
  refine rgT 9 (h := ?_)
  refine rgT 10 (h := ?_)
  refine wpAnyH_done (by kernel_rfl) ?_ _
  go_wp2
  go_ret
  have e1 : decide ((m : Int) ≤ (((pp : Nat)) : Int)) = decide (m ≤ pp) := by congr 1; exact propext ⟨fun h => by omega, fun h => by omega⟩
  exact ⟨by simp, H4.out.drew.p, H4.out.drew.k⟩
theorem rstep_5m (R : Rd) (hR : RdOk R) (w : World) (s : Ls) (h : RP R w s) (i : Nat) (hi : i < R.n) (pl m ib : Nat) (c r nr ni orr oi n : Int) (hia : R.ia i = some ⟨ib, 0, none⟩) (hml : (R.ins i).length = m) (h8 : In8 w ib pl 5 c r nr ni orr oi n) (hpl : pl < m) (hm : m ≤ 1000) (hps : s.pl i = pl) (r0 : 0 ≤ r) (r1 : r < 4) (hv : nr ≤ 3) (hq : ¬ s.rg i r.toNat = valP (s.rg i) nr ni) :
    Calls Tryz.prog 69 #[.pointer (some ⟨R.bk, 0, none⟩), .int .i64 (i : Int)] w fun e w' => e = .returned (.bool (decide (m ≤ pl + 1))) ∧ RP R w' ⟨s.wo, s.rg, upd s.pl i (pl + 1)⟩ ∧ Keeps (fRw R) w w' := by
  obtain ⟨k, rfl⟩ : ∃ k : Nat, r = (k : Int) := ⟨r.toNat, by omega⟩
  have hk : k < 4 := by omega
  have ek : ((k : Int)).toNat = k := by omega
  rw [ek] at hq
  have hr0 : (0 : Int) ≤ (k : Int) := Int.natCast_nonneg _
  have hr1 : (k : Int) < 4 := by omega
  obtain ⟨fr, hfr⟩ : ∃ x, x = valP (s.rg i) nr ni := ⟨_, rfl⟩
  rw [← hfr] at hq
  have Hfr : Hid (fr = valP (s.rg i) nr ni) := hfr
  clear hfr
  have p1 := h.p1
  have i0 : (0 : Int) ≤ (i : Int) := Int.natCast_nonneg _
  have i1 : (i : Int) < (R.n : Int) := by omega
  have hp0 : (0 : Int) ≤ (pl : Int) := Int.natCast_nonneg _
  have hp1 : (pl : Int) < (m : Int) := by omega
  have hlt : ¬ (m : Int) ≤ (pl : Int) := by omega
  have ht2 := h.t2 i hi
  rw [hps] at ht2
  have ht0 := h.t0' hi hia hml
  have H : Hid (RP R w s ∧ w.cell? ⟨R.tb, i * 3 + 2, none⟩ = some (.int .i64 (pl : Int)) ∧ w.cell? ⟨R.tb, i * 3, none⟩ = some (.slice (some ⟨ib, 0, none⟩) m (R.icap i))) := ⟨h, ht2, ht0⟩
  have HA : Hid (∀ W, Keeps (fun _ => False) w W → W.cell? ⟨R.tb, i * 3 + 2, none⟩ = some (.int .i64 (pl : Int)) ∧ W.cell? ⟨R.tb, i * 3, none⟩ = some (.slice (some ⟨ib, 0, none⟩) m (R.icap i)) ∧ W.cell? ⟨ib, pl * 8, none⟩ = some (.int .i64 5) ∧ W.cell? ⟨ib, pl * 8 + 1, none⟩ = some (.int .i64 c) ∧ W.cell? ⟨ib, pl * 8 + 2, none⟩ = some (.int .i64 k) ∧ W.cell? ⟨ib, pl * 8 + 3, none⟩ = some (.int .i64 nr) ∧ W.cell? ⟨ib, pl * 8 + 4, none⟩ = some (.int .u64 ni) ∧ W.cell? ⟨ib, pl * 8 + 5, none⟩ = some (.int .i64 orr) ∧ W.cell? ⟨ib, pl * 8 + 6, none⟩ = some (.int .u64 oi) ∧ W.cell? ⟨ib, pl * 8 + 7, none⟩ = some (.int .i64 n)) := fun W k => by
    have q := h8.keeps k (fun e => e)
    exact ⟨((k.cell (p := ⟨R.tb, i * 3 + 2, none⟩) (h.lt _ (.inl (.inl rfl))) (fun e => e))).trans ht2, ((k.cell (p := ⟨R.tb, i * 3, none⟩) (h.lt _ (.inl (.inl rfl))) (fun e => e))).trans ht0, q.c0, q.c1, q.c2, q.c3, q.c4, q.c5, q.c6, q.c7⟩
  have HS : Hid (Rk w (w.alloc (.cells (iV ⟨5, c, k, nr, ni, orr, oi, n⟩) 106)).drew.drew R s w.heap.size ⟨5, c, k, nr, ni, orr, oi, n⟩) := (Rk.start _ h).drew.drew
  clear h ht2 ht0 h8
  go_enter Tryz.func69, Tryz.ntmps69
  go_wp2_with fail
  (refine wp_region_held_drew (S := (fun W => W.cell? ⟨R.tb, i * 3 + 2, none⟩ = some (.int .i64 (pl : Int)) ∧ W.cell? ⟨R.tb, i * 3, none⟩ = some (.slice (some ⟨ib, 0, none⟩) m (R.icap i)))) (by kernel_rfl) ⟨H.out.2.1, H.out.2.2⟩ (fun hHeld => ?_); simp only [List.size_toArray, List.length_cons, List.length_nil, Nat.reduceAdd, Array.replicate_succ, Array.replicate_zero, List.push_toArray, List.append_toArray, List.nil_append, List.cons_append])
  refine rgT 0 (h := ?_)
  refine rgT 1 (h := ?_)
  refine rgT 2 (h := ?_)
  refine rgT 3 (h := ?_)
  refine rgT 4 (h := ?_)
  refine rgT 5 (h := ?_)
  refine rgT 6 (h := ?_)
  refine rgT 7 (h := ?_)
  refine rgT 8 (h := ?_)
  refine rgT 9 (h := ?_)
  refine wpAnyH_done (by kernel_rfl) ?_ _
  go_wp2_with fail
  (refine wp_region_held_drew (S := (fun W => W.cell? ⟨R.tb, i * 3 + 2, none⟩ = some (.int .i64 (pl : Int)) ∧ W.cell? ⟨R.tb, i * 3, none⟩ = some (.slice (some ⟨ib, 0, none⟩) m (R.icap i)) ∧ W.cell? ⟨ib, pl * 8, none⟩ = some (.int .i64 5) ∧ W.cell? ⟨ib, pl * 8 + 1, none⟩ = some (.int .i64 c) ∧ W.cell? ⟨ib, pl * 8 + 2, none⟩ = some (.int .i64 k) ∧ W.cell? ⟨ib, pl * 8 + 3, none⟩ = some (.int .i64 nr) ∧ W.cell? ⟨ib, pl * 8 + 4, none⟩ = some (.int .u64 ni) ∧ W.cell? ⟨ib, pl * 8 + 5, none⟩ = some (.int .i64 orr) ∧ W.cell? ⟨ib, pl * 8 + 6, none⟩ = some (.int .u64 oi) ∧ W.cell? ⟨ib, pl * 8 + 7, none⟩ = some (.int .i64 n))) (by kernel_rfl) (HA.out _ (Keeps.refl _ _).drew.drew) (fun hHeld => ?_); simp only [List.size_toArray, List.length_cons, List.length_nil, Nat.reduceAdd, Array.replicate_succ, Array.replicate_zero, List.push_toArray, List.append_toArray, List.nil_append, List.cons_append])
  refine rgT 0 (h := ?_)
  refine rgT 1 (h := ?_)
  refine rgT 2 (h := ?_)
  refine rgT 3 (h := ?_)
  refine rgT 4 (h := ?_)
  refine rgT 5 (h := ?_)
  refine rgT 6 (h := ?_)
  refine rgT 7 (h := ?_)
  refine rgT 8 (h := ?_)
  refine rgT 9 (h := ?_)
  (refine rgS 10 (h := fun K hK => ?_); go_simp)
  (refine hK.out _ _ (HA.out _ ((Keeps.refl _ _).alloc _).drew.drew) (fun hHeld => ?_); clear hK K; try simp only [Act.put, List.setIfInBounds_toArray, List.set_cons_zero, List.set_cons_succ])
  (refine rgS 11 (h := fun K hK => ?_); go_simp)
  (refine hK.out _ _ (HA.out _ ((Keeps.refl _ _).alloc _).drew.drew) (fun hHeld => ?_); clear hK K; try simp only [Act.put, List.setIfInBounds_toArray, List.set_cons_zero, List.set_cons_succ])
  refine wpAnyH_done (by kernel_rfl) ?_ _
  clear H HA p1 hlt hp0 hp1
  change Hid (Rk w (w.alloc (.cells #[.int .i64 5, .int .i64 c, .int .i64 k, .int .i64 nr, .int .u64 ni, .int .i64 orr, .int .u64 oi, .int .i64 n] 106)).drew.drew R s w.heap.size ⟨5, c, k, nr, ni, orr, oi, n⟩) at HS
  generalize (w.alloc (.cells #[.int .i64 5, .int .i64 c, .int .i64 k, .int .i64 nr, .int .u64 ni, .int .i64 orr, .int .u64 oi, .int .i64 n] 106)).drew.drew = W0 at *
  generalize w.heap.size = g at *
  have t2 := HS.out.p.t2 i hi
  rw [hps] at t2
  have f2 := HS.out.p.fz R.tb (i * 3 + 2) (.inl rfl)
  have b0 := HS.out.bx 0 _ rfl
  have hw1 : (pl : Int) + 1 = ((pl + 1 : Nat) : Int) := by omega
  have H1 : Hid (Rk w (W0.setCell ⟨R.tb, i * 3 + 2, none⟩ (.int .i64 ((pl : Int) + 1))) R ⟨s.wo, s.rg, upd s.pl i (pl + 1)⟩ g ⟨5, c, k, nr, ni, orr, oi, n⟩) := by
    rw [hw1]
    exact HS.out.put (.inl rfl) (HS.out.p.setPl hR i (pl + 1) hi)
  clear hw1
  have nb : (⟨R.tb, i * 3 + 2, none⟩ : Addr) ≠ ⟨g, 0, none⟩ := fun e => HS.out.ng (.inl (.inl (congrArg Addr.block e).symm))
  have b1 := H1.out.bx 0 _ rfl
  go_wp2_with fail
  clear t2 f2 b0 nb b1 HS
  generalize W0.setCell ⟨R.tb, i * 3 + 2, none⟩ (.int .i64 ((pl : Int) + 1)) = W1 at *
  (refine wp_region_held_drew (S := (fun W => W.cell? ⟨g, 3, none⟩ = some (.int .i64 nr) ∧ W.cell? ⟨g, 4, none⟩ = some (.int .u64 ni) ∧ W.cell? ⟨R.tb, i * 3 + 1, none⟩ = some (.slice (some ⟨R.rb i, 0, none⟩) 4 4))) (by kernel_rfl) ⟨H1.out.bx 3 _ rfl, H1.out.bx 4 _ rfl, H1.out.p.t1 i hi⟩ (fun hHeld => ?_); simp only [List.size_toArray, List.length_cons, List.length_nil, Nat.reduceAdd, Array.replicate_succ, Array.replicate_zero, List.push_toArray, List.append_toArray, List.nil_append, List.cons_append])
  refine rgT 0 (h := ?_)
  refine rgT 1 (h := ?_)
  refine rgT 2 (h := ?_)
  refine rgT 3 (h := ?_)
  refine rgT 4 (h := ?_)
  refine rgT 5 (h := ?_)
  (refine rgS 6 (h := fun K hK => ?_); go_simp)
  refine (rvalue_any W1.drew R ⟨s.wo, s.rg, upd s.pl i (pl + 1)⟩ H1.out.drew.p i hi nr ni hv).mono ?_
  rintro e W2 ⟨he, k2⟩
  have he' : e = .returned (.int .u64 fr) := by rw [Hfr.out]; exact he
  subst he'
  have H2 : Hid (Rk w W2 R ⟨s.wo, s.rg, upd s.pl i (pl + 1)⟩ g ⟨5, c, k, nr, ni, orr, oi, n⟩) := H1.out.drew.still k2
  clear H1 k2 he
  (refine hK.out _ _ ⟨H2.out.bx 3 _ rfl, H2.out.bx 4 _ rfl, H2.out.p.t1 i hi⟩ (fun hHeld => ?_); clear hK K; try simp only [Act.put, List.setIfInBounds_toArray, List.set_cons_zero, List.set_cons_succ])
  refine rgT 7 (h := ?_)
  refine wpAnyH_done (by kernel_rfl) ?_ _
  have q0 := H2.out.bx 0 _ rfl
  go_wp2_with fail
  clear q0
  (refine wp_region_held_drew (S := (fun W => W.cell? ⟨R.tb, i * 3 + 1, none⟩ = some (.slice (some ⟨R.rb i, 0, none⟩) 4 4) ∧ W.cell? ⟨g, 2, none⟩ = some (.int .i64 k) ∧ W.cell? ⟨R.rb i, k, none⟩ = some (.int .u64 (s.rg i k)))) (by kernel_rfl) ⟨H2.out.p.t1 i hi, H2.out.bx 2 _ rfl, H2.out.p.rg i k hi hk⟩ (fun hHeld => ?_); simp only [List.size_toArray, List.length_cons, List.length_nil, Nat.reduceAdd, Array.replicate_succ, Array.replicate_zero, List.push_toArray, List.append_toArray, List.nil_append, List.cons_append])
  refine rgT 0 (h := ?_)
  refine rgT 1 (h := ?_)
  refine rgT 2 (h := ?_)
  refine rgT 3 (h := ?_)
  refine rgT 4 (h := ?_)
  refine rgT 5 (h := ?_)
  refine rgT 6 (h := ?_)
  refine rgT 7 (h := ?_)
  refine rgT 8 (h := ?_)
  refine rgT 9 (h := ?_)
  refine wpAnyH_done (by kernel_rfl) ?_ _
  go_wp2_with fail
  have H3 : Hid (Rk w W2.drew R ⟨s.wo, s.rg, upd s.pl i (pl + 1)⟩ g ⟨5, c, k, nr, ni, orr, oi, n⟩) := H2.out.drew
  clear H2
  generalize W2.drew = W3 at *
  (refine wp_region_held_drew (S := (fun W => W.cell? ⟨R.tb, i * 3 + 2, none⟩ = some (.int .i64 ((pl + 1 : Nat) : Int)) ∧ W.cell? ⟨R.tb, i * 3, none⟩ = some (.slice (some ⟨ib, 0, none⟩) m (R.icap i)))) (by kernel_rfl) ⟨H3.out.p.t2' hi, H3.out.p.t0' hi hia hml⟩ (fun hHeld => ?_); simp only [List.size_toArray, List.length_cons, List.length_nil, Nat.reduceAdd, Array.replicate_succ, Array.replicate_zero, List.push_toArray, List.append_toArray, List.nil_append, List.cons_append])
  refine rgT 0 (h := ?_)
  refine rgT 1 (h := ?_)
  refine rgT 2 (h := ?_)
  refine rgT 3 (h := ?_)
  refine rgT 4 (h := ?_)
  refine rgT 5 (h := ?_)
  refine rgT 6 (h := ?_)
  refine rgT 7 (h := ?_)
  refine rgT 8 (h := ?_)
  refine rgT 9 (h := ?_)
  refine rgT 10 (h := ?_)
  refine wpAnyH_done (by kernel_rfl) ?_ _
  go_wp2
  go_ret
  have e1 : decide ((m : Int) ≤ (((pl + 1 : Nat)) : Int)) = decide (m ≤ pl + 1) := by congr 1; exact propext ⟨fun h => by omega, fun h => by omega⟩
  exact ⟨by simpa using e1, H3.out.drew.p, H3.out.drew.k⟩
end Go.Proofs.YtdpebhdjcgiboaaGreat

namespace Go.Proofs.YtdpebhdjcgiboaaGreat
set_option linter.unusedSimpArgs false
open Go.ChangeShapes Go.WideShapes Go.ChangeAt Go.RowKit Go.MuLone Go.RwLone
set_option linter.unusedVariables false
set_option maxRecDepth 100000
set_option maxHeartbeats 3200000
theorem upd_self {α : Type} (f : Nat → α) (i : Nat) : upd f i (f i) = f := by
  funext k
  by_cases e : k = i
  · subst e; rw [upd_same]
  · rw [upd_other _ _ e]
/-- A step of the document's thread number i: what stI says. -/
theorem rstep_any (R : Rd) (hR : RdOk R) (w : World) (s : Ls) (h : RP R w s) (i : Nat) (hi : i < R.n) :
    Calls Tryz.prog 69 #[.pointer (some ⟨R.bk, 0, none⟩), .int .i64 (i : Int)] w fun e w' => e = .returned (.bool (decide ((R.ins i).length ≤ (stI R.ins s i).pl i))) ∧ RP R w' (stI R.ins s i) ∧ Keeps (fRw R) w w' := by
  by_cases hp : s.pl i < (R.ins i).length
  · have hsd := hR.sd i hi _ (List.getElem_mem hp)
    obtain ⟨ib, hia, h8⟩ := h.ro i hi (s.pl i) hp
    have hm := hR.ln i hi
    have es : stI R.ins s i = ⟨(exP s.wo (s.rg i) (R.ins i)[s.pl i]).1, upd s.rg i (exP s.wo (s.rg i) (R.ins i)[s.pl i]).2.1, upd s.pl i (min (s.pl i + (exP s.wo (s.rg i) (R.ins i)[s.pl i]).2.2) (R.ins i).length)⟩ := by
      unfold stI
      rw [tsP_in hp]
    suffices hS : ∀ S', stI R.ins s i = S' → ∀ X, S'.pl i = X → Calls Tryz.prog 69 #[.pointer (some ⟨R.bk, 0, none⟩), .int .i64 (i : Int)] w fun e w' => e = .returned (.bool (decide ((R.ins i).length ≤ X))) ∧ RP R w' S' ∧ Keeps (fRw R) w w' from hS _ rfl _ rfl
    intro S' hS X hX
    rw [es] at hS
    clear es
    subst hS
    dsimp only at hX
    rw [upd_same] at hX
    subst hX
    generalize (R.ins i)[s.pl i] = x at *
    suffices fin : ∃ E X, exP s.wo (s.rg i) x = E ∧ min (s.pl i + E.2.2) (R.ins i).length = X ∧ Calls Tryz.prog 69 #[.pointer (some ⟨R.bk, 0, none⟩), .int .i64 (i : Int)] w fun e w' => e = .returned (.bool (decide ((R.ins i).length ≤ X))) ∧ RP R w' ⟨E.1, upd s.rg i E.2.1, upd s.pl i X⟩ ∧ Keeps (fRw R) w w' by
      obtain ⟨E, X, rfl, rfl, q⟩ := fin
      exact q
    obtain ⟨op, c, r, nr, ni, orr, oi, n⟩ := x
    have e1 : min (s.pl i + 1) (R.ins i).length = s.pl i + 1 := by omega
    rcases hsd with ⟨e, hc, hr4⟩ | ⟨e, hc, hv⟩ | ⟨e, hc, hr4, ho, hv⟩ | ⟨e, hc, hr4, hv⟩ | ⟨e, hr4, hv, hn1⟩
    · simp only at e hc hr4
      subst e
      have q := rstep_1 R hR w s h i hi (s.pl i) _ ib c r nr ni orr oi n hia rfl h8 hp hm rfl hc.1 hc.2 hr4.1 hr4.2
      have ex : exP s.wo (s.rg i) ⟨1, c, r, nr, ni, orr, oi, n⟩ = (s.wo, upd (s.rg i) r.toNat (s.wo c.toNat), 1) := by simp [exP]
      exact ⟨_, _, ex, e1, q⟩
    · simp only at e hc hv
      subst e
      have q := rstep_2 R hR w s h i hi (s.pl i) _ ib c r nr ni orr oi n hia rfl h8 hp hm rfl hc.1 hc.2 hv.2
      have ex : exP s.wo (s.rg i) ⟨2, c, r, nr, ni, orr, oi, n⟩ = (upd s.wo c.toNat (valP (s.rg i) nr ni), s.rg i, 1) := by simp [exP]
      exact ⟨_, _, ex, e1, by dsimp only; rw [upd_self]; exact q⟩
    · simp only at e hc hr4 ho hv
      subst e
      by_cases hq : s.wo c.toNat = valP (s.rg i) orr oi
      · have q := rstep_3h R hR w s h i hi (s.pl i) _ ib c r nr ni orr oi n hia rfl h8 hp hm rfl hc.1 hc.2 hr4.1 hr4.2 hv.2 ho.2 hq
        have ex : exP s.wo (s.rg i) ⟨3, c, r, nr, ni, orr, oi, n⟩ = (upd s.wo c.toNat (valP (s.rg i) nr ni), upd (s.rg i) r.toNat 1, 1) := by simp [exP, hq]
        exact ⟨_, _, ex, e1, q⟩
      · have q := rstep_3m R hR w s h i hi (s.pl i) _ ib c r nr ni orr oi n hia rfl h8 hp hm rfl hc.1 hc.2 hr4.1 hr4.2 hv.2 ho.2 hq
        have ex : exP s.wo (s.rg i) ⟨3, c, r, nr, ni, orr, oi, n⟩ = (s.wo, upd (s.rg i) r.toNat 0, 1) := by simp [exP, hq]
        exact ⟨_, _, ex, e1, q⟩
    · simp only at e hc hr4 hv
      subst e
      have q := rstep_4 R hR w s h i hi (s.pl i) _ ib c r nr ni orr oi n hia rfl h8 hp hm rfl hc.1 hc.2 hr4.1 hr4.2 hv.2
      have ex : exP s.wo (s.rg i) ⟨4, c, r, nr, ni, orr, oi, n⟩ = (upd s.wo c.toNat ((s.wo c.toNat + valP (s.rg i) nr ni) % 18446744073709551616), upd (s.rg i) r.toNat (s.wo c.toNat), 1) := by simp [exP]
      exact ⟨_, _, ex, e1, q⟩
    · simp only at e hr4 hv hn1
      subst e
      by_cases hq : s.rg i r.toNat = valP (s.rg i) nr ni
      · have q := rstep_5h R hR w s h i hi (s.pl i) _ ib c r nr ni orr oi n hia rfl h8 hp hm rfl hr4.1 hr4.2 hv.2 hn1.1 hn1.2 hq _ rfl
        have ex : exP s.wo (s.rg i) ⟨5, c, r, nr, ni, orr, oi, n⟩ = (s.wo, s.rg i, 1 + n.toNat) := by simp [exP, hq]
        exact ⟨_, _, ex, rfl, by dsimp only; rw [upd_self]; exact q⟩
      · have q := rstep_5m R hR w s h i hi (s.pl i) _ ib c r nr ni orr oi n hia rfl h8 hp hm rfl hr4.1 hr4.2 hv.2 hq
        have ex : exP s.wo (s.rg i) ⟨5, c, r, nr, ni, orr, oi, n⟩ = (s.wo, s.rg i, 1) := by simp [exP, hq]
        exact ⟨_, _, ex, e1, by dsimp only; rw [upd_self]; exact q⟩
  · have es : stI R.ins s i = s := by
      unfold stI
      rw [tsP_out hp]
      dsimp only
      rw [upd_self, upd_self]
    rw [es]
    refine (rstep_done R w s h i hi hR.n4 hp (hR.ln i hi)).mono ?_
    rintro e w' ⟨rfl, k⟩
    exact ⟨by rw [decide_eq_true (by omega)], h.still k, k.mono (fun _ e => e.elim)⟩
end Go.Proofs.YtdpebhdjcgiboaaGreat
