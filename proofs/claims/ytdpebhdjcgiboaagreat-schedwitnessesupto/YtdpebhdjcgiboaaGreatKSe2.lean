import Derived.Test.YtdpebhdjcgiboaaGreatKSe1
namespace Go.Proofs.YtdpebhdjcgiboaaGreat
set_option linter.unusedSimpArgs false
open Go.ChangeShapes Go.WideShapes Go.ChangeAt Go.RowKit Go.MuLone Go.RwLone
set_option linter.unusedVariables false
set_option maxRecDepth 100000
set_option maxHeartbeats 3200000
/-- A thread in the block T: of the arena at L, slot 1, its m instructions in the block ib, its registers rg, its place pl. -/
structure Tg (w : World) (T : Nat) (L : Lay) (ia : Option Addr) (m cap : Nat) (rg : Nat → Int) (pl : Nat) : Prop where
  a : w.cell? ⟨T, 0, none⟩ = some (.pointer (some ⟨L.b, 0, none⟩))
  s : w.cell? ⟨T, 1, none⟩ = some (.int .i64 1)
  i : w.cell? ⟨T, 2, none⟩ = some (.slice ia m cap)
  r : ∀ j, j < 4 → w.cell? ⟨T, 3 + j, none⟩ = some (.int .u64 (rg j))
  p : w.cell? ⟨T, 7, none⟩ = some (.int .i64 (pl : Int))
  fz : ∀ j, w.frozen? ⟨T, j, none⟩ = false
  lt : T < w.heap.size
theorem Tg.keeps {w w' : World} {T : Nat} {L : Lay} {ia : Option Addr} {m cap : Nat} {rg : Nat → Int} {pl : Nat} {B : Nat → Prop} (h : Tg w T L ia m cap rg pl) (k : Keeps B w w') (hn : ¬ B T) : Tg w' T L ia m cap rg pl :=
  ⟨(k.cell (p := ⟨T, 0, none⟩) h.lt hn).trans h.a, (k.cell (p := ⟨T, 1, none⟩) h.lt hn).trans h.s, (k.cell (p := ⟨T, 2, none⟩) h.lt hn).trans h.i, fun j hj => (k.cell (p := ⟨T, 3 + j, none⟩) h.lt hn).trans (h.r j hj), (k.cell (p := ⟨T, 7, none⟩) h.lt hn).trans h.p, fun j => (k.frozen (p := ⟨T, j, none⟩) h.lt hn).trans (h.fz j), Nat.lt_of_lt_of_le h.lt k.size⟩
theorem Tg.setReg {w : World} {T : Nat} {L : Lay} {ia : Option Addr} {m cap : Nat} {rg : Nat → Int} {pl : Nat} (h : Tg w T L ia m cap rg pl) (j : Nat) (hj : j < 4) (x : Int) : Tg (w.setCell ⟨T, 3 + j, none⟩ (.int .u64 x)) T L ia m cap (upd rg j x) pl := by
  have ne : ∀ k, k ≠ 3 + j → (w.setCell ⟨T, 3 + j, none⟩ (.int .u64 x)).cell? ⟨T, k, none⟩ = w.cell? ⟨T, k, none⟩ := fun k hk => World.cell?_setCell_other _ _ _ _ (fun e => hk (congrArg Addr.off e).symm)
  refine ⟨(ne 0 (by omega)).trans h.a, (ne 1 (by omega)).trans h.s, (ne 2 (by omega)).trans h.i, fun k hk => ?_, (ne 7 (by omega)).trans h.p, fun k => by simpa using h.fz k, by simpa using h.lt⟩
  by_cases e : k = j
  · subst e
    rw [upd_same]
    exact World.cell?_setCell_same _ _ _ (h.r k hk)
  · rw [upd_other _ _ e]
    exact (ne (3 + k) (by omega)).trans (h.r k hk)
theorem Tg.setPl {w : World} {T : Nat} {L : Lay} {ia : Option Addr} {m cap : Nat} {rg : Nat → Int} {pl : Nat} (h : Tg w T L ia m cap rg pl) (x : Nat) : Tg (w.setCell ⟨T, 7, none⟩ (.int .i64 (x : Int))) T L ia m cap rg x := by
  have ne : ∀ k, k ≠ 7 → (w.setCell ⟨T, 7, none⟩ (.int .i64 (x : Int))).cell? ⟨T, k, none⟩ = w.cell? ⟨T, k, none⟩ := fun k hk => World.cell?_setCell_other _ _ _ _ (fun e => hk (congrArg Addr.off e).symm)
  exact ⟨(ne 0 (by omega)).trans h.a, (ne 1 (by omega)).trans h.s, (ne 2 (by omega)).trans h.i, fun k hk => (ne (3 + k) (by omega)).trans (h.r k hk), World.cell?_setCell_same _ _ _ h.p, fun k => by simpa using h.fz k, by simpa using h.lt⟩
theorem done_all (w : World) (T : Nat) (L : Lay) (ia : Option Addr) (m cap : Nat) (rg : Nat → Int) (pl : Nat) (h : Tg w T L ia m cap rg pl) : Calls Tryz.prog 115 #[.pointer (some ⟨T, 0, none⟩)] w fun e w' => e = .returned (.bool (decide (m ≤ pl))) ∧ Keeps (fun _ => False) w w' := by
  have c2 := h.i
  have c7 := h.p
  have hd : decide ((m : Int) ≤ (pl : Int)) = decide (m ≤ pl) := by simp
  clear h
  go_enter Tryz.func115, Tryz.ntmps115
  go_wp2_with fail
  go_quiet (fail)
  go_wp2
  go_ret
  exact ⟨by simp, (Keeps.refl _ _).drewN _⟩
/-- A thread at work: its arena, itself, its instruction in the box g. -/
structure Wg (w W : World) (L : Lay) (S : AS) (T : Nat) (ia : Option Addr) (m cap : Nat) (rg : Nat → Int) (pl g : Nat) (op c r nr ni orr oi n : Int) : Prop where
  hd : Holds W L S
  th : Tg W T L ia m cap rg pl
  kp : Keeps (fun k => L.has k ∨ k = T) w W
  bx : ∀ j u, (inC op c r nr ni orr oi n)[j]? = some u → W.cell? ⟨g, j, none⟩ = some u
  lT : ¬ L.has T
  lg : ¬ L.has g
  tg : T ≠ g
  gl : g < W.heap.size
theorem Wg.start {w : World} {L : Lay} {S : AS} {T : Nat} {ia : Option Addr} {m cap : Nat} {rg : Nat → Int} {pl : Nat} (op c r nr ni orr oi n : Int) (h : Holds w L S) (ht : Tg w T L ia m cap rg pl) (hT : ¬ L.has T) : Wg w (inW w op c r nr ni orr oi n) L S T ia m cap rg pl w.heap.size op c r nr ni orr oi n :=
  ⟨h.alloc _, ht.keeps (((Keeps.refl (fun _ => False) w).alloc _)) (fun e => e), (Keeps.refl _ _).alloc _, fun j u hu => (inW_cell w op c r nr ni orr oi n j).trans hu, hT, h.notNew (Nat.le_refl _), fun e => by have := ht.lt; omega, by simp⟩
theorem Wg.step {w W W' : World} {L : Lay} {S : AS} {T : Nat} {ia : Option Addr} {m cap : Nat} {rg : Nat → Int} {pl g : Nat} {op c r nr ni orr oi n : Int} (h : Wg w W L S T ia m cap rg pl g op c r nr ni orr oi n) (k : Keeps (fun _ => False) W W') : Wg w W' L S T ia m cap rg pl g op c r nr ni orr oi n :=
  ⟨h.hd.keeps k (fun _ _ e => e), h.th.keeps k (fun e => e), h.kp.trans (k.mono (fun _ e => e.elim)), fun j u hu => (k.cell (p := ⟨g, j, none⟩) h.gl (fun e => e)).trans (h.bx j u hu), h.lT, h.lg, h.tg, Nat.lt_of_lt_of_le h.gl k.size⟩
theorem Wg.drew {w W : World} {L : Lay} {S : AS} {T : Nat} {ia : Option Addr} {m cap : Nat} {rg : Nat → Int} {pl g : Nat} {op c r nr ni orr oi n : Int} (h : Wg w W L S T ia m cap rg pl g op c r nr ni orr oi n) : Wg w W.drew L S T ia m cap rg pl g op c r nr ni orr oi n := h.step (Keeps.refl _ _).drew
theorem Wg.arena {w W W' : World} {L : Lay} {S S' : AS} {T : Nat} {ia : Option Addr} {m cap : Nat} {rg : Nat → Int} {pl g : Nat} {op c r nr ni orr oi n : Int} (h : Wg w W L S T ia m cap rg pl g op c r nr ni orr oi n) (hd : Holds W' L S') (k : Keeps L.has W W') : Wg w W' L S' T ia m cap rg pl g op c r nr ni orr oi n :=
  ⟨hd, h.th.keeps k h.lT, h.kp.trans (k.mono (fun _ e => .inl e)), fun j u hu => (k.cell (p := ⟨g, j, none⟩) h.gl h.lg).trans (h.bx j u hu), h.lT, h.lg, h.tg, Nat.lt_of_lt_of_le h.gl k.size⟩
theorem Wg.reg {w W : World} {L : Lay} {S : AS} {T : Nat} {ia : Option Addr} {m cap : Nat} {rg : Nat → Int} {pl g : Nat} {op c r nr ni orr oi n : Int} (h : Wg w W L S T ia m cap rg pl g op c r nr ni orr oi n) (j : Nat) (hj : j < 4) (x : Int) : Wg w (W.setCell ⟨T, 3 + j, none⟩ (.int .u64 x)) L S T ia m cap (upd rg j x) pl g op c r nr ni orr oi n :=
  ⟨h.hd.far (p := ⟨T, 3 + j, none⟩) h.lT _, h.th.setReg j hj x, h.kp.setCell (.inr rfl) _, fun i u hu => (World.cell?_setCell_other _ _ _ _ (fun e => h.tg (congrArg Addr.block e))).trans (h.bx i u hu), h.lT, h.lg, h.tg, by simpa using h.gl⟩
theorem Wg.place {w W : World} {L : Lay} {S : AS} {T : Nat} {ia : Option Addr} {m cap : Nat} {rg : Nat → Int} {pl g : Nat} {op c r nr ni orr oi n : Int} (h : Wg w W L S T ia m cap rg pl g op c r nr ni orr oi n) (x : Nat) : Wg w (W.setCell ⟨T, 7, none⟩ (.int .i64 (x : Int))) L S T ia m cap rg x g op c r nr ni orr oi n :=
  ⟨h.hd.far (p := ⟨T, 7, none⟩) h.lT _, h.th.setPl x, h.kp.setCell (.inr rfl) _, fun i u hu => (World.cell?_setCell_other _ _ _ _ (fun e => h.tg (congrArg Addr.block e))).trans (h.bx i u hu), h.lT, h.lg, h.tg, by simpa using h.gl⟩
/-- What a Val stands for. -/
def valP (rg : Nat → Int) (r x : Int) : Int := if r < 0 ∨ 4 ≤ r then x else (x + rg r.toNat) % 18446744073709551616
theorem value_any (w : World) (T : Nat) (L : Lay) (ia : Option Addr) (m cap : Nat) (rg : Nat → Int) (pl : Nat) (h : Tg w T L ia m cap rg pl) (r x : Int) : Calls Tryz.prog 156 #[.pointer (some ⟨T, 0, none⟩), .agg #[.int .i64 r, .int .u64 x]] w fun e w' => e = .returned (.int .u64 (valP rg r x)) ∧ Keeps (fun _ => False) w w' := by
  by_cases h0 : r < 0
  · have hv : valP rg r x = x := by unfold valP; rw [if_pos (.inl h0)]
    rw [hv]
    go_enter Tryz.func156, Tryz.ntmps156
    go_wp2
    go_ret
    exact ⟨rfl, (Keeps.refl _ _).alloc _⟩
  · by_cases h4 : 4 ≤ r
    · have hv : valP rg r x = x := by unfold valP; rw [if_pos (.inr h4)]
      rw [hv]
      go_enter Tryz.func156, Tryz.ntmps156
      go_wp2
      go_ret
      exact ⟨rfl, (Keeps.refl _ _).alloc _⟩
    · obtain ⟨k, rfl⟩ : ∃ k : Nat, r = (k : Int) := ⟨r.toNat, by omega⟩
      have hk : k < 4 := by omega
      have hv : valP rg k x = IntKind.u64.wrap (x + rg k) := by unfold valP; rw [if_neg (by omega), IntKind.wrap_u64]; rfl
      rw [hv]
      have cT : (w.alloc (.cells #[.int .i64 (k : Int), .int .u64 x] 104)).cell? ⟨T, 3 + k, none⟩ = some (.int .u64 (rg k)) := (World.cell?_of_block (w := w) (Below.heap_alloc _ _ _ h.lt)).trans (h.r k hk)
      have k0 : (0 : Int) ≤ (k : Int) := Int.natCast_nonneg _
      have k1 : (k : Int) < 4 := by omega
      have HB : Hid (Keeps (fun _ => False) w (w.alloc (.cells #[.int .i64 (k : Int), .int .u64 x] 104))) := (Keeps.refl _ _).alloc _
      have b0 : (w.alloc (.cells #[.int .i64 (k : Int), .int .u64 x] 104)).cell? ⟨w.heap.size, 0, none⟩ = some (.int .i64 (k : Int)) := (cell?_heap (heap_alloc_last _ _ _ rfl) 0).trans rfl
      have b1 : (w.alloc (.cells #[.int .i64 (k : Int), .int .u64 x] 104)).cell? ⟨w.heap.size, 1, none⟩ = some (.int .u64 x) := (cell?_heap (heap_alloc_last _ _ _ rfl) 1).trans rfl
      clear h
      go_enter Tryz.func156, Tryz.ntmps156
      go_wp2_with fail
      generalize w.alloc (.cells #[.int .i64 (k : Int), .int .u64 x] 104) = W at *
      generalize w.heap.size = g at *
      (refine wp_region_held_drew (S := (fun V => V.cell? ⟨g, 0, none⟩ = some (.int .i64 (k : Int)) ∧ V.cell? ⟨g, 1, none⟩ = some (.int .u64 x) ∧ V.cell? ⟨T, 3 + k, none⟩ = some (.int .u64 (rg k)))) (by kernel_rfl) ⟨b0, b1, cT⟩ (fun hHeld => ?_); simp only [List.size_toArray, List.length_cons, List.length_nil, Nat.reduceAdd, Array.replicate_succ, Array.replicate_zero, List.push_toArray, List.append_toArray, List.nil_append, List.cons_append])
      refine rgT 0 (h := ?_)
      refine rgT 1 (h := ?_)
      refine rgT 2 (h := ?_)
      refine rgT 3 (h := ?_)
      refine rgT 4 (h := ?_)
      refine rgT 5 (h := ?_)
      refine rgT 6 (h := ?_)
      refine rgT 7 (h := ?_)
      refine rgT 8 (h := ?_)
      refine rgT 9 (h := ?_)
      refine rgT 10 (h := ?_)
      refine wpAnyH_done (by kernel_rfl) ?_ _
      go_wp2
      go_ret
      exact ⟨rfl, HB.out.drew⟩
theorem work_load (L : Lay) (S : AS) (w : World) (T : Nat) (ia : Option Addr) (m cap : Nat) (rg : Nat → Int) (pl : Nat) (c r nr ni orr oi n : Int) (c0 : 0 ≤ c) (c1 : c < (S.wd : Int)) (r0 : 0 ≤ r) (r1 : r < 4) (h : Holds w L S) (ht : Tg w T L ia m cap rg pl) (hT : ¬ L.has T) (hr : S.rc = 0) (hn : S.n = 1) (hu : S.use 0 = true) (hm : m ≤ 1000) (hpl : pl < m) :
    Calls Tryz.prog 116 #[.pointer (some ⟨T, 0, none⟩), .agg (inC 1 c r nr ni orr oi n)] w fun e w' => e = .returned (.tuple #[]) ∧ Holds w' L { S with rc := 0, acc := wrap64 (S.acc + 1) } ∧ Tg w' T L ia m cap (upd rg r.toNat (S.word c.toNat)) (min (pl + (1 : Int).toNat) m) ∧ Keeps (fun k => L.has k ∨ k = T) w w' := by
  obtain ⟨j, rfl⟩ : ∃ j : Nat, c = (j : Int) := ⟨c.toNat, by omega⟩
  have hj : j < S.wd := by omega
  have ej : ((j : Int)).toNat = j := by omega
  rw [ej]
  obtain ⟨k, rfl⟩ : ∃ k : Nat, r = (k : Int) := ⟨r.toNat, by omega⟩
  have hk : k < 4 := by omega
  have ek : ((k : Int)).toNat = k := by omega
  rw [ek]
  have hr0 : (0 : Int) ≤ (k : Int) := Int.natCast_nonneg _
  have hr1 : (k : Int) < 4 := by omega
  have HH : Hid (Wg w (inW w 1 j k nr ni orr oi n) L S T ia m cap rg pl w.heap.size 1 j k nr ni orr oi n) := Wg.start _ _ _ _ _ _ _ _ h ht hT
  clear h ht
  go_enter Tryz.func116, Tryz.ntmps116
  go_wp2_with fail
  rw [show w.alloc _ = inW w 1 j k nr ni orr oi n from rfl]
  generalize inW w 1 j k nr ni orr oi n = W0 at *
  generalize w.heap.size = g at *
  (refine wp_region_held_drew (S := (fun W => W.cell? ⟨g, 3, none⟩ = some (.int .i64 nr) ∧ W.cell? ⟨g, 4, none⟩ = some (.int .u64 ni) ∧ W.cell? ⟨g, 5, none⟩ = some (.int .i64 orr) ∧ W.cell? ⟨g, 6, none⟩ = some (.int .u64 oi))) (by kernel_rfl) ⟨HH.out.bx 3 _ rfl, HH.out.bx 4 _ rfl, HH.out.bx 5 _ rfl, HH.out.bx 6 _ rfl⟩ (fun hHeld => ?_); simp only [List.size_toArray, List.length_cons, List.length_nil, Nat.reduceAdd, Array.replicate_succ, Array.replicate_zero, List.push_toArray, List.append_toArray, List.nil_append, List.cons_append])
  refine rgT 0 (h := ?_)
  refine rgT 1 (h := ?_)
  refine rgT 2 (h := ?_)
  refine rgT 4 (h := ?_)
  refine rgT 5 (h := ?_)
  refine rgT 6 (h := ?_)
  (refine rgS 3 (h := fun K hK => ?_); go_simp)
  refine (value_any W0.drew T L ia m cap rg pl HH.out.drew.th nr ni).mono ?_
  rintro e W1 ⟨rfl, k1⟩
  have H1 : Hid (Wg w W1 L S T ia m cap rg pl g 1 j k nr ni orr oi n) := HH.out.drew.step k1
  clear HH k1
  (refine hK.out _ _ ⟨H1.out.bx 3 _ rfl, H1.out.bx 4 _ rfl, H1.out.bx 5 _ rfl, H1.out.bx 6 _ rfl⟩ (fun hHeld => ?_); clear hK K; try simp only [Act.put, List.setIfInBounds_toArray, List.set_cons_zero, List.set_cons_succ])
  (refine rgS 7 (h := fun K hK => ?_); go_simp)
  refine (value_any W1 T L ia m cap rg pl H1.out.th orr oi).mono ?_
  rintro e W2 ⟨rfl, k2⟩
  have H2 : Hid (Wg w W2 L S T ia m cap rg pl g 1 j k nr ni orr oi n) := H1.out.step k2
  clear H1 k2
  (refine hK.out _ _ ⟨H2.out.bx 3 _ rfl, H2.out.bx 4 _ rfl, H2.out.bx 5 _ rfl, H2.out.bx 6 _ rfl⟩ (fun hHeld => ?_); clear hK K; try simp only [Act.put, List.setIfInBounds_toArray, List.set_cons_zero, List.set_cons_succ])
  refine rgT 8 (h := ?_)
  refine rgT 9 (h := ?_)
  refine wpAnyH_done (by kernel_rfl) ?_ _
  generalize valP rg nr ni = fr at *
  generalize valP rg orr oi = ol at *
  have q0 := H2.out.bx 0 _ rfl
  go_wp2_with fail
  clear q0
  (refine wp_region_held_drew (S := (fun W => W.cell? ⟨T, 0, none⟩ = some (.pointer (some ⟨L.b, 0, none⟩)) ∧ W.cell? ⟨T, 1, none⟩ = some (.int .i64 1) ∧ W.cell? ⟨g, 1, none⟩ = some (.int .i64 j) ∧ W.cell? ⟨g, 2, none⟩ = some (.int .i64 k))) (by kernel_rfl) ⟨H2.out.th.a, H2.out.th.s, H2.out.bx 1 _ rfl, H2.out.bx 2 _ rfl⟩ (fun hHeld => ?_); simp only [List.size_toArray, List.length_cons, List.length_nil, Nat.reduceAdd, Array.replicate_succ, Array.replicate_zero, List.push_toArray, List.append_toArray, List.nil_append, List.cons_append])
  refine rgT 0 (h := ?_)
  refine rgT 1 (h := ?_)
  refine rgT 2 (h := ?_)
  refine rgT 3 (h := ?_)
  refine rgT 4 (h := ?_)
  refine rgT 5 (h := ?_)
  refine rgT 6 (h := ?_)
  refine rgT 7 (h := ?_)
  refine rgT 8 (h := ?_)
  refine rgT 9 (h := ?_)
  refine rgT 10 (h := ?_)
  refine rgT 11 (h := ?_)
  refine rgT 12 (h := ?_)
  refine rgT 13 (h := ?_)
  refine rgT 14 (h := ?_)
  refine rgT 19 (h := ?_)
  refine rgT 20 (h := ?_)
  (refine rgS 15 (h := fun K hK => ?_); go_simp)
  have e0 : 0 * S.wd + j = j := by omega
  have HL := load_ok L S W2.drew 0 j H2.out.drew.hd hr (by omega) hu hj
  rw [e0] at HL
  refine HL.mono ?_
  rintro e W3 ⟨rfl, h3, k3⟩
  have H3 : Hid (Wg w W3 L { S with rc := 0, acc := wrap64 (S.acc + 1) } T ia m cap rg pl g 1 j k nr ni orr oi n) := H2.out.drew.arena h3 k3
  clear H2 h3 k3 HL
  (refine hK.out _ _ ⟨H3.out.th.a, H3.out.th.s, H3.out.bx 1 _ rfl, H3.out.bx 2 _ rfl⟩ (fun hHeld => ?_); clear hK K; try simp only [Act.put, List.setIfInBounds_toArray, List.set_cons_zero, List.set_cons_succ])
  refine rgT 16 (h := ?_)
  refine rgT 17 (h := ?_)
  refine rgT 18 (h := ?_)
  refine rgT 21 (h := ?_)
  have c4 := H3.out.th.r k hk
  have f4 := H3.out.th.fz (3 + k)
  (refine rgS 22 (h := fun K hK => ?_); go_simp)
  have H4 : Hid (Wg w (W3.setCell ⟨T, 3 + k, none⟩ (.int .u64 (S.word j))) L { S with rc := 0, acc := wrap64 (S.acc + 1) } T ia m cap (upd rg k (S.word j)) pl g 1 j k nr ni orr oi n) := H3.out.reg k hk (S.word j)
  clear H3 c4 f4
  (refine hK.out _ _ ⟨H4.out.th.a, H4.out.th.s, H4.out.bx 1 _ rfl, H4.out.bx 2 _ rfl⟩ (fun hHeld => ?_); clear hK K; try simp only [Act.put, List.setIfInBounds_toArray, List.set_cons_zero, List.set_cons_succ])
  refine wpAnyH_done (by kernel_rfl) ?_ _
  generalize W3.setCell ⟨T, 3 + k, none⟩ (.int .u64 (S.word j)) = W5 at *
  go_wp2_with fail
  (refine wp_region_held_drew (S := (fun W => W.cell? ⟨T, 2, none⟩ = some (.slice ia m cap))) (by kernel_rfl) H4.out.th.i (fun hHeld => ?_); simp only [List.size_toArray, List.length_cons, List.length_nil, Nat.reduceAdd, Array.replicate_succ, Array.replicate_zero, List.push_toArray, List.append_toArray, List.nil_append, List.cons_append])
  refine rgT 0 (h := ?_)
  refine rgT 1 (h := ?_)
  refine rgT 2 (h := ?_)
  refine rgT 3 (h := ?_)
  refine rgT 5 (h := ?_)
  refine rgT 7 (h := ?_)
  refine rgT 8 (h := ?_)
  refine rgT 9 (h := ?_)
  refine rgT 10 (h := ?_)
  refine rgT 11 (h := ?_)
  have c7 := H4.out.drew.th.p
  (refine rgS 4 (h := fun K hK => ?_); go_simp)
  (refine hK.out _ _ H4.out.drew.th.i (fun hHeld => ?_); clear hK K; try simp only [Act.put, List.setIfInBounds_toArray, List.set_cons_zero, List.set_cons_succ])
  refine rgT 6 (h := ?_)
  refine rgT 12 (h := ?_)
  refine rgT 13 (h := ?_)
  refine rgT 14 (h := ?_)
  have f7 := H4.out.drew.th.fz 7
  have hx : (if (m : Int) < IntKind.i64.wrap ((pl : Int) + 1) then (m : Int) else IntKind.i64.wrap ((pl : Int) + 1)) = ((min (pl + (1 : Int).toNat) m : Nat) : Int) := by
    rw [IntKind.wrap_i64]
    split <;> omega
  have H9 : Hid (Wg w (W5.setCell ⟨T, 7, none⟩ (.int .i64 (if (m : Int) < IntKind.i64.wrap ((pl : Int) + 1) then (m : Int) else IntKind.i64.wrap ((pl : Int) + 1)))).drew L { S with rc := 0, acc := wrap64 (S.acc + 1) } T ia m cap (upd rg k (S.word j)) (min (pl + (1 : Int).toNat) m) g 1 j k nr ni orr oi n) := by
    show Wg _ _ _ _ _ _ _ _ _ _ _ _ _ _ _ _ _ _ _
    rw [hx]
    exact (H4.out.place _).drew
  clear hx
  (refine rgS 15 (h := fun K hK => ?_); go_simp)
  clear c7 f7 H4
  (refine hK.out _ _ H9.out.th.i (fun hHeld => ?_); clear hK K; try simp only [Act.put, List.setIfInBounds_toArray, List.set_cons_zero, List.set_cons_succ])
  refine wpAnyH_done (by kernel_rfl) ?_ _
  exact ⟨rfl, .tuple #[], by simp [results, Tryz.results116], rfl, H9.out.hd, H9.out.th, H9.out.kp⟩
theorem work_store (L : Lay) (S : AS) (w : World) (T : Nat) (ia : Option Addr) (m cap : Nat) (rg : Nat → Int) (pl : Nat) (c r nr ni orr oi n : Int) (c0 : 0 ≤ c) (c1 : c < (S.wd : Int)) (h : Holds w L S) (ht : Tg w T L ia m cap rg pl) (hT : ¬ L.has T) (hr : S.rc = 0) (hn : S.n = 1) (hu : S.use 0 = true) (hm : m ≤ 1000) (hpl : pl < m) :
    Calls Tryz.prog 116 #[.pointer (some ⟨T, 0, none⟩), .agg (inC 2 c r nr ni orr oi n)] w fun e w' => e = .returned (.tuple #[]) ∧ Holds w' L { S with rc := 0, acc := wrap64 (S.acc + 1), word := upd S.word c.toNat (valP rg nr ni) } ∧ Tg w' T L ia m cap rg (min (pl + (1 : Int).toNat) m) ∧ Keeps (fun k => L.has k ∨ k = T) w w' := by
  obtain ⟨j, rfl⟩ : ∃ j : Nat, c = (j : Int) := ⟨c.toNat, by omega⟩
  have hj : j < S.wd := by omega
  have ej : ((j : Int)).toNat = j := by omega
  rw [ej]
  have HH : Hid (Wg w (inW w 2 j r nr ni orr oi n) L S T ia m cap rg pl w.heap.size 2 j r nr ni orr oi n) := Wg.start _ _ _ _ _ _ _ _ h ht hT
  clear h ht
  go_enter Tryz.func116, Tryz.ntmps116
  go_wp2_with fail
  rw [show w.alloc _ = inW w 2 j r nr ni orr oi n from rfl]
  generalize inW w 2 j r nr ni orr oi n = W0 at *
  generalize w.heap.size = g at *
  (refine wp_region_held_drew (S := (fun W => W.cell? ⟨g, 3, none⟩ = some (.int .i64 nr) ∧ W.cell? ⟨g, 4, none⟩ = some (.int .u64 ni) ∧ W.cell? ⟨g, 5, none⟩ = some (.int .i64 orr) ∧ W.cell? ⟨g, 6, none⟩ = some (.int .u64 oi))) (by kernel_rfl) ⟨HH.out.bx 3 _ rfl, HH.out.bx 4 _ rfl, HH.out.bx 5 _ rfl, HH.out.bx 6 _ rfl⟩ (fun hHeld => ?_); simp only [List.size_toArray, List.length_cons, List.length_nil, Nat.reduceAdd, Array.replicate_succ, Array.replicate_zero, List.push_toArray, List.append_toArray, List.nil_append, List.cons_append])
  refine rgT 0 (h := ?_)
  refine rgT 1 (h := ?_)
  refine rgT 2 (h := ?_)
  refine rgT 4 (h := ?_)
  refine rgT 5 (h := ?_)
  refine rgT 6 (h := ?_)
  (refine rgS 3 (h := fun K hK => ?_); go_simp)
  refine (value_any W0.drew T L ia m cap rg pl HH.out.drew.th nr ni).mono ?_
  rintro e W1 ⟨rfl, k1⟩
  have H1 : Hid (Wg w W1 L S T ia m cap rg pl g 2 j r nr ni orr oi n) := HH.out.drew.step k1
  clear HH k1
  (refine hK.out _ _ ⟨H1.out.bx 3 _ rfl, H1.out.bx 4 _ rfl, H1.out.bx 5 _ rfl, H1.out.bx 6 _ rfl⟩ (fun hHeld => ?_); clear hK K; try simp only [Act.put, List.setIfInBounds_toArray, List.set_cons_zero, List.set_cons_succ])
  (refine rgS 7 (h := fun K hK => ?_); go_simp)
  refine (value_any W1 T L ia m cap rg pl H1.out.th orr oi).mono ?_
  rintro e W2 ⟨rfl, k2⟩
  have H2 : Hid (Wg w W2 L S T ia m cap rg pl g 2 j r nr ni orr oi n) := H1.out.step k2
  clear H1 k2
  (refine hK.out _ _ ⟨H2.out.bx 3 _ rfl, H2.out.bx 4 _ rfl, H2.out.bx 5 _ rfl, H2.out.bx 6 _ rfl⟩ (fun hHeld => ?_); clear hK K; try simp only [Act.put, List.setIfInBounds_toArray, List.set_cons_zero, List.set_cons_succ])
  refine rgT 8 (h := ?_)
  refine rgT 9 (h := ?_)
  refine wpAnyH_done (by kernel_rfl) ?_ _
  generalize valP rg orr oi = ol at *
  have q0 := H2.out.bx 0 _ rfl
  go_wp2_with fail
  clear q0
  (refine wp_region_held_drew (S := (fun W => W.cell? ⟨T, 0, none⟩ = some (.pointer (some ⟨L.b, 0, none⟩)) ∧ W.cell? ⟨T, 1, none⟩ = some (.int .i64 1) ∧ W.cell? ⟨g, 1, none⟩ = some (.int .i64 j))) (by kernel_rfl) ⟨H2.out.th.a, H2.out.th.s, H2.out.bx 1 _ rfl⟩ (fun hHeld => ?_); simp only [List.size_toArray, List.length_cons, List.length_nil, Nat.reduceAdd, Array.replicate_succ, Array.replicate_zero, List.push_toArray, List.append_toArray, List.nil_append, List.cons_append])
  refine rgT 0 (h := ?_)
  refine rgT 1 (h := ?_)
  refine rgT 2 (h := ?_)
  refine rgT 3 (h := ?_)
  refine rgT 4 (h := ?_)
  refine rgT 5 (h := ?_)
  refine rgT 6 (h := ?_)
  refine rgT 7 (h := ?_)
  refine rgT 8 (h := ?_)
  refine rgT 9 (h := ?_)
  refine rgT 10 (h := ?_)
  refine rgT 11 (h := ?_)
  refine rgT 12 (h := ?_)
  (refine rgS 13 (h := fun K hK => ?_); go_simp)
  have e0 : 0 * S.wd + j = j := by omega
  have HL := store_ok L S W2.drew 0 j (valP rg nr ni) H2.out.drew.hd hr (by omega) hu hj
  rw [e0] at HL
  refine HL.mono ?_
  rintro e W3 ⟨rfl, h3, k3⟩
  have H3 : Hid (Wg w W3 L { S with rc := 0, acc := wrap64 (S.acc + 1), word := upd S.word j (valP rg nr ni) } T ia m cap rg pl g 2 j r nr ni orr oi n) := H2.out.drew.arena h3 k3
  clear H2 h3 k3 HL
  (refine hK.out _ _ ⟨H3.out.th.a, H3.out.th.s, H3.out.bx 1 _ rfl⟩ (fun hHeld => ?_); clear hK K; try simp only [Act.put, List.setIfInBounds_toArray, List.set_cons_zero, List.set_cons_succ])
  refine wpAnyH_done (by kernel_rfl) ?_ _
  go_wp2_with fail
  (refine wp_region_held_drew (S := (fun W => W.cell? ⟨T, 2, none⟩ = some (.slice ia m cap))) (by kernel_rfl) H3.out.th.i (fun hHeld => ?_); simp only [List.size_toArray, List.length_cons, List.length_nil, Nat.reduceAdd, Array.replicate_succ, Array.replicate_zero, List.push_toArray, List.append_toArray, List.nil_append, List.cons_append])
  refine rgT 0 (h := ?_)
  refine rgT 1 (h := ?_)
  refine rgT 2 (h := ?_)
  refine rgT 3 (h := ?_)
  refine rgT 5 (h := ?_)
  refine rgT 7 (h := ?_)
  refine rgT 8 (h := ?_)
  refine rgT 9 (h := ?_)
  refine rgT 10 (h := ?_)
  refine rgT 11 (h := ?_)
  have c7 := H3.out.drew.th.p
  (refine rgS 4 (h := fun K hK => ?_); go_simp)
  (refine hK.out _ _ H3.out.drew.th.i (fun hHeld => ?_); clear hK K; try simp only [Act.put, List.setIfInBounds_toArray, List.set_cons_zero, List.set_cons_succ])
  refine rgT 6 (h := ?_)
  refine rgT 12 (h := ?_)
  refine rgT 13 (h := ?_)
  refine rgT 14 (h := ?_)
  have f7 := H3.out.drew.th.fz 7
  have hx : (if (m : Int) < IntKind.i64.wrap ((pl : Int) + 1) then (m : Int) else IntKind.i64.wrap ((pl : Int) + 1)) = ((min (pl + (1 : Int).toNat) m : Nat) : Int) := by
    rw [IntKind.wrap_i64]
    split <;> omega
  have H9 : Hid (Wg w (W3.setCell ⟨T, 7, none⟩ (.int .i64 (if (m : Int) < IntKind.i64.wrap ((pl : Int) + 1) then (m : Int) else IntKind.i64.wrap ((pl : Int) + 1)))).drew L { S with rc := 0, acc := wrap64 (S.acc + 1), word := upd S.word j (valP rg nr ni) } T ia m cap rg (min (pl + (1 : Int).toNat) m) g 2 j r nr ni orr oi n) := by
    show Wg _ _ _ _ _ _ _ _ _ _ _ _ _ _ _ _ _ _ _
    rw [hx]
    exact (H3.out.place _).drew
  clear hx
  (refine rgS 15 (h := fun K hK => ?_); go_simp)
  clear c7 f7 H3
  (refine hK.out _ _ H9.out.th.i (fun hHeld => ?_); clear hK K; try simp only [Act.put, List.setIfInBounds_toArray, List.set_cons_zero, List.set_cons_succ])
  refine wpAnyH_done (by kernel_rfl) ?_ _
  exact ⟨rfl, .tuple #[], by simp [results, Tryz.results116], rfl, H9.out.hd, H9.out.th, H9.out.kp⟩
end Go.Proofs.YtdpebhdjcgiboaaGreat
