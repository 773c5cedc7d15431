import Derived.Test.YtdpebhdjcgiboaaGreatKSe2
namespace Go.Proofs.YtdpebhdjcgiboaaGreat
set_option linter.unusedSimpArgs false
open Go.ChangeShapes Go.WideShapes Go.ChangeAt Go.RowKit Go.MuLone Go.RwLone
set_option linter.unusedVariables false
set_option maxRecDepth 100000
set_option maxHeartbeats 3200000
theorem work_swap_any (L : Lay) (S : AS) (w : World) (T : Nat) (ia : Option Addr) (m cap : Nat) (rg : Nat → Int) (pl : Nat) (c r nr ni orr oi n : Int) (b : Bool) (wo : Nat → Int) (hb : b = decide (S.word c.toNat = valP rg orr oi)) (hwo : wo = if S.word c.toNat = valP rg orr oi then upd S.word c.toNat (valP rg nr ni) else S.word) (c0 : 0 ≤ c) (c1 : c < (S.wd : Int)) (r0 : 0 ≤ r) (r1 : r < 4) (h : Holds w L S) (ht : Tg w T L ia m cap rg pl) (hT : ¬ L.has T) (hr : S.rc = 0) (hn : S.n = 1) (hu : S.use 0 = true) (hm : m ≤ 1000) (hpl : pl < m) :
    Calls Tryz.prog 116 #[.pointer (some ⟨T, 0, none⟩), .agg (inC 3 c r nr ni orr oi n)] w fun e w' => e = .returned (.tuple #[]) ∧ Holds w' L { S with rc := 0, acc := wrap64 (S.acc + 1), word := wo } ∧ Tg w' T L ia m cap (upd rg r.toNat (bitI b)) (min (pl + (1 : Int).toNat) m) ∧ Keeps (fun k => L.has k ∨ k = T) w w' := by
  have HB : Hid (b = decide (S.word c.toNat = valP rg orr oi) ∧ wo = if S.word c.toNat = valP rg orr oi then upd S.word c.toNat (valP rg nr ni) else S.word) := ⟨hb, hwo⟩
  clear hb hwo
  obtain ⟨j, rfl⟩ : ∃ j : Nat, c = (j : Int) := ⟨c.toNat, by omega⟩
  have hj : j < S.wd := by omega
  have ej : ((j : Int)).toNat = j := by omega
  rw [ej] at HB
  obtain ⟨k, rfl⟩ : ∃ k : Nat, r = (k : Int) := ⟨r.toNat, by omega⟩
  have hk : k < 4 := by omega
  have ek : ((k : Int)).toNat = k := by omega
  rw [ek]
  have hr0 : (0 : Int) ≤ (k : Int) := Int.natCast_nonneg _
  have hr1 : (k : Int) < 4 := by omega
  have HH : Hid (Wg w (inW w 3 j k nr ni orr oi n) L S T ia m cap rg pl w.heap.size 3 j k nr ni orr oi n) := Wg.start _ _ _ _ _ _ _ _ h ht hT
  clear h ht
  go_enter Tryz.func116, Tryz.ntmps116
  go_wp2_with fail
  rw [show w.alloc _ = inW w 3 j k nr ni orr oi n from rfl]
  generalize inW w 3 j k nr ni orr oi n = W0 at *
  generalize w.heap.size = g at *
  (refine wp_region_held_drew (S := (fun W => W.cell? ⟨g, 3, none⟩ = some (.int .i64 nr) ∧ W.cell? ⟨g, 4, none⟩ = some (.int .u64 ni) ∧ W.cell? ⟨g, 5, none⟩ = some (.int .i64 orr) ∧ W.cell? ⟨g, 6, none⟩ = some (.int .u64 oi))) (by kernel_rfl) ⟨HH.out.bx 3 _ rfl, HH.out.bx 4 _ rfl, HH.out.bx 5 _ rfl, HH.out.bx 6 _ rfl⟩ (fun hHeld => ?_); simp only [List.size_toArray, List.length_cons, List.length_nil, Nat.reduceAdd, Array.replicate_succ, Array.replicate_zero, List.push_toArray, List.append_toArray, List.nil_append, List.cons_append])
  refine rgT 0 (h := ?_)
  refine rgT 1 (h := ?_)
  refine rgT 2 (h := ?_)
  refine rgT 4 (h := ?_)
  refine rgT 5 (h := ?_)
  refine rgT 6 (h := ?_)
  (refine rgS 3 (h := fun K hK => ?_); go_simp)
  refine (value_any W0.drew T L ia m cap rg pl HH.out.drew.th nr ni).mono ?_
  rintro e W1 ⟨rfl, k1⟩
  have H1 : Hid (Wg w W1 L S T ia m cap rg pl g 3 j k nr ni orr oi n) := HH.out.drew.step k1
  clear HH k1
  (refine hK.out _ _ ⟨H1.out.bx 3 _ rfl, H1.out.bx 4 _ rfl, H1.out.bx 5 _ rfl, H1.out.bx 6 _ rfl⟩ (fun hHeld => ?_); clear hK K; try simp only [Act.put, List.setIfInBounds_toArray, List.set_cons_zero, List.set_cons_succ])
  (refine rgS 7 (h := fun K hK => ?_); go_simp)
  refine (value_any W1 T L ia m cap rg pl H1.out.th orr oi).mono ?_
  rintro e W2 ⟨rfl, k2⟩
  have H2 : Hid (Wg w W2 L S T ia m cap rg pl g 3 j k nr ni orr oi n) := H1.out.step k2
  clear H1 k2
  (refine hK.out _ _ ⟨H2.out.bx 3 _ rfl, H2.out.bx 4 _ rfl, H2.out.bx 5 _ rfl, H2.out.bx 6 _ rfl⟩ (fun hHeld => ?_); clear hK K; try simp only [Act.put, List.setIfInBounds_toArray, List.set_cons_zero, List.set_cons_succ])
  refine rgT 8 (h := ?_)
  refine rgT 9 (h := ?_)
  refine wpAnyH_done (by kernel_rfl) ?_ _
  generalize valP rg nr ni = fr at *
  generalize valP rg orr oi = ol at *
  have q0 := H2.out.bx 0 _ rfl
  go_wp2_with fail
  clear q0
  (refine wp_region_held_drew (S := (fun W => W.cell? ⟨T, 0, none⟩ = some (.pointer (some ⟨L.b, 0, none⟩)) ∧ W.cell? ⟨T, 1, none⟩ = some (.int .i64 1) ∧ W.cell? ⟨g, 1, none⟩ = some (.int .i64 j))) (by kernel_rfl) ⟨H2.out.th.a, H2.out.th.s, H2.out.bx 1 _ rfl⟩ (fun hHeld => ?_); simp only [List.size_toArray, List.length_cons, List.length_nil, Nat.reduceAdd, Array.replicate_succ, Array.replicate_zero, List.push_toArray, List.append_toArray, List.nil_append, List.cons_append])
  refine rgT 0 (h := ?_)
  refine rgT 1 (h := ?_)
  refine rgT 2 (h := ?_)
  refine rgT 3 (h := ?_)
  refine rgT 4 (h := ?_)
  refine rgT 5 (h := ?_)
  refine rgT 6 (h := ?_)
  refine rgT 7 (h := ?_)
  refine rgT 8 (h := ?_)
  refine rgT 9 (h := ?_)
  refine rgT 10 (h := ?_)
  refine rgT 11 (h := ?_)
  refine rgT 12 (h := ?_)
  refine rgT 13 (h := ?_)
  (refine rgS 14 (h := fun K hK => ?_); go_simp)
  refine (cas_one L S _ j ol fr b wo HB H2.out.drew.hd hr hn hu hj).mono ?_
  rintro e W3 ⟨rfl, h3, k3⟩
  have H3 : Hid (Wg w W3 L { S with rc := 0, acc := wrap64 (S.acc + 1), word := wo } T ia m cap rg pl g 3 j k nr ni orr oi n) := H2.out.drew.arena h3 k3
  clear H2 h3 k3 HB
  (refine hK.out _ _ ⟨H3.out.th.a, H3.out.th.s, H3.out.bx 1 _ rfl⟩ (fun hHeld => ?_); clear hK K; try simp only [Act.put, List.setIfInBounds_toArray, List.set_cons_zero, List.set_cons_succ])
  refine rgT 15 (h := ?_)
  refine rgT 16 (h := ?_)
  refine rgT 17 (h := ?_)
  refine rgT 18 (h := ?_)
  refine rgT 19 (h := ?_)
  refine wpAnyH_done (by kernel_rfl) ?_ _
  go_wp2_with fail
  (refine wp_region_held_drew (S := (fun W => W.cell? ⟨g, 2, none⟩ = some (.int .i64 k))) (by kernel_rfl) (H3.out.bx 2 _ rfl) (fun hHeld => ?_); simp only [List.size_toArray, List.length_cons, List.length_nil, Nat.reduceAdd, Array.replicate_succ, Array.replicate_zero, List.push_toArray, List.append_toArray, List.nil_append, List.cons_append])
  refine rgT 0 (h := ?_)
  refine rgT 1 (h := ?_)
  refine rgT 2 (h := ?_)
  refine rgT 3 (h := ?_)
  refine rgT 5 (h := ?_)
  refine rgT 6 (h := ?_)
  (refine rgS 4 (h := fun K hK => ?_); go_simp)
  refine (truth_any b _).mono ?_
  rintro e W4 ⟨rfl, rfl⟩
  (refine hK.out _ _ (H3.out.bx 2 _ rfl) (fun hHeld => ?_); clear hK K; try simp only [Act.put, List.setIfInBounds_toArray, List.set_cons_zero, List.set_cons_succ])
  refine rgT 7 (h := ?_)
  have c4 := H3.out.drew.th.r k hk
  have f4 := H3.out.drew.th.fz (3 + k)
  (refine rgS 8 (h := fun K hK => ?_); go_simp)
  have H4 : Hid (Wg w (W3.setCell ⟨T, 3 + k, none⟩ (.int .u64 (bitI b))).drew L { S with rc := 0, acc := wrap64 (S.acc + 1), word := wo } T ia m cap (upd rg k (bitI b)) pl g 3 j k nr ni orr oi n) := (H3.out.reg k hk (bitI b)).drew
  clear H3 c4 f4
  (refine hK.out _ _ (H4.out.bx 2 _ rfl) (fun hHeld => ?_); clear hK K; try simp only [Act.put, List.setIfInBounds_toArray, List.set_cons_zero, List.set_cons_succ])
  refine wpAnyH_done (by kernel_rfl) ?_ _
  generalize (W3.setCell ⟨T, 3 + k, none⟩ (.int .u64 (bitI b))).drew = W5 at *
  go_wp2_with fail
  (refine wp_region_held_drew (S := (fun W => W.cell? ⟨T, 2, none⟩ = some (.slice ia m cap))) (by kernel_rfl) H4.out.th.i (fun hHeld => ?_); simp only [List.size_toArray, List.length_cons, List.length_nil, Nat.reduceAdd, Array.replicate_succ, Array.replicate_zero, List.push_toArray, List.append_toArray, List.nil_append, List.cons_append])
  refine rgT 0 (h := ?_)
  refine rgT 1 (h := ?_)
  refine rgT 2 (h := ?_)
  refine rgT 3 (h := ?_)
  refine rgT 5 (h := ?_)
  refine rgT 7 (h := ?_)
  refine rgT 8 (h := ?_)
  refine rgT 9 (h := ?_)
  refine rgT 10 (h := ?_)
  refine rgT 11 (h := ?_)
  have c7 := H4.out.drew.th.p
  (refine rgS 4 (h := fun K hK => ?_); go_simp)
  (refine hK.out _ _ H4.out.drew.th.i (fun hHeld => ?_); clear hK K; try simp only [Act.put, List.setIfInBounds_toArray, List.set_cons_zero, List.set_cons_succ])
  refine rgT 6 (h := ?_)
  refine rgT 12 (h := ?_)
  refine rgT 13 (h := ?_)
  refine rgT 14 (h := ?_)
  have f7 := H4.out.drew.th.fz 7
  have hx : (if (m : Int) < IntKind.i64.wrap ((pl : Int) + 1) then (m : Int) else IntKind.i64.wrap ((pl : Int) + 1)) = ((min (pl + (1 : Int).toNat) m : Nat) : Int) := by
    rw [IntKind.wrap_i64]
    split <;> omega
  have H9 : Hid (Wg w (W5.setCell ⟨T, 7, none⟩ (.int .i64 (if (m : Int) < IntKind.i64.wrap ((pl : Int) + 1) then (m : Int) else IntKind.i64.wrap ((pl : Int) + 1)))).drew L { S with rc := 0, acc := wrap64 (S.acc + 1), word := wo } T ia m cap (upd rg k (bitI b)) (min (pl + (1 : Int).toNat) m) g 3 j k nr ni orr oi n) := by
    show Wg _ _ _ _ _ _ _ _ _ _ _ _ _ _ _ _ _ _ _
    rw [hx]
    exact (H4.out.place _).drew
  clear hx
  (refine rgS 15 (h := fun K hK => ?_); go_simp)
  clear c7 f7 H4
  (refine hK.out _ _ H9.out.th.i (fun hHeld => ?_); clear hK K; try simp only [Act.put, List.setIfInBounds_toArray, List.set_cons_zero, List.set_cons_succ])
  refine wpAnyH_done (by kernel_rfl) ?_ _
  exact ⟨rfl, .tuple #[], by simp [results, Tryz.results116], rfl, H9.out.hd, H9.out.th, H9.out.kp⟩
theorem work_add (L : Lay) (S : AS) (w : World) (T : Nat) (ia : Option Addr) (m cap : Nat) (rg : Nat → Int) (pl : Nat) (c r nr ni orr oi n : Int) (wo : Nat → Int) (hwo : wo = upd S.word c.toNat (IntKind.u64.wrap (S.word c.toNat + valP rg nr ni))) (x0 : 0 ≤ S.word c.toNat) (x1 : S.word c.toNat < 18446744073709551616) (c0 : 0 ≤ c) (c1 : c < (S.wd : Int)) (r0 : 0 ≤ r) (r1 : r < 4) (h : Holds w L S) (ht : Tg w T L ia m cap rg pl) (hT : ¬ L.has T) (hr : S.rc = 0) (hn : S.n = 1) (hu : S.use 0 = true) (hm : m ≤ 1000) (hpl : pl < m) :
    Calls Tryz.prog 116 #[.pointer (some ⟨T, 0, none⟩), .agg (inC 4 c r nr ni orr oi n)] w fun e w' => e = .returned (.tuple #[]) ∧ Holds w' L { S with rc := 0, acc := wrap64 (S.acc + 1), word := wo } ∧ Tg w' T L ia m cap (upd rg r.toNat (S.word c.toNat)) (min (pl + (1 : Int).toNat) m) ∧ Keeps (fun k => L.has k ∨ k = T) w w' := by
  have HW0 : Hid (wo = upd S.word c.toNat (IntKind.u64.wrap (S.word c.toNat + valP rg nr ni))) := hwo
  clear hwo
  obtain ⟨j, rfl⟩ : ∃ j : Nat, c = (j : Int) := ⟨c.toNat, by omega⟩
  have hj : j < S.wd := by omega
  have ej : ((j : Int)).toNat = j := by omega
  rw [ej] at HW0 x0 x1
  rw [ej]
  obtain ⟨k, rfl⟩ : ∃ k : Nat, r = (k : Int) := ⟨r.toNat, by omega⟩
  have hk : k < 4 := by omega
  have ek : ((k : Int)).toNat = k := by omega
  rw [ek]
  have hr0 : (0 : Int) ≤ (k : Int) := Int.natCast_nonneg _
  have hr1 : (k : Int) < 4 := by omega
  have HH : Hid (Wg w (inW w 4 j k nr ni orr oi n) L S T ia m cap rg pl w.heap.size 4 j k nr ni orr oi n) := Wg.start _ _ _ _ _ _ _ _ h ht hT
  clear h ht
  go_enter Tryz.func116, Tryz.ntmps116
  go_wp2_with fail
  rw [show w.alloc _ = inW w 4 j k nr ni orr oi n from rfl]
  generalize inW w 4 j k nr ni orr oi n = W0 at *
  generalize w.heap.size = g at *
  (refine wp_region_held_drew (S := (fun W => W.cell? ⟨g, 3, none⟩ = some (.int .i64 nr) ∧ W.cell? ⟨g, 4, none⟩ = some (.int .u64 ni) ∧ W.cell? ⟨g, 5, none⟩ = some (.int .i64 orr) ∧ W.cell? ⟨g, 6, none⟩ = some (.int .u64 oi))) (by kernel_rfl) ⟨HH.out.bx 3 _ rfl, HH.out.bx 4 _ rfl, HH.out.bx 5 _ rfl, HH.out.bx 6 _ rfl⟩ (fun hHeld => ?_); simp only [List.size_toArray, List.length_cons, List.length_nil, Nat.reduceAdd, Array.replicate_succ, Array.replicate_zero, List.push_toArray, List.append_toArray, List.nil_append, List.cons_append])
  refine rgT 0 (h := ?_)
  refine rgT 1 (h := ?_)
  refine rgT 2 (h := ?_)
  refine rgT 4 (h := ?_)
  refine rgT 5 (h := ?_)
  refine rgT 6 (h := ?_)
  (refine rgS 3 (h := fun K hK => ?_); go_simp)
  refine (value_any W0.drew T L ia m cap rg pl HH.out.drew.th nr ni).mono ?_
  rintro e W1 ⟨rfl, k1⟩
  have H1 : Hid (Wg w W1 L S T ia m cap rg pl g 4 j k nr ni orr oi n) := HH.out.drew.step k1
  clear HH k1
  (refine hK.out _ _ ⟨H1.out.bx 3 _ rfl, H1.out.bx 4 _ rfl, H1.out.bx 5 _ rfl, H1.out.bx 6 _ rfl⟩ (fun hHeld => ?_); clear hK K; try simp only [Act.put, List.setIfInBounds_toArray, List.set_cons_zero, List.set_cons_succ])
  (refine rgS 7 (h := fun K hK => ?_); go_simp)
  refine (value_any W1 T L ia m cap rg pl H1.out.th orr oi).mono ?_
  rintro e W2 ⟨rfl, k2⟩
  have H2 : Hid (Wg w W2 L S T ia m cap rg pl g 4 j k nr ni orr oi n) := H1.out.step k2
  clear H1 k2
  (refine hK.out _ _ ⟨H2.out.bx 3 _ rfl, H2.out.bx 4 _ rfl, H2.out.bx 5 _ rfl, H2.out.bx 6 _ rfl⟩ (fun hHeld => ?_); clear hK K; try simp only [Act.put, List.setIfInBounds_toArray, List.set_cons_zero, List.set_cons_succ])
  refine rgT 8 (h := ?_)
  refine rgT 9 (h := ?_)
  refine wpAnyH_done (by kernel_rfl) ?_ _
  generalize valP rg nr ni = fr at *
  generalize valP rg orr oi = ol at *
  have q0 := H2.out.bx 0 _ rfl
  go_wp2_with fail
  clear q0
  (refine wp_region_held_drew (S := (fun W => W.cell? ⟨T, 0, none⟩ = some (.pointer (some ⟨L.b, 0, none⟩)) ∧ W.cell? ⟨T, 1, none⟩ = some (.int .i64 1) ∧ W.cell? ⟨g, 1, none⟩ = some (.int .i64 j) ∧ W.cell? ⟨g, 2, none⟩ = some (.int .i64 k))) (by kernel_rfl) ⟨H2.out.th.a, H2.out.th.s, H2.out.bx 1 _ rfl, H2.out.bx 2 _ rfl⟩ (fun hHeld => ?_); simp only [List.size_toArray, List.length_cons, List.length_nil, Nat.reduceAdd, Array.replicate_succ, Array.replicate_zero, List.push_toArray, List.append_toArray, List.nil_append, List.cons_append])
  refine rgT 0 (h := ?_)
  refine rgT 1 (h := ?_)
  refine rgT 2 (h := ?_)
  refine rgT 3 (h := ?_)
  refine rgT 4 (h := ?_)
  refine rgT 5 (h := ?_)
  refine rgT 6 (h := ?_)
  refine rgT 7 (h := ?_)
  refine rgT 8 (h := ?_)
  refine rgT 9 (h := ?_)
  refine rgT 10 (h := ?_)
  refine rgT 11 (h := ?_)
  refine rgT 12 (h := ?_)
  refine rgT 13 (h := ?_)
  refine rgT 14 (h := ?_)
  refine rgT 15 (h := ?_)
  refine rgT 20 (h := ?_)
  refine rgT 21 (h := ?_)
  (refine rgS 16 (h := fun K hK => ?_); go_simp)
  have e0 : 0 * S.wd + j = j := by omega
  have HL := add_ok L S W2.drew 0 j fr wo (by rw [e0]; exact HW0) H2.out.drew.hd hr (by omega) hu hj (by rw [e0]; exact x0) (by rw [e0]; exact x1)
  rw [e0] at HL
  refine HL.mono ?_
  rintro e W3 ⟨rfl, h3, k3⟩
  have H3 : Hid (Wg w W3 L { S with rc := 0, acc := wrap64 (S.acc + 1), word := wo } T ia m cap rg pl g 4 j k nr ni orr oi n) := H2.out.drew.arena h3 k3
  clear H2 h3 k3 HL HW0 x0 x1
  (refine hK.out _ _ ⟨H3.out.th.a, H3.out.th.s, H3.out.bx 1 _ rfl, H3.out.bx 2 _ rfl⟩ (fun hHeld => ?_); clear hK K; try simp only [Act.put, List.setIfInBounds_toArray, List.set_cons_zero, List.set_cons_succ])
  refine rgT 17 (h := ?_)
  refine rgT 18 (h := ?_)
  refine rgT 19 (h := ?_)
  refine rgT 22 (h := ?_)
  have c4 := H3.out.th.r k hk
  have f4 := H3.out.th.fz (3 + k)
  (refine rgS 23 (h := fun K hK => ?_); go_simp)
  have H4 : Hid (Wg w (W3.setCell ⟨T, 3 + k, none⟩ (.int .u64 (S.word j))) L { S with rc := 0, acc := wrap64 (S.acc + 1), word := wo } T ia m cap (upd rg k (S.word j)) pl g 4 j k nr ni orr oi n) := H3.out.reg k hk (S.word j)
  clear H3 c4 f4
  (refine hK.out _ _ ⟨H4.out.th.a, H4.out.th.s, H4.out.bx 1 _ rfl, H4.out.bx 2 _ rfl⟩ (fun hHeld => ?_); clear hK K; try simp only [Act.put, List.setIfInBounds_toArray, List.set_cons_zero, List.set_cons_succ])
  refine wpAnyH_done (by kernel_rfl) ?_ _
  generalize W3.setCell ⟨T, 3 + k, none⟩ (.int .u64 (S.word j)) = W5 at *
  go_wp2_with fail
  (refine wp_region_held_drew (S := (fun W => W.cell? ⟨T, 2, none⟩ = some (.slice ia m cap))) (by kernel_rfl) H4.out.th.i (fun hHeld => ?_); simp only [List.size_toArray, List.length_cons, List.length_nil, Nat.reduceAdd, Array.replicate_succ, Array.replicate_zero, List.push_toArray, List.append_toArray, List.nil_append, List.cons_append])
  refine rgT 0 (h := ?_)
  refine rgT 1 (h := ?_)
  refine rgT 2 (h := ?_)
  refine rgT 3 (h := ?_)
  refine rgT 5 (h := ?_)
  refine rgT 7 (h := ?_)
  refine rgT 8 (h := ?_)
  refine rgT 9 (h := ?_)
  refine rgT 10 (h := ?_)
  refine rgT 11 (h := ?_)
  have c7 := H4.out.drew.th.p
  (refine rgS 4 (h := fun K hK => ?_); go_simp)
  (refine hK.out _ _ H4.out.drew.th.i (fun hHeld => ?_); clear hK K; try simp only [Act.put, List.setIfInBounds_toArray, List.set_cons_zero, List.set_cons_succ])
  refine rgT 6 (h := ?_)
  refine rgT 12 (h := ?_)
  refine rgT 13 (h := ?_)
  refine rgT 14 (h := ?_)
  have f7 := H4.out.drew.th.fz 7
  have hx : (if (m : Int) < IntKind.i64.wrap ((pl : Int) + 1) then (m : Int) else IntKind.i64.wrap ((pl : Int) + 1)) = ((min (pl + (1 : Int).toNat) m : Nat) : Int) := by
    rw [IntKind.wrap_i64]
    split <;> omega
  have H9 : Hid (Wg w (W5.setCell ⟨T, 7, none⟩ (.int .i64 (if (m : Int) < IntKind.i64.wrap ((pl : Int) + 1) then (m : Int) else IntKind.i64.wrap ((pl : Int) + 1)))).drew L { S with rc := 0, acc := wrap64 (S.acc + 1), word := wo } T ia m cap (upd rg k (S.word j)) (min (pl + (1 : Int).toNat) m) g 4 j k nr ni orr oi n) := by
    show Wg _ _ _ _ _ _ _ _ _ _ _ _ _ _ _ _ _ _ _
    rw [hx]
    exact (H4.out.place _).drew
  clear hx
  (refine rgS 15 (h := fun K hK => ?_); go_simp)
  clear c7 f7 H4
  (refine hK.out _ _ H9.out.th.i (fun hHeld => ?_); clear hK K; try simp only [Act.put, List.setIfInBounds_toArray, List.set_cons_zero, List.set_cons_succ])
  refine wpAnyH_done (by kernel_rfl) ?_ _
  exact ⟨rfl, .tuple #[], by simp [results, Tryz.results116], rfl, H9.out.hd, H9.out.th, H9.out.kp⟩
theorem work_skip_hit (L : Lay) (S : AS) (w : World) (T : Nat) (ia : Option Addr) (m cap : Nat) (rg : Nat → Int) (pl : Nat) (c r nr ni orr oi n : Int) (hq : rg r.toNat = valP rg nr ni) (n0 : 1 ≤ n) (n1 : n ≤ 10) (r0 : 0 ≤ r) (r1 : r < 4) (h : Holds w L S) (ht : Tg w T L ia m cap rg pl) (hT : ¬ L.has T) (hr : S.rc = 0) (hn : S.n = 1) (hu : S.use 0 = true) (hm : m ≤ 1000) (hpl : pl < m) :
    Calls Tryz.prog 116 #[.pointer (some ⟨T, 0, none⟩), .agg (inC 5 c r nr ni orr oi n)] w fun e w' => e = .returned (.tuple #[]) ∧ Holds w' L S ∧ Tg w' T L ia m cap rg (min (pl + (1 + n : Int).toNat) m) ∧ Keeps (fun k => L.has k ∨ k = T) w w' := by
  have HQ : Hid (rg r.toNat = valP rg nr ni) := hq
  clear hq
  obtain ⟨k, rfl⟩ : ∃ k : Nat, r = (k : Int) := ⟨r.toNat, by omega⟩
  have hk : k < 4 := by omega
  have ek : ((k : Int)).toNat = k := by omega
  rw [ek] at HQ
  have hr0 : (0 : Int) ≤ (k : Int) := Int.natCast_nonneg _
  have hr1 : (k : Int) < 4 := by omega
  have HH : Hid (Wg w (inW w 5 c k nr ni orr oi n) L S T ia m cap rg pl w.heap.size 5 c k nr ni orr oi n) := Wg.start _ _ _ _ _ _ _ _ h ht hT
  clear h ht
  go_enter Tryz.func116, Tryz.ntmps116
  go_wp2_with fail
  rw [show w.alloc _ = inW w 5 c k nr ni orr oi n from rfl]
  generalize inW w 5 c k nr ni orr oi n = W0 at *
  generalize w.heap.size = g at *
  (refine wp_region_held_drew (S := (fun W => W.cell? ⟨g, 3, none⟩ = some (.int .i64 nr) ∧ W.cell? ⟨g, 4, none⟩ = some (.int .u64 ni) ∧ W.cell? ⟨g, 5, none⟩ = some (.int .i64 orr) ∧ W.cell? ⟨g, 6, none⟩ = some (.int .u64 oi))) (by kernel_rfl) ⟨HH.out.bx 3 _ rfl, HH.out.bx 4 _ rfl, HH.out.bx 5 _ rfl, HH.out.bx 6 _ rfl⟩ (fun hHeld => ?_); simp only [List.size_toArray, List.length_cons, List.length_nil, Nat.reduceAdd, Array.replicate_succ, Array.replicate_zero, List.push_toArray, List.append_toArray, List.nil_append, List.cons_append])
  refine rgT 0 (h := ?_)
  refine rgT 1 (h := ?_)
  refine rgT 2 (h := ?_)
  refine rgT 4 (h := ?_)
  refine rgT 5 (h := ?_)
  refine rgT 6 (h := ?_)
  (refine rgS 3 (h := fun K hK => ?_); go_simp)
  refine (value_any W0.drew T L ia m cap rg pl HH.out.drew.th nr ni).mono ?_
  rintro e W1 ⟨rfl, k1⟩
  have H1 : Hid (Wg w W1 L S T ia m cap rg pl g 5 c k nr ni orr oi n) := HH.out.drew.step k1
  clear HH k1
  (refine hK.out _ _ ⟨H1.out.bx 3 _ rfl, H1.out.bx 4 _ rfl, H1.out.bx 5 _ rfl, H1.out.bx 6 _ rfl⟩ (fun hHeld => ?_); clear hK K; try simp only [Act.put, List.setIfInBounds_toArray, List.set_cons_zero, List.set_cons_succ])
  (refine rgS 7 (h := fun K hK => ?_); go_simp)
  refine (value_any W1 T L ia m cap rg pl H1.out.th orr oi).mono ?_
  rintro e W2 ⟨rfl, k2⟩
  have H2 : Hid (Wg w W2 L S T ia m cap rg pl g 5 c k nr ni orr oi n) := H1.out.step k2
  clear H1 k2
  (refine hK.out _ _ ⟨H2.out.bx 3 _ rfl, H2.out.bx 4 _ rfl, H2.out.bx 5 _ rfl, H2.out.bx 6 _ rfl⟩ (fun hHeld => ?_); clear hK K; try simp only [Act.put, List.setIfInBounds_toArray, List.set_cons_zero, List.set_cons_succ])
  refine rgT 8 (h := ?_)
  refine rgT 9 (h := ?_)
  refine wpAnyH_done (by kernel_rfl) ?_ _
  have hq := HQ.out
  clear HQ
  generalize valP rg nr ni = fr at *
  generalize valP rg orr oi = ol at *
  have q0 := H2.out.bx 0 _ rfl
  go_wp2_with fail
  clear q0
  (refine wp_region_held_drew (S := (fun W => W.cell? ⟨g, 2, none⟩ = some (.int .i64 k) ∧ W.cell? ⟨T, 3 + k, none⟩ = some (.int .u64 (rg k)))) (by kernel_rfl) ⟨H2.out.bx 2 _ rfl, H2.out.th.r k hk⟩ (fun hHeld => ?_); simp only [List.size_toArray, List.length_cons, List.length_nil, Nat.reduceAdd, Array.replicate_succ, Array.replicate_zero, List.push_toArray, List.append_toArray, List.nil_append, List.cons_append])
  refine rgT 0 (h := ?_)
  refine rgT 1 (h := ?_)
  refine rgT 2 (h := ?_)
  refine rgT 3 (h := ?_)
  refine rgT 4 (h := ?_)
  refine rgT 5 (h := ?_)
  refine rgT 6 (h := ?_)
  refine rgT 7 (h := ?_)
  refine rgT 8 (h := ?_)
  refine wpAnyH_done (by kernel_rfl) ?_ _
  have H3 : Hid (Wg w W2.drew L S T ia m cap rg pl g 5 c k nr ni orr oi n) := H2.out.drew
  clear H2
  generalize W2.drew = W3 at *
  have q5 := H3.out.bx 5 _ rfl
  have q7 := H3.out.bx 7 _ rfl
  generalize rg k = rk at *
  go_wp2_with fail
  clear q5 q7
  (refine wp_region_held_drew (S := (fun W => W.cell? ⟨T, 2, none⟩ = some (.slice ia m cap))) (by kernel_rfl) H3.out.th.i (fun hHeld => ?_); simp only [List.size_toArray, List.length_cons, List.length_nil, Nat.reduceAdd, Array.replicate_succ, Array.replicate_zero, List.push_toArray, List.append_toArray, List.nil_append, List.cons_append])
  refine rgT 0 (h := ?_)
  refine rgT 1 (h := ?_)
  refine rgT 2 (h := ?_)
  refine rgT 3 (h := ?_)
  refine rgT 5 (h := ?_)
  refine rgT 7 (h := ?_)
  refine rgT 8 (h := ?_)
  refine rgT 9 (h := ?_)
  refine rgT 10 (h := ?_)
  refine rgT 11 (h := ?_)
  have c7 := H3.out.drew.th.p
  (refine rgS 4 (h := fun K hK => ?_); go_simp)
  (refine hK.out _ _ H3.out.drew.th.i (fun hHeld => ?_); clear hK K; try simp only [Act.put, List.setIfInBounds_toArray, List.set_cons_zero, List.set_cons_succ])
  refine rgT 6 (h := ?_)
  refine rgT 12 (h := ?_)
  refine rgT 13 (h := ?_)
  refine rgT 14 (h := ?_)
  have f7 := H3.out.drew.th.fz 7
  have hx : (if (m : Int) < IntKind.i64.wrap ((pl : Int) + (1 + n)) then (m : Int) else IntKind.i64.wrap ((pl : Int) + (1 + n))) = ((min (pl + ((1 + n) : Int).toNat) m : Nat) : Int) := by
    rw [IntKind.wrap_i64]
    split <;> omega
  have H9 : Hid (Wg w (W3.setCell ⟨T, 7, none⟩ (.int .i64 (if (m : Int) < IntKind.i64.wrap ((pl : Int) + (1 + n)) then (m : Int) else IntKind.i64.wrap ((pl : Int) + (1 + n))))).drew L S T ia m cap rg (min (pl + ((1 + n) : Int).toNat) m) g 5 c k nr ni orr oi n) := by
    show Wg _ _ _ _ _ _ _ _ _ _ _ _ _ _ _ _ _ _ _
    rw [hx]
    exact (H3.out.place _).drew
  clear hx
  (refine rgS 15 (h := fun K hK => ?_); go_simp)
  clear c7 f7 H3
  (refine hK.out _ _ H9.out.th.i (fun hHeld => ?_); clear hK K; try simp only [Act.put, List.setIfInBounds_toArray, List.set_cons_zero, List.set_cons_succ])
  refine wpAnyH_done (by kernel_rfl) ?_ _
  exact ⟨rfl, .tuple #[], by simp [results, Tryz.results116], rfl, H9.out.hd, H9.out.th, H9.out.kp⟩
theorem work_skip_miss (L : Lay) (S : AS) (w : World) (T : Nat) (ia : Option Addr) (m cap : Nat) (rg : Nat → Int) (pl : Nat) (c r nr ni orr oi n : Int) (hq : ¬ rg r.toNat = valP rg nr ni) (r0 : 0 ≤ r) (r1 : r < 4) (h : Holds w L S) (ht : Tg w T L ia m cap rg pl) (hT : ¬ L.has T) (hr : S.rc = 0) (hn : S.n = 1) (hu : S.use 0 = true) (hm : m ≤ 1000) (hpl : pl < m) :
    Calls Tryz.prog 116 #[.pointer (some ⟨T, 0, none⟩), .agg (inC 5 c r nr ni orr oi n)] w fun e w' => e = .returned (.tuple #[]) ∧ Holds w' L S ∧ Tg w' T L ia m cap rg (min (pl + (1 : Int).toNat) m) ∧ Keeps (fun k => L.has k ∨ k = T) w w' := by
  have HQ : Hid (¬ rg r.toNat = valP rg nr ni) := hq
  clear hq
  obtain ⟨k, rfl⟩ : ∃ k : Nat, r = (k : Int) := ⟨r.toNat, by omega⟩
  have hk : k < 4 := by omega
  have ek : ((k : Int)).toNat = k := by omega
  rw [ek] at HQ
  have hr0 : (0 : Int) ≤ (k : Int) := Int.natCast_nonneg _
  have hr1 : (k : Int) < 4 := by omega
  have HH : Hid (Wg w (inW w 5 c k nr ni orr oi n) L S T ia m cap rg pl w.heap.size 5 c k nr ni orr oi n) := Wg.start _ _ _ _ _ _ _ _ h ht hT
  clear h ht
  go_enter Tryz.func116, Tryz.ntmps116
  go_wp2_with fail
  rw [show w.alloc _ = inW w 5 c k nr ni orr oi n from rfl]
  generalize inW w 5 c k nr ni orr oi n = W0 at *
  generalize w.heap.size = g at *
  (refine wp_region_held_drew (S := (fun W => W.cell? ⟨g, 3, none⟩ = some (.int .i64 nr) ∧ W.cell? ⟨g, 4, none⟩ = some (.int .u64 ni) ∧ W.cell? ⟨g, 5, none⟩ = some (.int .i64 orr) ∧ W.cell? ⟨g, 6, none⟩ = some (.int .u64 oi))) (by kernel_rfl) ⟨HH.out.bx 3 _ rfl, HH.out.bx 4 _ rfl, HH.out.bx 5 _ rfl, HH.out.bx 6 _ rfl⟩ (fun hHeld => ?_); simp only [List.size_toArray, List.length_cons, List.length_nil, Nat.reduceAdd, Array.replicate_succ, Array.replicate_zero, List.push_toArray, List.append_toArray, List.nil_append, List.cons_append])
  refine rgT 0 (h := ?_)
  refine rgT 1 (h := ?_)
  refine rgT 2 (h := ?_)
  refine rgT 4 (h := ?_)
  refine rgT 5 (h := ?_)
  refine rgT 6 (h := ?_)
  (refine rgS 3 (h := fun K hK => ?_); go_simp)
  refine (value_any W0.drew T L ia m cap rg pl HH.out.drew.th nr ni).mono ?_
  rintro e W1 ⟨rfl, k1⟩
  have H1 : Hid (Wg w W1 L S T ia m cap rg pl g 5 c k nr ni orr oi n) := HH.out.drew.step k1
  clear HH k1
  (refine hK.out _ _ ⟨H1.out.bx 3 _ rfl, H1.out.bx 4 _ rfl, H1.out.bx 5 _ rfl, H1.out.bx 6 _ rfl⟩ (fun hHeld => ?_); clear hK K; try simp only [Act.put, List.setIfInBounds_toArray, List.set_cons_zero, List.set_cons_succ])
  (refine rgS 7 (h := fun K hK => ?_); go_simp)
  refine (value_any W1 T L ia m cap rg pl H1.out.th orr oi).mono ?_
  rintro e W2 ⟨rfl, k2⟩
  have H2 : Hid (Wg w W2 L S T ia m cap rg pl g 5 c k nr ni orr oi n) := H1.out.step k2
  clear H1 k2
  (refine hK.out _ _ ⟨H2.out.bx 3 _ rfl, H2.out.bx 4 _ rfl, H2.out.bx 5 _ rfl, H2.out.bx 6 _ rfl⟩ (fun hHeld => ?_); clear hK K; try simp only [Act.put, List.setIfInBounds_toArray, List.set_cons_zero, List.set_cons_succ])
  refine rgT 8 (h := ?_)
  refine rgT 9 (h := ?_)
  refine wpAnyH_done (by kernel_rfl) ?_ _
  have hq := HQ.out
  clear HQ
  generalize valP rg nr ni = fr at *
  generalize valP rg orr oi = ol at *
  have q0 := H2.out.bx 0 _ rfl
  go_wp2_with fail
  clear q0
  (refine wp_region_held_drew (S := (fun W => W.cell? ⟨g, 2, none⟩ = some (.int .i64 k) ∧ W.cell? ⟨T, 3 + k, none⟩ = some (.int .u64 (rg k)))) (by kernel_rfl) ⟨H2.out.bx 2 _ rfl, H2.out.th.r k hk⟩ (fun hHeld => ?_); simp only [List.size_toArray, List.length_cons, List.length_nil, Nat.reduceAdd, Array.replicate_succ, Array.replicate_zero, List.push_toArray, List.append_toArray, List.nil_append, List.cons_append])
  refine rgT 0 (h := ?_)
  refine rgT 1 (h := ?_)
  refine rgT 2 (h := ?_)
  refine rgT 3 (h := ?_)
  refine rgT 4 (h := ?_)
  refine rgT 5 (h := ?_)
  refine rgT 6 (h := ?_)
  refine rgT 7 (h := ?_)
  refine rgT 8 (h := ?_)
  refine wpAnyH_done (by kernel_rfl) ?_ _
  have H3 : Hid (Wg w W2.drew L S T ia m cap rg pl g 5 c k nr ni orr oi n) := H2.out.drew
  clear H2
  generalize W2.drew = W3 at *
  have q5 := H3.out.bx 5 _ rfl
  have q7 := H3.out.bx 7 _ rfl
  generalize rg k = rk at *
  go_wp2_with fail
  clear q5 q7
  (refine wp_region_held_drew (S := (fun W => W.cell? ⟨T, 2, none⟩ = some (.slice ia m cap))) (by kernel_rfl) H3.out.th.i (fun hHeld => ?_); simp only [List.size_toArray, List.length_cons, List.length_nil, Nat.reduceAdd, Array.replicate_succ, Array.replicate_zero, List.push_toArray, List.append_toArray, List.nil_append, List.cons_append])
  refine rgT 0 (h := ?_)
  refine rgT 1 (h := ?_)
  refine rgT 2 (h := ?_)
  refine rgT 3 (h := ?_)
  refine rgT 5 (h := ?_)
  refine rgT 7 (h := ?_)
  refine rgT 8 (h := ?_)
  refine rgT 9 (h := ?_)
  refine rgT 10 (h := ?_)
  refine rgT 11 (h := ?_)
  have c7 := H3.out.drew.th.p
  (refine rgS 4 (h := fun K hK => ?_); go_simp)
  (refine hK.out _ _ H3.out.drew.th.i (fun hHeld => ?_); clear hK K; try simp only [Act.put, List.setIfInBounds_toArray, List.set_cons_zero, List.set_cons_succ])
  refine rgT 6 (h := ?_)
  refine rgT 12 (h := ?_)
  refine rgT 13 (h := ?_)
  refine rgT 14 (h := ?_)
  have f7 := H3.out.drew.th.fz 7
  have hx : (if (m : Int) < IntKind.i64.wrap ((pl : Int) + 1) then (m : Int) else IntKind.i64.wrap ((pl : Int) + 1)) = ((min (pl + (1 : Int).toNat) m : Nat) : Int) := by
    rw [IntKind.wrap_i64]
    split <;> omega
  have H9 : Hid (Wg w (W3.setCell ⟨T, 7, none⟩ (.int .i64 (if (m : Int) < IntKind.i64.wrap ((pl : Int) + 1) then (m : Int) else IntKind.i64.wrap ((pl : Int) + 1)))).drew L S T ia m cap rg (min (pl + (1 : Int).toNat) m) g 5 c k nr ni orr oi n) := by
    show Wg _ _ _ _ _ _ _ _ _ _ _ _ _ _ _ _ _ _ _
    rw [hx]
    exact (H3.out.place _).drew
  clear hx
  (refine rgS 15 (h := fun K hK => ?_); go_simp)
  clear c7 f7 H3
  (refine hK.out _ _ H9.out.th.i (fun hHeld => ?_); clear hK K; try simp only [Act.put, List.setIfInBounds_toArray, List.set_cons_zero, List.set_cons_succ])
  refine wpAnyH_done (by kernel_rfl) ?_ _
  exact ⟨rfl, .tuple #[], by simp [results, Tryz.results116], rfl, H9.out.hd, H9.out.th, H9.out.kp⟩
end Go.Proofs.YtdpebhdjcgiboaaGreat
