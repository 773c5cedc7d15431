import Derived.Test.YtlnpeicflofkjaaWritesLaw
import Derived.Test.YtlnpeicflofkjaaRegG
namespace Go.Proofs.Ytlnpeicflofkjaa
set_option linter.unusedSimpArgs false
open Go.ChangeShapes Go.WideShapes Go.ChangeAt Go.RowKit
set_option linter.unusedVariables false
set_option maxRecDepth 100000
theorem ownsRow_set {w : World} {B : Nat} {e : TypeId} {size g n cap : Nat} {xs : List Value} (h : w.ownsRow B e size (.slice (some ⟨g, 0, none⟩) n cap) n xs) (j : Nat) (x : Value) : (w.setCell ⟨g, j, none⟩ x).ownsRow B e size (.slice (some ⟨g, 0, none⟩) n cap) n (xs.set j x) := by
  obtain ⟨hl, h2⟩ := h
  rcases h2 with ⟨h', _⟩ | ⟨g', cap', cur, h', hb, hg, hnc, hm, hs, ht⟩
  · simp at h'
  · simp only [Value.slice.injEq, Option.some.injEq, Addr.mk.injEq, and_true] at h'
    obtain ⟨rfl, _, rfl⟩ := h'
    refine ⟨by rw [List.length_set]; exact hl, .inr ⟨g, cap, _, rfl, hb, setCellW x hg, hnc, hm, by simpa using hs, ?_⟩⟩
    rw [Array.toList_setIfInBounds, List.take_set, ht]
theorem cellsW_set : ∀ (ms : List W3) (k : Nat) (x : W3) (hk : k < ms.length), (((cellsW ms).set (k * 3) (.int .i64 x.1)).set (k * 3 + 1) (.string x.2.1)).set (k * 3 + 2) (.string x.2.2) = cellsW (ms.set k x)
  | m :: ms, 0, x, _ => by
    have e : ∀ y r, cellsW (y :: r) = .int .i64 y.1 :: .string y.2.1 :: .string y.2.2 :: cellsW r := fun _ _ => rfl
    simp [e]
  | m :: ms, k + 1, x, hk => by
    have e : ∀ y r, cellsW (y :: r) = .int .i64 y.1 :: .string y.2.1 :: .string y.2.2 :: cellsW r := fun _ _ => rfl
    have ih := cellsW_set ms k x (by simpa using hk)
    rw [e, List.set_cons_succ, e, ← ih, show (k + 1) * 3 = k * 3 + 1 + 1 + 1 from by omega]
    simp
/-- The world behind the storing of a write. -/
abbrev putW (W : World) (gr k : Nat) (x : W3) : World := ((W.setCell ⟨gr, k * 3, none⟩ (.int .i64 x.1)).setCell ⟨gr, k * 3 + 1, none⟩ (.string x.2.1)).setCell ⟨gr, k * 3 + 2, none⟩ (.string x.2.2)
theorem ownW.put {W : World} {B gr cap : Nat} {ms : List W3} {n : Nat} (h : ownW W B (.slice (some ⟨gr, 0, none⟩) n cap) ms) (hn : ms.length = n) (k : Nat) (hk : k < n) (x : W3) : ownW (putW W gr k x) B (.slice (some ⟨gr, 0, none⟩) n cap) (ms.set k x) := by
  unfold ownW at h ⊢
  subst hn
  rw [List.length_set, ← cellsW_set ms k x hk]
  exact ownsRow_set (ownsRow_set (ownsRow_set h _ _) _ _) _ _
theorem putW_heap (W : World) (gr k : Nat) (x : W3) (b : Nat) (hb : b ≠ gr) : (putW W gr k x).heap[b]? = W.heap[b]? := by
  unfold putW
  rw [Below.heap_setCell _ _ _ b hb, Below.heap_setCell _ _ _ b hb, Below.heap_setCell _ _ _ b hb]
/-- What came in, and its twin, whatever stands in the twin's list now. -/
structure Pw (w0 : World) (g : Nat) (s : Int) (v u : Value) (N : Nat) (W : World) (ms : List W3) : Prop where
  len : ms.length = N
  zn : w0.heap.size < W.heap.size
  a1 : W.cell? ⟨w0.heap.size, 1, none⟩ = some v
  hg : W.heap[g]? = some (.cells #[.int .u64 s, u] 25)
  own : ownW W (w0.heap.size + 1) u ms
  ne : some g ≠ u.ownBlock
  bel : Below w0.heap.size w0 W
theorem Pw.step {w0 : World} {g : Nat} {s : Int} {v u : Value} {N : Nat} {W W' : World} {ms : List W3} (h : Pw w0 g s v u N W ms) (hb : Below W.heap.size W W') : Pw w0 g s v u N W' ms :=
  ⟨h.len, Nat.lt_of_lt_of_le h.zn hb.size, (hb.cell (p := ⟨w0.heap.size, 1, none⟩) h.zn).trans h.a1, (hb.block g (Array.getElem?_eq_some_iff.1 h.hg).1).trans h.hg, h.own.same fun k hk _ => hb.block k hk, h.ne, h.bel.trans (hb.mono h.bel.size)⟩
theorem Pw.put {w0 : World} {g : Nat} {s : Int} {v : Value} {N gr cap : Nat} {W : World} {ms : List W3} (h : Pw w0 g s v (.slice (some ⟨gr, 0, none⟩) N cap) N W ms) (k : Nat) (hk : k < N) (x : W3) : Pw w0 g s v (.slice (some ⟨gr, 0, none⟩) N cap) N (putW W gr k x) (ms.set k x) := by
  have hlt := World.ownsRow.lt h.own gr rfl
  have hne : g ≠ gr := fun e => h.ne (by rw [e]; rfl)
  refine ⟨by rw [List.length_set]; exact h.len, by simpa using h.zn, ?_, (putW_heap W gr k x g hne).trans h.hg, h.own.put h.len k hk x, h.ne, ?_⟩
  · rw [← h.a1]
    show World.cell? _ _ = _
    unfold World.cell?
    simp only
    rw [putW_heap W gr k x w0.heap.size (by omega)]
  · exact ((h.bel.setCell (p := ⟨gr, k * 3, none⟩) (by simp only; omega) _).setCell (p := ⟨gr, k * 3 + 1, none⟩) (by simp only; omega) _).setCell (p := ⟨gr, k * 3 + 2, none⟩) (by simp only; omega) _
theorem Pw.b {w0 : World} {g : Nat} {s : Int} {v u : Value} {N : Nat} {W : World} {ms : List W3} (h : Pw w0 g s v u N W ms) : W.cell? ⟨g, 0, none⟩ = some (.int .u64 s) ∧ W.cell? ⟨g, 1, none⟩ = some u := ⟨(cellWH h.hg 0).trans rfl, (cellWH h.hg 1).trans rfl⟩
theorem ownW.lenEq {w : World} {B : Nat} {sp : Option Addr} {nn cp : Nat} {ms : List W3} (h : ownW w B (.slice sp nn cp) ms) : nn = ms.length := by
  rcases h.2 with ⟨e, h0⟩ | ⟨g, cap, cur, e, _⟩
  · simp only [Value.slice.injEq] at e; omega
  · simp only [Value.slice.injEq] at e; exact e.2.1
/-- A row that holds something: its block, and its cells. -/
theorem ownW.at {w : World} {B : Nat} {sp : Option Addr} {nn cp : Nat} {ms : List W3} (h : ownW w B (.slice sp nn cp) ms) (k : Nat) (hk : k < ms.length) : ∃ gr, sp = some ⟨gr, 0, none⟩ ∧ B ≤ gr ∧ w.cell? ⟨gr, k * 3, none⟩ = some (.int .i64 ms[k].1) ∧ w.cell? ⟨gr, k * 3 + 1, none⟩ = some (.string ms[k].2.1) ∧ w.cell? ⟨gr, k * 3 + 2, none⟩ = some (.string ms[k].2.2) ∧ ∀ j, w.frozen? ⟨gr, j, none⟩ = false := by
  have h' := h
  rcases h.2 with ⟨e, h0⟩ | ⟨g, cap, cur, e, hb, hg, _⟩
  · omega
  · simp only [Value.slice.injEq] at e
    obtain ⟨rfl, rfl, rfl⟩ := e
    have c := cellsW_get ms k hk
    exact ⟨g, rfl, hb, (World.ownsRow.cellAt h' _ (by omega)).trans c.1, (World.ownsRow.cellAt h' _ (by omega)).trans c.2.1, (World.ownsRow.cellAt h' _ (by omega)).trans c.2.2, fun j => frozW hg j⟩
theorem putW_cell (W : World) (gr k : Nat) (x : W3) (b j : Nat) (hb : b ≠ gr) : (putW W gr k x).cell? ⟨b, j, none⟩ = W.cell? ⟨b, j, none⟩ := by
  unfold World.cell?
  simp only
  rw [putW_heap W gr k x b hb]
set_option maxHeartbeats 6400000 in
theorem placed_walk (s : Int) (v ov : Value) (vs os : List W3) (w : World) (hv : SeesW w w.heap.size v vs) (hov : SeesW w w.heap.size ov os) (hl : (vs.length + 1) * 40 ≤ 140737488355328) :
    Calls Try.prog 3 #[.agg #[.int .u64 s, v], ov] w fun e w' => e = .returned (.bool true) ∧ Below w.heap.size w w' := by
  have h47 : vs.length ≤ 140737488355328 := by omega
  have HO : Hid (Calls Try.prog 6 #[.agg #[.int .u64 s, v]] (box1 w s v) fun e w' => ∃ v', e = .returned (.agg #[.int .u64 s, v']) ∧ ownW w' (box1 w s v).heap.size v' vs ∧ Below (box1 w s v).heap.size (box1 w s v) w') :=
    own_any s v vs w.heap.size (box1 w s v) (box1_below _ _ _).size (hv.later (box1_below _ _ _)) hl
  obtain ⟨ao, cap, rfl, hl1, hc1, hs1⟩ := hv
  obtain ⟨oo, ocap, rfl, ol1, oc1, os1⟩ := hov
  have HA : Hid (∀ _ : Unit, _) := fun _ => hs1
  have HB : Hid (∀ _ : Unit, _) := fun _ => os1
  clear hs1 os1 hl
  have HB0 : Hid (Below w.heap.size w (box1 w s (.slice ao vs.length cap))) := box1_below _ _ _
  have HZ0 : Hid ((box1 w s (.slice ao vs.length cap)).heap.size = w.heap.size + 1) := box1_size _ _ _
  have HC0 : Hid ((box1 w s (.slice ao vs.length cap)).cell? ⟨w.heap.size, 1, none⟩ = some (.slice ao vs.length cap)) := box1_1 _ _ _
  go_enter Try.func3, Try.ntmps3
  go_wp2_with fail
  refine HO.out.mono ?_
  rintro e w1 ⟨u, rfl, ho, hb⟩
  obtain ⟨sp, nn, cp, rfl⟩ := ho.isSlice
  obtain rfl : nn = vs.length := ho.lenEq
  have HP : Hid (Pw w w1.heap.size s (.slice ao vs.length cap) (.slice sp vs.length cp) vs.length (w1.alloc (.cells #[.int .u64 s, (.slice sp vs.length cp)] 25)) vs) := by
    have hz := hb.size
    rw [HZ0.out] at hz ho
    have hb1 : Below w.heap.size w w1 := HB0.out.trans (hb.mono (by rw [HZ0.out]; omega))
    have hbA : Below w1.heap.size w1 (w1.alloc (.cells #[.int .u64 s, (.slice sp vs.length cp)] 25)) := (Below.refl _ _).alloc (Nat.le_refl _) _
    have hn : w.heap.size < w1.heap.size := by omega
    exact ⟨rfl, by rw [sizeAl]; omega, (hbA.cell (p := ⟨w.heap.size, 1, none⟩) hn).trans ((hb.cell (p := ⟨w.heap.size, 1, none⟩) (by rw [HZ0.out]; exact Nat.lt_succ_self _)).trans HC0.out), heap_alloc_new _ _, ho.alloc _, fun h => by have := World.ownsRow.lt ho _ h.symm; omega, hb1.trans (hbA.mono hb1.size)⟩
  clear ho hb HO HB0 HZ0 HC0
  go_wp2_with fail
  generalize w1.alloc (.cells #[.int .u64 s, (.slice sp vs.length cp)] 25) = W2 at *
  generalize w1.heap.size = g at *
  go_loopw [6] (fun i wr => ∃ r : Nat, r ≤ 3 ∧ i = .int .i64 r ∧ ∃ ms, Pw w g s (.slice ao vs.length cap) (.slice sp vs.length cp) vs.length wr ms) (fun i _ => 3 - (intOf i).toNat)
  case atStart => exact ⟨0, by omega, rfl, vs, HP.out⟩
  case round =>
    obtain ⟨r, hr, rfl, ms, hp⟩ := hrel
    have HPw : Hid (Pw w g s (.slice ao vs.length cap) (.slice sp vs.length cp) vs.length wr ms) := hp
    have HBe : Hid (Below w.heap.size w wr) := hp.bel
    clear hp HP
    by_cases h3 : r < 3
    · have HR : Hid (∀ W, SeesW W W.heap.size (.slice sp vs.length cp) ms → Calls Try.prog 7 #[.agg #[.int .u64 s, (.slice sp vs.length cp)]] W fun e w' => e = .returned (.tuple #[.string (encR s ms).1, .int .i64 (encR s ms).2]) ∧ Below W.heap.size W w') := fun W h => encode_any s _ ms W.heap.size W (Nat.le_refl _) h
      have HQ : Hid (∀ W, SeesW W W.heap.size (.slice sp vs.length cp) ms → Calls Try.prog 8 #[.agg #[.int .u64 s, (.slice sp vs.length cp)]] W fun e w' => e = .returned (.tuple #[.string (encR s ms).1, .int .i64 (encR s ms).2]) ∧ Below W.heap.size W w') := fun W h => refEncode_any s _ ms W.heap.size W (Nat.le_refl _) h
      generalize (encR s ms).1 = t at *
      generalize (encR s ms).2 = c at *
      have HL : Hid (ms.length ≤ 140737488355328) := by show _ ≤ _; rw [HPw.out.len]; exact h47
      have b0 := HPw.out.b.1
      have b1 := HPw.out.b.2
      go_wp2_with fail
      clear b0 b1
      refine (HR.out _ (HPw.out.own.seesAll HL.out)).mono ?_
      rintro e w3 ⟨rfl, hb⟩
      have HP3 : Hid (Pw w g s (.slice ao vs.length cap) (.slice sp vs.length cp) vs.length w3 ms) := HPw.out.step hb
      have b0 := HP3.out.b.1
      have b1 := HP3.out.b.2
      clear hb HPw
      go_wp2_with fail
      clear b0 b1
      refine (HQ.out _ (HP3.out.own.seesAll HL.out)).mono ?_
      rintro e w4 ⟨rfl, hb⟩
      have HP4 : Hid (Pw w g s (.slice ao vs.length cap) (.slice sp vs.length cp) vs.length w4 ms) := HP3.out.step hb
      clear hb HP3 HR HQ HL
      go_wp2_with fail
      refine (numR_any _ _).mono ?_
      rintro e w5 ⟨rfl, rfl⟩
      go_wp2_with fail
      go_loopw [11] (fun i wq => ∃ k : Nat, k ≤ vs.length ∧ i = .int .i64 k ∧ ∃ ms', Pw w g s (.slice ao vs.length cap) (.slice sp vs.length cp) vs.length wq ms') (fun i _ => vs.length - (intOf i).toNat)
      case atStart => exact ⟨0, by omega, rfl, ms, HP4.out⟩
      case round =>
        rename World => wq
        obtain ⟨k, hk1, rfl, ms', hp⟩ := hrel
        have HPq : Hid (Pw w g s (.slice ao vs.length cap) (.slice sp vs.length cp) vs.length wq ms') := hp
        have c1 := hp.b.2
        clear hp HP4
        by_cases h1 : k < vs.length
        · by_cases h2 : k < os.length
          · obtain ⟨gr, e, hge, q0, q1, q2, hz⟩ := HPq.out.own.at k (by rw [HPq.out.len]; exact h1)
            subst e
            have z0 := hz (k * 3)
            have z1 := hz (k * 3 + 1)
            have z2 := hz (k * 3 + 2)
            have hng : g ≠ gr := fun e => HPq.out.ne (by rw [e]; rfl)
            clear hz
            rcases Nat.eq_zero_or_pos r with hr0 | hr0
            · have hrb : ((r : Int) == 0) = true := by simp; omega
              clear hr0
              obtain ⟨b1, o1, e1, hb1, x0, x1, x2⟩ := HB.out () k h2
              have y0 := (HPq.out.bel.cell (p := ⟨b1, o1 + k * 3, none⟩) hb1).trans x0
              have y1 := (HPq.out.bel.cell (p := ⟨b1, o1 + k * 3 + 1, none⟩) hb1).trans x1
              have y2 := (HPq.out.bel.cell (p := ⟨b1, o1 + k * 3 + 2, none⟩) hb1).trans x2
              clear x0 x1 x2
              subst e1
              have hnb : b1 ≠ gr := by omega
              have hnn : w.heap.size ≠ gr := by omega
              go_wp2_with fail
              (refine wp_region_held_drew (S := (fun W' => W'.cell? ⟨g, 1, none⟩ = some (.slice (some ⟨gr, 0, none⟩) vs.length cp) ∧ W'.cell? ⟨b1, o1 + k * 3, none⟩ = some (.int .i64 os[k].1) ∧ W'.cell? ⟨b1, o1 + k * 3 + 1, none⟩ = some (.string os[k].2.1) ∧ W'.cell? ⟨b1, o1 + k * 3 + 2, none⟩ = some (.string os[k].2.2))) (by kernel_rfl) ⟨c1, y0, y1, y2⟩ (fun hHeld => ?_); simp only [List.size_toArray, List.length_cons, List.length_nil, Nat.reduceAdd, Array.replicate_succ, Array.replicate_zero, List.push_toArray, List.append_toArray, List.nil_append, List.cons_append])
              (refine tk0 (v := ?_) (by kernel_rfl) (by kernel_rfl) (by kernel_rfl) (fun _ _ _ h => h) (Or.inl ⟨by rfl, ?_⟩) (by assumption) ?_; rotate_left; (focus (intro w hSw; (try dsimp only at hSw); go_simp; (try first | (rw [dif_pos (by omega)]; simp only [Result.andThen_ok]) | rw [if_pos (by omega)]); (try with_reducible rfl); done)); try simp only [Act.put, List.setIfInBounds_toArray, List.set_cons_zero, List.set_cons_succ])
              (refine tk1 (v := ?_) (by kernel_rfl) (by kernel_rfl) (by kernel_rfl) (fun _ _ _ h => h) (Or.inl ⟨by rfl, ?_⟩) (by assumption) ?_; rotate_left; (focus (intro w hSw; (try dsimp only at hSw); go_simp; (try first | (rw [dif_pos (by omega)]; simp only [Result.andThen_ok]) | rw [if_pos (by omega)]); (try with_reducible rfl); done)); try simp only [Act.put, List.setIfInBounds_toArray, List.set_cons_zero, List.set_cons_succ])
              (refine tk2 (v := ?_) (by kernel_rfl) (by kernel_rfl) (by kernel_rfl) (fun _ _ _ h => h) (Or.inl ⟨by rfl, ?_⟩) (by assumption) ?_; rotate_left; (focus (intro w hSw; (try dsimp only at hSw); go_simp; (try first | (rw [dif_pos (by omega)]; simp only [Result.andThen_ok]) | rw [if_pos (by omega)]); (try with_reducible rfl); done)); try simp only [Act.put, List.setIfInBounds_toArray, List.set_cons_zero, List.set_cons_succ])
              (refine tk3 (v := ?_) (by kernel_rfl) (by kernel_rfl) (by kernel_rfl) (fun _ _ _ h => h) (Or.inl ⟨by rfl, ?_⟩) (by assumption) ?_; rotate_left; (focus (intro w hSw; (try dsimp only at hSw); go_simp; (try first | (rw [dif_pos (by omega)]; simp only [Result.andThen_ok]) | rw [if_pos (by omega)]); (try with_reducible rfl); done)); try simp only [Act.put, List.setIfInBounds_toArray, List.set_cons_zero, List.set_cons_succ])
              (refine tk4 (v := ?_) (by kernel_rfl) (by kernel_rfl) (by kernel_rfl) (fun _ _ _ h => h) (Or.inl ⟨by rfl, ?_⟩) (by assumption) ?_; rotate_left; (focus (intro w hSw; (try dsimp only at hSw); go_simp; (try first | (rw [dif_pos (by omega)]; simp only [Result.andThen_ok]) | rw [if_pos (by omega)]); (try with_reducible rfl); done)); try simp only [Act.put, List.setIfInBounds_toArray, List.set_cons_zero, List.set_cons_succ])
              (refine tk5 (v := ?_) (by kernel_rfl) (by kernel_rfl) (by kernel_rfl) (fun _ _ _ h => h) (Or.inl ⟨by rfl, ?_⟩) (by assumption) ?_; rotate_left; (focus (intro w hSw; (try dsimp only at hSw); go_simp; (try first | (rw [dif_pos (by omega)]; simp only [Result.andThen_ok]) | rw [if_pos (by omega)]); (try with_reducible rfl); done)); try simp only [Act.put, List.setIfInBounds_toArray, List.set_cons_zero, List.set_cons_succ])
              (refine tk6 (v := ?_) (by kernel_rfl) (by kernel_rfl) (by kernel_rfl) (fun _ _ _ h => h) (Or.inl ⟨by rfl, ?_⟩) (by assumption) ?_; rotate_left; (focus (intro w hSw; (try dsimp only at hSw); go_simp; (try first | (rw [dif_pos (by omega)]; simp only [Result.andThen_ok]) | rw [if_pos (by omega)]); (try with_reducible rfl); done)); try simp only [Act.put, List.setIfInBounds_toArray, List.set_cons_zero, List.set_cons_succ])
              (refine tk7 (v := ?_) (by kernel_rfl) (by kernel_rfl) (by kernel_rfl) (fun _ _ _ h => h) (Or.inl ⟨by rfl, ?_⟩) (by assumption) ?_; rotate_left; (focus (intro w hSw; (try dsimp only at hSw); go_simp; (try first | (rw [dif_pos (by omega)]; simp only [Result.andThen_ok]) | rw [if_pos (by omega)]); (try with_reducible rfl); done)); try simp only [Act.put, List.setIfInBounds_toArray, List.set_cons_zero, List.set_cons_succ])
              (refine wpAnyH_ready (rs := [8]) (by kernel_rfl) (by simp) ?_; refine ar8 (fun K hK => ?_) AllReadyH.nil; go_simp)
              (refine hK.out _ _ ⟨(putW_cell _ _ _ os[k] g 1 hng).trans c1, (putW_cell _ _ _ os[k] b1 _ hnb).trans y0, (putW_cell _ _ _ os[k] b1 _ hnb).trans y1, (putW_cell _ _ _ os[k] b1 _ hnb).trans y2⟩ (fun hHeld => ?_); clear hK K; try simp only [Act.put, List.setIfInBounds_toArray, List.set_cons_zero, List.set_cons_succ])
              refine wpAnyH_done (by kernel_rfl) ?_ _
              go_wp2
              go_roundw
              case rel => exact ⟨k + 1, by omega, by go_num, _, (HPq.out.put k h1 os[k]).step (Below.refl _ _).drew⟩
              case measure => simp [intOf]; omega
            · have hrb : ((r : Int) == 0) = false := by simp; omega
              clear hr0
              obtain ⟨b1, o1, e1, hb1, x0, x1, x2⟩ := HA.out () k h1
              have y0 := (HPq.out.bel.cell (p := ⟨b1, o1 + k * 3, none⟩) hb1).trans x0
              have y1 := (HPq.out.bel.cell (p := ⟨b1, o1 + k * 3 + 1, none⟩) hb1).trans x1
              have y2 := (HPq.out.bel.cell (p := ⟨b1, o1 + k * 3 + 2, none⟩) hb1).trans x2
              clear x0 x1 x2
              subst e1
              have cv := HPq.out.a1
              have hnb : b1 ≠ gr := by omega
              have hnn : w.heap.size ≠ gr := by omega
              go_wp2_with fail
              (refine wp_region_held_drew (S := (fun W' => W'.cell? ⟨g, 1, none⟩ = some (.slice (some ⟨gr, 0, none⟩) vs.length cp) ∧ W'.cell? ⟨w.heap.size, 1, none⟩ = some (.slice (some ⟨b1, o1, none⟩) vs.length cap) ∧ W'.cell? ⟨b1, o1 + k * 3, none⟩ = some (.int .i64 vs[k].1) ∧ W'.cell? ⟨b1, o1 + k * 3 + 1, none⟩ = some (.string vs[k].2.1) ∧ W'.cell? ⟨b1, o1 + k * 3 + 2, none⟩ = some (.string vs[k].2.2))) (by kernel_rfl) ⟨c1, cv, y0, y1, y2⟩ (fun hHeld => ?_); simp only [List.size_toArray, List.length_cons, List.length_nil, Nat.reduceAdd, Array.replicate_succ, Array.replicate_zero, List.push_toArray, List.append_toArray, List.nil_append, List.cons_append])
              (refine tk0 (v := ?_) (by kernel_rfl) (by kernel_rfl) (by kernel_rfl) (fun _ _ _ h => h) (Or.inl ⟨by rfl, ?_⟩) (by assumption) ?_; rotate_left; (focus (intro w hSw; (try dsimp only at hSw); go_simp; (try first | (rw [dif_pos (by omega)]; simp only [Result.andThen_ok]) | rw [if_pos (by omega)]); (try with_reducible rfl); done)); try simp only [Act.put, List.setIfInBounds_toArray, List.set_cons_zero, List.set_cons_succ])
              (refine tk1 (v := ?_) (by kernel_rfl) (by kernel_rfl) (by kernel_rfl) (fun _ _ _ h => h) (Or.inl ⟨by rfl, ?_⟩) (by assumption) ?_; rotate_left; (focus (intro w hSw; (try dsimp only at hSw); go_simp; (try first | (rw [dif_pos (by omega)]; simp only [Result.andThen_ok]) | rw [if_pos (by omega)]); (try with_reducible rfl); done)); try simp only [Act.put, List.setIfInBounds_toArray, List.set_cons_zero, List.set_cons_succ])
              (refine tk2 (v := ?_) (by kernel_rfl) (by kernel_rfl) (by kernel_rfl) (fun _ _ _ h => h) (Or.inl ⟨by rfl, ?_⟩) (by assumption) ?_; rotate_left; (focus (intro w hSw; (try dsimp only at hSw); go_simp; (try first | (rw [dif_pos (by omega)]; simp only [Result.andThen_ok]) | rw [if_pos (by omega)]); (try with_reducible rfl); done)); try simp only [Act.put, List.setIfInBounds_toArray, List.set_cons_zero, List.set_cons_succ])
              (refine tk3 (v := ?_) (by kernel_rfl) (by kernel_rfl) (by kernel_rfl) (fun _ _ _ h => h) (Or.inl ⟨by rfl, ?_⟩) (by assumption) ?_; rotate_left; (focus (intro w hSw; (try dsimp only at hSw); go_simp; (try first | (rw [dif_pos (by omega)]; simp only [Result.andThen_ok]) | rw [if_pos (by omega)]); (try with_reducible rfl); done)); try simp only [Act.put, List.setIfInBounds_toArray, List.set_cons_zero, List.set_cons_succ])
              (refine tk4 (v := ?_) (by kernel_rfl) (by kernel_rfl) (by kernel_rfl) (fun _ _ _ h => h) (Or.inl ⟨by rfl, ?_⟩) (by assumption) ?_; rotate_left; (focus (intro w hSw; (try dsimp only at hSw); go_simp; (try first | (rw [dif_pos (by omega)]; simp only [Result.andThen_ok]) | rw [if_pos (by omega)]); (try with_reducible rfl); done)); try simp only [Act.put, List.setIfInBounds_toArray, List.set_cons_zero, List.set_cons_succ])
              (refine tk5 (v := ?_) (by kernel_rfl) (by kernel_rfl) (by kernel_rfl) (fun _ _ _ h => h) (Or.inl ⟨by rfl, ?_⟩) (by assumption) ?_; rotate_left; (focus (intro w hSw; (try dsimp only at hSw); go_simp; (try first | (rw [dif_pos (by omega)]; simp only [Result.andThen_ok]) | rw [if_pos (by omega)]); (try with_reducible rfl); done)); try simp only [Act.put, List.setIfInBounds_toArray, List.set_cons_zero, List.set_cons_succ])
              (refine tk6 (v := ?_) (by kernel_rfl) (by kernel_rfl) (by kernel_rfl) (fun _ _ _ h => h) (Or.inl ⟨by rfl, ?_⟩) (by assumption) ?_; rotate_left; (focus (intro w hSw; (try dsimp only at hSw); go_simp; (try first | (rw [dif_pos (by omega)]; simp only [Result.andThen_ok]) | rw [if_pos (by omega)]); (try with_reducible rfl); done)); try simp only [Act.put, List.setIfInBounds_toArray, List.set_cons_zero, List.set_cons_succ])
              (refine tk7 (v := ?_) (by kernel_rfl) (by kernel_rfl) (by kernel_rfl) (fun _ _ _ h => h) (Or.inl ⟨by rfl, ?_⟩) (by assumption) ?_; rotate_left; (focus (intro w hSw; (try dsimp only at hSw); go_simp; (try first | (rw [dif_pos (by omega)]; simp only [Result.andThen_ok]) | rw [if_pos (by omega)]); (try with_reducible rfl); done)); try simp only [Act.put, List.setIfInBounds_toArray, List.set_cons_zero, List.set_cons_succ])
              (refine tk8 (v := ?_) (by kernel_rfl) (by kernel_rfl) (by kernel_rfl) (fun _ _ _ h => h) (Or.inl ⟨by rfl, ?_⟩) (by assumption) ?_; rotate_left; (focus (intro w hSw; (try dsimp only at hSw); go_simp; (try first | (rw [dif_pos (by omega)]; simp only [Result.andThen_ok]) | rw [if_pos (by omega)]); (try with_reducible rfl); done)); try simp only [Act.put, List.setIfInBounds_toArray, List.set_cons_zero, List.set_cons_succ])
              (refine wpAnyH_ready (rs := [9]) (by kernel_rfl) (by simp) ?_; refine ar9 (fun K hK => ?_) AllReadyH.nil; go_simp)
              (refine hK.out _ _ ⟨(putW_cell _ _ _ vs[k] g 1 hng).trans c1, (putW_cell _ _ _ vs[k] w.heap.size 1 hnn).trans cv, (putW_cell _ _ _ vs[k] b1 _ hnb).trans y0, (putW_cell _ _ _ vs[k] b1 _ hnb).trans y1, (putW_cell _ _ _ vs[k] b1 _ hnb).trans y2⟩ (fun hHeld => ?_); clear hK K; try simp only [Act.put, List.setIfInBounds_toArray, List.set_cons_zero, List.set_cons_succ])
              refine wpAnyH_done (by kernel_rfl) ?_ _
              go_wp2
              go_roundw
              case rel => exact ⟨k + 1, by omega, by go_num, _, (HPq.out.put k h1 vs[k]).step (Below.refl _ _).drew⟩
              case measure => simp [intOf]; omega
          · go_wp2
            go_roundw
            case rel => exact ⟨r + 1, by omega, by go_num, ms', HPq.out⟩
            case measure => simp [intOf]; omega
        · go_wp2
          go_roundw
          case rel => exact ⟨r + 1, by omega, by go_num, ms', HPq.out⟩
          case measure => simp [intOf]; omega
    · go_wp2
      go_ret
      exact ⟨rfl, HBe.out⟩
end Go.Proofs.Ytlnpeicflofkjaa
