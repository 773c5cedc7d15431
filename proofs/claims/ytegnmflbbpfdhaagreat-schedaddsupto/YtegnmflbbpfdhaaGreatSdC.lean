import Derived.Test.YtegnmflbbpfdhaaGreatCells15Z
import Derived.Test.YtegnmflbbpfdhaaGreatRegG
import Derived.BigQuiet
import Derived.Deep.QuietTactic
namespace Go.Proofs.YtegnmflbbpfdhaaGreat
set_option linter.unusedSimpArgs false
open Go.ChangeShapes Go.WideShapes Go.ChangeAt Go.RowKit Go.MuLone Go.RwLone
set_option linter.unusedVariables false
set_option maxRecDepth 100000
set_option maxHeartbeats 1600000
/-- A thread in the block T: of the arena at L, slot 1, its m instructions in the block ib, its registers rg, its place pl. -/
structure Th (w : World) (T : Nat) (L : Lay) (ib m cap : Nat) (rg : Nat → Int) (pl : Nat) : Prop where
  a : w.cell? ⟨T, 0, none⟩ = some (.pointer (some ⟨L.b, 0, none⟩))
  s : w.cell? ⟨T, 1, none⟩ = some (.int .i64 1)
  i : w.cell? ⟨T, 2, none⟩ = some (.slice (some ⟨ib, 0, none⟩) m cap)
  r : ∀ j, j < 4 → w.cell? ⟨T, 3 + j, none⟩ = some (.int .u64 (rg j))
  p : w.cell? ⟨T, 7, none⟩ = some (.int .i64 (pl : Int))
  fz : ∀ j, w.frozen? ⟨T, j, none⟩ = false
  lt : T < w.heap.size
theorem Th.keeps {w w' : World} {T : Nat} {L : Lay} {ib m cap : Nat} {rg : Nat → Int} {pl : Nat} {B : Nat → Prop} (h : Th w T L ib m cap rg pl) (k : Keeps B w w') (hn : ¬ B T) : Th w' T L ib m cap rg pl :=
  ⟨(k.cell (p := ⟨T, 0, none⟩) h.lt hn).trans h.a, (k.cell (p := ⟨T, 1, none⟩) h.lt hn).trans h.s, (k.cell (p := ⟨T, 2, none⟩) h.lt hn).trans h.i, fun j hj => (k.cell (p := ⟨T, 3 + j, none⟩) h.lt hn).trans (h.r j hj), (k.cell (p := ⟨T, 7, none⟩) h.lt hn).trans h.p, fun j => (k.frozen (p := ⟨T, j, none⟩) h.lt hn).trans (h.fz j), Nat.lt_of_lt_of_le h.lt k.size⟩
theorem Th.setReg {w : World} {T : Nat} {L : Lay} {ib m cap : Nat} {rg : Nat → Int} {pl : Nat} (h : Th w T L ib m cap rg pl) (j : Nat) (hj : j < 4) (x : Int) : Th (w.setCell ⟨T, 3 + j, none⟩ (.int .u64 x)) T L ib m cap (upd rg j x) pl := by
  have ne : ∀ k, k ≠ 3 + j → (w.setCell ⟨T, 3 + j, none⟩ (.int .u64 x)).cell? ⟨T, k, none⟩ = w.cell? ⟨T, k, none⟩ := fun k hk => World.cell?_setCell_other _ _ _ _ (fun e => hk (congrArg Addr.off e).symm)
  refine ⟨(ne 0 (by omega)).trans h.a, (ne 1 (by omega)).trans h.s, (ne 2 (by omega)).trans h.i, fun k hk => ?_, (ne 7 (by omega)).trans h.p, fun k => by simpa using h.fz k, by simpa using h.lt⟩
  by_cases e : k = j
  · subst e
    rw [upd_same]
    exact World.cell?_setCell_same _ _ _ (h.r k hk)
  · rw [upd_other _ _ e]
    exact (ne (3 + k) (by omega)).trans (h.r k hk)
theorem Th.setPl {w : World} {T : Nat} {L : Lay} {ib m cap : Nat} {rg : Nat → Int} {pl : Nat} (h : Th w T L ib m cap rg pl) (x : Nat) : Th (w.setCell ⟨T, 7, none⟩ (.int .i64 (x : Int))) T L ib m cap rg x := by
  have ne : ∀ k, k ≠ 7 → (w.setCell ⟨T, 7, none⟩ (.int .i64 (x : Int))).cell? ⟨T, k, none⟩ = w.cell? ⟨T, k, none⟩ := fun k hk => World.cell?_setCell_other _ _ _ _ (fun e => hk (congrArg Addr.off e).symm)
  exact ⟨(ne 0 (by omega)).trans h.a, (ne 1 (by omega)).trans h.s, (ne 2 (by omega)).trans h.i, fun k hk => (ne (3 + k) (by omega)).trans (h.r k hk), World.cell?_setCell_same _ _ _ h.p, fun k => by simpa using h.fz k, by simpa using h.lt⟩
theorem Keeps.drewN {B : Nat → Prop} {a w : World} (h : Keeps B a w) (n : Nat) : Keeps B a (w.drewN n) := by
  induction n generalizing w with
  | zero => exact h
  | succ n ih => exact (ih h).drew
theorem truth_any (b : Bool) (w : World) : Calls Tryz.prog 149 #[.bool b] w fun e w' => e = .returned (.int .u64 (bitI b)) ∧ w' = w := by
  cases b
  · go_enter Tryz.func149, Tryz.ntmps149
    go_wp2
    go_ret
    exact ⟨rfl, rfl⟩
  · go_enter Tryz.func149, Tryz.ntmps149
    go_wp2
    go_ret
    exact ⟨rfl, rfl⟩
theorem value_imm (T : Nat) (x : Int) (w : World) : Calls Tryz.prog 145 #[.pointer (some ⟨T, 0, none⟩), .agg #[.int .i64 (-1), .int .u64 x]] w fun e w' => e = .returned (.int .u64 x) ∧ Keeps (fun _ => False) w w' := by
  go_enter Tryz.func145, Tryz.ntmps145
  go_wp2
  go_ret
  exact ⟨rfl, (Keeps.refl _ _).alloc _⟩
theorem done_any (w : World) (T : Nat) (L : Lay) (ib m cap : Nat) (rg : Nat → Int) (pl : Nat) (h : Th w T L ib m cap rg pl) : Calls Tryz.prog 143 #[.pointer (some ⟨T, 0, none⟩)] w fun e w' => e = .returned (.bool (decide (m ≤ pl))) ∧ Keeps (fun _ => False) w w' := by
  have c2 := h.i
  have c7 := h.p
  have hd : decide ((m : Int) ≤ (pl : Int)) = decide (m ≤ pl) := by simp
  clear h
  go_enter Tryz.func143, Tryz.ntmps143
  go_wp2_with fail
  go_quiet (fail)
  go_wp2
  go_ret
  exact ⟨by simp, (Keeps.refl _ _).drewN _⟩
end Go.Proofs.YtegnmflbbpfdhaaGreat

namespace Go.Proofs.YtegnmflbbpfdhaaGreat
set_option linter.unusedSimpArgs false
open Go.ChangeShapes Go.WideShapes Go.ChangeAt Go.RowKit Go.MuLone Go.RwLone
set_option linter.unusedVariables false
set_option maxRecDepth 100000
set_option maxHeartbeats 3200000
/-- An instruction's eight cells. -/
abbrev inC (op c r nr ni orr oi n : Int) : Array Value := #[.int .i64 op, .int .i64 c, .int .i64 r, .int .i64 nr, .int .u64 ni, .int .i64 orr, .int .u64 oi, .int .i64 n]
/-- The world behind the box of an instruction. -/
abbrev inW (w : World) (op c r nr ni orr oi n : Int) : World := w.alloc (.cells (inC op c r nr ni orr oi n) 31)
theorem inW_cell (w : World) (op c r nr ni orr oi n : Int) (j : Nat) : (inW w op c r nr ni orr oi n).cell? ⟨w.heap.size, j, none⟩ = (inC op c r nr ni orr oi n)[j]? := cell?_heap (heap_alloc_last _ _ _ rfl) j
/-- A thread at work: its arena, itself, its instruction in the box g. -/
structure Wk (w W : World) (L : Lay) (S : AS) (T ib m cap : Nat) (rg : Nat → Int) (pl g : Nat) (op c r nr ni orr oi n : Int) : Prop where
  hd : Holds W L S
  th : Th W T L ib m cap rg pl
  kp : Keeps (fun k => L.has k ∨ k = T) w W
  bx : ∀ j u, (inC op c r nr ni orr oi n)[j]? = some u → W.cell? ⟨g, j, none⟩ = some u
  lT : ¬ L.has T
  lg : ¬ L.has g
  tg : T ≠ g
  gl : g < W.heap.size
theorem Wk.start {w : World} {L : Lay} {S : AS} {T ib m cap : Nat} {rg : Nat → Int} {pl : Nat} (op c r nr ni orr oi n : Int) (h : Holds w L S) (ht : Th w T L ib m cap rg pl) (hT : ¬ L.has T) : Wk w (inW w op c r nr ni orr oi n) L S T ib m cap rg pl w.heap.size op c r nr ni orr oi n :=
  ⟨h.alloc _, ht.keeps (((Keeps.refl (fun _ => False) w).alloc _)) (fun e => e), (Keeps.refl _ _).alloc _, fun j u hu => (inW_cell w op c r nr ni orr oi n j).trans hu, hT, h.notNew (Nat.le_refl _), fun e => by have := ht.lt; omega, by simp⟩
theorem Wk.step {w W W' : World} {L : Lay} {S : AS} {T ib m cap : Nat} {rg : Nat → Int} {pl g : Nat} {op c r nr ni orr oi n : Int} (h : Wk w W L S T ib m cap rg pl g op c r nr ni orr oi n) (k : Keeps (fun _ => False) W W') : Wk w W' L S T ib m cap rg pl g op c r nr ni orr oi n :=
  ⟨h.hd.keeps k (fun _ _ e => e), h.th.keeps k (fun e => e), h.kp.trans (k.mono (fun _ e => e.elim)), fun j u hu => (k.cell (p := ⟨g, j, none⟩) h.gl (fun e => e)).trans (h.bx j u hu), h.lT, h.lg, h.tg, Nat.lt_of_lt_of_le h.gl k.size⟩
theorem Wk.drew {w W : World} {L : Lay} {S : AS} {T ib m cap : Nat} {rg : Nat → Int} {pl g : Nat} {op c r nr ni orr oi n : Int} (h : Wk w W L S T ib m cap rg pl g op c r nr ni orr oi n) : Wk w W.drew L S T ib m cap rg pl g op c r nr ni orr oi n := h.step (Keeps.refl _ _).drew
theorem Wk.arena {w W W' : World} {L : Lay} {S S' : AS} {T ib m cap : Nat} {rg : Nat → Int} {pl g : Nat} {op c r nr ni orr oi n : Int} (h : Wk w W L S T ib m cap rg pl g op c r nr ni orr oi n) (hd : Holds W' L S') (k : Keeps L.has W W') : Wk w W' L S' T ib m cap rg pl g op c r nr ni orr oi n :=
  ⟨hd, h.th.keeps k h.lT, h.kp.trans (k.mono (fun _ e => .inl e)), fun j u hu => (k.cell (p := ⟨g, j, none⟩) h.gl h.lg).trans (h.bx j u hu), h.lT, h.lg, h.tg, Nat.lt_of_lt_of_le h.gl k.size⟩
theorem Wk.reg {w W : World} {L : Lay} {S : AS} {T ib m cap : Nat} {rg : Nat → Int} {pl g : Nat} {op c r nr ni orr oi n : Int} (h : Wk w W L S T ib m cap rg pl g op c r nr ni orr oi n) (j : Nat) (hj : j < 4) (x : Int) : Wk w (W.setCell ⟨T, 3 + j, none⟩ (.int .u64 x)) L S T ib m cap (upd rg j x) pl g op c r nr ni orr oi n :=
  ⟨h.hd.far (p := ⟨T, 3 + j, none⟩) h.lT _, h.th.setReg j hj x, h.kp.setCell (.inr rfl) _, fun i u hu => (World.cell?_setCell_other _ _ _ _ (fun e => h.tg (congrArg Addr.block e))).trans (h.bx i u hu), h.lT, h.lg, h.tg, by simpa using h.gl⟩
theorem Wk.place {w W : World} {L : Lay} {S : AS} {T ib m cap : Nat} {rg : Nat → Int} {pl g : Nat} {op c r nr ni orr oi n : Int} (h : Wk w W L S T ib m cap rg pl g op c r nr ni orr oi n) (x : Nat) : Wk w (W.setCell ⟨T, 7, none⟩ (.int .i64 (x : Int))) L S T ib m cap rg x g op c r nr ni orr oi n :=
  ⟨h.hd.far (p := ⟨T, 7, none⟩) h.lT _, h.th.setPl x, h.kp.setCell (.inr rfl) _, fun i u hu => (World.cell?_setCell_other _ _ _ _ (fun e => h.tg (congrArg Addr.block e))).trans (h.bx i u hu), h.lT, h.lg, h.tg, by simpa using h.gl⟩
theorem cas_one (L : Lay) (S : AS) (w : World) (j : Nat) (x y : Int) (b : Bool) (wo : Nat → Int) (HB : Hid (b = decide (S.word j = x) ∧ wo = if S.word j = x then upd S.word j y else S.word)) (h : Holds w L S) (hr : S.rc = 0) (hn : S.n = 1) (hu : S.use 0 = true) (hj : j < S.wd) : Calls Tryz.prog 148 #[.pointer (some ⟨L.b, 0, none⟩), .int .i64 1, .int .i64 (j : Int), .int .u64 x, .int .u64 y] w fun e w' => e = .returned (.tuple #[.bool b, .int .i64 0]) ∧ Holds w' L { S with rc := 0, acc := wrap64 (S.acc + 1), word := wo } ∧ Keeps L.has w w' := by
  have h0 : 0 * S.wd + j = j := by omega
  exact cas_any L S w 0 j x y b wo (by rw [h0]; exact HB) h hr (by omega) hu hj
theorem work_swap (L : Lay) (S : AS) (w : World) (T ib m cap : Nat) (rg : Nat → Int) (pl j r : Nat) (ni oi n : Int) (b : Bool) (wo : Nat → Int) (HB : Hid (b = decide (S.word j = oi) ∧ wo = if S.word j = oi then upd S.word j ni else S.word))
    (h : Holds w L S) (ht : Th w T L ib m cap rg pl) (hT : ¬ L.has T) (hr : S.rc = 0) (hn : S.n = 1) (hu : S.use 0 = true) (hj : j < S.wd) (hr4 : r < 4) (hpl : pl < m) (hm : m ≤ 1000) :
    Calls Tryz.prog 144 #[.pointer (some ⟨T, 0, none⟩), .agg (inC 3 j r (-1) ni (-1) oi n)] w fun e w' => e = .returned (.tuple #[]) ∧ Holds w' L { S with rc := 0, acc := wrap64 (S.acc + 1), word := wo } ∧ Th w' T L ib m cap (upd rg r (bitI b)) (pl + 1) ∧ Keeps (fun k => L.has k ∨ k = T) w w' := by
  have HH : Hid (Wk w (inW w 3 j r (-1) ni (-1) oi n) L S T ib m cap rg pl w.heap.size 3 j r (-1) ni (-1) oi n) := Wk.start _ _ _ _ _ _ _ _ h ht hT
  clear h ht
  go_enter Tryz.func144, Tryz.ntmps144
  go_wp2_with fail
  rw [show w.alloc _ = inW w 3 j r (-1) ni (-1) oi n from rfl]
  generalize inW w 3 j r (-1) ni (-1) oi n = W0 at *
  generalize w.heap.size = g at *
  (refine wp_region_held_drew (S := (fun W => W.cell? ⟨g, 3, none⟩ = some (.int .i64 (-1)) ∧ W.cell? ⟨g, 4, none⟩ = some (.int .u64 ni) ∧ W.cell? ⟨g, 5, none⟩ = some (.int .i64 (-1)) ∧ W.cell? ⟨g, 6, none⟩ = some (.int .u64 oi))) (by kernel_rfl) ⟨HH.out.bx 3 _ rfl, HH.out.bx 4 _ rfl, HH.out.bx 5 _ rfl, HH.out.bx 6 _ rfl⟩ (fun hHeld => ?_); simp only [List.size_toArray, List.length_cons, List.length_nil, Nat.reduceAdd, Array.replicate_succ, Array.replicate_zero, List.push_toArray, List.append_toArray, List.nil_append, List.cons_append])
  (refine tk0 (v := ?_) (by kernel_rfl) (by kernel_rfl) (by kernel_rfl) (fun _ _ _ h => h) (Or.inl ⟨by rfl, ?_⟩) (by assumption) ?_; rotate_left; (focus (intro w hSw; (try dsimp only at hSw); go_simp; (try first | (rw [dif_pos (by omega)]; simp only [Result.andThen_ok]) | rw [if_pos (by omega)]); (try with_reducible rfl); done)); try simp only [Act.put, List.setIfInBounds_toArray, List.set_cons_zero, List.set_cons_succ])
  (refine tk1 (v := ?_) (by kernel_rfl) (by kernel_rfl) (by kernel_rfl) (fun _ _ _ h => h) (Or.inl ⟨by rfl, ?_⟩) (by assumption) ?_; rotate_left; (focus (intro w hSw; (try dsimp only at hSw); go_simp; (try first | (rw [dif_pos (by omega)]; simp only [Result.andThen_ok]) | rw [if_pos (by omega)]); (try with_reducible rfl); done)); try simp only [Act.put, List.setIfInBounds_toArray, List.set_cons_zero, List.set_cons_succ])
  (refine tk2 (v := ?_) (by kernel_rfl) (by kernel_rfl) (by kernel_rfl) (fun _ _ _ h => h) (Or.inl ⟨by rfl, ?_⟩) (by assumption) ?_; rotate_left; (focus (intro w hSw; (try dsimp only at hSw); go_simp; (try first | (rw [dif_pos (by omega)]; simp only [Result.andThen_ok]) | rw [if_pos (by omega)]); (try with_reducible rfl); done)); try simp only [Act.put, List.setIfInBounds_toArray, List.set_cons_zero, List.set_cons_succ])
  (refine tk4 (v := ?_) (by kernel_rfl) (by kernel_rfl) (by kernel_rfl) (fun _ _ _ h => h) (Or.inl ⟨by rfl, ?_⟩) (by assumption) ?_; rotate_left; (focus (intro w hSw; (try dsimp only at hSw); go_simp; (try first | (rw [dif_pos (by omega)]; simp only [Result.andThen_ok]) | rw [if_pos (by omega)]); (try with_reducible rfl); done)); try simp only [Act.put, List.setIfInBounds_toArray, List.set_cons_zero, List.set_cons_succ])
  (refine tk5 (v := ?_) (by kernel_rfl) (by kernel_rfl) (by kernel_rfl) (fun _ _ _ h => h) (Or.inl ⟨by rfl, ?_⟩) (by assumption) ?_; rotate_left; (focus (intro w hSw; (try dsimp only at hSw); go_simp; (try first | (rw [dif_pos (by omega)]; simp only [Result.andThen_ok]) | rw [if_pos (by omega)]); (try with_reducible rfl); done)); try simp only [Act.put, List.setIfInBounds_toArray, List.set_cons_zero, List.set_cons_succ])
  (refine tk6 (v := ?_) (by kernel_rfl) (by kernel_rfl) (by kernel_rfl) (fun _ _ _ h => h) (Or.inl ⟨by rfl, ?_⟩) (by assumption) ?_; rotate_left; (focus (intro w hSw; (try dsimp only at hSw); go_simp; (try first | (rw [dif_pos (by omega)]; simp only [Result.andThen_ok]) | rw [if_pos (by omega)]); (try with_reducible rfl); done)); try simp only [Act.put, List.setIfInBounds_toArray, List.set_cons_zero, List.set_cons_succ])
  (refine wpAnyH_ready (rs := [3]) (by kernel_rfl) (by simp) ?_; refine ar3 (fun K hK => ?_) AllReadyH.nil; go_simp)
  refine (value_imm T ni _).mono ?_
  rintro e W1 ⟨rfl, k1⟩
  have H1 : Hid (Wk w W1 L S T ib m cap rg pl g 3 j r (-1) ni (-1) oi n) := HH.out.drew.step k1
  clear HH k1
  (refine hK.out _ _ ⟨H1.out.bx 3 _ rfl, H1.out.bx 4 _ rfl, H1.out.bx 5 _ rfl, H1.out.bx 6 _ rfl⟩ (fun hHeld => ?_); clear hK K; try simp only [Act.put, List.setIfInBounds_toArray, List.set_cons_zero, List.set_cons_succ])
  (refine wpAnyH_ready (rs := [7]) (by kernel_rfl) (by simp) ?_; refine ar7 (fun K hK => ?_) AllReadyH.nil; go_simp)
  refine (value_imm T oi _).mono ?_
  rintro e W2 ⟨rfl, k2⟩
  have H2 : Hid (Wk w W2 L S T ib m cap rg pl g 3 j r (-1) ni (-1) oi n) := H1.out.step k2
  clear H1 k2
  (refine hK.out _ _ ⟨H2.out.bx 3 _ rfl, H2.out.bx 4 _ rfl, H2.out.bx 5 _ rfl, H2.out.bx 6 _ rfl⟩ (fun hHeld => ?_); clear hK K; try simp only [Act.put, List.setIfInBounds_toArray, List.set_cons_zero, List.set_cons_succ])
  (refine tk8 (v := ?_) (by kernel_rfl) (by kernel_rfl) (by kernel_rfl) (fun _ _ _ h => h) (Or.inl ⟨by rfl, ?_⟩) (by assumption) ?_; rotate_left; (focus (intro w hSw; (try dsimp only at hSw); go_simp; (try first | (rw [dif_pos (by omega)]; simp only [Result.andThen_ok]) | rw [if_pos (by omega)]); (try with_reducible rfl); done)); try simp only [Act.put, List.setIfInBounds_toArray, List.set_cons_zero, List.set_cons_succ])
  (refine tk9 (v := ?_) (by kernel_rfl) (by kernel_rfl) (by kernel_rfl) (fun _ _ _ h => h) (Or.inl ⟨by rfl, ?_⟩) (by assumption) ?_; rotate_left; (focus (intro w hSw; (try dsimp only at hSw); go_simp; (try first | (rw [dif_pos (by omega)]; simp only [Result.andThen_ok]) | rw [if_pos (by omega)]); (try with_reducible rfl); done)); try simp only [Act.put, List.setIfInBounds_toArray, List.set_cons_zero, List.set_cons_succ])
  refine wpAnyH_done (by kernel_rfl) ?_ _
  have q0 := H2.out.bx 0 _ rfl
  go_wp2_with fail
  clear q0
  (refine wp_region_held_drew (S := (fun W => W.cell? ⟨T, 0, none⟩ = some (.pointer (some ⟨L.b, 0, none⟩)) ∧ W.cell? ⟨T, 1, none⟩ = some (.int .i64 1) ∧ W.cell? ⟨g, 1, none⟩ = some (.int .i64 j))) (by kernel_rfl) ⟨H2.out.th.a, H2.out.th.s, H2.out.bx 1 _ rfl⟩ (fun hHeld => ?_); simp only [List.size_toArray, List.length_cons, List.length_nil, Nat.reduceAdd, Array.replicate_succ, Array.replicate_zero, List.push_toArray, List.append_toArray, List.nil_append, List.cons_append])
  (refine tk0 (v := ?_) (by kernel_rfl) (by kernel_rfl) (by kernel_rfl) (fun _ _ _ h => h) (Or.inl ⟨by rfl, ?_⟩) (by assumption) ?_; rotate_left; (focus (intro w hSw; (try dsimp only at hSw); go_simp; (try first | (rw [dif_pos (by omega)]; simp only [Result.andThen_ok]) | rw [if_pos (by omega)]); (try with_reducible rfl); done)); try simp only [Act.put, List.setIfInBounds_toArray, List.set_cons_zero, List.set_cons_succ])
  (refine tk1 (v := ?_) (by kernel_rfl) (by kernel_rfl) (by kernel_rfl) (fun _ _ _ h => h) (Or.inl ⟨by rfl, ?_⟩) (by assumption) ?_; rotate_left; (focus (intro w hSw; (try dsimp only at hSw); go_simp; (try first | (rw [dif_pos (by omega)]; simp only [Result.andThen_ok]) | rw [if_pos (by omega)]); (try with_reducible rfl); done)); try simp only [Act.put, List.setIfInBounds_toArray, List.set_cons_zero, List.set_cons_succ])
  (refine tk2 (v := ?_) (by kernel_rfl) (by kernel_rfl) (by kernel_rfl) (fun _ _ _ h => h) (Or.inl ⟨by rfl, ?_⟩) (by assumption) ?_; rotate_left; (focus (intro w hSw; (try dsimp only at hSw); go_simp; (try first | (rw [dif_pos (by omega)]; simp only [Result.andThen_ok]) | rw [if_pos (by omega)]); (try with_reducible rfl); done)); try simp only [Act.put, List.setIfInBounds_toArray, List.set_cons_zero, List.set_cons_succ])
  (refine tk3 (v := ?_) (by kernel_rfl) (by kernel_rfl) (by kernel_rfl) (fun _ _ _ h => h) (Or.inl ⟨by rfl, ?_⟩) (by assumption) ?_; rotate_left; (focus (intro w hSw; (try dsimp only at hSw); go_simp; (try first | (rw [dif_pos (by omega)]; simp only [Result.andThen_ok]) | rw [if_pos (by omega)]); (try with_reducible rfl); done)); try simp only [Act.put, List.setIfInBounds_toArray, List.set_cons_zero, List.set_cons_succ])
  (refine tk4 (v := ?_) (by kernel_rfl) (by kernel_rfl) (by kernel_rfl) (fun _ _ _ h => h) (Or.inl ⟨by rfl, ?_⟩) (by assumption) ?_; rotate_left; (focus (intro w hSw; (try dsimp only at hSw); go_simp; (try first | (rw [dif_pos (by omega)]; simp only [Result.andThen_ok]) | rw [if_pos (by omega)]); (try with_reducible rfl); done)); try simp only [Act.put, List.setIfInBounds_toArray, List.set_cons_zero, List.set_cons_succ])
  (refine tk5 (v := ?_) (by kernel_rfl) (by kernel_rfl) (by kernel_rfl) (fun _ _ _ h => h) (Or.inl ⟨by rfl, ?_⟩) (by assumption) ?_; rotate_left; (focus (intro w hSw; (try dsimp only at hSw); go_simp; (try first | (rw [dif_pos (by omega)]; simp only [Result.andThen_ok]) | rw [if_pos (by omega)]); (try with_reducible rfl); done)); try simp only [Act.put, List.setIfInBounds_toArray, List.set_cons_zero, List.set_cons_succ])
  (refine tk6 (v := ?_) (by kernel_rfl) (by kernel_rfl) (by kernel_rfl) (fun _ _ _ h => h) (Or.inl ⟨by rfl, ?_⟩) (by assumption) ?_; rotate_left; (focus (intro w hSw; (try dsimp only at hSw); go_simp; (try first | (rw [dif_pos (by omega)]; simp only [Result.andThen_ok]) | rw [if_pos (by omega)]); (try with_reducible rfl); done)); try simp only [Act.put, List.setIfInBounds_toArray, List.set_cons_zero, List.set_cons_succ])
  (refine tk7 (v := ?_) (by kernel_rfl) (by kernel_rfl) (by kernel_rfl) (fun _ _ _ h => h) (Or.inl ⟨by rfl, ?_⟩) (by assumption) ?_; rotate_left; (focus (intro w hSw; (try dsimp only at hSw); go_simp; (try first | (rw [dif_pos (by omega)]; simp only [Result.andThen_ok]) | rw [if_pos (by omega)]); (try with_reducible rfl); done)); try simp only [Act.put, List.setIfInBounds_toArray, List.set_cons_zero, List.set_cons_succ])
  (refine tk8 (v := ?_) (by kernel_rfl) (by kernel_rfl) (by kernel_rfl) (fun _ _ _ h => h) (Or.inl ⟨by rfl, ?_⟩) (by assumption) ?_; rotate_left; (focus (intro w hSw; (try dsimp only at hSw); go_simp; (try first | (rw [dif_pos (by omega)]; simp only [Result.andThen_ok]) | rw [if_pos (by omega)]); (try with_reducible rfl); done)); try simp only [Act.put, List.setIfInBounds_toArray, List.set_cons_zero, List.set_cons_succ])
  (refine tk9 (v := ?_) (by kernel_rfl) (by kernel_rfl) (by kernel_rfl) (fun _ _ _ h => h) (Or.inl ⟨by rfl, ?_⟩) (by assumption) ?_; rotate_left; (focus (intro w hSw; (try dsimp only at hSw); go_simp; (try first | (rw [dif_pos (by omega)]; simp only [Result.andThen_ok]) | rw [if_pos (by omega)]); (try with_reducible rfl); done)); try simp only [Act.put, List.setIfInBounds_toArray, List.set_cons_zero, List.set_cons_succ])
  (refine tk10 (v := ?_) (by kernel_rfl) (by kernel_rfl) (by kernel_rfl) (fun _ _ _ h => h) (Or.inl ⟨by rfl, ?_⟩) (by assumption) ?_; rotate_left; (focus (intro w hSw; (try dsimp only at hSw); go_simp; (try first | (rw [dif_pos (by omega)]; simp only [Result.andThen_ok]) | rw [if_pos (by omega)]); (try with_reducible rfl); done)); try simp only [Act.put, List.setIfInBounds_toArray, List.set_cons_zero, List.set_cons_succ])
  (refine tk11 (v := ?_) (by kernel_rfl) (by kernel_rfl) (by kernel_rfl) (fun _ _ _ h => h) (Or.inl ⟨by rfl, ?_⟩) (by assumption) ?_; rotate_left; (focus (intro w hSw; (try dsimp only at hSw); go_simp; (try first | (rw [dif_pos (by omega)]; simp only [Result.andThen_ok]) | rw [if_pos (by omega)]); (try with_reducible rfl); done)); try simp only [Act.put, List.setIfInBounds_toArray, List.set_cons_zero, List.set_cons_succ])
  (refine tk12 (v := ?_) (by kernel_rfl) (by kernel_rfl) (by kernel_rfl) (fun _ _ _ h => h) (Or.inl ⟨by rfl, ?_⟩) (by assumption) ?_; rotate_left; (focus (intro w hSw; (try dsimp only at hSw); go_simp; (try first | (rw [dif_pos (by omega)]; simp only [Result.andThen_ok]) | rw [if_pos (by omega)]); (try with_reducible rfl); done)); try simp only [Act.put, List.setIfInBounds_toArray, List.set_cons_zero, List.set_cons_succ])
  (refine tk13 (v := ?_) (by kernel_rfl) (by kernel_rfl) (by kernel_rfl) (fun _ _ _ h => h) (Or.inl ⟨by rfl, ?_⟩) (by assumption) ?_; rotate_left; (focus (intro w hSw; (try dsimp only at hSw); go_simp; (try first | (rw [dif_pos (by omega)]; simp only [Result.andThen_ok]) | rw [if_pos (by omega)]); (try with_reducible rfl); done)); try simp only [Act.put, List.setIfInBounds_toArray, List.set_cons_zero, List.set_cons_succ])
  (refine wpAnyH_ready (rs := [14]) (by kernel_rfl) (by simp) ?_; refine ar14 (fun K hK => ?_) AllReadyH.nil; go_simp)
  refine (cas_one L S _ j oi ni b wo HB H2.out.drew.hd hr hn hu hj).mono ?_
  rintro e W3 ⟨rfl, h3, k3⟩
  have H3 : Hid (Wk w W3 L { S with rc := 0, acc := wrap64 (S.acc + 1), word := wo } T ib m cap rg pl g 3 j r (-1) ni (-1) oi n) := H2.out.drew.arena h3 k3
  clear H2 h3 k3 HB
  (refine hK.out _ _ ⟨H3.out.th.a, H3.out.th.s, H3.out.bx 1 _ rfl⟩ (fun hHeld => ?_); clear hK K; try simp only [Act.put, List.setIfInBounds_toArray, List.set_cons_zero, List.set_cons_succ])
  (refine tk15 (v := ?_) (by kernel_rfl) (by kernel_rfl) (by kernel_rfl) (fun _ _ _ h => h) (Or.inl ⟨by rfl, ?_⟩) (by assumption) ?_; rotate_left; (focus (intro w hSw; (try dsimp only at hSw); go_simp; (try first | (rw [dif_pos (by omega)]; simp only [Result.andThen_ok]) | rw [if_pos (by omega)]); (try with_reducible rfl); done)); try simp only [Act.put, List.setIfInBounds_toArray, List.set_cons_zero, List.set_cons_succ])
  (refine tk16 (v := ?_) (by kernel_rfl) (by kernel_rfl) (by kernel_rfl) (fun _ _ _ h => h) (Or.inl ⟨by rfl, ?_⟩) (by assumption) ?_; rotate_left; (focus (intro w hSw; (try dsimp only at hSw); go_simp; (try first | (rw [dif_pos (by omega)]; simp only [Result.andThen_ok]) | rw [if_pos (by omega)]); (try with_reducible rfl); done)); try simp only [Act.put, List.setIfInBounds_toArray, List.set_cons_zero, List.set_cons_succ])
  (refine tk17 (v := ?_) (by kernel_rfl) (by kernel_rfl) (by kernel_rfl) (fun _ _ _ h => h) (Or.inl ⟨by rfl, ?_⟩) (by assumption) ?_; rotate_left; (focus (intro w hSw; (try dsimp only at hSw); go_simp; (try first | (rw [dif_pos (by omega)]; simp only [Result.andThen_ok]) | rw [if_pos (by omega)]); (try with_reducible rfl); done)); try simp only [Act.put, List.setIfInBounds_toArray, List.set_cons_zero, List.set_cons_succ])
  (refine tk18 (v := ?_) (by kernel_rfl) (by kernel_rfl) (by kernel_rfl) (fun _ _ _ h => h) (Or.inl ⟨by rfl, ?_⟩) (by assumption) ?_; rotate_left; (focus (intro w hSw; (try dsimp only at hSw); go_simp; (try first | (rw [dif_pos (by omega)]; simp only [Result.andThen_ok]) | rw [if_pos (by omega)]); (try with_reducible rfl); done)); try simp only [Act.put, List.setIfInBounds_toArray, List.set_cons_zero, List.set_cons_succ])
  (refine tk19 (v := ?_) (by kernel_rfl) (by kernel_rfl) (by kernel_rfl) (fun _ _ _ h => h) (Or.inl ⟨by rfl, ?_⟩) (by assumption) ?_; rotate_left; (focus (intro w hSw; (try dsimp only at hSw); go_simp; (try first | (rw [dif_pos (by omega)]; simp only [Result.andThen_ok]) | rw [if_pos (by omega)]); (try with_reducible rfl); done)); try simp only [Act.put, List.setIfInBounds_toArray, List.set_cons_zero, List.set_cons_succ])
  refine wpAnyH_done (by kernel_rfl) ?_ _
  go_wp2_with fail
  have hr0 : (0 : Int) ≤ (r : Int) := Int.natCast_nonneg _
  have hr1 : (r : Int) < 4 := by omega
  (refine wp_region_held_drew (S := (fun W => W.cell? ⟨g, 2, none⟩ = some (.int .i64 r))) (by kernel_rfl) (H3.out.bx 2 _ rfl) (fun hHeld => ?_); simp only [List.size_toArray, List.length_cons, List.length_nil, Nat.reduceAdd, Array.replicate_succ, Array.replicate_zero, List.push_toArray, List.append_toArray, List.nil_append, List.cons_append])
  (refine tk0 (v := ?_) (by kernel_rfl) (by kernel_rfl) (by kernel_rfl) (fun _ _ _ h => h) (Or.inl ⟨by rfl, ?_⟩) (by assumption) ?_; rotate_left; (focus (intro w hSw; (try dsimp only at hSw); go_simp; (try first | (rw [dif_pos (by omega)]; simp only [Result.andThen_ok]) | rw [if_pos (by omega)]); (try with_reducible rfl); done)); try simp only [Act.put, List.setIfInBounds_toArray, List.set_cons_zero, List.set_cons_succ])
  (refine tk1 (v := ?_) (by kernel_rfl) (by kernel_rfl) (by kernel_rfl) (fun _ _ _ h => h) (Or.inl ⟨by rfl, ?_⟩) (by assumption) ?_; rotate_left; (focus (intro w hSw; (try dsimp only at hSw); go_simp; (try first | (rw [dif_pos (by omega)]; simp only [Result.andThen_ok]) | rw [if_pos (by omega)]); (try with_reducible rfl); done)); try simp only [Act.put, List.setIfInBounds_toArray, List.set_cons_zero, List.set_cons_succ])
  (refine tk2 (v := ?_) (by kernel_rfl) (by kernel_rfl) (by kernel_rfl) (fun _ _ _ h => h) (Or.inl ⟨by rfl, ?_⟩) (by assumption) ?_; rotate_left; (focus (intro w hSw; (try dsimp only at hSw); go_simp; (try first | (rw [dif_pos (by omega)]; simp only [Result.andThen_ok]) | rw [if_pos (by omega)]); (try with_reducible rfl); done)); try simp only [Act.put, List.setIfInBounds_toArray, List.set_cons_zero, List.set_cons_succ])
  (refine tk3 (v := ?_) (by kernel_rfl) (by kernel_rfl) (by kernel_rfl) (fun _ _ _ h => h) (Or.inl ⟨by rfl, ?_⟩) (by assumption) ?_; rotate_left; (focus (intro w hSw; (try dsimp only at hSw); go_simp; (try first | (rw [dif_pos (by omega)]; simp only [Result.andThen_ok]) | rw [if_pos (by omega)]); (try with_reducible rfl); done)); try simp only [Act.put, List.setIfInBounds_toArray, List.set_cons_zero, List.set_cons_succ])
  (refine tk5 (v := ?_) (by kernel_rfl) (by kernel_rfl) (by kernel_rfl) (fun _ _ _ h => h) (Or.inl ⟨by rfl, ?_⟩) (by assumption) ?_; rotate_left; (focus (intro w hSw; (try dsimp only at hSw); go_simp; (try first | (rw [dif_pos (by omega)]; simp only [Result.andThen_ok]) | rw [if_pos (by omega)]); (try with_reducible rfl); done)); try simp only [Act.put, List.setIfInBounds_toArray, List.set_cons_zero, List.set_cons_succ])
  (refine tk6 (v := ?_) (by kernel_rfl) (by kernel_rfl) (by kernel_rfl) (fun _ _ _ h => h) (Or.inl ⟨by rfl, ?_⟩) (by assumption) ?_; rotate_left; (focus (intro w hSw; (try dsimp only at hSw); go_simp; (try first | (rw [dif_pos (by omega)]; simp only [Result.andThen_ok]) | rw [if_pos (by omega)]); (try with_reducible rfl); done)); try simp only [Act.put, List.setIfInBounds_toArray, List.set_cons_zero, List.set_cons_succ])
  (refine wpAnyH_ready (rs := [4]) (by kernel_rfl) (by simp) ?_; refine ar4 (fun K hK => ?_) AllReadyH.nil; go_simp)
  refine (truth_any b _).mono ?_
  rintro e W4 ⟨rfl, rfl⟩
  (refine hK.out _ _ (H3.out.bx 2 _ rfl) (fun hHeld => ?_); clear hK K; try simp only [Act.put, List.setIfInBounds_toArray, List.set_cons_zero, List.set_cons_succ])
  (refine tk7 (v := ?_) (by kernel_rfl) (by kernel_rfl) (by kernel_rfl) (fun _ _ _ h => h) (Or.inl ⟨by rfl, ?_⟩) (by assumption) ?_; rotate_left; (focus (intro w hSw; (try dsimp only at hSw); go_simp; (try first | (rw [dif_pos (by omega)]; simp only [Result.andThen_ok]) | rw [if_pos (by omega)]); (try with_reducible rfl); done)); try simp only [Act.put, List.setIfInBounds_toArray, List.set_cons_zero, List.set_cons_succ])
  have c4 := H3.out.drew.th.r r hr4
  have f4 := H3.out.drew.th.fz (3 + r)
  (refine wpAnyH_ready (rs := [8]) (by kernel_rfl) (by simp) ?_; refine ar8 (fun K hK => ?_) AllReadyH.nil; go_simp)
  have H4 : Hid (Wk w (W3.drew.setCell ⟨T, 3 + r, none⟩ (.int .u64 (bitI b))) L { S with rc := 0, acc := wrap64 (S.acc + 1), word := wo } T ib m cap (upd rg r (bitI b)) pl g 3 j r (-1) ni (-1) oi n) := H3.out.drew.reg r hr4 (bitI b)
  clear H3 c4 f4
  (refine hK.out _ _ (H4.out.bx 2 _ rfl) (fun hHeld => ?_); clear hK K; try simp only [Act.put, List.setIfInBounds_toArray, List.set_cons_zero, List.set_cons_succ])
  refine wpAnyH_done (by kernel_rfl) ?_ _
  have H5 : Hid (Wk w (W3.setCell ⟨T, 3 + r, none⟩ (.int .u64 (bitI b))).drew L { S with rc := 0, acc := wrap64 (S.acc + 1), word := wo } T ib m cap (upd rg r (bitI b)) pl g 3 j r (-1) ni (-1) oi n) := H4.out
  clear H4
  generalize (W3.setCell ⟨T, 3 + r, none⟩ (.int .u64 (bitI b))).drew = W5 at *
  go_wp2_with fail
  (refine wp_region_held_drew (S := (fun W => W.cell? ⟨T, 2, none⟩ = some (.slice (some ⟨ib, 0, none⟩) m cap))) (by kernel_rfl) H5.out.th.i (fun hHeld => ?_); simp only [List.size_toArray, List.length_cons, List.length_nil, Nat.reduceAdd, Array.replicate_succ, Array.replicate_zero, List.push_toArray, List.append_toArray, List.nil_append, List.cons_append])
  (refine tk0 (v := ?_) (by kernel_rfl) (by kernel_rfl) (by kernel_rfl) (fun _ _ _ h => h) (Or.inl ⟨by rfl, ?_⟩) (by assumption) ?_; rotate_left; (focus (intro w hSw; (try dsimp only at hSw); go_simp; (try first | (rw [dif_pos (by omega)]; simp only [Result.andThen_ok]) | rw [if_pos (by omega)]); (try with_reducible rfl); done)); try simp only [Act.put, List.setIfInBounds_toArray, List.set_cons_zero, List.set_cons_succ])
  (refine tk1 (v := ?_) (by kernel_rfl) (by kernel_rfl) (by kernel_rfl) (fun _ _ _ h => h) (Or.inl ⟨by rfl, ?_⟩) (by assumption) ?_; rotate_left; (focus (intro w hSw; (try dsimp only at hSw); go_simp; (try first | (rw [dif_pos (by omega)]; simp only [Result.andThen_ok]) | rw [if_pos (by omega)]); (try with_reducible rfl); done)); try simp only [Act.put, List.setIfInBounds_toArray, List.set_cons_zero, List.set_cons_succ])
  (refine tk2 (v := ?_) (by kernel_rfl) (by kernel_rfl) (by kernel_rfl) (fun _ _ _ h => h) (Or.inl ⟨by rfl, ?_⟩) (by assumption) ?_; rotate_left; (focus (intro w hSw; (try dsimp only at hSw); go_simp; (try first | (rw [dif_pos (by omega)]; simp only [Result.andThen_ok]) | rw [if_pos (by omega)]); (try with_reducible rfl); done)); try simp only [Act.put, List.setIfInBounds_toArray, List.set_cons_zero, List.set_cons_succ])
  (refine tk3 (v := ?_) (by kernel_rfl) (by kernel_rfl) (by kernel_rfl) (fun _ _ _ h => h) (Or.inl ⟨by rfl, ?_⟩) (by assumption) ?_; rotate_left; (focus (intro w hSw; (try dsimp only at hSw); go_simp; (try first | (rw [dif_pos (by omega)]; simp only [Result.andThen_ok]) | rw [if_pos (by omega)]); (try with_reducible rfl); done)); try simp only [Act.put, List.setIfInBounds_toArray, List.set_cons_zero, List.set_cons_succ])
  (refine tk5 (v := ?_) (by kernel_rfl) (by kernel_rfl) (by kernel_rfl) (fun _ _ _ h => h) (Or.inl ⟨by rfl, ?_⟩) (by assumption) ?_; rotate_left; (focus (intro w hSw; (try dsimp only at hSw); go_simp; (try first | (rw [dif_pos (by omega)]; simp only [Result.andThen_ok]) | rw [if_pos (by omega)]); (try with_reducible rfl); done)); try simp only [Act.put, List.setIfInBounds_toArray, List.set_cons_zero, List.set_cons_succ])
  (refine tk7 (v := ?_) (by kernel_rfl) (by kernel_rfl) (by kernel_rfl) (fun _ _ _ h => h) (Or.inl ⟨by rfl, ?_⟩) (by assumption) ?_; rotate_left; (focus (intro w hSw; (try dsimp only at hSw); go_simp; (try first | (rw [dif_pos (by omega)]; simp only [Result.andThen_ok]) | rw [if_pos (by omega)]); (try with_reducible rfl); done)); try simp only [Act.put, List.setIfInBounds_toArray, List.set_cons_zero, List.set_cons_succ])
  (refine tk8 (v := ?_) (by kernel_rfl) (by kernel_rfl) (by kernel_rfl) (fun _ _ _ h => h) (Or.inl ⟨by rfl, ?_⟩) (by assumption) ?_; rotate_left; (focus (intro w hSw; (try dsimp only at hSw); go_simp; (try first | (rw [dif_pos (by omega)]; simp only [Result.andThen_ok]) | rw [if_pos (by omega)]); (try with_reducible rfl); done)); try simp only [Act.put, List.setIfInBounds_toArray, List.set_cons_zero, List.set_cons_succ])
  (refine tk9 (v := ?_) (by kernel_rfl) (by kernel_rfl) (by kernel_rfl) (fun _ _ _ h => h) (Or.inl ⟨by rfl, ?_⟩) (by assumption) ?_; rotate_left; (focus (intro w hSw; (try dsimp only at hSw); go_simp; (try first | (rw [dif_pos (by omega)]; simp only [Result.andThen_ok]) | rw [if_pos (by omega)]); (try with_reducible rfl); done)); try simp only [Act.put, List.setIfInBounds_toArray, List.set_cons_zero, List.set_cons_succ])
  (refine tk10 (v := ?_) (by kernel_rfl) (by kernel_rfl) (by kernel_rfl) (fun _ _ _ h => h) (Or.inl ⟨by rfl, ?_⟩) (by assumption) ?_; rotate_left; (focus (intro w hSw; (try dsimp only at hSw); go_simp; (try first | (rw [dif_pos (by omega)]; simp only [Result.andThen_ok]) | rw [if_pos (by omega)]); (try with_reducible rfl); done)); try simp only [Act.put, List.setIfInBounds_toArray, List.set_cons_zero, List.set_cons_succ])
  (refine tk11 (v := ?_) (by kernel_rfl) (by kernel_rfl) (by kernel_rfl) (fun _ _ _ h => h) (Or.inl ⟨by rfl, ?_⟩) (by assumption) ?_; rotate_left; (focus (intro w hSw; (try dsimp only at hSw); go_simp; (try first | (rw [dif_pos (by omega)]; simp only [Result.andThen_ok]) | rw [if_pos (by omega)]); (try with_reducible rfl); done)); try simp only [Act.put, List.setIfInBounds_toArray, List.set_cons_zero, List.set_cons_succ])
  have c7 := H5.out.drew.th.p
  (refine wpAnyH_ready (rs := [4]) (by kernel_rfl) (by simp) ?_; refine ar4 (fun K hK => ?_) AllReadyH.nil; go_simp)
  (refine hK.out _ _ H5.out.drew.th.i (fun hHeld => ?_); clear hK K; try simp only [Act.put, List.setIfInBounds_toArray, List.set_cons_zero, List.set_cons_succ])
  (refine tk6 (v := ?_) (by kernel_rfl) (by kernel_rfl) (by kernel_rfl) (fun _ _ _ h => h) (Or.inl ⟨by rfl, ?_⟩) (by assumption) ?_; rotate_left; (focus (intro w hSw; (try dsimp only at hSw); go_simp; (try first | (rw [dif_pos (by omega)]; simp only [Result.andThen_ok]) | rw [if_pos (by omega)]); (try with_reducible rfl); done)); try simp only [Act.put, List.setIfInBounds_toArray, List.set_cons_zero, List.set_cons_succ])
  have hw : wrap64 ((pl : Int) + 1) = ((pl + 1 : Nat) : Int) := by unfold wrap64; omega
  have hmn : min ((pl + 1 : Nat) : Int) (m : Int) = ((pl + 1 : Nat) : Int) := by omega
  (refine tk12 (v := ?_) (by kernel_rfl) (by kernel_rfl) (by kernel_rfl) (fun _ _ _ h => h) (Or.inl ⟨by rfl, ?_⟩) (by assumption) ?_; rotate_left; (focus (intro w hSw; (try dsimp only at hSw); go_simp; (try first | (rw [dif_pos (by omega)]; simp only [Result.andThen_ok]) | rw [if_pos (by omega)]); (try with_reducible rfl); done)); try simp only [Act.put, List.setIfInBounds_toArray, List.set_cons_zero, List.set_cons_succ])
  (refine tk13 (v := ?_) (by kernel_rfl) (by kernel_rfl) (by kernel_rfl) (fun _ _ _ h => h) (Or.inl ⟨by rfl, ?_⟩) (by assumption) ?_; rotate_left; (focus (intro w hSw; (try dsimp only at hSw); go_simp; (try first | (rw [dif_pos (by omega)]; simp only [Result.andThen_ok]) | rw [if_pos (by omega)]); (try with_reducible rfl); done)); try simp only [Act.put, List.setIfInBounds_toArray, List.set_cons_zero, List.set_cons_succ])
  (refine tk14 (v := ?_) (by kernel_rfl) (by kernel_rfl) (by kernel_rfl) (fun _ _ _ h => h) (Or.inl ⟨by rfl, ?_⟩) (by assumption) ?_; rotate_left; (focus (intro w hSw; (try dsimp only at hSw); go_simp; (try first | (rw [dif_pos (by omega)]; simp only [Result.andThen_ok]) | rw [if_pos (by omega)]); (try with_reducible rfl); done)); try simp only [Act.put, List.setIfInBounds_toArray, List.set_cons_zero, List.set_cons_succ])
  have f7 := H5.out.drew.th.fz 7
  have hx : (if (m : Int) < IntKind.i64.wrap ((pl : Int) + 1) then (m : Int) else IntKind.i64.wrap ((pl : Int) + 1)) = ((pl + 1 : Nat) : Int) := by rw [IntKind.wrap_i64]; rw [if_neg (by omega)]; omega
  have H6 : Hid (Wk w (W5.setCell ⟨T, 7, none⟩ (.int .i64 (if (m : Int) < IntKind.i64.wrap ((pl : Int) + 1) then (m : Int) else IntKind.i64.wrap ((pl : Int) + 1)))).drew L { S with rc := 0, acc := wrap64 (S.acc + 1), word := wo } T ib m cap (upd rg r (bitI b)) (pl + 1) g 3 j r (-1) ni (-1) oi n) := by
    show Wk _ _ _ _ _ _ _ _ _ _ _ _ _ _ _ _ _ _ _
    rw [hx]
    exact (H5.out.place (pl + 1)).drew
  clear hx hw hmn
  (refine wpAnyH_ready (rs := [15]) (by kernel_rfl) (by simp) ?_; refine ar15 (fun K hK => ?_) AllReadyH.nil; go_simp)
  clear c7 f7 H5
  (refine hK.out _ _ H6.out.th.i (fun hHeld => ?_); clear hK K; try simp only [Act.put, List.setIfInBounds_toArray, List.set_cons_zero, List.set_cons_succ])
  refine wpAnyH_done (by kernel_rfl) ?_ _
  exact ⟨rfl, .tuple #[], by simp [results, Tryz.results144], rfl, H6.out.hd, H6.out.th, H6.out.kp⟩
end Go.Proofs.YtegnmflbbpfdhaaGreat

namespace Go.Proofs.YtegnmflbbpfdhaaGreat
set_option linter.unusedSimpArgs false
open Go.ChangeShapes Go.WideShapes Go.ChangeAt Go.RowKit Go.MuLone Go.RwLone
set_option linter.unusedVariables false
set_option maxRecDepth 100000
set_option maxHeartbeats 3200000
/-- The instruction number k of the row in the block ib. -/
structure In8 (w : World) (ib k : Nat) (op c r nr ni orr oi n : Int) : Prop where
  c0 : w.cell? ⟨ib, k * 8, none⟩ = some (.int .i64 op)
  c1 : w.cell? ⟨ib, k * 8 + 1, none⟩ = some (.int .i64 c)
  c2 : w.cell? ⟨ib, k * 8 + 2, none⟩ = some (.int .i64 r)
  c3 : w.cell? ⟨ib, k * 8 + 3, none⟩ = some (.int .i64 nr)
  c4 : w.cell? ⟨ib, k * 8 + 4, none⟩ = some (.int .u64 ni)
  c5 : w.cell? ⟨ib, k * 8 + 5, none⟩ = some (.int .i64 orr)
  c6 : w.cell? ⟨ib, k * 8 + 6, none⟩ = some (.int .u64 oi)
  c7 : w.cell? ⟨ib, k * 8 + 7, none⟩ = some (.int .i64 n)
  lt : ib < w.heap.size
theorem In8.keeps {w w' : World} {ib k : Nat} {op c r nr ni orr oi n : Int} {B : Nat → Prop} (h : In8 w ib k op c r nr ni orr oi n) (kp : Keeps B w w') (hn : ¬ B ib) : In8 w' ib k op c r nr ni orr oi n := by
  have e : ∀ j, w'.cell? ⟨ib, j, none⟩ = w.cell? ⟨ib, j, none⟩ := fun j => kp.cell (p := ⟨ib, j, none⟩) h.lt hn
  exact ⟨(e _).trans h.c0, (e _).trans h.c1, (e _).trans h.c2, (e _).trans h.c3, (e _).trans h.c4, (e _).trans h.c5, (e _).trans h.c6, (e _).trans h.c7, Nat.lt_of_lt_of_le h.lt kp.size⟩
theorem step_swap (L : Lay) (S : AS) (w : World) (T ib m cap : Nat) (rg : Nat → Int) (pl j r : Nat) (ni oi n : Int) (b : Bool) (wo : Nat → Int) (HB : Hid (b = decide (S.word j = oi) ∧ wo = if S.word j = oi then upd S.word j ni else S.word))
    (h : Holds w L S) (ht : Th w T L ib m cap rg pl) (hi : In8 w ib pl 3 j r (-1) ni (-1) oi n) (hT : ¬ L.has T) (hib : ¬ (L.has ib ∨ ib = T)) (hr : S.rc = 0) (hn : S.n = 1) (hu : S.use 0 = true) (hj : j < S.wd) (hr4 : r < 4) (hpl : pl < m) (hm : m ≤ 1000) :
    Calls Tryz.prog 142 #[.pointer (some ⟨T, 0, none⟩)] w fun e w' => e = .returned (.bool (decide (m ≤ pl + 1))) ∧ Holds w' L { S with rc := 0, acc := wrap64 (S.acc + 1), word := wo } ∧ Th w' T L ib m cap (upd rg r (bitI b)) (pl + 1) ∧ Keeps (fun k => L.has k ∨ k = T) w w' := by
  have H : Hid (Holds w L S ∧ Th w T L ib m cap rg pl ∧ In8 w ib pl 3 j r (-1) ni (-1) oi n) := ⟨h, ht, hi⟩
  have hnd : decide (m ≤ pl) = false := by simp; omega
  have hp0 : (0 : Int) ≤ (pl : Int) := Int.natCast_nonneg _
  have hp1 : (pl : Int) < (m : Int) := by omega
  clear h ht hi
  go_enter Tryz.func142, Tryz.ntmps142
  go_wp2_with fail
  refine (done_any w T L ib m cap rg pl H.out.2.1).mono ?_
  rintro e W1 ⟨rfl, k1⟩
  have H1 : Hid (Holds W1 L S ∧ Th W1 T L ib m cap rg pl ∧ In8 W1 ib pl 3 j r (-1) ni (-1) oi n ∧ Keeps (fun k => L.has k ∨ k = T) w W1) := ⟨H.out.1.keeps k1 (fun _ _ e => e), H.out.2.1.keeps k1 (fun e => e), H.out.2.2.keeps k1 (fun e => e), k1.mono (fun _ e => e.elim)⟩
  clear H k1
  rw [hnd]
  clear hnd
  go_wp2_with fail
  (refine wp_region_held_drew (S := (fun W => W.cell? ⟨T, 2, none⟩ = some (.slice (some ⟨ib, 0, none⟩) m cap) ∧ W.cell? ⟨ib, pl * 8, none⟩ = some (.int .i64 3) ∧ W.cell? ⟨ib, pl * 8 + 1, none⟩ = some (.int .i64 j) ∧ W.cell? ⟨ib, pl * 8 + 2, none⟩ = some (.int .i64 r) ∧ W.cell? ⟨ib, pl * 8 + 3, none⟩ = some (.int .i64 (-1)) ∧ W.cell? ⟨ib, pl * 8 + 4, none⟩ = some (.int .u64 ni) ∧ W.cell? ⟨ib, pl * 8 + 5, none⟩ = some (.int .i64 (-1)) ∧ W.cell? ⟨ib, pl * 8 + 6, none⟩ = some (.int .u64 oi) ∧ W.cell? ⟨ib, pl * 8 + 7, none⟩ = some (.int .i64 n))) (by kernel_rfl) ⟨H1.out.2.1.i, H1.out.2.2.1.c0, H1.out.2.2.1.c1, H1.out.2.2.1.c2, H1.out.2.2.1.c3, H1.out.2.2.1.c4, H1.out.2.2.1.c5, H1.out.2.2.1.c6, H1.out.2.2.1.c7⟩ (fun hHeld => ?_); simp only [List.size_toArray, List.length_cons, List.length_nil, Nat.reduceAdd, Array.replicate_succ, Array.replicate_zero, List.push_toArray, List.append_toArray, List.nil_append, List.cons_append])
  (refine tk0 (v := ?_) (by kernel_rfl) (by kernel_rfl) (by kernel_rfl) (fun _ _ _ h => h) (Or.inl ⟨by rfl, ?_⟩) (by assumption) ?_; rotate_left; (focus (intro w hSw; (try dsimp only at hSw); go_simp; (try first | (rw [dif_pos (by omega)]; simp only [Result.andThen_ok]) | rw [if_pos (by omega)]); (try with_reducible rfl); done)); try simp only [Act.put, List.setIfInBounds_toArray, List.set_cons_zero, List.set_cons_succ])
  (refine tk1 (v := ?_) (by kernel_rfl) (by kernel_rfl) (by kernel_rfl) (fun _ _ _ h => h) (Or.inl ⟨by rfl, ?_⟩) (by assumption) ?_; rotate_left; (focus (intro w hSw; (try dsimp only at hSw); go_simp; (try first | (rw [dif_pos (by omega)]; simp only [Result.andThen_ok]) | rw [if_pos (by omega)]); (try with_reducible rfl); done)); try simp only [Act.put, List.setIfInBounds_toArray, List.set_cons_zero, List.set_cons_succ])
  (refine tk2 (v := ?_) (by kernel_rfl) (by kernel_rfl) (by kernel_rfl) (fun _ _ _ h => h) (Or.inl ⟨by rfl, ?_⟩) (by assumption) ?_; rotate_left; (focus (intro w hSw; (try dsimp only at hSw); go_simp; (try first | (rw [dif_pos (by omega)]; simp only [Result.andThen_ok]) | rw [if_pos (by omega)]); (try with_reducible rfl); done)); try simp only [Act.put, List.setIfInBounds_toArray, List.set_cons_zero, List.set_cons_succ])
  (refine tk3 (v := ?_) (by kernel_rfl) (by kernel_rfl) (by kernel_rfl) (fun _ _ _ h => h) (Or.inl ⟨by rfl, ?_⟩) (by assumption) ?_; rotate_left; (focus (intro w hSw; (try dsimp only at hSw); go_simp; (try first | (rw [dif_pos (by omega)]; simp only [Result.andThen_ok]) | rw [if_pos (by omega)]); (try with_reducible rfl); done)); try simp only [Act.put, List.setIfInBounds_toArray, List.set_cons_zero, List.set_cons_succ])
  (refine tk4 (v := ?_) (by kernel_rfl) (by kernel_rfl) (by kernel_rfl) (fun _ _ _ h => h) (Or.inl ⟨by rfl, ?_⟩) (by assumption) ?_; rotate_left; (focus (intro w hSw; (try dsimp only at hSw); go_simp; (try first | (rw [dif_pos (by omega)]; simp only [Result.andThen_ok]) | rw [if_pos (by omega)]); (try with_reducible rfl); done)); try simp only [Act.put, List.setIfInBounds_toArray, List.set_cons_zero, List.set_cons_succ])
  (refine tk5 (v := ?_) (by kernel_rfl) (by kernel_rfl) (by kernel_rfl) (fun _ _ _ h => h) (Or.inl ⟨by rfl, ?_⟩) (by assumption) ?_; rotate_left; (focus (intro w hSw; (try dsimp only at hSw); go_simp; (try first | (rw [dif_pos (by omega)]; simp only [Result.andThen_ok]) | rw [if_pos (by omega)]); (try with_reducible rfl); done)); try simp only [Act.put, List.setIfInBounds_toArray, List.set_cons_zero, List.set_cons_succ])
  (refine tk6 (v := ?_) (by kernel_rfl) (by kernel_rfl) (by kernel_rfl) (fun _ _ _ h => h) (Or.inl ⟨by rfl, ?_⟩) (by assumption) ?_; rotate_left; (focus (intro w hSw; (try dsimp only at hSw); go_simp; (try first | (rw [dif_pos (by omega)]; simp only [Result.andThen_ok]) | rw [if_pos (by omega)]); (try with_reducible rfl); done)); try simp only [Act.put, List.setIfInBounds_toArray, List.set_cons_zero, List.set_cons_succ])
  (refine tk7 (v := ?_) (by kernel_rfl) (by kernel_rfl) (by kernel_rfl) (fun _ _ _ h => h) (Or.inl ⟨by rfl, ?_⟩) (by assumption) ?_; rotate_left; (focus (intro w hSw; (try dsimp only at hSw); go_simp; (try first | (rw [dif_pos (by omega)]; simp only [Result.andThen_ok]) | rw [if_pos (by omega)]); (try with_reducible rfl); done)); try simp only [Act.put, List.setIfInBounds_toArray, List.set_cons_zero, List.set_cons_succ])
  have c7 : W1.drew.cell? ⟨T, 7, none⟩ = some (.int .i64 pl) := H1.out.2.1.p
  (refine wpAnyH_ready (rs := [8]) (by kernel_rfl) (by simp) ?_; refine ar8 (fun K hK => ?_) AllReadyH.nil; go_simp)
  (refine hK.out _ _ ⟨H1.out.2.1.i, H1.out.2.2.1.c0, H1.out.2.2.1.c1, H1.out.2.2.1.c2, H1.out.2.2.1.c3, H1.out.2.2.1.c4, H1.out.2.2.1.c5, H1.out.2.2.1.c6, H1.out.2.2.1.c7⟩ (fun hHeld => ?_); clear hK K; try simp only [Act.put, List.setIfInBounds_toArray, List.set_cons_zero, List.set_cons_succ])
  clear c7
  (refine tk9 (v := ?_) (by kernel_rfl) (by kernel_rfl) (by kernel_rfl) (fun _ _ _ h => h) (Or.inl ⟨by rfl, ?_⟩) (by assumption) ?_; rotate_left; (focus (intro w hSw; (try dsimp only at hSw); go_simp; (try first | (rw [dif_pos (by omega)]; simp only [Result.andThen_ok]) | rw [if_pos (by omega)]); (try with_reducible rfl); done)); try simp only [Act.put, List.setIfInBounds_toArray, List.set_cons_zero, List.set_cons_succ])
  (refine tk10 (v := ?_) (by kernel_rfl) (by kernel_rfl) (by kernel_rfl) (fun _ _ _ h => h) (Or.inl ⟨by rfl, ?_⟩) (by assumption) ?_; rotate_left; (focus (intro w hSw; (try dsimp only at hSw); go_simp; (try first | (rw [dif_pos (by omega)]; simp only [Result.andThen_ok]) | rw [if_pos (by omega)]); (try with_reducible rfl); done)); try simp only [Act.put, List.setIfInBounds_toArray, List.set_cons_zero, List.set_cons_succ])
  (refine wpAnyH_ready (rs := [11]) (by kernel_rfl) (by simp) ?_; refine ar11 (fun K hK => ?_) AllReadyH.nil; go_simp)
  refine (work_swap L S W1.drew T ib m cap rg pl j r ni oi n b wo HB H1.out.1.drew (H1.out.2.1.keeps (Keeps.refl (fun _ => False) _).drew (fun e => e)) hT hr hn hu hj hr4 hpl hm).mono ?_
  rintro e W2 ⟨rfl, h2, t2, k2⟩
  have H2 : Hid (Holds W2 L { S with rc := 0, acc := wrap64 (S.acc + 1), word := wo } ∧ Th W2 T L ib m cap (upd rg r (bitI b)) (pl + 1) ∧ In8 W2 ib pl 3 j r (-1) ni (-1) oi n ∧ Keeps (fun k => L.has k ∨ k = T) w W2) := ⟨h2, t2, H1.out.2.2.1.keeps ((Keeps.refl _ _).drew.trans k2) hib, H1.out.2.2.2.trans ((Keeps.refl _ _).drew.trans k2)⟩
  clear H1 h2 t2 k2 HB
  (refine hK.out _ _ ⟨H2.out.2.1.i, H2.out.2.2.1.c0, H2.out.2.2.1.c1, H2.out.2.2.1.c2, H2.out.2.2.1.c3, H2.out.2.2.1.c4, H2.out.2.2.1.c5, H2.out.2.2.1.c6, H2.out.2.2.1.c7⟩ (fun hHeld => ?_); clear hK K; try simp only [Act.put, List.setIfInBounds_toArray, List.set_cons_zero, List.set_cons_succ])
  refine wpAnyH_done (by kernel_rfl) ?_ _
  go_wp2_with fail
  refine (done_any W2 T L ib m cap _ (pl + 1) H2.out.2.1).mono ?_
  rintro e W3 ⟨rfl, k3⟩
  go_wp2
  go_ret
  exact ⟨rfl, H2.out.1.keeps k3 (fun _ _ e => e), H2.out.2.1.keeps k3 (fun e => e), H2.out.2.2.2.trans (k3.mono (fun _ e => e.elim))⟩
end Go.Proofs.YtegnmflbbpfdhaaGreat
