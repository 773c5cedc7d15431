import Derived.Test.YtegnmflbbpfdhaaGreatCells15Z
import Derived.Test.YtegnmflbbpfdhaaGreatRegG
import Derived.BigQuiet
import Derived.Deep.QuietTactic
namespace Go.Proofs.YtegnmflbbpfdhaaGreat
open Go.ChangeShapes Go.WideShapes Go.ChangeAt Go.RowKit Go.MuLone Go.RwLone
set_option linter.unusedVariables false
set_option maxRecDepth 100000
set_option maxHeartbeats 1600000
/-- A thread in the block T: of the arena at L, slot 1, its m instructions in the block ib, its registers rg, its place pl. -/
structure Th (w : World) (T : Nat) (L : Lay) (ib m cap : Nat) (rg : Nat → Int) (pl : Nat) : Prop where
  a : w.cell? ⟨T, 0, none⟩ = some (.pointer (some ⟨L.b, 0, none⟩))
  s : w.cell? ⟨T, 1, none⟩ = some (.int .i64 1)
  i : w.cell? ⟨T, 2, none⟩ = some (.slice (some ⟨ib, 0, none⟩) m cap)
  r : ∀ j, j < 4 → w.cell? ⟨T, 3 + j, none⟩ = some (.int .u64 (rg j))
  p : w.cell? ⟨T, 7, none⟩ = some (.int .i64 (pl : Int))
  fz : ∀ j, w.frozen? ⟨T, j, none⟩ = false
  lt : T < w.heap.size
theorem Th.keeps {w w' : World} {T : Nat} {L : Lay} {ib m cap : Nat} {rg : Nat → Int} {pl : Nat} {B : Nat → Prop} (h : Th w T L ib m cap rg pl) (k : Keeps B w w') (hn : ¬ B T) : Th w' T L ib m cap rg pl :=
  ⟨(k.cell (p := ⟨T, 0, none⟩) h.lt hn).trans h.a, (k.cell (p := ⟨T, 1, none⟩) h.lt hn).trans h.s, (k.cell (p := ⟨T, 2, none⟩) h.lt hn).trans h.i, fun j hj => (k.cell (p := ⟨T, 3 + j, none⟩) h.lt hn).trans (h.r j hj), (k.cell (p := ⟨T, 7, none⟩) h.lt hn).trans h.p, fun j => (k.frozen (p := ⟨T, j, none⟩) h.lt hn).trans (h.fz j), Nat.lt_of_lt_of_le h.lt k.size⟩
theorem Th.setReg {w : World} {T : Nat} {L : Lay} {ib m cap : Nat} {rg : Nat → Int} {pl : Nat} (h : Th w T L ib m cap rg pl) (j : Nat) (hj : j < 4) (x : Int) : Th (w.setCell ⟨T, 3 + j, none⟩ (.int .u64 x)) T L ib m cap (upd rg j x) pl := by
  have ne : ∀ k, k ≠ 3 + j → (w.setCell ⟨T, 3 + j, none⟩ (.int .u64 x)).cell? ⟨T, k, none⟩ = w.cell? ⟨T, k, none⟩ := fun k hk => World.cell?_setCell_other _ _ _ _ (fun e => hk (congrArg Addr.off e).symm)
  refine ⟨(ne 0 (by omega)).trans h.a, (ne 1 (by omega)).trans h.s, (ne 2 (by omega)).trans h.i, fun k hk => ?_, (ne 7 (by omega)).trans h.p, fun k => by simpa using h.fz k, by simpa using h.lt⟩
  by_cases e : k = j
  · subst e
    rw [upd_same]
    exact World.cell?_setCell_same _ _ _ (h.r k hk)
  · rw [upd_other _ _ e]
    exact (ne (3 + k) (by omega)).trans (h.r k hk)
theorem Th.setPl {w : World} {T : Nat} {L : Lay} {ib m cap : Nat} {rg : Nat → Int} {pl : Nat} (h : Th w T L ib m cap rg pl) (x : Nat) : Th (w.setCell ⟨T, 7, none⟩ (.int .i64 (x : Int))) T L ib m cap rg x := by
  have ne : ∀ k, k ≠ 7 → (w.setCell ⟨T, 7, none⟩ (.int .i64 (x : Int))).cell? ⟨T, k, none⟩ = w.cell? ⟨T, k, none⟩ := fun k hk => World.cell?_setCell_other _ _ _ _ (fun e => hk (congrArg Addr.off e).symm)
  exact ⟨(ne 0 (by omega)).trans h.a, (ne 1 (by omega)).trans h.s, (ne 2 (by omega)).trans h.i, fun k hk => (ne (3 + k) (by omega)).trans (h.r k hk), World.cell?_setCell_same _ _ _ h.p, fun k => by simpa using h.fz k, by simpa using h.lt⟩
theorem Keeps.drewN {B : Nat → Prop} {a w : World} (h : Keeps B a w) (n : Nat) : Keeps B a (w.drewN n) := by
  induction n generalizing w with
  | zero => exact h
  | succ n ih => exact (ih h).drew
theorem truth_any (b : Bool) (w : World) : Calls Tryz.prog 149 #[.bool b] w fun e w' => e = .returned (.int .u64 (bitI b)) ∧ w' = w := by
  cases b
  · go_enter Tryz.func149, Tryz.ntmps149
    go_wp2
    go_ret
    exact ⟨rfl, rfl⟩
  · go_enter Tryz.func149, Tryz.ntmps149
    go_wp2
    go_ret
    exact ⟨rfl, rfl⟩
theorem value_imm (T : Nat) (x : Int) (w : World) : Calls Tryz.prog 145 #[.pointer (some ⟨T, 0, none⟩), .agg #[.int .i64 (-1), .int .u64 x]] w fun e w' => e = .returned (.int .u64 x) ∧ Keeps (fun _ => False) w w' := by
  go_enter Tryz.func145, Tryz.ntmps145
  go_wp2
  go_ret
  exact ⟨rfl, (Keeps.refl _ _).alloc _⟩
theorem done_any (w : World) (T : Nat) (L : Lay) (ib m cap : Nat) (rg : Nat → Int) (pl : Nat) (h : Th w T L ib m cap rg pl) : Calls Tryz.prog 143 #[.pointer (some ⟨T, 0, none⟩)] w fun e w' => e = .returned (.bool (decide (m ≤ pl))) ∧ Keeps (fun _ => False) w w' := by
  have c2 := h.i
  have c7 := h.p
  have hd : decide ((m : Int) ≤ (pl : Int)) = decide (m ≤ pl) := by simp
  clear h
  go_enter Tryz.func143, Tryz.ntmps143
  go_wp2_with fail
  go_quiet (fail)
  go_wp2
  go_ret
  exact ⟨by simp, (Keeps.refl _ _).drewN _⟩
end Go.Proofs.YtegnmflbbpfdhaaGreat
