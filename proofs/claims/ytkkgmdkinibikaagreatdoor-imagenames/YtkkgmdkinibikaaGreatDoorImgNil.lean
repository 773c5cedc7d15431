import Derived.Test.YtkkgmdkinibikaaGreatDoorRows
import Derived.WalkKit
import Derived.ProofKit
import Derived.OpenShut
import Derived.ShutString
import Derived.WalkLawsBesides
import Derived.Outline
import Derived.WalkSpells
import Derived.BigRegion
import Derived.Below
import Derived.Lib.Strings
import Derived.Laws.Strings
import Derived.Laws.NewBlocks
namespace Go.Proofs.YtkkgmdkinibikaaGreatDoor
open Go.ChangeShapes Go.WideShapes Go.ChangeAt Go.RowKit
set_option linter.unusedVariables false
set_option maxRecDepth 100000
theorem below_trans' {w w1 w2 : World} (h : Below w.heap.size w w1) (k : Below w1.heap.size w1 w2) : Below w.heap.size w w2 := h.trans (k.mono h.size)

theorem missI (w : World) : Calls Tryz.prog 18 #[.pointer none] w fun e w' => e = .returned (.bool true) ∧ w' = w := by
  go_enter Tryz.func18, Tryz.ntmps18
  go_wp2
  go_ret
  exact ⟨rfl, rfl⟩

theorem missS (w : World) : Calls Tryz.prog 45 #[.pointer none] w fun e w' => e = .returned (.bool true) ∧ w' = w := by
  go_enter Tryz.func45, Tryz.ntmps45
  go_wp2
  go_ret
  exact ⟨rfl, rfl⟩

theorem missD (w : World) : Calls Tryz.prog 81 #[.pointer none] w fun e w' => e = .returned (.bool true) ∧ w' = w := by
  go_enter Tryz.func81, Tryz.ntmps81
  go_wp2
  go_ret
  exact ⟨rfl, rfl⟩

theorem nAbsorb (v : Value) (w : World) : Calls Tryz.prog 4 #[.pointer none, v] w fun e w' => e = .returned (.tuple #[.int .i64 0, .int .i64 1]) ∧ w' = w := by
  go_enter Tryz.func4, Tryz.ntmps4
  go_wp2_with fail
  refine (missI _).mono ?_
  rintro e w1 ⟨rfl, rfl⟩
  go_wp2
  go_ret2
  exact ⟨rfl, rfl⟩

theorem nClose (w : World) : Calls Tryz.prog 5 #[.pointer none, .int .u64 3] w fun e w' => e = .returned (.tuple #[.slice none 0 0, .int .i64 1]) ∧ w' = w := by
  go_enter Tryz.func5, Tryz.ntmps5
  go_wp2_with fail
  refine (missI _).mono ?_
  rintro e w1 ⟨rfl, rfl⟩
  go_wp2
  go_ret2
  exact ⟨rfl, rfl⟩

theorem nMerge (w : World) : Calls Tryz.prog 7 #[.pointer none, .int .i64 0] w fun e w' => e = .returned (.int .i64 1) ∧ w' = w := by
  go_enter Tryz.func7, Tryz.ntmps7
  go_wp2_with fail
  refine (missI _).mono ?_
  rintro e w1 ⟨rfl, rfl⟩
  go_wp2
  go_ret
  exact ⟨rfl, rfl⟩

theorem nUpto (w : World) : Calls Tryz.prog 8 #[.pointer none] w fun e w' => e = .returned (.int .u64 0) ∧ w' = w := by
  go_enter Tryz.func8, Tryz.ntmps8
  go_wp2_with fail
  refine (missI _).mono ?_
  rintro e w1 ⟨rfl, rfl⟩
  go_wp2
  go_ret
  exact ⟨rfl, rfl⟩

theorem nPending (w : World) : Calls Tryz.prog 9 #[.pointer none] w fun e w' => e = .returned (.int .i64 0) ∧ w' = w := by
  go_enter Tryz.func9, Tryz.ntmps9
  go_wp2_with fail
  refine (missI _).mono ?_
  rintro e w1 ⟨rfl, rfl⟩
  go_wp2
  go_ret
  exact ⟨rfl, rfl⟩

theorem nPairs (w : World) : Calls Tryz.prog 10 #[.pointer none] w fun e w' => e = .returned (.slice none 0 0) ∧ w' = w := by
  go_enter Tryz.func10, Tryz.ntmps10
  go_wp2_with fail
  refine (missI _).mono ?_
  rintro e w1 ⟨rfl, rfl⟩
  go_wp2
  go_ret
  exact ⟨rfl, rfl⟩

theorem nRows (w : World) : Calls Tryz.prog 11 #[.pointer none] w fun e w' => e = .returned (.slice none 0 0) ∧ w' = w := by
  go_enter Tryz.func11, Tryz.ntmps11
  go_wp2_with fail
  refine (missI _).mono ?_
  rintro e w1 ⟨rfl, rfl⟩
  go_wp2
  go_ret
  exact ⟨rfl, rfl⟩

theorem nCode (w : World) : Calls Tryz.prog 17 #[.pointer none] w fun e w' => e = .returned (.int .i64 1) ∧ w' = w := by
  go_enter Tryz.func17, Tryz.ntmps17
  go_wp2_with fail
  refine (missS _).mono ?_
  rintro e w1 ⟨rfl, rfl⟩
  go_wp2
  go_ret
  exact ⟨rfl, rfl⟩

theorem nStep (w : World) : Calls Tryz.prog 16 #[.pointer none] w fun e w' => e = .returned (.bool true) ∧ w' = w := by
  go_enter Tryz.func16, Tryz.ntmps16
  go_wp2_with fail
  refine (missS _).mono ?_
  rintro e w1 ⟨rfl, rfl⟩
  go_wp2
  go_ret
  exact ⟨rfl, rfl⟩

theorem nList (w : World) : Calls Tryz.prog 41 #[.pointer none] w fun e w' => e = .returned (.slice none 0 0) ∧ w' = w := by
  go_enter Tryz.func41, Tryz.ntmps41
  go_wp2_with fail
  refine (missD _).mono ?_
  rintro e w1 ⟨rfl, rfl⟩
  go_wp2
  go_ret
  exact ⟨rfl, rfl⟩

theorem nSaver (v : Value) (w : World) : Calls Tryz.prog 12 #[.pointer none, v] w fun e w' => e = .returned (.tuple #[.pointer none, .int .i64 1]) ∧ w' = w := by
  go_enter Tryz.func12, Tryz.ntmps12
  go_wp2
  go_ret2
  exact ⟨rfl, rfl⟩
theorem nClean (w : World) : Calls Tryz.prog 13 #[.pointer none] w fun e w' => e = .returned (.tuple #[.int .i64 0, .int .i64 1]) ∧ w' = w := by
  go_enter Tryz.func13, Tryz.ntmps13
  go_wp2
  go_ret2
  exact ⟨rfl, rfl⟩
theorem numI (x : Int) (w : World) : Calls Tryz.prog 6 #[.int .i64 x] w fun e w' => e = .returned (.int .i64 x) ∧ w' = w := by
  go_enter Tryz.func6, Tryz.ntmps6
  go_wp2
  go_ret
  exact ⟨rfl, rfl⟩
theorem fillOne (w : World) : Calls Tryz.prog 43 #[.int .i64 1] w fun e w' => e = .returned (.bool true) ∧ w' = w := by
  go_enter Tryz.func43, Tryz.ntmps43
  go_wp2
  go_ret
  exact ⟨rfl, rfl⟩
theorem nFiles (w : World) : Calls Tryz.prog 14 #[.pointer none] w fun e w' => e = .returned (.slice none 0 0) ∧ w' = w := by
  go_enter Tryz.func14, Tryz.ntmps14
  go_wp2_with fail
  refine (nList _).mono ?_
  rintro e w1 ⟨rfl, rfl⟩
  go_wp2
  go_loopw [3, 11] (fun l i wr => l = .slice none 0 0 ∧ i = .int .i64 0 ∧ wr = w1) (fun _ _ _ => 0)
  case atStart => exact ⟨rfl, rfl, rfl⟩
  case round =>
    obtain ⟨rfl, rfl, rfl⟩ := hrel
    go_wp2
    go_ret
    exact ⟨rfl, rfl⟩
theorem infoSt : (Tryz.prog.info? 60).map (·.size) = some 2 := by kernel_rfl
theorem stock_any (w : World) : Calls Tryz.prog 44 #[] w fun e w' => ∃ m, e = .returned (.agg #[.slice none 0 0, m]) ∧ Below w.heap.size w w' := by
  have hmm := @run_makeMap Tryz.prog
  have HB : Hid (∀ a b, Below w.heap.size w ((w.alloc a).alloc b)) := fun a b => ((Below.refl _ _).alloc (Nat.le_refl _) a).alloc (by simp) b
  have HX : Hid (∀ a b, ((w.alloc a).alloc b).heap[w.heap.size]? = some a) := fun a b => (Below.heap_alloc _ _ _ (by simp)).trans (heap_alloc_new w a)
  go_enter Tryz.func44, Tryz.ntmps44
  go_wp2
  exact bodyPost_ret (results_cell_row rfl _ _ w.heap.size _ _ (0, 0) _ (by rfl) (HX.out _ _) Tryz.underlying60 rfl infoSt) rfl ⟨_, rfl, HB.out _ _⟩
theorem new_any (w : World) : Calls Tryz.prog 15 #[.int .i64 1] w fun e w' => ∃ g, e = .returned (.tuple #[.pointer (some g), .int .i64 0]) ∧ Below w.heap.size w w' := by
  have hmm := @run_makeMap Tryz.prog
  go_enter Tryz.func15, Tryz.ntmps15
  go_wp2_with fail
  refine (fillOne _).mono ?_
  rintro e w1 ⟨rfl, rfl⟩
  go_wp2_with fail
  refine (stock_any _).mono ?_
  rintro e w2 ⟨m, rfl, hb⟩
  have HB : Hid (Below w1.heap.size w1 w2) := hb
  clear hb
  go_wp2
  go_ret2
  exact ⟨_, rfl, (HB.out.alloc HB.out.size _).alloc (Nat.le_trans HB.out.size (by simp)) _⟩
theorem okW {w W W' : World} (h : Below w.heap.size w W) (k : Below W.heap.size W W') : Below w.heap.size w W' := h.trans (k.mono h.size)
set_option maxHeartbeats 1600000 in
theorem names_walk (w : World) : Calls Tryz.prog 3 #[] w fun e w' => e = .returned (.bool true) ∧ Below w.heap.size w w' := by
  go_enter Tryz.func3, Tryz.ntmps3
  have HB0 : Hid (∀ o, Below w.heap.size w (w.alloc o)) := fun o => (Below.refl _ _).alloc (Nat.le_refl _) o
  go_wp2_with fail
  refine (nAbsorb _ _).mono ?_
  rintro e w1 ⟨rfl, rfl⟩
  go_wp2_with fail
  refine (nClose _).mono ?_
  rintro e w2 ⟨rfl, rfl⟩
  go_wp2_with (first | (go_at_call 6; refine (numI _ _).mono ?_; rintro e w9 ⟨rfl, rfl⟩) | (go_at_call 7; refine (nMerge _).mono ?_; rintro e w9 ⟨rfl, rfl⟩) | (go_at_call 8; refine (nUpto _).mono ?_; rintro e w9 ⟨rfl, rfl⟩) | (go_at_call 9; refine (nPending _).mono ?_; rintro e w9 ⟨rfl, rfl⟩) | (go_at_call 10; refine (nPairs _).mono ?_; rintro e w9 ⟨rfl, rfl⟩) | (go_at_call 11; refine (nRows _).mono ?_; rintro e w9 ⟨rfl, rfl⟩) | (go_at_call 12; refine (nSaver _ _).mono ?_; rintro e w9 ⟨rfl, rfl⟩) | (go_at_call 13; refine (nClean _).mono ?_; rintro e w9 ⟨rfl, rfl⟩) | (go_at_call 14; refine (nFiles _).mono ?_; rintro e w9 ⟨rfl, rfl⟩) | (go_at_call 16; refine (nStep _).mono ?_; rintro e w9 ⟨rfl, rfl⟩) | (go_at_call 17; refine (nCode _).mono ?_; rintro e w9 ⟨rfl, rfl⟩))
  have HB1 : Hid (∀ a b, Below w.heap.size w ((w.alloc a).alloc b)) := fun a b => ((Below.refl _ _).alloc (Nat.le_refl _) a).alloc (by simp) b
  refine (new_any _).mono ?_
  rintro e w3 ⟨g, rfl, hb⟩
  have HB : Hid (Below w.heap.size w w3) := okW (HB1.out _ _) hb
  clear hb
  go_wp2_with (first | (go_at_call 6; refine (numI _ _).mono ?_; rintro e w9 ⟨rfl, rfl⟩) | (go_at_call 7; refine (nMerge _).mono ?_; rintro e w9 ⟨rfl, rfl⟩) | (go_at_call 8; refine (nUpto _).mono ?_; rintro e w9 ⟨rfl, rfl⟩) | (go_at_call 9; refine (nPending _).mono ?_; rintro e w9 ⟨rfl, rfl⟩) | (go_at_call 10; refine (nPairs _).mono ?_; rintro e w9 ⟨rfl, rfl⟩) | (go_at_call 11; refine (nRows _).mono ?_; rintro e w9 ⟨rfl, rfl⟩) | (go_at_call 12; refine (nSaver _ _).mono ?_; rintro e w9 ⟨rfl, rfl⟩) | (go_at_call 13; refine (nClean _).mono ?_; rintro e w9 ⟨rfl, rfl⟩) | (go_at_call 14; refine (nFiles _).mono ?_; rintro e w9 ⟨rfl, rfl⟩) | (go_at_call 16; refine (nStep _).mono ?_; rintro e w9 ⟨rfl, rfl⟩) | (go_at_call 17; refine (nCode _).mono ?_; rintro e w9 ⟨rfl, rfl⟩))
  go_ret
  exact ⟨rfl, HB.out⟩

end Go.Proofs.YtkkgmdkinibikaaGreatDoor
