import Derived.Test.YtljdjaapocmppaaGreatDoorRdUnm
namespace Go.Proofs.YtljdjaapocmppaaGreatDoor
open Go.ChangeShapes Go.WideShapes Go.ChangeAt Go.RowKit
set_option linter.unusedVariables false
set_option maxRecDepth 100000
/-- The world in which the calls begin. -/
abbrev unW (w : World) (c : Array Value) : World := ((w.alloc (.cells c 26)).alloc (.cells #[.pointer none, .int .i64 0, .map none, .map none, .slice none 0 0, .int .i64 0, .bool false, .int .i64 0] 31)).alloc (.cells #[.pointer none, .pointer none, .int .i64 0, .int .i64 0, .int .i64 0, .bool false, .nilFunc, .slice none 0 0, .int .u64 0, .int .u64 0, .slice none 0 0, .int .u64 0] 37)
theorem unW_start (k : Int) (nm to : ByteArray) (i : Int) (ao : Option Addr) (cap : Nat) (l bt : Int) (pa : Option Addr) (pn pc : Nat) (us : List Int) (w : World) (hs : SeesN w w.heap.size ao us) :
    RC w w.heap.size (some ⟨w.heap.size + 1, 0, none⟩) (some ⟨w.heap.size + 1 + 1, 0, none⟩) ao us nm to i l bt (.slice ao us.length cap) (unW w #[.int .i64 k, .string nm, .string to, .int .i64 i, .slice ao us.length cap, .int .u64 l, .int .i64 bt, .slice pa pn pc]) := by
  have hb := bel3 w (.cells #[.int .i64 k, .string nm, .string to, .int .i64 i, .slice ao us.length cap, .int .u64 l, .int .i64 bt, .slice pa pn pc] 26) (.cells #[.pointer none, .int .i64 0, .map none, .map none, .slice none 0 0, .int .i64 0, .bool false, .int .i64 0] 31) (.cells #[.pointer none, .pointer none, .int .i64 0, .int .i64 0, .int .i64 0, .bool false, .nilFunc, .slice none 0 0, .int .u64 0, .int .u64 0, .slice none 0 0, .int .u64 0] 37)
  refine ⟨by simp [go_sem], by simp [go_sem], by simp [go_sem], by simp [go_sem], by simp [go_sem], by simp [go_sem], ⟨by simp only [sizeA]; omega, hb, .inr ⟨_, rfl, by simp only [sizeA]; omega, by simp [go_sem]⟩, .inr ⟨_, rfl, by simp only [sizeA]; omega, by simp [go_sem]⟩, hs.later hb⟩⟩
set_option maxHeartbeats 12800000 in
theorem unmade_walk (k : Int) (nm to : ByteArray) (i : Int) (ao : Option Addr) (cap : Nat) (l bt : Int) (pa : Option Addr) (pn pc : Nat) (us : List Int) (w : World) (hs : SeesN w w.heap.size ao us) (hroom : us.length * 8 ≤ 140737488351232) :
    Calls Tryz.prog 3 #[.agg #[.int .i64 k, .string nm, .string to, .int .i64 i, .slice ao us.length cap, .int .u64 l, .int .i64 bt, .slice pa pn pc]] w fun e w' => e = .returned (.bool true) ∧ Below w.heap.size w w' := by
  have HR : Hid (us.length * 8 ≤ 140737488351232) := hroom
  have X := unW_start k nm to i ao cap l bt pa pn pc us w hs
  dsimp only [unW] at X
  clear hroom hs
  go_enter Tryz.func3, Tryz.ntmps3
  have HX : Hid _ := X
  clear X
  go_wp2_with fail
  generalize ((w.alloc (.cells #[.int .i64 k, .string nm, .string to, .int .i64 i, .slice ao us.length cap, .int .u64 l, .int .i64 bt, .slice pa pn pc] 26)).alloc (.cells #[.pointer none, .int .i64 0, .map none, .map none, .slice none 0 0, .int .i64 0, .bool false, .int .i64 0] 31)).alloc (.cells #[.pointer none, .pointer none, .int .i64 0, .int .i64 0, .int .i64 0, .bool false, .nilFunc, .slice none 0 0, .int .u64 0, .int .u64 0, .slice none 0 0, .int .u64 0] 37) = W at *
  generalize hn : w.heap.size = n at HX ⊢
  generalize (some ⟨n + 1, 0, none⟩ : Option Addr) = pd at *
  generalize (some ⟨n + 1 + 1, 0, none⟩ : Option Addr) = pl at *
  refine (readN _ _ _ (RC.rs HX.out).d).mono ?_
  rintro e w1 ⟨rfl, hb⟩
  have X := RC.step hb HX.out
  clear hb HX
  have c1 := X.1
  have c2 := X.2.1
  have c3 := X.2.2.1
  have c4 := X.2.2.2.1
  have c5 := X.2.2.2.2.1
  have c6 := X.2.2.2.2.2.1
  have HX : Hid _ := X
  clear X
  go_wp2_with fail
  clear c1 c2 c3 c4 c5 c6
  refine (lappendN _ _ _ _ (RC.rs (RC.step (bel1 _ _) HX.out)).l).mono ?_
  rintro e w2 ⟨rfl, hb⟩
  have X := RC.step hb (RC.step (bel1 _ _) HX.out)
  clear hb HX
  have c1 := X.1
  have c2 := X.2.1
  have c3 := X.2.2.1
  have c4 := X.2.2.2.1
  have c5 := X.2.2.2.2.1
  have c6 := X.2.2.2.2.2.1
  have HX : Hid _ := X
  clear X
  go_wp2_with fail
  clear c1 c2 c3 c4 c5 c6
  refine (lsyncN _ _ (RC.rs HX.out).l).mono ?_
  rintro e w3 ⟨rfl, hb⟩
  have X := RC.step hb HX.out
  clear hb HX
  have c1 := X.1
  have c2 := X.2.1
  have c3 := X.2.2.1
  have c4 := X.2.2.2.1
  have c5 := X.2.2.2.2.1
  have c6 := X.2.2.2.2.2.1
  have HX : Hid _ := X
  clear X
  go_wp2_with fail
  clear c1 c2 c3 c4 c5 c6
  refine (trimN _ _ _ (RC.rs HX.out).l).mono ?_
  rintro e w4 ⟨rfl, hb⟩
  have X := RC.step hb HX.out
  clear hb HX
  have c1 := X.1
  have c2 := X.2.1
  have c3 := X.2.2.1
  have c4 := X.2.2.2.1
  have c5 := X.2.2.2.2.1
  have c6 := X.2.2.2.2.2.1
  have HX : Hid _ := X
  clear X
  go_wp2_with fail
  have X := HX.out
  clear c1 c2 c3 c4 c5 c6 HX
  go_region_held3 (fun W' => W'.cell? ⟨n, 1, none⟩ = some (.string nm) ∧ W'.cell? ⟨n, 2, none⟩ = some (.string to) ∧ W'.cell? ⟨n, 3, none⟩ = some (.int .i64 i) ∧ W'.cell? ⟨n, 4, none⟩ = some (.slice ao us.length cap) ∧ W'.cell? ⟨n, 5, none⟩ = some (.int .u64 l) ∧ W'.cell? ⟨n, 6, none⟩ = some (.int .i64 bt) ∧ Hid (RS w n pd pl ao us W')) (first | assumption | exact RC.drew (by assumption) | exact RC.step (bel1 _ _) (by assumption)) (first | (go_at_call 9; refine (flushN _ _ (RC.rs (by assumption)).l).mono ?_; rintro e w1 ⟨rfl, hb⟩; have hS := RC.step hb (by assumption); clear hb) | (go_at_call 10; refine (markN _ _ _ (RC.rs (by assumption)).l).mono ?_; rintro e w1 ⟨rfl, hb⟩; have hS := RC.step hb (by assumption); clear hb) | (go_at_call 11; refine (createN _ _ _ (RC.rs (by assumption)).d).mono ?_; rintro e w1 ⟨rfl, hb⟩; have hS := RC.step hb (by assumption); clear hb) | (go_at_call 12; refine (appendN _ _ _ _ (RC.rs (by assumption)).d).mono ?_; rintro e w1 ⟨rfl, hb⟩; have hS := RC.step hb (by assumption); clear hb) | (go_at_call 13; refine (syncN _ _ _ (RC.rs (by assumption)).d).mono ?_; rintro e w1 ⟨rfl, hb⟩; have hS := RC.step hb (by assumption); clear hb) | (go_at_call 14; refine (renameN _ _ _ _ (RC.rs (by assumption)).d).mono ?_; rintro e w1 ⟨rfl, hb⟩; have hS := RC.step hb (by assumption); clear hb) | (go_at_call 15; refine (removeN _ _ _ (RC.rs (by assumption)).d).mono ?_; rintro e w1 ⟨rfl, hb⟩; have hS := RC.step hb (by assumption); clear hb) | (go_at_call 16; refine (syncDirN _ _ (RC.rs (by assumption)).d).mono ?_; rintro e w1 ⟨rfl, hb⟩; have hS := RC.step hb (by assumption); clear hb) | (go_at_call 17; refine (cutN _ _ _ (RC.rs (by assumption)).d).mono ?_; rintro e w1 ⟨rfl, hb⟩; have hS := RC.step hb (by assumption); clear hb) | (go_at_call 18; refine (crashN _ _ _ _ (RC.rs (by assumption)).d).mono ?_; rintro e w1 ⟨rfl, hb⟩; have hS := RC.step hb (by assumption); clear hb) | (go_at_call 20; refine (rotN _ _ _ _ _ (RC.rs (by assumption)).d).mono ?_; rintro e w1 ⟨rfl, hb⟩; have hS := RC.step hb (by assumption); clear hb) | (go_at_call 19; refine (copied_any _ _ _ _ _ (RC.rs (by assumption)).b.size (RC.rs (by assumption)).s HR.out).mono ?_; rintro e w1 ⟨v1, rfl, hb⟩; have hS := RC.step hb (by assumption); clear hb))
  have HBl : Hid (Below w.heap.size w (w1.alloc (.cells #[.int .i64 1, .int .i64 1, .int .i64 1, .int .i64 1, .int .i64 1, .int .i64 1, .int .i64 1, .int .i64 1, .int .i64 1, .int .i64 1, .int .i64 1, .int .i64 1, .int .i64 1, .int .i64 1, .int .i64 1] 38))) := Below.trans (RC.rs hS).b ((bel1 _ _).mono (RC.rs hS).b.size)
  have HC : Hid (∀ j, j < 15 → (w1.alloc (.cells #[.int .i64 1, .int .i64 1, .int .i64 1, .int .i64 1, .int .i64 1, .int .i64 1, .int .i64 1, .int .i64 1, .int .i64 1, .int .i64 1, .int .i64 1, .int .i64 1, .int .i64 1, .int .i64 1, .int .i64 1] 38)).cell? ⟨w1.heap.size, j, none⟩ = some (.int .i64 1)) := fun j hj => by
    rw [cellH (heap_alloc_new _ _) j]
    match j, hj with
    | 0, _ => rfl | 1, _ => rfl | 2, _ => rfl | 3, _ => rfl | 4, _ => rfl | 5, _ => rfl | 6, _ => rfl | 7, _ => rfl | 8, _ => rfl | 9, _ => rfl | 10, _ => rfl | 11, _ => rfl | 12, _ => rfl | 13, _ => rfl | 14, _ => rfl
  clear hS X
  go_wp2_with fail
  generalize w1.alloc (.cells #[.int .i64 1, .int .i64 1, .int .i64 1, .int .i64 1, .int .i64 1, .int .i64 1, .int .i64 1, .int .i64 1, .int .i64 1, .int .i64 1, .int .i64 1, .int .i64 1, .int .i64 1, .int .i64 1, .int .i64 1] 38) = WE at *
  generalize w1.heap.size = g at *
  go_loopw [14] (fun x wr => wr = WE ∧ ∃ q : Nat, q ≤ 15 ∧ x = .int .i64 q) (fun x _ => 15 - (intOf x).toNat)
  case atStart => exact ⟨rfl, 0, by omega, rfl⟩
  case round =>
    obtain ⟨rfl, q, hq, rfl⟩ := hrel
    by_cases h1 : q < 15
    · have hc := HC.out q h1
      have HN : Hid (∀ W, Calls Tryz.prog 21 #[.int .i64 1] W fun e w' => e = .returned (.int .i64 1) ∧ w' = W) := fun W => num_any 1 W
      go_wp2_with fail
      refine (HN.out _).mono ?_
      rintro e wC ⟨rfl, rfl⟩
      go_wp2
      go_roundw
      case rel => exact ⟨by first | trivial | rfl, q + 1, by omega, by go_num⟩
      case measure => simp [intOf]; omega
    · have e : q = 15 := by omega
      subst e
      go_wp2
      go_ret
      exact ⟨rfl, by first | exact HBl.out | (rw [← hn]; exact HBl.out) | (subst hn; exact HBl.out)⟩
end Go.Proofs.YtljdjaapocmppaaGreatDoor
