import Derived.Test.YtppfgcdfmdmffaaChecked
import Derived.WalkKit
import Derived.ProofKit
import Derived.Below
import Derived.RegionCalls
import Derived.Deep.RegionHeld3
import Derived.Laws.Rows
import Derived.Lib.CleanWalkFns
namespace Go.Proofs.Ytppfgcdfmdmffaa
open Go.ChangeShapes Go.WideShapes Go.ChangeAt Go.RowKit
set_option linter.unusedVariables false

def BelS (w W : World) : Prop := Below w.heap.size w W
theorem BelS.drew {w W : World} (h : BelS w W) : BelS w W.drew := Below.drew h
theorem BelS.step {w W W' : World} (h : BelS w W) (hb : Below W.heap.size W W') : BelS w W' := Below.trans h (hb.mono h.size)
theorem infoO : (Try.prog.info? 44).map (·.size) = some 2 := by kernel_rfl
theorem ret_out {fn : Func} {p u : Tmp} (h : fn.results = #[.cell p 44, .tmp u]) (tmps : Array Value) (w : World) (a b : Value) (g : Nat) (hp : tmps.getD p undef = .pointer (some ⟨g, 0, none⟩)) (hg : w.heap[g]? = some (.cells #[a, b] 44 (0, 0))) :
    (results fn tmps).run Try.prog w = .ok (.tuple #[.agg #[a, b], tmps.getD u undef]) w := by
  have hp' : tmps[p]?.getD undef = .pointer (some ⟨g, 0, none⟩) := by simpa using hp
  simp [results, h, hp', asAddr, run_loadVar_row w g 44 44 _ (0, 0) _ hg Try.underlying44 rfl infoO]
set_option maxRecDepth 100000 in
theorem playN (b : Int) (v : Value) (w : World) : Calls Try.prog 13 #[.pointer none, .int .i64 b, v] w fun e w' => e = .returned (.tuple #[.int .i64 0, .int .i64 1]) ∧ Below w.heap.size w w' := by
  go_enter Try.func13, Try.ntmps13
  go_wp2
  go_ret2
  exact ⟨rfl, Below.refl _ _⟩
set_option maxRecDepth 100000 in
theorem drainN (b : Int) (w : World) : Calls Try.prog 14 #[.pointer none, .int .i64 b] w fun e w' => e = .returned (.tuple #[.int .i64 0, .int .i64 1]) ∧ Below w.heap.size w w' := by
  go_enter Try.func14, Try.ntmps14
  go_wp2_with fail
  refine (playN _ _ _).mono ?_
  rintro e w1 ⟨rfl, hb⟩
  have HB : Hid (Below w.heap.size w w1) := ((Below.refl _ _).alloc (Nat.le_refl _) _).trans (hb.mono (by simp))
  clear hb
  go_wp2
  go_ret2
  exact ⟨rfl, HB.out⟩
set_option maxRecDepth 100000 in
theorem outN (w : World) : Calls Try.prog 15 #[.pointer none] w fun e w' => e = .returned (.tuple #[.agg #[.slice none 0 0, .slice none 0 0], .bool false]) ∧ Below w.heap.size w w' := by
  go_enter Try.func15, Try.ntmps15
  go_wp2
  exact bodyPost_ret (ret_out rfl _ _ (.slice none 0 0) (.slice none 0 0) w.heap.size (by rfl) (heap_alloc_new w _)) rfl ⟨rfl, (Below.refl _ _).alloc (Nat.le_refl _) _⟩
theorem infoQ : (Try.prog.info? 85).map (fun i => (i.zero, i.size, i.bytes)) = some (some (.slice none 0 0), 1, 24) := by kernel_rfl
set_option maxRecDepth 100000 in
theorem newN (w : World) : Calls Try.prog 16 #[.int .i64 1] w fun e w' => ∃ p, e = .returned (.tuple #[.pointer (some p), .int .i64 0]) ∧ Below w.heap.size w w' := by
  obtain ⟨i0, hi, hz0, hz1, hz2⟩ := info_parts infoQ
  go_enter Try.func16, Try.ntmps16
  go_wp2_with (at_make; refine wpList_make_full _ (by rfl) _ _ 82 (by rfl) w.heap.size 85 i0 (.slice none 0 0) 1 Try.underlying82 hi hz0 hz1 .i64 .i64 _ _ 1 (by rfl) (by rfl) (by rfl) (by rfl) (by rw [hz2]; omega) (by unfold maxLen; omega) (Nat.le_refl _) ?_; intro w1 hown1 hgrow1; have HG1 : Hid (Below w.heap.size w w1) := (Below.refl _ _).grown hgrow1 (Nat.le_refl _) (fun k h => by cases h); clear hown1 hgrow1)
  go_ret2
  exact ⟨_, rfl, HG1.out.alloc HG1.out.size _⟩
set_option maxRecDepth 100000 in
theorem pendN (v : Int) (w : World) : Calls Try.prog 19 #[.pointer none, .int .i64 v] w fun e w' => e = .returned (.int .i64 0) ∧ Below w.heap.size w w' := by
  go_enter Try.func19, Try.ntmps19
  go_wp2
  go_ret
  exact ⟨rfl, Below.refl _ _⟩
set_option maxRecDepth 100000 in
theorem stepN (v : Int) (w : World) : Calls Try.prog 18 #[.pointer none, .int .i64 v] w fun e w' => e = .returned (.bool false) ∧ Below w.heap.size w w' := by
  go_enter Try.func18, Try.ntmps18
  go_wp2_with fail
  refine (pendN _ _).mono ?_
  rintro e w1 ⟨rfl, hb⟩
  have HB : Hid (Below w.heap.size w w1) := hb
  clear hb
  go_wp2
  go_ret
  exact ⟨rfl, HB.out⟩
set_option maxRecDepth 100000 in
theorem submitN (a b : Int) (v : Value) (w : World) : Calls Try.prog 17 #[.pointer none, .int .i64 a, .int .i64 b, v] w fun e w' => e = .returned (.int .i64 1) ∧ Below w.heap.size w w' := by
  go_enter Try.func17, Try.ntmps17
  go_wp2
  go_ret
  exact ⟨rfl, Below.refl _ _⟩
set_option maxRecDepth 100000 in
theorem idleN (w : World) : Calls Try.prog 20 #[.pointer none] w fun e w' => e = .returned (.bool false) ∧ Below w.heap.size w w' := by
  go_enter Try.func20, Try.ntmps20
  go_wp2
  go_ret
  exact ⟨rfl, Below.refl _ _⟩
set_option maxRecDepth 100000 in
theorem stepsN (w : World) : Calls Try.prog 21 #[.pointer none] w fun e w' => e = .returned (.int .i64 0) ∧ Below w.heap.size w w' := by
  go_enter Try.func21, Try.ntmps21
  go_wp2
  go_ret
  exact ⟨rfl, Below.refl _ _⟩
set_option maxRecDepth 100000 in
theorem eventsN (w : World) : Calls Try.prog 22 #[.pointer none] w fun e w' => e = .returned (.slice none 0 0) ∧ Below w.heap.size w w' := by
  go_enter Try.func22, Try.ntmps22
  go_wp2
  go_ret
  exact ⟨rfl, Below.refl _ _⟩
set_option maxRecDepth 100000 in
theorem takeN (w : World) : Calls Try.prog 23 #[.pointer none] w fun e w' => e = .returned (.slice none 0 0) ∧ Below w.heap.size w w' := by
  go_enter Try.func23, Try.ntmps23
  go_wp2
  go_ret
  exact ⟨rfl, Below.refl _ _⟩
set_option maxRecDepth 100000 in
theorem tstepN (w : World) : Calls Try.prog 24 #[.pointer none] w fun e w' => e = .returned (.bool true) ∧ Below w.heap.size w w' := by
  go_enter Try.func24, Try.ntmps24
  go_wp2
  go_ret
  exact ⟨rfl, Below.refl _ _⟩
set_option maxRecDepth 100000 in
theorem regsN (w : World) : Calls Try.prog 25 #[.pointer none] w fun e w' => e = .returned (.slice none 0 0) ∧ Below w.heap.size w w' := by
  go_enter Try.func25, Try.ntmps25
  go_wp2
  go_ret
  exact ⟨rfl, Below.refl _ _⟩
set_option maxRecDepth 100000 in
theorem threadN (i : Int) (w : World) : Calls Try.prog 26 #[.pointer none, .int .i64 i] w fun e w' => e = .returned (.pointer none) ∧ Below w.heap.size w w' := by
  go_enter Try.func26, Try.ntmps26
  go_wp2
  go_ret
  exact ⟨rfl, Below.refl _ _⟩
set_option maxRecDepth 100000 in
theorem bplayN (s : ByteArray) (w : World) : Calls Try.prog 27 #[.pointer none, .string s] w fun e w' => e = .returned (.int .i64 0) ∧ Below w.heap.size w w' := by
  go_enter Try.func27, Try.ntmps27
  go_wp2
  go_ret
  exact ⟨rfl, Below.refl _ _⟩
set_option maxRecDepth 100000 in
theorem beventsN (w : World) : Calls Try.prog 28 #[.pointer none] w fun e w' => e = .returned (.slice none 0 0) ∧ Below w.heap.size w w' := by
  go_enter Try.func28, Try.ntmps28
  go_wp2
  go_ret
  exact ⟨rfl, Below.refl _ _⟩
/-- What holds of the world while the law goes on: nothing old is changed, and the outcome in block n is empty. -/
def OS (w : World) (n : Nat) (W : World) : Prop := BelS w W ∧ W.cell? ⟨n, 0, none⟩ = some (.slice none 0 0) ∧ W.cell? ⟨n, 1, none⟩ = some (.slice none 0 0) ∧ n < W.heap.size
theorem OS.drew {w W : World} {n : Nat} (h : OS w n W) : OS w n W.drew := ⟨h.1.drew, h.2.1, h.2.2.1, h.2.2.2⟩
theorem OS.step {w W W' : World} {n : Nat} (h : OS w n W) (hb : Below W.heap.size W W') : OS w n W' :=
  ⟨h.1.step hb, (hb.cell (p := ⟨n, 0, none⟩) h.2.2.2).trans h.2.1, (hb.cell (p := ⟨n, 1, none⟩) h.2.2.2).trans h.2.2.1, Nat.lt_of_lt_of_le h.2.2.2 hb.size⟩
theorem OS.make {w w3 w4 : World} (h : BelS w w3) (hb : Below (w3.alloc (.cells #[.slice none 0 0, .slice none 0 0] 44)).heap.size (w3.alloc (.cells #[.slice none 0 0, .slice none 0 0] 44)) w4) : OS w w3.heap.size w4 := by
  have hl : w3.heap.size < (w3.alloc (.cells #[.slice none 0 0, .slice none 0 0] 44)).heap.size := by show _ < (Array.push _ _).size; simp
  have hg : w4.heap[w3.heap.size]? = some (.cells #[.slice none 0 0, .slice none 0 0] 44 (0, 0)) := (hb.block _ hl).trans (heap_alloc_new w3 _)
  exact ⟨BelS.step (Below.alloc h h.size _) hb, by simp [World.cell?, hg], by simp [World.cell?, hg], Nat.lt_of_lt_of_le hl hb.size⟩
set_option maxRecDepth 100000 in
set_option maxHeartbeats 6400000 in
theorem nils_walk (w : World) : Calls Try.prog 6 #[] w fun e w' => e = .returned (.bool true) ∧ Below w.heap.size w w' := by
  go_enter Try.func6, Try.ntmps6
  go_wp2_with fail
  refine (playN _ _ _).mono ?_
  rintro e w1 ⟨rfl, hb⟩
  have B1 : BelS w w1 := BelS.step ((Below.refl _ _).alloc (Nat.le_refl _) _) hb
  clear hb
  go_wp2_with fail
  refine (drainN _ _).mono ?_
  rintro e w2 ⟨rfl, hb⟩
  have B2 : BelS w w2 := B1.step hb
  clear hb B1
  go_wp2_with fail
  refine (outN _).mono ?_
  rintro e w3 ⟨rfl, hb⟩
  have B3 : BelS w w3 := B2.step hb
  clear hb B2
  go_wp2_with fail
  refine (newN _).mono ?_
  rintro e w4 ⟨q, rfl, hb⟩
  have c4 : OS w w3.heap.size w4 := OS.make B3 hb
  clear hb B3
  generalize w3.heap.size = n at *
  have o0 := c4.2.1
  have o1 := c4.2.2.1
  go_wp2_with fail
  refine (submitN _ _ _ _).mono ?_
  rintro e w5 ⟨rfl, hb⟩
  have d : OS w n w5 := (c4.step ((Below.refl _ _).alloc (Nat.le_refl _) _)).step hb
  clear c4 hb o0 o1
  go_wp2_with fail
  refine (stepN _ _).mono ?_
  rintro e w6 ⟨rfl, hb⟩
  replace d := d.step hb
  clear hb
  go_wp2_with fail
  refine (pendN _ _).mono ?_
  rintro e w6 ⟨rfl, hb⟩
  replace d := d.step hb
  clear hb
  go_wp2_with fail
  refine (idleN _).mono ?_
  rintro e w6 ⟨rfl, hb⟩
  replace d := d.step hb
  clear hb
  go_wp2_with fail
  refine (stepsN _).mono ?_
  rintro e w6 ⟨rfl, hb⟩
  replace d := d.step hb
  clear hb
  go_wp2_with fail
  refine (eventsN _).mono ?_
  rintro e w6 ⟨rfl, hb⟩
  replace d := d.step hb
  clear hb
  go_wp2_with fail
  refine (takeN _).mono ?_
  rintro e w6 ⟨rfl, hb⟩
  replace d := d.step hb
  clear hb
  go_wp2_with fail
  refine (tstepN _).mono ?_
  rintro e w6 ⟨rfl, hb⟩
  replace d := d.step hb
  clear hb
  go_wp2_with fail
  refine (regsN _).mono ?_
  rintro e w6 ⟨rfl, hb⟩
  replace d := d.step hb
  clear hb
  go_wp2_with fail
  refine (threadN _ _).mono ?_
  rintro e w6 ⟨rfl, hb⟩
  replace d := d.step hb
  clear hb
  go_wp2_with fail
  refine (bplayN _ _).mono ?_
  rintro e w6 ⟨rfl, hb⟩
  replace d := d.step hb
  clear hb
  have o0 := d.2.1
  have o1 := d.2.2.1
  go_wp2_with fail
  refine (beventsN _).mono ?_
  rintro e w7 ⟨rfl, hb⟩
  replace d := d.step hb
  clear hb o0 o1
  go_wp2
  go_ret
  exact ⟨rfl, d.1⟩
end Go.Proofs.Ytppfgcdfmdmffaa
