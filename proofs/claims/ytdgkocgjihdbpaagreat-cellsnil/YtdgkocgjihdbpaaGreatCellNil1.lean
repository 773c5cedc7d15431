import Derived.Test.YtdgkocgjihdbpaaGreatLives1
import Derived.Test.YtdgkocgjihdbpaaGreatWordsU
namespace Go.Proofs.YtdgkocgjihdbpaaGreat
open Go.ChangeShapes Go.WideShapes Go.ChangeAt Go.RowKit
set_option linter.unusedVariables false
set_option maxRecDepth 100000
set_option maxHeartbeats 1600000
/-- No arena, or one that New did not make. -/
def MissP (p : Option Addr) (w : World) : Prop := p = none ∨ ∃ b, p = some ⟨b, 0, none⟩ ∧ w.cell? ⟨b, 0, none⟩ = some (.int .i64 0) ∧ b < w.heap.size
theorem MissP.later {p : Option Addr} {w w' : World} (h : MissP p w) (hb : Below w.heap.size w w') : MissP p w' := by
  rcases h with h | ⟨b, h1, h2, h3⟩
  · exact Or.inl h
  · exact Or.inr ⟨b, h1, (hb.cell (p := ⟨b, 0, none⟩) h3).trans h2, Nat.lt_of_lt_of_le h3 hb.size⟩
theorem MissP.alloc {p : Option Addr} {w : World} (h : MissP p w) (ob : Obj) : MissP p (w.alloc ob) := h.later ((Below.refl _ _).alloc (Nat.le_refl _) _)
theorem miss_any (p : Option Addr) (w : World) (h : MissP p w) : Calls Tryz.prog 42 #[.pointer p] w fun e w' => e = .returned (.bool true) ∧ w' = w := by
  rcases h with rfl | ⟨b, rfl, h2, _⟩
  · exact missing_nil w
  · go_enter Tryz.func42, Tryz.ntmps42
    go_wp2
    go_ret
    exact ⟨rfl, rfl⟩

theorem nAlloc (p : Option Addr) (s : ByteArray) (v : Value) (w : World) (h : MissP p w) : Calls Tryz.prog 12 #[.pointer p, .string s, v] w fun e w' => e = .returned (.tuple #[.int .i64 0, .int .i64 1]) ∧ w' = w := by
  go_enter_defers Tryz.func12, Tryz.ntmps12
  go_wp2_with fail
  refine (miss_any p w h).mono ?_
  rintro e w' ⟨rfl, rfl⟩
  go_wp2_with fail
  exact ⟨_, results_tmp2 rfl _ _ _, rfl, rfl⟩

theorem nFree (p : Option Addr) (x : Int) (w : World) (h : MissP p w) : Calls Tryz.prog 15 #[.pointer p, .int .i64 x] w fun e w' => e = .returned (.int .i64 1) ∧ w' = w := by
  go_enter_defers Tryz.func15, Tryz.ntmps15
  go_wp2_with fail
  refine (miss_any p w h).mono ?_
  rintro e w' ⟨rfl, rfl⟩
  go_wp2_with fail
  exact ⟨_, results_tmp rfl _ _ _, rfl, rfl⟩

theorem nPayload (p : Option Addr) (x : Int) (w : World) (h : MissP p w) : Calls Tryz.prog 16 #[.pointer p, .int .i64 x] w fun e w' => e = .returned (.tuple #[.string ⟨#[]⟩, .int .i64 1]) ∧ w' = w := by
  go_enter_defers Tryz.func16, Tryz.ntmps16
  go_wp2_with fail
  refine (miss_any p w h).mono ?_
  rintro e w' ⟨rfl, rfl⟩
  go_wp2_with fail
  exact ⟨_, results_tmp2 rfl _ _ _, rfl, rfl⟩

theorem nAccess (p : Option Addr) (x y : Int) (v : Value) (w : World) (h : MissP p w) : Calls Tryz.prog 54 #[.pointer p, .int .i64 x, .int .i64 y, v] w fun e w' => e = .returned (.int .i64 1) ∧ w' = w := by
  go_enter_defers Tryz.func54, Tryz.ntmps54
  go_wp2_with fail
  refine (miss_any p w h).mono ?_
  rintro e w' ⟨rfl, rfl⟩
  go_wp2_with fail
  exact ⟨_, results_tmp rfl _ _ _, rfl, rfl⟩

theorem nAddAll (p : Option Addr) (x y : Int) (v : Value) (w : World) (h : MissP p w) : Calls Tryz.prog 22 #[.pointer p, .int .i64 x, .int .i64 y, v] w fun e w' => e = .returned (.tuple #[.int .u64 0, .int .i64 1]) ∧ Below w.heap.size w w' := by
  go_enter_defers Tryz.func22, Tryz.ntmps22
  go_wp2_with fail
  refine (miss_any p _ (h.alloc _)).mono ?_
  rintro e w' ⟨rfl, rfl⟩
  go_wp2_with fail
  exact ⟨_, results_tmp2 rfl _ _ _, rfl, (Below.refl w.heap.size w).alloc (Nat.le_refl _) _⟩

theorem nAccesses (p : Option Addr) (w : World) (h : MissP p w) : Calls Tryz.prog 67 #[.pointer p] w fun e w' => e = .returned (.int .i64 0) ∧ w' = w := by
  go_enter Tryz.func67, Tryz.ntmps67
  go_wp2_with fail
  refine (miss_any p w h).mono ?_
  rintro e w' ⟨rfl, rfl⟩
  go_wp2
  go_ret
  exact ⟨rfl, rfl⟩

theorem nMisses (p : Option Addr) (w : World) (h : MissP p w) : Calls Tryz.prog 68 #[.pointer p] w fun e w' => e = .returned (.int .i64 0) ∧ w' = w := by
  go_enter Tryz.func68, Tryz.ntmps68
  go_wp2_with fail
  refine (miss_any p w h).mono ?_
  rintro e w' ⟨rfl, rfl⟩
  go_wp2
  go_ret
  exact ⟨rfl, rfl⟩

theorem nPeek (p : Option Addr) (x : Int) (w : World) (h : MissP p w) : Calls Tryz.prog 69 #[.pointer p, .int .i64 x] w fun e w' => e = .returned (.tuple #[.slice none 0 0, .int .i64 1]) ∧ w' = w := by
  go_enter_defers Tryz.func69, Tryz.ntmps69
  go_wp2_with fail
  refine (miss_any p w h).mono ?_
  rintro e w' ⟨rfl, rfl⟩
  go_wp2_with fail
  exact ⟨_, results_tmp2 rfl _ _ _, rfl, rfl⟩

theorem nTurn (p : Option Addr) (x : Int) (w : World) (h : MissP p w) : Calls Tryz.prog 70 #[.pointer p, .int .i64 x] w fun e w' => e = .returned (.tuple #[.int .i64 0, .int .i64 1]) ∧ w' = w := by
  go_enter_defers Tryz.func70, Tryz.ntmps70
  go_wp2_with fail
  refine (miss_any p w h).mono ?_
  rintro e w' ⟨rfl, rfl⟩
  go_wp2_with fail
  exact ⟨_, results_tmp2 rfl _ _ _, rfl, rfl⟩

theorem nShape (p : Option Addr) (w : World) (h : MissP p w) : Calls Tryz.prog 72 #[.pointer p] w fun e w' => e = .returned (.tuple #[.int .i64 0, .int .i64 0]) ∧ w' = w := by
  go_enter Tryz.func72, Tryz.ntmps72
  go_wp2_with fail
  refine (miss_any p w h).mono ?_
  rintro e w' ⟨rfl, rfl⟩
  go_wp2
  go_ret2
  exact ⟨rfl, rfl⟩

theorem nHold (p : Option Addr) (w : World) (h : MissP p w) : Calls Tryz.prog 41 #[.pointer p] w fun e w' => e = .returned (.slice none 0 0) ∧ w' = w := by
  go_enter_defers Tryz.func41, Tryz.ntmps41
  go_wp2_with fail
  refine (miss_any p w h).mono ?_
  rintro e w' ⟨rfl, rfl⟩
  go_wp2_with fail
  exact ⟨_, results_tmp rfl _ _ _, rfl, rfl⟩

theorem nLoad (p : Option Addr) (x y : Int) (w : World) (h : MissP p w) : Calls Tryz.prog 17 #[.pointer p, .int .i64 x, .int .i64 y] w fun e w' => e = .returned (.tuple #[.int .u64 0, .int .i64 1]) ∧ Below w.heap.size w w' := by
  go_enter Tryz.func17, Tryz.ntmps17
  go_wp2_with fail
  refine (nAccess p x y _ _ (h.alloc _)).mono ?_
  rintro e w' ⟨rfl, rfl⟩
  go_wp2
  go_ret2
  exact ⟨rfl, ((Below.refl w.heap.size w).alloc (by simp; try omega) _)⟩

theorem nStore (p : Option Addr) (x y a : Int) (w : World) (h : MissP p w) : Calls Tryz.prog 18 #[.pointer p, .int .i64 x, .int .i64 y, .int .u64 a] w fun e w' => e = .returned (.int .i64 1) ∧ Below w.heap.size w w' := by
  go_enter Tryz.func18, Tryz.ntmps18
  go_wp2_with fail
  refine (nAccess p x y _ _ (h.alloc _)).mono ?_
  rintro e w' ⟨rfl, rfl⟩
  go_wp2
  go_ret
  exact ⟨rfl, ((Below.refl w.heap.size w).alloc (by simp; try omega) _)⟩

theorem nCAS (p : Option Addr) (x y a b : Int) (w : World) (h : MissP p w) : Calls Tryz.prog 19 #[.pointer p, .int .i64 x, .int .i64 y, .int .u64 a, .int .u64 b] w fun e w' => e = .returned (.tuple #[.bool false, .int .i64 1]) ∧ Below w.heap.size w w' := by
  go_enter Tryz.func19, Tryz.ntmps19
  go_wp2_with fail
  refine (nAccess p x y _ _ (((h.alloc _).alloc _).alloc _)).mono ?_
  rintro e w' ⟨rfl, rfl⟩
  go_wp2
  go_ret2
  exact ⟨rfl, ((((Below.refl w.heap.size w).alloc (by simp; try omega) _).alloc (by simp; try omega) _).alloc (by simp; try omega) _)⟩

theorem nAdd (p : Option Addr) (x y a : Int) (w : World) (h : MissP p w) : Calls Tryz.prog 21 #[.pointer p, .int .i64 x, .int .i64 y, .int .u64 a] w fun e w' => e = .returned (.tuple #[.int .u64 0, .int .i64 1]) ∧ Below w.heap.size w w' := by
  go_enter Tryz.func21, Tryz.ntmps21
  go_wp2_with fail
  refine (nAccess p x y _ _ ((h.alloc _).alloc _)).mono ?_
  rintro e w' ⟨rfl, rfl⟩
  go_wp2
  go_ret2
  exact ⟨rfl, (((Below.refl w.heap.size w).alloc (by simp; try omega) _).alloc (by simp; try omega) _)⟩

theorem nLive (p : Option Addr) (w : World) (h : MissP p w) : Calls Tryz.prog 71 #[.pointer p] w fun e w' => e = .returned (.slice none 0 0) ∧ Below w.heap.size w w' := live_none p w (fun W hW => nHold p W (h.later hW))

theorem rFree (x : Int) (w : World) : Calls Tryz.prog 25 #[.pointer none, .int .i64 x] w fun e w' => e = .returned (.int .i64 1) ∧ w' = w := by
  go_enter Tryz.func25, Tryz.ntmps25
  go_wp2
  go_ret
  exact ⟨rfl, rfl⟩

theorem rReach (x y : Int) (w : World) : Calls Tryz.prog 75 #[.pointer none, .int .i64 x, .int .i64 y] w fun e w' => e = .returned (.int .i64 1) ∧ w' = w := by
  go_enter Tryz.func75, Tryz.ntmps75
  go_wp2
  go_ret
  exact ⟨rfl, rfl⟩

theorem rAddAll (x y : Int) (v : Value) (w : World) : Calls Tryz.prog 31 #[.pointer none, .int .i64 x, .int .i64 y, v] w fun e w' => e = .returned (.tuple #[.int .u64 0, .int .i64 1]) ∧ w' = w := by
  go_enter Tryz.func31, Tryz.ntmps31
  go_wp2
  go_ret2
  exact ⟨rfl, rfl⟩

theorem rAccesses (w : World) : Calls Tryz.prog 32 #[.pointer none] w fun e w' => e = .returned (.int .i64 0) ∧ w' = w := by
  go_enter Tryz.func32, Tryz.ntmps32
  go_wp2
  go_ret
  exact ⟨rfl, rfl⟩

theorem rMisses (w : World) : Calls Tryz.prog 33 #[.pointer none] w fun e w' => e = .returned (.int .i64 0) ∧ w' = w := by
  go_enter Tryz.func33, Tryz.ntmps33
  go_wp2
  go_ret
  exact ⟨rfl, rfl⟩

theorem rPeek (x : Int) (w : World) : Calls Tryz.prog 34 #[.pointer none, .int .i64 x] w fun e w' => e = .returned (.tuple #[.slice none 0 0, .int .i64 1]) ∧ w' = w := by
  go_enter Tryz.func34, Tryz.ntmps34
  go_wp2
  go_ret2
  exact ⟨rfl, rfl⟩

theorem rTurn (x : Int) (w : World) : Calls Tryz.prog 35 #[.pointer none, .int .i64 x] w fun e w' => e = .returned (.tuple #[.int .i64 0, .int .i64 1]) ∧ w' = w := by
  go_enter Tryz.func35, Tryz.ntmps35
  go_wp2
  go_ret2
  exact ⟨rfl, rfl⟩

theorem rLive (w : World) : Calls Tryz.prog 36 #[.pointer none] w fun e w' => e = .returned (.slice none 0 0) ∧ w' = w := by
  go_enter Tryz.func36, Tryz.ntmps36
  go_wp2
  go_ret
  exact ⟨rfl, rfl⟩

theorem rLoad (x y : Int) (w : World) : Calls Tryz.prog 27 #[.pointer none, .int .i64 x, .int .i64 y] w fun e w' => e = .returned (.tuple #[.int .u64 0, .int .i64 1]) ∧ w' = w := by
  go_enter Tryz.func27, Tryz.ntmps27
  go_wp2_with fail
  refine (rReach _ _ _).mono ?_
  rintro e w' ⟨rfl, rfl⟩
  go_wp2
  go_ret2
  exact ⟨rfl, rfl⟩

theorem rStore (x y a : Int) (w : World) : Calls Tryz.prog 28 #[.pointer none, .int .i64 x, .int .i64 y, .int .u64 a] w fun e w' => e = .returned (.int .i64 1) ∧ w' = w := by
  go_enter Tryz.func28, Tryz.ntmps28
  go_wp2_with fail
  refine (rReach _ _ _).mono ?_
  rintro e w' ⟨rfl, rfl⟩
  go_wp2
  go_ret
  exact ⟨rfl, rfl⟩

theorem rCAS (x y a b : Int) (w : World) : Calls Tryz.prog 29 #[.pointer none, .int .i64 x, .int .i64 y, .int .u64 a, .int .u64 b] w fun e w' => e = .returned (.tuple #[.bool false, .int .i64 1]) ∧ w' = w := by
  go_enter Tryz.func29, Tryz.ntmps29
  go_wp2_with fail
  refine (rReach _ _ _).mono ?_
  rintro e w' ⟨rfl, rfl⟩
  go_wp2
  go_ret2
  exact ⟨rfl, rfl⟩

theorem rAdd (x y a : Int) (w : World) : Calls Tryz.prog 30 #[.pointer none, .int .i64 x, .int .i64 y, .int .u64 a] w fun e w' => e = .returned (.tuple #[.int .u64 0, .int .i64 1]) ∧ w' = w := by
  go_enter Tryz.func30, Tryz.ntmps30
  go_wp2_with fail
  refine (rReach _ _ _).mono ?_
  rintro e w' ⟨rfl, rfl⟩
  go_wp2
  go_ret2
  exact ⟨rfl, rfl⟩

end Go.Proofs.YtdgkocgjihdbpaaGreat
