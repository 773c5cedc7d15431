import Derived.Test.YteekompojgbkhaaGreatRows
import Derived.Conc.RwLib
import Derived.Conc.MuData
import Derived.KernelRfl
import Derived.WalkKit
import Derived.ProofKit
import Derived.Below
import Derived.OwnWalk
import Derived.Laws.OwnMore
import Derived.Laws.Rows
import Derived.Deep.RegionHeld3
namespace Go.Proofs.YteekompojgbkhaaGreat
abbrev muLink : Go.Conc.Locks.MuLink := { lock := 65, unlock := 66, ilock := 118, iunlock := 119, lockSlow := 166, unlockSlow := 167, disable := 111, enable := 114, acquire := 115, relMerge := 116, cas32 := 165, add32 := 162, tMutex := 129, tIMutex := 127, tPMutex := 202, tPIMutex := 250, tPI32 := 248, tUP := 201, tNoCopy := 124, tU32 := 125 }
theorem muLib : Go.Conc.Locks.MuLib Tryz.prog muLink :=
  ⟨Tryz.func65, Tryz.func66, Tryz.func118, Tryz.func119, Tryz.func111, Tryz.func114, Tryz.func115, Tryz.func116, Tryz.func165, Tryz.func162, Tryz.underlying127, Tryz.runUnderlying127, Tryz.sizeOf127, Tryz.isAgg127, Tryz.zeroValue127, Tryz.underlying129, Tryz.runUnderlying129, Tryz.sizeOf129, Tryz.isAgg129, Tryz.zeroValue129, Tryz.underlying202, Tryz.runUnderlying202, Tryz.sizeOf202, Tryz.isAgg202, Tryz.zeroValue202, Tryz.underlying250, Tryz.runUnderlying250, Tryz.sizeOf250, Tryz.isAgg250, Tryz.zeroValue250, Tryz.underlying248, Tryz.runUnderlying248, Tryz.sizeOf248, Tryz.isAgg248, Tryz.zeroValue248, Tryz.underlying201, Tryz.runUnderlying201, Tryz.sizeOf201, Tryz.isAgg201, Tryz.zeroValue201, Tryz.underlying124, Tryz.runUnderlying124, Tryz.sizeOf124, Tryz.isAgg124, Tryz.zeroValue124, Tryz.underlying21, Tryz.runUnderlying21, Tryz.sizeOf21, Tryz.isAgg21, Tryz.zeroValue21, (by kernel_rfl)⟩
end Go.Proofs.YteekompojgbkhaaGreat

namespace Go.Proofs.YteekompojgbkhaaGreat
abbrev rwLink : Go.Conc.Locks.RwLink := { lock := 65, unlock := 66, ilock := 118, iunlock := 119, lockSlow := 166, unlockSlow := 167, disable := 111, enable := 114, acquire := 115, relMerge := 116, cas32 := 165, add32 := 162, tMutex := 129, tIMutex := 127, tPMutex := 202, tPIMutex := 250, tPI32 := 248, tUP := 201, tNoCopy := 124, tU32 := 125, rlock := 63, runlock := 64, wlock := 128, wunlock := 129, i32add := 112, raceRead := 110, release := 174, rUnlockSlow := 117, semacqR := 113, semacqW := 173, semrel := 164, sfatal := 163, tRW := 134, tPRW := 199, tAI32 := 132, tPAI32 := 246, tPU32 := 205, tANoCopy := 130 }
theorem rwCore : Go.Conc.Locks.RwCore Tryz.prog rwLink :=
  ⟨Tryz.func112, Tryz.func110, Tryz.func111, Tryz.func114, Tryz.func115, Tryz.func116, Tryz.func162, Tryz.underlying134, Tryz.runUnderlying134, Tryz.sizeOf134, Tryz.isAgg134, Tryz.zeroValue134, Tryz.underlying132, Tryz.runUnderlying132, Tryz.sizeOf132, Tryz.isAgg132, Tryz.zeroValue132, Tryz.underlying199, Tryz.runUnderlying199, Tryz.sizeOf199, Tryz.isAgg199, Tryz.zeroValue199, Tryz.underlying246, Tryz.runUnderlying246, Tryz.sizeOf246, Tryz.isAgg246, Tryz.zeroValue246, Tryz.underlying205, Tryz.runUnderlying205, Tryz.sizeOf205, Tryz.isAgg205, Tryz.zeroValue205, Tryz.underlying130, Tryz.runUnderlying130, Tryz.sizeOf130, Tryz.isAgg130, Tryz.zeroValue130, Tryz.underlying125, Tryz.runUnderlying125, Tryz.sizeOf125, Tryz.isAgg125, Tryz.zeroValue125, Tryz.underlying129, Tryz.runUnderlying129, Tryz.sizeOf129, Tryz.isAgg129, Tryz.zeroValue129, Tryz.underlying202, Tryz.runUnderlying202, Tryz.sizeOf202, Tryz.isAgg202, Tryz.zeroValue202, Tryz.underlying248, Tryz.runUnderlying248, Tryz.sizeOf248, Tryz.isAgg248, Tryz.zeroValue248, Tryz.underlying201, Tryz.runUnderlying201, Tryz.sizeOf201, Tryz.isAgg201, Tryz.zeroValue201, Tryz.underlying21, Tryz.runUnderlying21, Tryz.sizeOf21, Tryz.isAgg21, Tryz.zeroValue21, (by kernel_rfl), (by kernel_rfl)⟩
theorem rwRLib : Go.Conc.Locks.RwRLib Tryz.prog rwLink := ⟨rwCore, Tryz.func63, Tryz.func64⟩
theorem rwWLib : Go.Conc.Locks.RwWLib Tryz.prog rwLink := ⟨rwCore, muLib, Tryz.func128, Tryz.func129, Tryz.func174, Tryz.underlying3, Tryz.runUnderlying3, Tryz.sizeOf3, Tryz.isAgg3, Tryz.zeroValue3⟩
end Go.Proofs.YteekompojgbkhaaGreat

namespace Go.Proofs.YteekompojgbkhaaGreat
open Go.ChangeShapes Go.WideShapes Go.ChangeAt Go.RowKit
set_option linter.unusedVariables false

/-- Nothing but the blocks of B is changed. -/
structure Keeps (B : Nat → Prop) (w w' : World) : Prop where
  os : w'.os = w.os
  tape : w'.tape = w.tape
  output : w'.output = w.output
  size : w.heap.size ≤ w'.heap.size
  block : ∀ k, k < w.heap.size → ¬ B k → w'.heap[k]? = w.heap[k]?
theorem Keeps.refl (B : Nat → Prop) (w : World) : Keeps B w w := ⟨rfl, rfl, rfl, Nat.le_refl _, fun _ _ _ => rfl⟩
theorem Keeps.trans {B : Nat → Prop} {a b c : World} (h : Keeps B a b) (k : Keeps B b c) : Keeps B a c :=
  ⟨k.os.trans h.os, k.tape.trans h.tape, k.output.trans h.output, Nat.le_trans h.size k.size, fun i hi hn => (k.block i (Nat.lt_of_lt_of_le hi h.size) hn).trans (h.block i hi hn)⟩
theorem Keeps.drew {B : Nat → Prop} {a w : World} (h : Keeps B a w) : Keeps B a w.drew := ⟨h.os, h.tape, h.output, h.size, h.block⟩
theorem Keeps.setCell {B : Nat → Prop} {a w : World} (h : Keeps B a w) {p : Addr} (hp : B p.block) (u : Value) : Keeps B a (w.setCell p u) :=
  ⟨h.os, h.tape, h.output, by simpa using h.size, fun k hk hn => (Below.heap_setCell w p u k (fun e => hn (e ▸ hp))).trans (h.block k hk hn)⟩
theorem Keeps.setCellNew {B : Nat → Prop} {a w : World} (h : Keeps B a w) {p : Addr} (hp : a.heap.size ≤ p.block) (u : Value) : Keeps B a (w.setCell p u) :=
  ⟨h.os, h.tape, h.output, by simpa using h.size, fun k hk hn => (Below.heap_setCell w p u k (fun e => by omega)).trans (h.block k hk hn)⟩
theorem Keeps.alloc {B : Nat → Prop} {a w : World} (h : Keeps B a w) (o : Obj) : Keeps B a (w.alloc o) :=
  ⟨h.os, h.tape, h.output, by have := h.size; simp; omega, fun k hk hn => (Below.heap_alloc w o k (Nat.lt_of_lt_of_le hk h.size)).trans (h.block k hk hn)⟩
theorem Keeps.below {B : Nat → Prop} {w w' : World} (h : Keeps B w w') {n : Nat} (hn : n ≤ w.heap.size) (hB : ∀ k, k < n → ¬ B k) : Below n w w' :=
  ⟨h.os, h.tape, h.output, h.size, fun k hk => h.block k (Nat.lt_of_lt_of_le hk hn) (hB k hk)⟩
theorem Below.keeps {w w' : World} (h : Below w.heap.size w w') (B : Nat → Prop) : Keeps B w w' := ⟨h.os, h.tape, h.output, h.size, fun k hk _ => h.block k hk⟩
theorem Keeps.mono {B B' : Nat → Prop} {w w' : World} (h : Keeps B w w') (hB : ∀ k, B k → B' k) : Keeps B' w w' := ⟨h.os, h.tape, h.output, h.size, fun k hk hn => h.block k hk (fun e => hn (hB k e))⟩
theorem Keeps.cell {B : Nat → Prop} {w w' : World} (h : Keeps B w w') {p : Addr} (hp : p.block < w.heap.size) (hn : ¬ B p.block) : w'.cell? p = w.cell? p := World.cell?_of_block (w := w) (h.block p.block hp hn)
theorem Keeps.frozen {B : Nat → Prop} {w w' : World} (h : Keeps B w w') {p : Addr} (hp : p.block < w.heap.size) (hn : ¬ B p.block) : w'.frozen? p = w.frozen? p := World.frozen?_of_block (w := w) (h.block p.block hp hn)

/-- The free queue at ⟨b, o⟩: its ring of n places in block g, its front f, its count c. -/
structure Que (w : World) (b o g n f c : Nat) : Prop where
  ring : w.cell? ⟨b, o + 2, none⟩ = some (.slice (some ⟨g, 0, none⟩) n n)
  front : w.cell? ⟨b, o + 3, none⟩ = some (.int .i64 (f : Int))
  count : w.cell? ⟨b, o + 4, none⟩ = some (.int .i64 (c : Int))
/-- The number in a cell. -/
def vAt (W : World) (a : Addr) : Int := match W.cell? a with | some (.int _ y) => y | _ => 0
theorem vAt_of {W : World} {a : Addr} {k : IntKind} {x : Int} (h : W.cell? a = some (.int k x)) : W.cell? a = some (.int k (vAt W a)) := by unfold vAt; rw [h]
def Post1 (A : Act) (W' : World) : Exit → Act → World → Prop
  | .normal, b, w' => b = A ∧ w' = W'
  | _, _, _ => False
theorem Post1.here (A : Act) (W' : World) : Post1 A W' .normal A W' := ⟨rfl, rfl⟩
theorem wp_once {P : Program} {c : Code} {Q : Exit → Act → World → Prop} {a : Act} {w : World} (h : ∃ A W', c.wp P (Post1 A W') a w ∧ Q .normal A W') : c.wp P Q a w := by
  obtain ⟨A, W', h1, h2⟩ := h
  refine Code.wp_mono ?_ h1
  intro e b w' h
  cases e <;> first | exact h.elim | (obtain ⟨rfl, rfl⟩ := h; exact h2)
theorem que_put {W : World} {b o g n f c k : Nat} (h : W.cell? ⟨b, o + 2, none⟩ = some (.slice (some ⟨g, 0, none⟩) n n) ∧ W.cell? ⟨b, o + 3, none⟩ = some (.int .i64 (f : Int)) ∧ W.cell? ⟨b, o + 4, none⟩ = some (.int .i64 (c : Int)) ∧ W.cell? ⟨g, k, none⟩ = some (.int .i64 (vAt W ⟨g, k, none⟩)) ∧ W.frozen? ⟨g, k, none⟩ = false) (hne : g ≠ b) (z : Int) :
    (W.setCell ⟨g, k, none⟩ (.int .i64 z)).cell? ⟨b, o + 2, none⟩ = some (.slice (some ⟨g, 0, none⟩) n n) ∧ (W.setCell ⟨g, k, none⟩ (.int .i64 z)).cell? ⟨b, o + 3, none⟩ = some (.int .i64 (f : Int)) ∧ (W.setCell ⟨g, k, none⟩ (.int .i64 z)).cell? ⟨b, o + 4, none⟩ = some (.int .i64 (c : Int)) ∧ (W.setCell ⟨g, k, none⟩ (.int .i64 z)).cell? ⟨g, k, none⟩ = some (.int .i64 (vAt (W.setCell ⟨g, k, none⟩ (.int .i64 z)) ⟨g, k, none⟩)) ∧ (W.setCell ⟨g, k, none⟩ (.int .i64 z)).frozen? ⟨g, k, none⟩ = false := by
  obtain ⟨h1, h2, h3, h4, h5⟩ := h
  have far : ∀ j, (W.setCell ⟨g, k, none⟩ (.int .i64 z)).cell? ⟨b, j, none⟩ = W.cell? ⟨b, j, none⟩ := fun j => World.cell?_setCell_other W ⟨g, k, none⟩ ⟨b, j, none⟩ _ (fun e => hne (congrArg Addr.block e))
  exact ⟨(far _).trans h1, (far _).trans h2, (far _).trans h3, vAt_of (World.cell?_setCell_same W ⟨g, k, none⟩ _ h4), by simp [h5]⟩
set_option maxRecDepth 100000 in
set_option maxHeartbeats 1600000 in
theorem put_any (b o g n f c k : Nat) (slot y : Int) (w : World) (hq : Que w b o g n f c) (hf : f < n) (hc : c ≤ n) (hz : n ≤ 1099511627776) (hk : k = (f + c) % n) (hg : w.cell? ⟨g, k, none⟩ = some (.int .i64 y)) (zg : w.frozen? ⟨g, k, none⟩ = false) (zc : w.frozen? ⟨b, o + 4, none⟩ = false) (hbg : b ≠ g) :
    Calls Tryz.prog 107 #[.pointer (some ⟨b, o, none⟩), .int .i64 slot] w fun e w' => e = .returned (.tuple #[]) ∧ w' = ((w.setCell ⟨g, k, none⟩ (.int .i64 slot)).setCell ⟨b, o + 4, none⟩ (.int .i64 ((c : Int) + 1))).drew := by
  obtain ⟨h1, h2, h3⟩ := hq
  have hm : ((f : Int) + (c : Int)).tmod (n : Int) = (k : Int) := by
    rw [Int.tmod_eq_emod_of_nonneg (by omega), hk]
    simp
  have hlt : k < n := by rw [hk]; exact Nat.mod_lt _ (by omega)
  clear hk
  have hw1 : IntKind.i64.wrap ((f : Int) + (c : Int)) = (f : Int) + (c : Int) := by rw [IntKind.wrap_i64]; omega
  have hw2 : IntKind.i64.wrap (k : Int) = (k : Int) := by rw [IntKind.wrap_i64]; omega
  have hw3 : IntKind.i64.wrap ((c : Int) + 1) = (c : Int) + 1 := by rw [IntKind.wrap_i64]; omega
  have hne : ¬ (n : Int) = 0 := by omega
  have hn0 : ¬ n = 0 := by omega
  have k1 : (0 : Int) ≤ (k : Int) := by omega
  have k2 : (k : Int) < (n : Int) := by omega
  have hgb : g ≠ b := fun e => hbg e.symm
  have s1 : w.drew.cell? ⟨b, o + 2, none⟩ = some (.slice (some ⟨g, 0, none⟩) n n) := h1
  have s2 : w.drew.cell? ⟨b, o + 3, none⟩ = some (.int .i64 (f : Int)) := h2
  have s3 : w.drew.cell? ⟨b, o + 4, none⟩ = some (.int .i64 (c : Int)) := h3
  have s4 : w.drew.cell? ⟨g, k, none⟩ = some (.int .i64 y) := hg
  have s5 : w.drew.frozen? ⟨g, k, none⟩ = false := zg
  clear hc hz hf
  go_enter Tryz.func107, Tryz.ntmps107
  go_wp2_with fail
  go_region_held3 (fun w' => w'.cell? ⟨b, o + 2, none⟩ = some (.slice (some ⟨g, 0, none⟩) n n) ∧ w'.cell? ⟨b, o + 3, none⟩ = some (.int .i64 (f : Int)) ∧ w'.cell? ⟨b, o + 4, none⟩ = some (.int .i64 (c : Int)) ∧ w'.cell? ⟨g, k, none⟩ = some (.int .i64 (vAt w' ⟨g, k, none⟩)) ∧ w'.frozen? ⟨g, k, none⟩ = false) (first | assumption | exact ⟨s1, s2, s3, vAt_of s4, s5⟩ | exact que_put (by assumption) hgb _) (fail)
  have t1 : (w.setCell ⟨g, k, none⟩ (.int .i64 slot)).drew.cell? ⟨b, o + 4, none⟩ = some (.int .i64 (c : Int)) := (World.cell?_setCell_other w ⟨g, k, none⟩ ⟨b, o + 4, none⟩ _ (fun e => hgb (congrArg Addr.block e))).trans h3
  have t2 : (w.setCell ⟨g, k, none⟩ (.int .i64 slot)).drew.frozen? ⟨b, o + 4, none⟩ = false := by simpa using zc
  clear s1 s2 s3 s4 s5
  go_wp2
  exact ⟨rfl, .tuple #[], by simp [results, Tryz.results107], rfl, rfl⟩
set_option maxRecDepth 100000 in
set_option maxHeartbeats 1600000 in
theorem take_none (b o g n f : Nat) (w : World) (hq : Que w b o g n f 0) :
    Calls Tryz.prog 68 #[.pointer (some ⟨b, o, none⟩)] w fun e w' => e = .returned (.int .i64 0) ∧ w' = w := by
  obtain ⟨h1, h2, h3⟩ := hq
  have h4 : w.cell? ⟨b, o + 4, none⟩ = some (.int .i64 0) := h3
  clear h3
  go_enter Tryz.func68, Tryz.ntmps68
  go_wp2
  go_ret
  exact ⟨rfl, rfl⟩
set_option maxRecDepth 100000 in
set_option maxHeartbeats 1600000 in
theorem take_some (b o g n f c k : Nat) (y : Int) (w : World) (hq : Que w b o g n f c) (hf : f < n) (hc : c ≤ n) (h0 : 0 < c) (hz : n ≤ 1099511627776) (hk : k = (f + 1) % n) (hg : w.cell? ⟨g, f, none⟩ = some (.int .i64 y)) (zf : w.frozen? ⟨b, o + 3, none⟩ = false) (zc : w.frozen? ⟨b, o + 4, none⟩ = false) :
    Calls Tryz.prog 68 #[.pointer (some ⟨b, o, none⟩)] w fun e w' => e = .returned (.int .i64 y) ∧ w' = ((w.setCell ⟨b, o + 3, none⟩ (.int .i64 (k : Int))).setCell ⟨b, o + 4, none⟩ (.int .i64 ((c : Int) - 1))).drew.drew := by
  obtain ⟨h1, h2, h3⟩ := hq
  have hm : ((f : Int) + 1).tmod (n : Int) = (k : Int) := by
    rw [Int.tmod_eq_emod_of_nonneg (by omega), hk]
    simp
  have hlt : k < n := by rw [hk]; exact Nat.mod_lt _ (by omega)
  clear hk
  have hw1 : IntKind.i64.wrap ((f : Int) + 1) = (f : Int) + 1 := by rw [IntKind.wrap_i64]; omega
  have hw2 : IntKind.i64.wrap (k : Int) = (k : Int) := by rw [IntKind.wrap_i64]; omega
  have hw3 : IntKind.i64.wrap ((c : Int) - 1) = (c : Int) - 1 := by rw [IntKind.wrap_i64]; omega
  have hne : ¬ (n : Int) = 0 := by omega
  have hc0 : ¬ (c : Int) = 0 := by omega
  have hn0 : ¬ n = 0 := by omega
  have hcn : ¬ c = 0 := by omega
  have k1 : (0 : Int) ≤ (f : Int) := by omega
  have k2 : (f : Int) < (n : Int) := by omega
  clear hc hz h0
  go_enter Tryz.func68, Tryz.ntmps68
  go_wp2
  have s1 : w.drew.cell? ⟨b, o + 2, none⟩ = some (.slice (some ⟨g, 0, none⟩) n n) := h1
  have s2 : w.drew.cell? ⟨b, o + 3, none⟩ = some (.int .i64 (f : Int)) := h2
  have s4 : w.drew.cell? ⟨g, f, none⟩ = some (.int .i64 y) := hg
  go_region_held3 (fun w' => w'.cell? ⟨b, o + 2, none⟩ = some (.slice (some ⟨g, 0, none⟩) n n) ∧ w'.cell? ⟨b, o + 3, none⟩ = some (.int .i64 (f : Int)) ∧ w'.cell? ⟨g, f, none⟩ = some (.int .i64 y)) (first | assumption | exact ⟨s1, s2, s4⟩) (fail)
  have s5 : w.drew.frozen? ⟨b, o + 3, none⟩ = false := zf
  go_wp2_with fail
  refine wp_once ?_
  apply Exists.intro
  apply Exists.intro
  constructor
  · go_region_with (fail)
    all_goals exact Post1.here _ _
  have t1 : (w.setCell ⟨b, o + 3, none⟩ (.int .i64 (k : Int))).drew.drew.cell? ⟨b, o + 4, none⟩ = some (.int .i64 (c : Int)) := (World.cell?_setCell_other w ⟨b, o + 3, none⟩ ⟨b, o + 4, none⟩ _ (fun e => by have := congrArg Addr.off e; simp at this)).trans h3
  have t2 : (w.setCell ⟨b, o + 3, none⟩ (.int .i64 (k : Int))).drew.drew.frozen? ⟨b, o + 4, none⟩ = false := by simpa using zc
  clear s1 s2 s4 s5
  go_wp2
  go_ret
  exact ⟨rfl, rfl⟩
end Go.Proofs.YteekompojgbkhaaGreat
