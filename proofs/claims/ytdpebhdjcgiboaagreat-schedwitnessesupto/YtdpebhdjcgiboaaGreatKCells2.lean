import Derived.Test.YtdpebhdjcgiboaaGreatRows
import Derived.Conc.RwLib
import Derived.Conc.MuData
import Derived.KernelRfl
import Derived.WalkKit
import Derived.ProofKit
import Derived.Below
import Derived.OwnWalk
import Derived.Laws.OwnMore
import Derived.Laws.Rows
import Derived.Deep.RegionHeld3
import Derived.Deep.OwnRows
namespace Go.Proofs.YtdpebhdjcgiboaaGreat
abbrev muLink : Go.Conc.Locks.MuLink := { lock := 107, unlock := 108, ilock := 145, iunlock := 146, lockSlow := 177, unlockSlow := 178, disable := 138, enable := 141, acquire := 142, relMerge := 143, cas32 := 176, add32 := 173, tMutex := 202, tIMutex := 200, tPMutex := 247, tPIMutex := 293, tPI32 := 291, tUP := 246, tNoCopy := 197, tU32 := 198 }
theorem muLib : Go.Conc.Locks.MuLib Tryz.prog muLink :=
  ⟨Tryz.func107, Tryz.func108, Tryz.func145, Tryz.func146, Tryz.func138, Tryz.func141, Tryz.func142, Tryz.func143, Tryz.func176, Tryz.func173, Tryz.underlying200, Tryz.runUnderlying200, Tryz.sizeOf200, Tryz.isAgg200, Tryz.zeroValue200, Tryz.underlying202, Tryz.runUnderlying202, Tryz.sizeOf202, Tryz.isAgg202, Tryz.zeroValue202, Tryz.underlying247, Tryz.runUnderlying247, Tryz.sizeOf247, Tryz.isAgg247, Tryz.zeroValue247, Tryz.underlying293, Tryz.runUnderlying293, Tryz.sizeOf293, Tryz.isAgg293, Tryz.zeroValue293, Tryz.underlying291, Tryz.runUnderlying291, Tryz.sizeOf291, Tryz.isAgg291, Tryz.zeroValue291, Tryz.underlying246, Tryz.runUnderlying246, Tryz.sizeOf246, Tryz.isAgg246, Tryz.zeroValue246, Tryz.underlying197, Tryz.runUnderlying197, Tryz.sizeOf197, Tryz.isAgg197, Tryz.zeroValue197, Tryz.underlying21, Tryz.runUnderlying21, Tryz.sizeOf21, Tryz.isAgg21, Tryz.zeroValue21, (by kernel_rfl)⟩
end Go.Proofs.YtdpebhdjcgiboaaGreat

namespace Go.Proofs.YtdpebhdjcgiboaaGreat
abbrev rwLink : Go.Conc.Locks.RwLink := { lock := 107, unlock := 108, ilock := 145, iunlock := 146, lockSlow := 177, unlockSlow := 178, disable := 138, enable := 141, acquire := 142, relMerge := 143, cas32 := 176, add32 := 173, tMutex := 202, tIMutex := 200, tPMutex := 247, tPIMutex := 293, tPI32 := 291, tUP := 246, tNoCopy := 197, tU32 := 198, rlock := 105, runlock := 106, wlock := 161, wunlock := 162, i32add := 139, raceRead := 137, release := 188, rUnlockSlow := 144, semacqR := 140, semacqW := 187, semrel := 175, sfatal := 174, tRW := 207, tPRW := 244, tAI32 := 205, tPAI32 := 289, tPU32 := 250, tANoCopy := 203 }
theorem rwCore : Go.Conc.Locks.RwCore Tryz.prog rwLink :=
  ⟨Tryz.func139, Tryz.func137, Tryz.func138, Tryz.func141, Tryz.func142, Tryz.func143, Tryz.func173, Tryz.underlying207, Tryz.runUnderlying207, Tryz.sizeOf207, Tryz.isAgg207, Tryz.zeroValue207, Tryz.underlying205, Tryz.runUnderlying205, Tryz.sizeOf205, Tryz.isAgg205, Tryz.zeroValue205, Tryz.underlying244, Tryz.runUnderlying244, Tryz.sizeOf244, Tryz.isAgg244, Tryz.zeroValue244, Tryz.underlying289, Tryz.runUnderlying289, Tryz.sizeOf289, Tryz.isAgg289, Tryz.zeroValue289, Tryz.underlying250, Tryz.runUnderlying250, Tryz.sizeOf250, Tryz.isAgg250, Tryz.zeroValue250, Tryz.underlying203, Tryz.runUnderlying203, Tryz.sizeOf203, Tryz.isAgg203, Tryz.zeroValue203, Tryz.underlying198, Tryz.runUnderlying198, Tryz.sizeOf198, Tryz.isAgg198, Tryz.zeroValue198, Tryz.underlying202, Tryz.runUnderlying202, Tryz.sizeOf202, Tryz.isAgg202, Tryz.zeroValue202, Tryz.underlying247, Tryz.runUnderlying247, Tryz.sizeOf247, Tryz.isAgg247, Tryz.zeroValue247, Tryz.underlying291, Tryz.runUnderlying291, Tryz.sizeOf291, Tryz.isAgg291, Tryz.zeroValue291, Tryz.underlying246, Tryz.runUnderlying246, Tryz.sizeOf246, Tryz.isAgg246, Tryz.zeroValue246, Tryz.underlying21, Tryz.runUnderlying21, Tryz.sizeOf21, Tryz.isAgg21, Tryz.zeroValue21, (by kernel_rfl), (by kernel_rfl)⟩
theorem rwRLib : Go.Conc.Locks.RwRLib Tryz.prog rwLink := ⟨rwCore, Tryz.func105, Tryz.func106⟩
theorem rwWLib : Go.Conc.Locks.RwWLib Tryz.prog rwLink := ⟨rwCore, muLib, Tryz.func161, Tryz.func162, Tryz.func188, Tryz.underlying3, Tryz.runUnderlying3, Tryz.sizeOf3, Tryz.isAgg3, Tryz.zeroValue3⟩
end Go.Proofs.YtdpebhdjcgiboaaGreat

namespace Go.Proofs.YtdpebhdjcgiboaaGreat
open Go.ChangeShapes Go.WideShapes Go.ChangeAt Go.RowKit
set_option linter.unusedVariables false

/-- Nothing but the blocks of B is changed. -/
structure Keeps (B : Nat → Prop) (w w' : World) : Prop where
  os : w'.os = w.os
  tape : w'.tape = w.tape
  output : w'.output = w.output
  size : w.heap.size ≤ w'.heap.size
  block : ∀ k, k < w.heap.size → ¬ B k → w'.heap[k]? = w.heap[k]?
theorem Keeps.refl (B : Nat → Prop) (w : World) : Keeps B w w := ⟨rfl, rfl, rfl, Nat.le_refl _, fun _ _ _ => rfl⟩
theorem Keeps.trans {B : Nat → Prop} {a b c : World} (h : Keeps B a b) (k : Keeps B b c) : Keeps B a c :=
  ⟨k.os.trans h.os, k.tape.trans h.tape, k.output.trans h.output, Nat.le_trans h.size k.size, fun i hi hn => (k.block i (Nat.lt_of_lt_of_le hi h.size) hn).trans (h.block i hi hn)⟩
theorem Keeps.drew {B : Nat → Prop} {a w : World} (h : Keeps B a w) : Keeps B a w.drew := ⟨h.os, h.tape, h.output, h.size, h.block⟩
theorem Keeps.setCell {B : Nat → Prop} {a w : World} (h : Keeps B a w) {p : Addr} (hp : B p.block) (u : Value) : Keeps B a (w.setCell p u) :=
  ⟨h.os, h.tape, h.output, by simpa using h.size, fun k hk hn => (Below.heap_setCell w p u k (fun e => hn (e ▸ hp))).trans (h.block k hk hn)⟩
theorem Keeps.setCellNew {B : Nat → Prop} {a w : World} (h : Keeps B a w) {p : Addr} (hp : a.heap.size ≤ p.block) (u : Value) : Keeps B a (w.setCell p u) :=
  ⟨h.os, h.tape, h.output, by simpa using h.size, fun k hk hn => (Below.heap_setCell w p u k (fun e => by omega)).trans (h.block k hk hn)⟩
theorem Keeps.alloc {B : Nat → Prop} {a w : World} (h : Keeps B a w) (o : Obj) : Keeps B a (w.alloc o) :=
  ⟨h.os, h.tape, h.output, by have := h.size; simp; omega, fun k hk hn => (Below.heap_alloc w o k (Nat.lt_of_lt_of_le hk h.size)).trans (h.block k hk hn)⟩
theorem Keeps.below {B : Nat → Prop} {w w' : World} (h : Keeps B w w') {n : Nat} (hn : n ≤ w.heap.size) (hB : ∀ k, k < n → ¬ B k) : Below n w w' :=
  ⟨h.os, h.tape, h.output, h.size, fun k hk => h.block k (Nat.lt_of_lt_of_le hk hn) (hB k hk)⟩
theorem Below.keeps {w w' : World} (h : Below w.heap.size w w') (B : Nat → Prop) : Keeps B w w' := ⟨h.os, h.tape, h.output, h.size, fun k hk _ => h.block k hk⟩
theorem Keeps.mono {B B' : Nat → Prop} {w w' : World} (h : Keeps B w w') (hB : ∀ k, B k → B' k) : Keeps B' w w' := ⟨h.os, h.tape, h.output, h.size, fun k hk hn => h.block k hk (fun e => hn (hB k e))⟩
theorem Keeps.cell {B : Nat → Prop} {w w' : World} (h : Keeps B w w') {p : Addr} (hp : p.block < w.heap.size) (hn : ¬ B p.block) : w'.cell? p = w.cell? p := World.cell?_of_block (w := w) (h.block p.block hp hn)
theorem Keeps.frozen {B : Nat → Prop} {w w' : World} (h : Keeps B w w') {p : Addr} (hp : p.block < w.heap.size) (hn : ¬ B p.block) : w'.frozen? p = w.frozen? p := World.frozen?_of_block (w := w) (h.block p.block hp hn)

/-- The free queue at ⟨b, o⟩: its ring of n places in block g, its front f, its count c. -/
structure Que (w : World) (b o g n f c : Nat) : Prop where
  ring : w.cell? ⟨b, o + 2, none⟩ = some (.slice (some ⟨g, 0, none⟩) n n)
  front : w.cell? ⟨b, o + 3, none⟩ = some (.int .i64 (f : Int))
  count : w.cell? ⟨b, o + 4, none⟩ = some (.int .i64 (c : Int))
/-- The number in a cell. -/
def vAt (W : World) (a : Addr) : Int := match W.cell? a with | some (.int _ y) => y | _ => 0
theorem vAt_of {W : World} {a : Addr} {k : IntKind} {x : Int} (h : W.cell? a = some (.int k x)) : W.cell? a = some (.int k (vAt W a)) := by unfold vAt; rw [h]
def Post1 (A : Act) (W' : World) : Exit → Act → World → Prop
  | .normal, b, w' => b = A ∧ w' = W'
  | _, _, _ => False
theorem Post1.here (A : Act) (W' : World) : Post1 A W' .normal A W' := ⟨rfl, rfl⟩
theorem wp_once {P : Program} {c : Code} {Q : Exit → Act → World → Prop} {a : Act} {w : World} (h : ∃ A W', c.wp P (Post1 A W') a w ∧ Q .normal A W') : c.wp P Q a w := by
  obtain ⟨A, W', h1, h2⟩ := h
  refine Code.wp_mono ?_ h1
  intro e b w' h
  cases e <;> first | exact h.elim | (obtain ⟨rfl, rfl⟩ := h; exact h2)
theorem que_put {W : World} {b o g n f c k : Nat} (h : W.cell? ⟨b, o + 2, none⟩ = some (.slice (some ⟨g, 0, none⟩) n n) ∧ W.cell? ⟨b, o + 3, none⟩ = some (.int .i64 (f : Int)) ∧ W.cell? ⟨b, o + 4, none⟩ = some (.int .i64 (c : Int)) ∧ W.cell? ⟨g, k, none⟩ = some (.int .i64 (vAt W ⟨g, k, none⟩)) ∧ W.frozen? ⟨g, k, none⟩ = false) (hne : g ≠ b) (z : Int) :
    (W.setCell ⟨g, k, none⟩ (.int .i64 z)).cell? ⟨b, o + 2, none⟩ = some (.slice (some ⟨g, 0, none⟩) n n) ∧ (W.setCell ⟨g, k, none⟩ (.int .i64 z)).cell? ⟨b, o + 3, none⟩ = some (.int .i64 (f : Int)) ∧ (W.setCell ⟨g, k, none⟩ (.int .i64 z)).cell? ⟨b, o + 4, none⟩ = some (.int .i64 (c : Int)) ∧ (W.setCell ⟨g, k, none⟩ (.int .i64 z)).cell? ⟨g, k, none⟩ = some (.int .i64 (vAt (W.setCell ⟨g, k, none⟩ (.int .i64 z)) ⟨g, k, none⟩)) ∧ (W.setCell ⟨g, k, none⟩ (.int .i64 z)).frozen? ⟨g, k, none⟩ = false := by
  obtain ⟨h1, h2, h3, h4, h5⟩ := h
  have far : ∀ j, (W.setCell ⟨g, k, none⟩ (.int .i64 z)).cell? ⟨b, j, none⟩ = W.cell? ⟨b, j, none⟩ := fun j => World.cell?_setCell_other W ⟨g, k, none⟩ ⟨b, j, none⟩ _ (fun e => hne (congrArg Addr.block e))
  exact ⟨(far _).trans h1, (far _).trans h2, (far _).trans h3, vAt_of (World.cell?_setCell_same W ⟨g, k, none⟩ _ h4), by simp [h5]⟩
set_option maxRecDepth 100000 in
set_option maxHeartbeats 1600000 in
theorem put_any (b o g n f c k : Nat) (slot y : Int) (w : World) (hq : Que w b o g n f c) (hf : f < n) (hc : c ≤ n) (hz : n ≤ 1099511627776) (hk : k = (f + c) % n) (hg : w.cell? ⟨g, k, none⟩ = some (.int .i64 y)) (zg : w.frozen? ⟨g, k, none⟩ = false) (zc : w.frozen? ⟨b, o + 4, none⟩ = false) (hbg : b ≠ g) :
    Calls Tryz.prog 136 #[.pointer (some ⟨b, o, none⟩), .int .i64 slot] w fun e w' => e = .returned (.tuple #[]) ∧ w' = ((w.setCell ⟨g, k, none⟩ (.int .i64 slot)).setCell ⟨b, o + 4, none⟩ (.int .i64 ((c : Int) + 1))).drew := by
  obtain ⟨h1, h2, h3⟩ := hq
  have hm : ((f : Int) + (c : Int)).tmod (n : Int) = (k : Int) := by
    rw [Int.tmod_eq_emod_of_nonneg (by omega), hk]
    simp
  have hlt : k < n := by rw [hk]; exact Nat.mod_lt _ (by omega)
  clear hk
  have hw1 : IntKind.i64.wrap ((f : Int) + (c : Int)) = (f : Int) + (c : Int) := by rw [IntKind.wrap_i64]; omega
  have hw2 : IntKind.i64.wrap (k : Int) = (k : Int) := by rw [IntKind.wrap_i64]; omega
  have hw3 : IntKind.i64.wrap ((c : Int) + 1) = (c : Int) + 1 := by rw [IntKind.wrap_i64]; omega
  have hne : ¬ (n : Int) = 0 := by omega
  have hn0 : ¬ n = 0 := by omega
  have k1 : (0 : Int) ≤ (k : Int) := by omega
  have k2 : (k : Int) < (n : Int) := by omega
  have hgb : g ≠ b := fun e => hbg e.symm
  have s1 : w.drew.cell? ⟨b, o + 2, none⟩ = some (.slice (some ⟨g, 0, none⟩) n n) := h1
  have s2 : w.drew.cell? ⟨b, o + 3, none⟩ = some (.int .i64 (f : Int)) := h2
  have s3 : w.drew.cell? ⟨b, o + 4, none⟩ = some (.int .i64 (c : Int)) := h3
  have s4 : w.drew.cell? ⟨g, k, none⟩ = some (.int .i64 y) := hg
  have s5 : w.drew.frozen? ⟨g, k, none⟩ = false := zg
  clear hc hz hf
  go_enter Tryz.func136, Tryz.ntmps136
  go_wp2_with fail
  go_region_held3 (fun w' => w'.cell? ⟨b, o + 2, none⟩ = some (.slice (some ⟨g, 0, none⟩) n n) ∧ w'.cell? ⟨b, o + 3, none⟩ = some (.int .i64 (f : Int)) ∧ w'.cell? ⟨b, o + 4, none⟩ = some (.int .i64 (c : Int)) ∧ w'.cell? ⟨g, k, none⟩ = some (.int .i64 (vAt w' ⟨g, k, none⟩)) ∧ w'.frozen? ⟨g, k, none⟩ = false) (first | assumption | exact ⟨s1, s2, s3, vAt_of s4, s5⟩ | exact que_put (by assumption) hgb _) (fail)
  have t1 : (w.setCell ⟨g, k, none⟩ (.int .i64 slot)).drew.cell? ⟨b, o + 4, none⟩ = some (.int .i64 (c : Int)) := (World.cell?_setCell_other w ⟨g, k, none⟩ ⟨b, o + 4, none⟩ _ (fun e => hgb (congrArg Addr.block e))).trans h3
  have t2 : (w.setCell ⟨g, k, none⟩ (.int .i64 slot)).drew.frozen? ⟨b, o + 4, none⟩ = false := by simpa using zc
  clear s1 s2 s3 s4 s5
  go_wp2
  exact ⟨rfl, .tuple #[], by simp [results, Tryz.results136], rfl, rfl⟩
set_option maxRecDepth 100000 in
set_option maxHeartbeats 1600000 in
theorem take_some (b o g n f c k : Nat) (y : Int) (w : World) (hq : Que w b o g n f c) (hf : f < n) (hc : c ≤ n) (h0 : 0 < c) (hz : n ≤ 1099511627776) (hk : k = (f + 1) % n) (hg : w.cell? ⟨g, f, none⟩ = some (.int .i64 y)) (zf : w.frozen? ⟨b, o + 3, none⟩ = false) (zc : w.frozen? ⟨b, o + 4, none⟩ = false) :
    Calls Tryz.prog 110 #[.pointer (some ⟨b, o, none⟩)] w fun e w' => e = .returned (.int .i64 y) ∧ w' = ((w.setCell ⟨b, o + 3, none⟩ (.int .i64 (k : Int))).setCell ⟨b, o + 4, none⟩ (.int .i64 ((c : Int) - 1))).drew.drew := by
  obtain ⟨h1, h2, h3⟩ := hq
  have hm : ((f : Int) + 1).tmod (n : Int) = (k : Int) := by
    rw [Int.tmod_eq_emod_of_nonneg (by omega), hk]
    simp
  have hlt : k < n := by rw [hk]; exact Nat.mod_lt _ (by omega)
  clear hk
  have hw1 : IntKind.i64.wrap ((f : Int) + 1) = (f : Int) + 1 := by rw [IntKind.wrap_i64]; omega
  have hw2 : IntKind.i64.wrap (k : Int) = (k : Int) := by rw [IntKind.wrap_i64]; omega
  have hw3 : IntKind.i64.wrap ((c : Int) - 1) = (c : Int) - 1 := by rw [IntKind.wrap_i64]; omega
  have hne : ¬ (n : Int) = 0 := by omega
  have hc0 : ¬ (c : Int) = 0 := by omega
  have hn0 : ¬ n = 0 := by omega
  have hcn : ¬ c = 0 := by omega
  have k1 : (0 : Int) ≤ (f : Int) := by omega
  have k2 : (f : Int) < (n : Int) := by omega
  clear hc hz h0
  go_enter Tryz.func110, Tryz.ntmps110
  go_wp2
  have s1 : w.drew.cell? ⟨b, o + 2, none⟩ = some (.slice (some ⟨g, 0, none⟩) n n) := h1
  have s2 : w.drew.cell? ⟨b, o + 3, none⟩ = some (.int .i64 (f : Int)) := h2
  have s4 : w.drew.cell? ⟨g, f, none⟩ = some (.int .i64 y) := hg
  go_region_held3 (fun w' => w'.cell? ⟨b, o + 2, none⟩ = some (.slice (some ⟨g, 0, none⟩) n n) ∧ w'.cell? ⟨b, o + 3, none⟩ = some (.int .i64 (f : Int)) ∧ w'.cell? ⟨g, f, none⟩ = some (.int .i64 y)) (first | assumption | exact ⟨s1, s2, s4⟩) (fail)
  have s5 : w.drew.frozen? ⟨b, o + 3, none⟩ = false := zf
  go_wp2_with fail
  refine wp_once ?_
  apply Exists.intro
  apply Exists.intro
  constructor
  · go_region_with (fail)
    all_goals exact Post1.here _ _
  have t1 : (w.setCell ⟨b, o + 3, none⟩ (.int .i64 (k : Int))).drew.drew.cell? ⟨b, o + 4, none⟩ = some (.int .i64 (c : Int)) := (World.cell?_setCell_other w ⟨b, o + 3, none⟩ ⟨b, o + 4, none⟩ _ (fun e => by have := congrArg Addr.off e; simp at this)).trans h3
  have t2 : (w.setCell ⟨b, o + 3, none⟩ (.int .i64 (k : Int))).drew.drew.frozen? ⟨b, o + 4, none⟩ = false := by simpa using zc
  clear s1 s2 s4 s5
  go_wp2
  go_ret
  exact ⟨rfl, rfl⟩
end Go.Proofs.YtdpebhdjcgiboaaGreat

namespace Go.Proofs.YtdpebhdjcgiboaaGreat
open Go.ChangeShapes Go.WideShapes Go.ChangeAt Go.RowKit
set_option linter.unusedVariables false

/-- A queue that is being filled: k of its n places hold 1 to k. -/
structure FillS (w : World) (b o n k : Nat) (W : World) : Prop where
  que : Que W b o w.heap.size n 0 k
  low : ∀ j, j < k → W.cell? ⟨w.heap.size, j, none⟩ = some (.int .i64 ((j : Int) + 1))
  high : ∀ j, k ≤ j → j < n → W.cell? ⟨w.heap.size, j, none⟩ = some (.int .i64 0)
  free : ∀ j, W.frozen? ⟨w.heap.size, j, none⟩ = false
  far : ∀ p : Addr, p.block < w.heap.size → p ≠ ⟨b, o + 2, none⟩ → p ≠ ⟨b, o + 4, none⟩ → W.cell? p = w.cell? p
  thaw : ∀ p : Addr, p.block < w.heap.size → W.frozen? p = w.frozen? p
  size : W.heap.size = w.heap.size + 1
  kp : Keeps (fun k => k = b) w W
theorem FillS.put {w W : World} {b o n k : Nat} (h : FillS w b o n k W) (hk : k < n) (hb : b < w.heap.size) : FillS w b o n (k + 1) ((W.setCell ⟨w.heap.size, k, none⟩ (.int .i64 ((k : Int) + 1))).setCell ⟨b, o + 4, none⟩ (.int .i64 ((k : Int) + 1))).drew := by
  have hne : w.heap.size ≠ b := by omega
  have e1 : ∀ j, ((W.setCell ⟨w.heap.size, k, none⟩ (.int .i64 ((k : Int) + 1))).setCell ⟨b, o + 4, none⟩ (.int .i64 ((k : Int) + 1))).drew.cell? ⟨w.heap.size, j, none⟩ = (W.setCell ⟨w.heap.size, k, none⟩ (.int .i64 ((k : Int) + 1))).cell? ⟨w.heap.size, j, none⟩ := fun j => World.cell?_setCell_other _ ⟨b, o + 4, none⟩ ⟨w.heap.size, j, none⟩ _ (fun e => hne (congrArg Addr.block e).symm)
  have e2 : ∀ p : Addr, p.block ≠ w.heap.size → p ≠ ⟨b, o + 4, none⟩ → ((W.setCell ⟨w.heap.size, k, none⟩ (.int .i64 ((k : Int) + 1))).setCell ⟨b, o + 4, none⟩ (.int .i64 ((k : Int) + 1))).drew.cell? p = W.cell? p := fun p hp hq => (World.cell?_setCell_other _ ⟨b, o + 4, none⟩ p _ (fun e => hq e.symm)).trans (World.cell?_setCell_other _ ⟨w.heap.size, k, none⟩ p _ (fun e => hp (congrArg Addr.block e).symm))
  have e3 : (W.setCell ⟨w.heap.size, k, none⟩ (.int .i64 ((k : Int) + 1))).cell? ⟨b, o + 4, none⟩ = some (.int .i64 (k : Int)) := (World.cell?_setCell_other _ ⟨w.heap.size, k, none⟩ ⟨b, o + 4, none⟩ _ (fun e => hne (congrArg Addr.block e))).trans h.que.count
  refine ⟨⟨(e2 ⟨b, o + 2, none⟩ (fun e => hne e.symm) (fun e => ?_)).trans h.que.ring, (e2 ⟨b, o + 3, none⟩ (fun e => hne e.symm) (fun e => ?_)).trans h.que.front, ?_⟩, fun j hj => ?_, fun j hj hn => ?_, fun j => ?_, fun p hp h1 h2 => (e2 p (by omega) h2).trans (h.far p hp h1 h2), fun p hp => ?_, ?_, ((h.kp.setCellNew (Nat.le_refl _) _).setCell rfl _).drew⟩
  · have := congrArg Addr.off e; simp at this
  · have := congrArg Addr.off e; simp at this
  · have := World.cell?_setCell_same _ ⟨b, o + 4, none⟩ (.int .i64 ((k : Int) + 1)) e3
    push_cast
    exact this
  · rw [e1]
    by_cases hjk : j = k
    · subst hjk
      exact World.cell?_setCell_same _ _ _ (h.high j (Nat.le_refl _) hk)
    · rw [World.cell?_setCell_other _ _ _ _ (fun e => hjk (congrArg Addr.off e).symm)]
      exact h.low j (by omega)
  · rw [e1, World.cell?_setCell_other _ _ _ _ (fun e => by have := congrArg Addr.off e; simp at this; omega)]
    exact h.high j (by omega) hn
  · simpa using h.free j
  · simpa using h.thaw p hp
  · simpa using h.size
theorem infoI : (Tryz.prog.info? 3).map (fun i => (i.zero, i.size, i.bytes)) = some (some (.int .i64 0), 1, 8) := by kernel_rfl
theorem fill_start (w : World) (b o n : Nat) (hb : b < w.heap.size) (h1 : w.cell? ⟨b, o + 2, none⟩ = some (.slice none 0 0)) (h2 : w.cell? ⟨b, o + 3, none⟩ = some (.int .i64 0)) (h3 : w.cell? ⟨b, o + 4, none⟩ = some (.int .i64 0)) :
    FillS w b o n 0 ((w.setCell ⟨b, o + 2, none⟩ (.slice (some ⟨w.heap.size, 0, none⟩) n n)).alloc (.cells (madeCells #[.int .i64 0] n) 3)) := by
  have hs : (w.setCell ⟨b, o + 2, none⟩ (.slice (some ⟨w.heap.size, 0, none⟩) n n)).heap.size = w.heap.size := by simp
  have hB := (Below.refl (w.setCell ⟨b, o + 2, none⟩ (.slice (some ⟨w.heap.size, 0, none⟩) n n)).heap.size (w.setCell ⟨b, o + 2, none⟩ (.slice (some ⟨w.heap.size, 0, none⟩) n n))).alloc (Nat.le_refl _) (.cells (madeCells #[.int .i64 0] n) 3)
  have e1 : ∀ p : Addr, p.block < w.heap.size → ((w.setCell ⟨b, o + 2, none⟩ (.slice (some ⟨w.heap.size, 0, none⟩) n n)).alloc (.cells (madeCells #[.int .i64 0] n) 3)).cell? p = (w.setCell ⟨b, o + 2, none⟩ (.slice (some ⟨w.heap.size, 0, none⟩) n n)).cell? p := fun p hp => hB.cell (p := p) (by omega)
  have e2 : ∀ p : Addr, p ≠ ⟨b, o + 2, none⟩ → (w.setCell ⟨b, o + 2, none⟩ (.slice (some ⟨w.heap.size, 0, none⟩) n n)).cell? p = w.cell? p := fun p hp => World.cell?_setCell_other _ ⟨b, o + 2, none⟩ p _ (fun e => hp e.symm)
  have e3 : ∀ p : Addr, p.block < w.heap.size → ((w.setCell ⟨b, o + 2, none⟩ (.slice (some ⟨w.heap.size, 0, none⟩) n n)).alloc (.cells (madeCells #[.int .i64 0] n) 3)).frozen? p = (w.setCell ⟨b, o + 2, none⟩ (.slice (some ⟨w.heap.size, 0, none⟩) n n)).frozen? p := fun p hp => hB.frozen (p := p) (by omega)
  refine ⟨⟨?_, ?_, ?_⟩, fun j hj => by omega, fun j _ hn => ?_, fun j => ?_, fun p hp hq _ => (e1 p hp).trans (e2 p hq), fun p hp => ?_, ?_, ((Keeps.refl (fun k => k = b) w).setCell (p := ⟨b, o + 2, none⟩) rfl _).alloc _⟩
  · exact (e1 ⟨b, o + 2, none⟩ hb).trans (World.cell?_setCell_same _ _ _ h1)
  · exact ((e1 ⟨b, o + 3, none⟩ hb).trans (e2 _ (fun e => by have := congrArg Addr.off e; simp at this))).trans h2
  · exact ((e1 ⟨b, o + 4, none⟩ hb).trans (e2 _ (fun e => by have := congrArg Addr.off e; simp at this))).trans h3
  · rw [World.cell?_alloc_at _ _ _ _ hs.symm, ← Array.getElem?_toList, toList_madeCells_one, List.getElem?_replicate, if_pos hn]
  · rw [World.frozen?_alloc_at _ _ _ _ hs.symm]
  · rw [e3 p hp]; simp
  · show (Array.push _ _).size = _
    rw [Array.size_push, hs]
set_option maxRecDepth 100000 in
set_option maxHeartbeats 1600000 in
theorem fill_any (b o n : Nat) (w : World) (hb : b < w.heap.size) (hn : 0 < n) (hz : n ≤ 1099511627776) (h1 : w.cell? ⟨b, o + 2, none⟩ = some (.slice none 0 0)) (h2 : w.cell? ⟨b, o + 3, none⟩ = some (.int .i64 0)) (h3 : w.cell? ⟨b, o + 4, none⟩ = some (.int .i64 0)) (z1 : w.frozen? ⟨b, o + 2, none⟩ = false) (z2 : w.frozen? ⟨b, o + 4, none⟩ = false) :
    Calls Tryz.prog 103 #[.pointer (some ⟨b, o, none⟩), .int .i64 (n : Int)] w fun e w' => e = .returned (.tuple #[]) ∧ FillS w b o n n w' := by
  have hmk := run_make_row' (P := Tryz.prog) 91 3 (.int .i64 0) 8 Tryz.underlying91 infoI rfl .i64 .i64 n (by omega) (by omega) w
  have HS : Hid (FillS w b o n 0 _) := fill_start w b o n hb h1 h2 h3
  have t1 : (w.alloc (.cells (madeCells #[.int .i64 0] n) 3)).cell? ⟨b, o + 2, none⟩ = some (.slice none 0 0) := (World.cell?_alloc_past _ _ _ hb).trans h1
  have t2 : (w.alloc (.cells (madeCells #[.int .i64 0] n) 3)).frozen? ⟨b, o + 2, none⟩ = false := (World.frozen?_alloc_past _ _ _ hb).trans z1
  go_enter Tryz.func103, Tryz.ntmps103
  go_wp2
  clear t1 t2 hmk
  go_loopw [11] (fun i wr => ∃ k : Nat, k ≤ n ∧ i = .int .i64 k ∧ FillS w b o n k wr) (fun i _ => n - (intOf i).toNat)
  case atStart => exact ⟨0, by omega, rfl, HS.out⟩
  case round =>
    obtain ⟨k, hk, rfl, hS⟩ := hrel
    have HR : Hid (FillS w b o n k wr) := hS
    clear hS HS
    by_cases h4 : k < n
    · have HX : Hid (∀ W, W = wr → Calls Tryz.prog 136 #[.pointer (some ⟨b, o, none⟩), .int .i64 ((k : Int) + 1)] W fun e w' => e = .returned (.tuple #[]) ∧ Hid (FillS w b o n (k + 1) w')) := by
        rintro W rfl
        refine (put_any b o w.heap.size n 0 k k ((k : Int) + 1) 0 W HR.out.que hn (by omega) hz (by rw [Nat.zero_add, Nat.mod_eq_of_lt h4]) (HR.out.high k (Nat.le_refl _) h4) (HR.out.free k) ((HR.out.thaw ⟨b, o + 4, none⟩ hb).trans z2) (by omega)).mono ?_
        rintro e w' ⟨rfl, rfl⟩
        exact ⟨rfl, HR.out.put h4 hb⟩
      go_wp2_with fail
      refine (HX.out _ rfl).mono ?_
      rintro e w' ⟨rfl, HR2⟩
      clear HX HR
      go_wp2
      go_roundw
      case rel => exact ⟨k + 1, by omega, by go_num, HR2.out⟩
      case measure => simp [intOf]; omega
    · have e4 : k = n := by omega
      subst e4
      go_wp2
      exact ⟨rfl, .tuple #[], by simp [results, Tryz.results103], rfl, HR.out⟩
end Go.Proofs.YtdpebhdjcgiboaaGreat
