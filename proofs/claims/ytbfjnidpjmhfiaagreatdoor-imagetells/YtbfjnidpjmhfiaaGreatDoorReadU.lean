import Derived.Test.YtbfjnidpjmhfiaaGreatDoorReader
import Derived.Defers
import Derived.Recover
import Derived.Laws.Pointers
namespace Go.Proofs.YtbfjnidpjmhfiaaGreatDoor
open Go.ChangeShapes Go.WideShapes Go.ChangeAt Go.RowKit
set_option linter.unusedVariables false

theorem assert_errno (c : Int) (w : World) : (Instr.typeAssert (.iface 37 (.int .i64 c)) 20 37 false).run Tryz.prog w = .ok (.int .i64 c) w := by kernel_rfl

set_option maxRecDepth 100000 in
set_option maxHeartbeats 800000 in
theorem catchU (c a : Int) (bA bV bN bE : Nat) (x y z : Value) (older : List PanicEntry) (w : World)
    (hA : w.cell? ⟨bA, 0, none⟩ = some (.int .i64 a)) (hV : w.cell? ⟨bV, 0, none⟩ = some x) (hN : w.cell? ⟨bN, 0, none⟩ = some y) (hE : w.cell? ⟨bE, 0, none⟩ = some z)
    (fV : w.frozen? ⟨bV, 0, none⟩ = false) (fN : w.frozen? ⟨bN, 0, none⟩ = false) (fE : w.frozen? ⟨bE, 0, none⟩ = false)
    (n4 : bV ≠ bN) (n5 : bV ≠ bE) (n6 : bN ≠ bE) :
    CallsD Tryz.prog 105 #[.pointer (some ⟨bA, 0, none⟩), .pointer (some ⟨bV, 0, none⟩), .pointer (some ⟨bN, 0, none⟩), .pointer (some ⟨bE, 0, none⟩)] (.panicking ({ v := .iface 37 (.int .i64 c), recovered := false } :: older)) w fun e u' w' =>
      e = .returned (.tuple #[]) ∧ u' = .panicking ({ v := .iface 37 (.int .i64 c), recovered := true } :: older) ∧ w'.cell? ⟨bV, 0, none⟩ = some (.int .u64 0) ∧ w'.cell? ⟨bN, 0, none⟩ = some (.int .i64 a) ∧ w'.cell? ⟨bE, 0, none⟩ = some (.int .i64 c) ∧ (∀ B, B ≤ bV → B ≤ bN → B ≤ bE → Below B w w') := by
  refine callsD_of_wpS Tryz.func105 rfl fun c₀ cs hu => ?_
  apply wpS_seq
  apply wpS_region
  simp [wpOpsS, go_sem, recoverD, hu, Tryz.ntmps105, Exit.thenS]
  refine wpS_of_wp ?_
  simp only [Array.replicate, List.replicate, List.setIfInBounds_toArray, List.set_cons_zero, List.set_cons_succ, List.append_toArray, List.cons_append, List.nil_append]
  go_wp2
  have hta := assert_errno
  go_region
  change bodyPostS _ _ _ _ _ _ _ _ _
  refine ⟨rfl, _, rfl, _, results_none rfl _ _ _, rfl, rfl, ?_, ?_, ?_, ?_⟩
  · simp [go_sem, hV]
  · simp [go_sem, hN]
  · simp [go_sem, hE]
  · intro B h1 h2 h3
    exact (((Below.refl _ _).setCell h1 _).setCell h2 _).setCell h3 _ |>.drew
theorem idleU (pA pV pN pE : Addr) (w : World) :
    CallsD Tryz.prog 105 #[.pointer (some pA), .pointer (some pV), .pointer (some pN), .pointer (some pE)] .returning w fun e u' w' => e = .returned (.tuple #[]) ∧ u' = .returning ∧ w' = w := by
  refine callsD_of_wpS Tryz.func105 rfl fun c₀ cs hu => ?_
  apply wpS_seq
  apply wpS_region
  simp [wpOpsS, go_sem, recoverD, hu, Tryz.ntmps105, Exit.thenS]
  refine wpS_of_wp ?_
  simp only [Array.replicate, List.replicate, List.setIfInBounds_toArray, List.set_cons_zero, List.set_cons_succ, List.append_toArray, List.cons_append, List.nil_append]
  go_wp2
  change bodyPostS _ _ _ _ _ _ _ _ _
  cases c₀
  simp only at hu
  subst hu
  exact ⟨rfl, _, rfl, _, results_none rfl _ _ _, rfl, rfl, rfl⟩

theorem rd_new (W : World) (s : ByteArray) (p R : Nat) (hR : R = W.heap.size) : Rd (W.alloc (.cells #[.string s, .int .i64 p] 156)) R s p := by
  subst hR; exact heap_alloc_new W _
theorem five_size (w : World) (a b c d e : Obj) : (((((w.alloc a).alloc b).alloc c).alloc d).alloc e).heap.size = w.heap.size + 5 := by simp
theorem Below.of_five {w w1 : World} {a b c d e : Obj} (h : Below (w.heap.size + 1 + 1 + 1 + 1) (((((w.alloc a).alloc b).alloc c).alloc d).alloc e) w1) : Below w.heap.size w w1 :=
  ((((((Below.refl w.heap.size w).alloc (Nat.le_refl _) a).alloc (by simp) b).alloc (by simp; omega) c).alloc (by simp; omega) d).alloc (by simp; omega) e).trans (h.mono (by omega))

set_option maxRecDepth 100000 in
set_option maxHeartbeats 1600000 in
theorem readU_core (s : ByteArray) (p : Nat) (w : World) (v : Int) (n : Nat) (c : Int) (hp : p ≤ s.size) (hs : s.size ≤ 1125899906842624) (HT : Hid (∀ R w, Rd w R s p → Calls Tryz.prog 96 #[.pointer (some ⟨R, 0, none⟩)] w (Took R s p w (.int .u64 v) n c))) :
    Calls Tryz.prog 95 #[.string s, .int .i64 p, .func (.func 96) #[] #[]] w fun e w' => ((c = 0 → e = .returned (.tuple #[.int .u64 v, .int .i64 ((p : Int) + n), .int .i64 0])) ∧ (c ≠ 0 → e = .returned (.tuple #[.int .u64 0, .int .i64 p, .int .i64 c]))) ∧ Below w.heap.size w w' := by
  have hmf : ∀ (fn : Fn) (first cap : Array Value) (w : World), (Instr.makeFunc fn first cap).run Tryz.prog w = .ok (.func fn first cap) w := fun _ _ _ _ => rfl
  go_enter_defers Tryz.func95, Tryz.ntmps95
  go_wp2_with fail
  refine (HT.out (w.heap.size + 1 + 1 + 1 + 1) _ (rd_new _ _ _ _ (by simp))).mono ?_
  rintro e w1 ⟨hb, hto⟩
  have cA : w1.cell? ⟨w.heap.size, 0, none⟩ = some (.int .i64 p) := by rw [hb.cell (by simp <;> omega)]; simp [go_sem]
  have cV : w1.cell? ⟨w.heap.size + 1, 0, none⟩ = some (.int .u64 0) := by rw [hb.cell (by simp <;> omega)]; simp [go_sem]
  have cN : w1.cell? ⟨w.heap.size + 1 + 1, 0, none⟩ = some (.int .i64 0) := by rw [hb.cell (by simp <;> omega)]; simp [go_sem]
  have cE : w1.cell? ⟨w.heap.size + 1 + 1 + 1, 0, none⟩ = some (.int .i64 0) := by rw [hb.cell (by simp)]; simp [go_sem]
  have fV : w1.frozen? ⟨w.heap.size + 1, 0, none⟩ = false := by rw [hb.frozen (by simp <;> omega)]; simp [go_sem]
  have fN : w1.frozen? ⟨w.heap.size + 1 + 1, 0, none⟩ = false := by rw [hb.frozen (by simp <;> omega)]; simp [go_sem]
  have fE : w1.frozen? ⟨w.heap.size + 1 + 1 + 1, 0, none⟩ = false := by rw [hb.frozen (by simp)]; simp [go_sem]
  have HB : Hid (Below w.heap.size w w1) := Below.of_five hb.toBelow
  clear hb
  rcases hto with ⟨rfl, rfl, hr⟩ | ⟨hc, rfl⟩
  · have c1 := hr.cell1
    clear hr
    go_wp2
    go_region
    go_wp2
    refine leaves_cons (f := 105) (args := #[.pointer (some ⟨w.heap.size, 0, none⟩), .pointer (some ⟨w.heap.size + 1, 0, none⟩), .pointer (some ⟨w.heap.size + 1 + 1, 0, none⟩), .pointer (some ⟨w.heap.size + 1 + 1 + 1, 0, none⟩)]) (by simp) (by simp [go_sem]) ?_
    refine (idleU _ _ _ _ _).mono ?_
    rintro e u' w2 ⟨rfl, rfl, rfl⟩
    refine ⟨.tuple #[.int .u64 v, .int .i64 ((p : Int) + n), .int .i64 0], by simp [results, Tryz.results95, go_sem, cV, cN, cE], ?_, ?_⟩
    · rfl
    · exact ((((HB.out.setCell (by simp) _).setCell (by simp) _).setCell (by simp; omega) _).setCell (by simp; omega) _).drew
  · refine leaves_cons (f := 105) (args := #[.pointer (some ⟨w.heap.size, 0, none⟩), .pointer (some ⟨w.heap.size + 1, 0, none⟩), .pointer (some ⟨w.heap.size + 1 + 1, 0, none⟩), .pointer (some ⟨w.heap.size + 1 + 1 + 1, 0, none⟩)]) (by simp) (by simp [go_sem]) ?_
    refine (catchU c p _ _ _ _ _ _ _ [] _ cA cV cN cE fV fN fE (by omega) (by omega) (by omega)).mono ?_
    rintro e u' w2 ⟨rfl, rfl, dV, dN, dE, hb2⟩
    refine ⟨.tuple #[.int .u64 0, .int .i64 p, .int .i64 c], by simp [results, Tryz.results95, go_sem, dV, dN, dE], ?_, ?_⟩
    · exact ⟨fun h => absurd h hc, fun _ => rfl⟩
    · exact HB.out.trans (hb2 _ (by omega) (by omega) (by omega))

set_option maxRecDepth 100000 in
set_option maxHeartbeats 1600000 in
theorem readU_out (s : ByteArray) (p : Int) (w : World) (hp : p < 0 ∨ (s.size : Int) < p) (h0 : -9223372036854775808 ≤ p) (h1 : p ≤ 9223372036854775807) (hs : s.size ≤ 1125899906842624) :
    Calls Tryz.prog 95 #[.string s, .int .i64 p, .func (.func 96) #[] #[]] w fun e w' => e = .returned (.tuple #[.int .u64 0, .int .i64 p, .int .i64 10]) ∧ Below w.heap.size w w' := by
  have hmf : ∀ (fn : Fn) (first cap : Array Value) (w : World), (Instr.makeFunc fn first cap).run Tryz.prog w = .ok (.func fn first cap) w := fun _ _ _ _ => rfl
  rcases hp with hp | hp
  all_goals
    go_enter_defers Tryz.func95, Tryz.ntmps95
    go_wp2
    refine leaves_cons (f := 105) (args := #[.pointer (some ⟨w.heap.size, 0, none⟩), .pointer (some ⟨w.heap.size + 1, 0, none⟩), .pointer (some ⟨w.heap.size + 1 + 1, 0, none⟩), .pointer (some ⟨w.heap.size + 1 + 1 + 1, 0, none⟩)]) (by simp) (by simp [go_sem]) ?_
    refine (catchU 10 p _ _ _ _ (.int .u64 0) (.int .i64 0) (.int .i64 0) [] _ (by simp [go_sem]) (by simp [go_sem]) (by simp [go_sem]) (by simp [go_sem]) (by simp [go_sem]) (by simp [go_sem]) (by simp [go_sem]) (by omega) (by omega) (by omega)).mono ?_
    rintro e u' w2 ⟨rfl, rfl, dV, dN, dE, hb2⟩
    refine ⟨.tuple #[.int .u64 0, .int .i64 p, .int .i64 10], by simp [results, Tryz.results95, go_sem, dV, dN, dE], rfl, ?_⟩
    exact ((((((Below.refl _ _).alloc (Nat.le_refl _) _).alloc (by simp) _).alloc (by simp; omega) _).alloc (by simp; omega) _).trans (hb2 _ (by omega) (by omega) (by omega)))
end Go.Proofs.YtbfjnidpjmhfiaaGreatDoor
