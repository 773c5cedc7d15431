import Derived.Test.YtljdjaapocmppaaGreatDoorRdNilF
import Derived.Carry
import Derived.Deep.QuietTactic
import Derived.BigQuiet
namespace Go.Proofs.YtljdjaapocmppaaGreatDoor
open Go.ChangeShapes Go.WideShapes Go.ChangeAt Go.RowKit
set_option linter.unusedVariables false
set_option maxRecDepth 100000
theorem SeesN.mono {w : World} {B B' : Nat} {ao : Option Addr} {vs : List Int} (h : SeesN w B ao vs) (hb : B ≤ B') : SeesN w B' ao vs := fun i hi => by
  obtain ⟨b, off, e, hbB, c0⟩ := h i hi
  exact ⟨b, off, e, by omega, c0⟩
theorem newDev_any (w : World) : Calls Tryz.prog 23 #[.int .i64 1] w fun e w' => ∃ g, e = .returned (.tuple #[.pointer (some ⟨g, 0, none⟩), .int .i64 0]) ∧ Below w.heap.size w w' := by
  have hmm := @run_makeMap Tryz.prog
  go_enter Tryz.func23, Tryz.ntmps23
  go_wp2
  go_ret2
  exact ⟨_, rfl, bel3 _ _ _ _⟩
theorem heap_new2 (w : World) (a b : Obj) : ((w.alloc a).alloc b).heap[w.heap.size + 1]? = some b := by
  have := heap_alloc_new (w.alloc a) b
  rw [sizeA] at this
  exact this
theorem infoTail : (Tryz.prog.info? 68).map (·.size) = some 4 := by kernel_rfl
theorem results_tct {P : Program} {fn : Func} {p q r : Tmp} {ty : TypeId} (h : fn.results = #[.tmp p, .cell q ty, .tmp r]) (tmps : Array Value) (w : World) (g : Nat) (t : TypeId) (cs : Array Value) (fr : Nat × Nat) (d : TypeDesc)
    (hp : tmps.getD q undef = .pointer (some ⟨g, 0, none⟩)) (hg : w.heap[g]? = some (.cells cs t fr))
    (hu : P.underlying ty = some d) (hd : (match d with | .struct _ | .array _ _ => true | _ => false) = true) (hi : (P.info? ty).map (·.size) = some cs.size) :
    (results fn tmps).run P w = .ok (.tuple #[tmps.getD p undef, .agg cs, tmps.getD r undef]) w := by
  have hp' : tmps[q]?.getD undef = .pointer (some ⟨g, 0, none⟩) := by simpa using hp
  simp [results, h, hp', asAddr, run_loadVar_row w g t ty cs fr d hg hu hd hi]
theorem openN (a b : Int) (c : Int) (w : World) : Calls Tryz.prog 24 #[.pointer none, .agg #[.int .i64 a, .int .i64 b, .int .u64 c]] w fun e w' => e = .returned (.tuple #[.pointer none, .agg #[.int .i64 0, .int .i64 0, .int .i64 0, .int .u64 0], .int .i64 1]) ∧ Below w.heap.size w w' := by
  go_enter Tryz.func24, Tryz.ntmps24
  go_wp2_with fail
  refine (missD _ _ (.inl rfl)).mono ?_
  rintro e w1 ⟨rfl, rfl⟩
  go_wp2
  exact bodyPost_ret (results_tct (p := 4) (q := 5) (r := 6) rfl _ _ (w.heap.size + 1) 68 #[.int .i64 0, .int .i64 0, .int .i64 0, .int .u64 0] (0, 0) _ (by rfl) (heap_new2 _ _ _) Tryz.underlying68 rfl infoTail) rfl ⟨rfl, bel2 _ _ _⟩
abbrev redC : Obj := .cells #[.slice none 0 0, .slice none 0 0, .int .i64 0, .int .i64 0, .int .i64 0, .int .u64 1, .int .u64 0, .slice none 0 0] 118
theorem replayN (w : World) : Calls Tryz.prog 68 #[.pointer none] w fun e w' => e = .returned (.pointer (some ⟨w.heap.size, 0, none⟩)) ∧ w' = w.alloc redC := by
  go_enter Tryz.func68, Tryz.ntmps68
  go_wp2_with fail
  refine (missD _ _ (.inl rfl)).mono ?_
  rintro e w1 ⟨rfl, rfl⟩
  go_wp2
  go_ret
  exact ⟨rfl, rfl⟩
theorem results_ttc {P : Program} {fn : Func} {p q r : Tmp} {ty : TypeId} (h : fn.results = #[.tmp p, .tmp q, .cell r ty]) (tmps : Array Value) (w : World) (g : Nat) (t : TypeId) (cs : Array Value) (fr : Nat × Nat) (d : TypeDesc)
    (hp : tmps.getD r undef = .pointer (some ⟨g, 0, none⟩)) (hg : w.heap[g]? = some (.cells cs t fr))
    (hu : P.underlying ty = some d) (hd : (match d with | .struct _ | .array _ _ => true | _ => false) = true) (hi : (P.info? ty).map (·.size) = some cs.size) :
    (results fn tmps).run P w = .ok (.tuple #[tmps.getD p undef, tmps.getD q undef, .agg cs]) w := by
  have hp' : tmps[r]?.getD undef = .pointer (some ⟨g, 0, none⟩) := by simpa using hp
  simp [results, h, hp', asAddr, run_loadVar_row w g t ty cs fr d hg hu hd hi]
theorem setCellR {w : World} {b j : Nat} {c : Array Value} {t : TypeId} {fz : Nat × Nat} (v : Value) (h : w.heap[b]? = some (.cells c t fz)) : (w.setCell ⟨b, j, none⟩ v).heap[b]? = some (.cells (c.setIfInBounds j v) t fz) := by
  have hb : b < w.heap.size := (Array.getElem?_eq_some_iff.1 h).1
  have he := (Array.getElem?_eq_some_iff.1 h).2
  show (w.heap.modify b _)[b]? = _
  rw [Array.getElem?_modify]
  simp [he, hb]
set_option maxHeartbeats 1600000 in
theorem replayAll (w : World) : Calls Tryz.prog 25 #[.pointer none] w fun e w' => e = .returned (.tuple #[.slice none 0 0, .slice none 0 0, .agg #[.int .i64 0, .int .i64 0, .int .i64 0, .int .u64 1]]) ∧ Below w.heap.size w w' := by
  go_enter Tryz.func25, Tryz.ntmps25
  go_wp2_with fail
  refine (replayN _).mono ?_
  rintro e w1 ⟨rfl, rfl⟩
  go_wp2_with fail
  have h0 : ((w.alloc (.cells #[.int .i64 0, .int .i64 0, .int .i64 0, .int .u64 0] 68)).alloc redC).heap[w.heap.size]? = some (.cells #[.int .i64 0, .int .i64 0, .int .i64 0, .int .u64 0] 68 (0, 0)) := (Below.heap_alloc _ _ _ (by simp)).trans (heap_alloc_new _ _)
  have h1 := heap_new2 w (.cells #[.int .i64 0, .int .i64 0, .int .i64 0, .int .u64 0] 68) redC
  have HB : Hid (Below w.heap.size w ((w.alloc (.cells #[.int .i64 0, .int .i64 0, .int .i64 0, .int .u64 0] 68)).alloc redC)) := bel2 _ _ _
  have H0 : Hid _ := h0
  have d0 : ((w.alloc (.cells #[.int .i64 0, .int .i64 0, .int .i64 0, .int .u64 0] 68)).alloc redC).cell? ⟨w.heap.size, 0, none⟩ = some (.int .i64 0) := (cellH h0 0).trans rfl
  have d1 : ((w.alloc (.cells #[.int .i64 0, .int .i64 0, .int .i64 0, .int .u64 0] 68)).alloc redC).cell? ⟨w.heap.size, 1, none⟩ = some (.int .i64 0) := (cellH h0 1).trans rfl
  have d2 : ((w.alloc (.cells #[.int .i64 0, .int .i64 0, .int .i64 0, .int .u64 0] 68)).alloc redC).cell? ⟨w.heap.size, 2, none⟩ = some (.int .i64 0) := (cellH h0 2).trans rfl
  have d3 : ((w.alloc (.cells #[.int .i64 0, .int .i64 0, .int .i64 0, .int .u64 0] 68)).alloc redC).cell? ⟨w.heap.size, 3, none⟩ = some (.int .u64 0) := (cellH h0 3).trans rfl
  have z0 := frozH h0 0
  have z1 := frozH h0 1
  have z2 := frozH h0 2
  have z3 := frozH h0 3
  have c0 : ((w.alloc (.cells #[.int .i64 0, .int .i64 0, .int .i64 0, .int .u64 0] 68)).alloc redC).cell? ⟨w.heap.size + 1, 0, none⟩ = some (.slice none 0 0) := (cellH h1 0).trans rfl
  have c1 : ((w.alloc (.cells #[.int .i64 0, .int .i64 0, .int .i64 0, .int .u64 0] 68)).alloc redC).cell? ⟨w.heap.size + 1, 1, none⟩ = some (.slice none 0 0) := (cellH h1 1).trans rfl
  have c2 : ((w.alloc (.cells #[.int .i64 0, .int .i64 0, .int .i64 0, .int .u64 0] 68)).alloc redC).cell? ⟨w.heap.size + 1, 2, none⟩ = some (.int .i64 0) := (cellH h1 2).trans rfl
  have c3 : ((w.alloc (.cells #[.int .i64 0, .int .i64 0, .int .i64 0, .int .u64 0] 68)).alloc redC).cell? ⟨w.heap.size + 1, 3, none⟩ = some (.int .i64 0) := (cellH h1 3).trans rfl
  have c4 : ((w.alloc (.cells #[.int .i64 0, .int .i64 0, .int .i64 0, .int .u64 0] 68)).alloc redC).cell? ⟨w.heap.size + 1, 4, none⟩ = some (.int .i64 0) := (cellH h1 4).trans rfl
  have c5 : ((w.alloc (.cells #[.int .i64 0, .int .i64 0, .int .i64 0, .int .u64 0] 68)).alloc redC).cell? ⟨w.heap.size + 1, 5, none⟩ = some (.int .u64 1) := (cellH h1 5).trans rfl
  clear h0 h1
  generalize (w.alloc (.cells #[.int .i64 0, .int .i64 0, .int .i64 0, .int .u64 0] 68)).alloc redC = W at *
  generalize hn : w.heap.size = n at *
  go_region_held3 (fun W' => W'.cell? ⟨n + 1, 0, none⟩ = some (.slice none 0 0) ∧ W'.cell? ⟨n + 1, 1, none⟩ = some (.slice none 0 0) ∧ W'.cell? ⟨n + 1, 2, none⟩ = some (.int .i64 0) ∧ W'.cell? ⟨n + 1, 3, none⟩ = some (.int .i64 0) ∧ W'.cell? ⟨n + 1, 4, none⟩ = some (.int .i64 0) ∧ W'.cell? ⟨n + 1, 5, none⟩ = some (.int .u64 1)) (go_keep) (fail)
  go_wp2
  exact bodyPost_ret (results_ttc (p := 2) (q := 3) (r := 4) rfl _ _ n 68 #[.int .i64 0, .int .i64 0, .int .i64 0, .int .u64 1] (0, 0) _ (by rfl) (setCellR _ (setCellR _ (setCellR _ (setCellR _ H0.out)))) Tryz.underlying68 rfl infoTail) rfl ⟨rfl, hn ▸ ((((HB.out.setCell (p := ⟨n, 0, none⟩) (Nat.le_refl _) _).setCell (p := ⟨n, 1, none⟩) (Nat.le_refl _) _).setCell (p := ⟨n, 2, none⟩) (Nat.le_refl _) _).setCell (p := ⟨n, 3, none⟩) (Nat.le_refl _) _).drew⟩
theorem eqT0 (w : World) : (Op.equalIn 10000 68 (.agg #[.int .i64 0, .int .i64 0, .int .i64 0, .int .u64 0]) (.agg #[.int .i64 0, .int .i64 0, .int .i64 0, .int .u64 0])).run Tryz.prog w = .ok true w := by kernel_rfl
theorem eqT1 (w : World) : (Op.equalIn 10000 68 (.agg #[.int .i64 0, .int .i64 0, .int .i64 0, .int .u64 1]) (.agg #[.int .i64 0, .int .i64 0, .int .i64 0, .int .u64 1])).run Tryz.prog w = .ok true w := by kernel_rfl
theorem guardT : Tryz.prog.eqGuardType Tryz.prog.depth 68 = false := by kernel_rfl
/-- A tail in a block of its own. -/
def Tl (W : World) (g : Nat) (x : Int) : Prop := W.heap[g]? = some (.cells #[.int .i64 0, .int .i64 0, .int .i64 0, .int .u64 x] 68 (0, 0))
theorem Tl.new (w : World) (x : Int) : Tl (w.alloc (.cells #[.int .i64 0, .int .i64 0, .int .i64 0, .int .u64 x] 68)) w.heap.size x := heap_alloc_new _ _
theorem Tl.lt {W : World} {g : Nat} {x : Int} (h : Tl W g x) : g < W.heap.size := (Array.getElem?_eq_some_iff.1 h).1
theorem Tl.step {W W' : World} {g : Nat} {x : Int} (h : Tl W g x) (hb : Below W.heap.size W W') : Tl W' g x := (hb.block g h.lt).trans h
theorem Tl.c {W : World} {g : Nat} {x : Int} (h : Tl W g x) : W.cell? ⟨g, 0, none⟩ = some (.int .i64 0) ∧ W.cell? ⟨g, 1, none⟩ = some (.int .i64 0) ∧ W.cell? ⟨g, 2, none⟩ = some (.int .i64 0) ∧ W.cell? ⟨g, 3, none⟩ = some (.int .u64 x) := ⟨(cellH h 0).trans rfl, (cellH h 1).trans rfl, (cellH h 2).trans rfl, (cellH h 3).trans rfl⟩
end Go.Proofs.YtljdjaapocmppaaGreatDoor
