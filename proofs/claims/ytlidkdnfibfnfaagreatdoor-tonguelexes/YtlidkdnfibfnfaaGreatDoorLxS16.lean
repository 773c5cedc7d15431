import Derived.Test.YtlidkdnfibfnfaaGreatDoorLxS15
import Derived.Defers
import Derived.Recover
import Derived.Laws.Pointers
namespace Go.Proofs.YtlidkdnfibfnfaaGreatDoor
open Go.ChangeShapes Go.WideShapes Go.ChangeAt Go.RowKit
set_option linter.unusedVariables false
set_option maxRecDepth 100000
theorem assert_flt (c p : Int) (w : World) : (Instr.typeAssert (.iface 40 (.agg #[.int .i64 c, .int .i64 p])) 20 40 true).run Tryz.prog w = .ok (.tuple #[.agg #[.int .i64 c, .int .i64 p], .bool true]) w := by kernel_rfl
set_option maxHeartbeats 1600000 in
theorem catchTk (c p : Int) (bE bA : Nat) (x y : Value) (older : List PanicEntry) (w : World)
    (hE : w.cell? ⟨bE, 0, none⟩ = some x) (fE : w.frozen? ⟨bE, 0, none⟩ = false) (hA : w.cell? ⟨bA, 0, none⟩ = some y) (fA : w.frozen? ⟨bA, 0, none⟩ = false) (n5 : bE ≠ bA) :
    CallsD Tryz.prog 12 #[.pointer (some ⟨bE, 0, none⟩), .pointer (some ⟨bA, 0, none⟩)] (.panicking ({ v := .iface 40 (.agg #[.int .i64 c, .int .i64 p]), recovered := false } :: older)) w fun e u' w' =>
      e = .returned (.tuple #[]) ∧ u' = .panicking ({ v := .iface 40 (.agg #[.int .i64 c, .int .i64 p]), recovered := true } :: older) ∧ w'.cell? ⟨bE, 0, none⟩ = some (.int .i64 c) ∧ w'.cell? ⟨bA, 0, none⟩ = some (.int .i64 p) ∧ (∀ B, B ≤ bE → B ≤ bA → B ≤ w.heap.size → Below B w w') := by
  have hta := assert_flt c p
  have lE : bE < w.heap.size := World.block_lt_of_cell? _ _ hE
  have lA : bA < w.heap.size := World.block_lt_of_cell? _ _ hA
  have hE1 : (w.alloc (.cells #[.int .i64 c, .int .i64 p] 40)).cell? ⟨bE, 0, none⟩ = some x := (World.cell?_alloc_past _ _ _ lE).trans hE
  have hA1 : (w.alloc (.cells #[.int .i64 c, .int .i64 p] 40)).cell? ⟨bA, 0, none⟩ = some y := (World.cell?_alloc_past _ _ _ lA).trans hA
  have fE1 : (w.alloc (.cells #[.int .i64 c, .int .i64 p] 40)).frozen? ⟨bE, 0, none⟩ = false := (World.frozen?_alloc_past _ _ _ lE).trans fE
  have fA1 : (w.alloc (.cells #[.int .i64 c, .int .i64 p] 40)).frozen? ⟨bA, 0, none⟩ = false := (World.frozen?_alloc_past _ _ _ lA).trans fA
  have g0 : (w.alloc (.cells #[.int .i64 c, .int .i64 p] 40)).cell? ⟨w.heap.size, 0, none⟩ = some (.int .i64 c) := by unfold World.cell?; rw [heap_alloc_new]; rfl
  have g1 : (w.alloc (.cells #[.int .i64 c, .int .i64 p] 40)).cell? ⟨w.heap.size, 1, none⟩ = some (.int .i64 p) := by unfold World.cell?; rw [heap_alloc_new]; rfl
  have HBA : Hid (∀ B, B ≤ w.heap.size → Below B w (w.alloc (.cells #[.int .i64 c, .int .i64 p] 40))) := fun B hB => (Below.refl _ _).alloc hB _
  have nE : w.heap.size ≠ bE := by omega
  refine callsD_of_wpS Tryz.func12 rfl fun c₀ cs hu => ?_
  apply wpS_seq
  apply wpS_region
  simp [wpOpsS, go_sem, recoverD, hu, Tryz.ntmps12, Exit.thenS]
  refine wpS_of_wp ?_
  simp only [Array.replicate, List.replicate, List.setIfInBounds_toArray, List.set_cons_zero, List.set_cons_succ, List.append_toArray, List.cons_append, List.nil_append]
  go_wp2_with fail
  generalize w.alloc (.cells #[.int .i64 c, .int .i64 p] 40) = W1 at *
  go_region
  go_wp2
  change bodyPostS _ _ _ _ _ _ _ _ _
  refine ⟨rfl, _, rfl, _, results_none rfl _ _ _, rfl, rfl, ?_, ?_, ?_⟩
  · show ((W1.setCell ⟨bE, 0, none⟩ (.int .i64 c)).setCell ⟨bA, 0, none⟩ (.int .i64 p)).cell? ⟨bE, 0, none⟩ = _
    rw [World.cell?_setCell_other _ _ _ _ (fun e => n5 (by have := congrArg Addr.block e; simp only at this; omega))]
    exact World.cell?_setCell_same _ _ _ hE1
  · show ((W1.setCell ⟨bE, 0, none⟩ (.int .i64 c)).setCell ⟨bA, 0, none⟩ (.int .i64 p)).cell? ⟨bA, 0, none⟩ = _
    exact World.cell?_setCell_same _ _ _ ((World.cell?_setCell_other _ _ _ _ (fun e => n5 (by have := congrArg Addr.block e; simp only at this; omega))).trans hA1)
  · intro B h1 h3 h4
    exact (((HBA.out B h4).setCell (p := ⟨bE, 0, none⟩) h1 _).setCell (p := ⟨bA, 0, none⟩) h3 _).drew
theorem idleTk (pA pV : Addr) (w : World) :
    CallsD Tryz.prog 12 #[.pointer (some pA), .pointer (some pV)] .returning w fun e u' w' => e = .returned (.tuple #[]) ∧ u' = .returning ∧ w' = w := by
  refine callsD_of_wpS Tryz.func12 rfl fun c₀ cs hu => ?_
  apply wpS_seq
  apply wpS_region
  simp [wpOpsS, go_sem, recoverD, hu, Tryz.ntmps12, Exit.thenS]
  refine wpS_of_wp ?_
  simp only [Array.replicate, List.replicate, List.setIfInBounds_toArray, List.set_cons_zero, List.set_cons_succ, List.append_toArray, List.cons_append, List.nil_append]
  go_wp2
  change bodyPostS _ _ _ _ _ _ _ _ _
  cases c₀
  simp only at hu
  subst hu
  exact ⟨rfl, _, rfl, _, results_none rfl _ _ _, rfl, rfl, rfl⟩
theorem lex1T (s : ByteArray) (b : Nat) (w : World) (hb : w.cell? ⟨b, 0, none⟩ = some (.string s)) (hz : s.size ≤ 140737488355328) (hg : GX w) :
    Calls Tryz.prog 8 #[.pointer (some ⟨b, 0, none⟩)] w fun e w' => TksR w.heap.size (lexA s) e w' ∧ Below w.heap.size w w' := by
  have HT : Hid (∀ _ : Unit, _) := fun _ => tokensOfT s w hz hg
  clear hg
  go_enter Tryz.func8, Tryz.ntmps8
  go_wp2_with fail
  refine (HT.out ()).mono ?_
  rintro e w1 ⟨htr, hb1⟩
  have HB : Hid (Below w.heap.size w w1) := hb1
  clear hb1 HT
  unfold TksR at htr
  rcases hl : lexA s with ⟨er, p⟩ | ts
  · rw [hl] at htr
    dsimp only at htr
    subst htr
    have HL : Hid (lexA s = .error (er, p)) := hl
    clear hl
    unfold gaveUp
    go_wp2
    exact ⟨rfl, by unfold TksR; rw [HL.out]; rfl, HB.out⟩
  · rw [hl] at htr
    obtain ⟨v, rfl, ho⟩ := htr
    have HO : Hid (ownT w1 w.heap.size v ts) := ho
    have HL : Hid (lexA s = .ok ts) := hl
    clear hl ho
    go_wp2
    go_ret
    exact ⟨by unfold TksR; rw [HL.out]; exact ⟨_, rfl, HO.out⟩, HB.out⟩
theorem results_tcc {fn : Func} {p q r : Tmp} (h : fn.results = #[.tmp p, .cell q 23, .cell r 3]) (tmps : Array Value) (w : World) (c d : Int) (g k : Nat) (hq : tmps.getD q undef = .pointer (some ⟨g, 0, none⟩)) (hr : tmps.getD r undef = .pointer (some ⟨k, 0, none⟩)) (cq : w.cell? ⟨g, 0, none⟩ = some (.int .i64 c)) (cr : w.cell? ⟨k, 0, none⟩ = some (.int .i64 d)) :
    (results fn tmps).run Tryz.prog w = .ok (.tuple #[tmps.getD p undef, .int .i64 c, .int .i64 d]) w := by
  have hq' : tmps[q]?.getD undef = .pointer (some ⟨g, 0, none⟩) := by simpa using hq
  have hr' : tmps[r]?.getD undef = .pointer (some ⟨k, 0, none⟩) := by simpa using hr
  simp [results, h, hq', hr', asAddr, go_sem, cq, cr]
set_option maxHeartbeats 1600000 in
theorem caughtT (s : ByteArray) (b : Nat) (w : World) (hb : w.cell? ⟨b, 0, none⟩ = some (.string s)) (hz : s.size ≤ 140737488355328) (hg : GX w) :
    Calls Tryz.prog 7 #[.func (.func 8) #[] #[.pointer (some ⟨b, 0, none⟩)]] w fun e w' => LexR w.heap.size (lexA s) e w' ∧ Below w.heap.size w w' := by
  have hmf : ∀ (fn : Fn) (first cap : Array Value) (w : World), (Instr.makeFunc fn first cap).run Tryz.prog w = .ok (.func fn first cap) w := fun _ _ _ _ => rfl
  have lb : b < w.heap.size := World.block_lt_of_cell? _ _ hb
  have HBw : Hid (Below w.heap.size w ((w.alloc (.cells #[.int .i64 0] 23)).alloc (.cells #[.int .i64 0] 3))) := ((Below.refl _ _).alloc (Nat.le_refl _) _).alloc (by rw [sizeAl]; omega) _
  have HE : Hid (((w.alloc (.cells #[.int .i64 0] 23)).alloc (.cells #[.int .i64 0] 3)).heap[w.heap.size]? = some (.cells #[.int .i64 0] 23)) := (Below.heap_alloc _ _ _ (by rw [sizeAl]; omega)).trans (heap_alloc_new _ _)
  have HA : Hid (((w.alloc (.cells #[.int .i64 0] 23)).alloc (.cells #[.int .i64 0] 3)).heap[w.heap.size + 1]? = some (.cells #[.int .i64 0] 3)) := by
    have := heap_alloc_new (w.alloc (.cells #[.int .i64 0] 23)) (.cells #[.int .i64 0] 3)
    rw [sizeAl] at this
    exact this
  have hsz : ((w.alloc (.cells #[.int .i64 0] 23)).alloc (.cells #[.int .i64 0] 3)).heap.size = w.heap.size + 2 := by rw [sizeAl, sizeAl]
  have HT : Hid (∀ _ : Unit, _) := fun _ => lex1T s b ((w.alloc (.cells #[.int .i64 0] 23)).alloc (.cells #[.int .i64 0] 3)) ((HBw.out.cell lb).trans hb) hz (hg.next HBw.out)
  clear hg hb
  go_enter_defers Tryz.func7, Tryz.ntmps7
  go_wp2_with fail
  generalize (w.alloc (.cells #[.int .i64 0] 23)).alloc (.cells #[.int .i64 0] 3) = W2 at *
  refine (HT.out ()).mono ?_
  rintro e w3 ⟨htr, hb3⟩
  have hE3 : w3.heap[w.heap.size]? = some (.cells #[.int .i64 0] 23) := (hb3.block _ (by omega)).trans HE.out
  have hA3 : w3.heap[w.heap.size + 1]? = some (.cells #[.int .i64 0] 3) := (hb3.block _ (by omega)).trans HA.out
  have e0 : w3.cell? ⟨w.heap.size, 0, none⟩ = some (.int .i64 0) := by unfold World.cell?; rw [hE3]; rfl
  have a0 : w3.cell? ⟨w.heap.size + 1, 0, none⟩ = some (.int .i64 0) := by unfold World.cell?; rw [hA3]; rfl
  have fe : w3.frozen? ⟨w.heap.size, 0, none⟩ = false := by simp [World.frozen?, hE3]
  have fa : w3.frozen? ⟨w.heap.size + 1, 0, none⟩ = false := by simp [World.frozen?, hA3]
  have HB3 : Hid (Below w.heap.size w w3) := HBw.out.trans (hb3.mono HBw.out.size)
  have hsz3 : w.heap.size + 2 ≤ w3.heap.size := by have := hb3.size; omega
  clear hb3 HBw HE HA HT hE3 hA3
  unfold TksR at htr
  rcases hl : lexA s with ⟨er, p⟩ | ts
  · rw [hl] at htr
    dsimp only at htr
    subst htr
    have HL : Hid (lexA s = .error (er, p)) := hl
    clear hl
    unfold gaveUp
    refine leaves_cons (f := 12) (args := #[.pointer (some ⟨w.heap.size, 0, none⟩), .pointer (some ⟨w.heap.size + 1, 0, none⟩)]) (by simp) (by simp [go_sem]) ?_
    refine (catchTk er p _ _ _ _ [] _ e0 fe a0 fa (by omega)).mono ?_
    rintro e u' w4 ⟨rfl, rfl, d1, d2, hb4⟩
    refine ⟨.tuple #[.slice none 0 0, .int .i64 er, .int .i64 p], results_tcc (p := 2) (q := 3) (r := 4) rfl _ _ _ _ _ _ (by rfl) (by rfl) d1 d2, ?_, ?_⟩
    · unfold LexR; rw [HL.out]
    · exact HB3.out.trans (hb4 _ (Nat.le_refl _) (by omega) (by omega))
  · rw [hl] at htr
    obtain ⟨v, rfl, ho⟩ := htr
    obtain ⟨la, lc, rfl⟩ := ho.form
    have HO : Hid (ownT w3 W2.heap.size (.slice la ts.length lc) ts) := ho
    have HL : Hid (lexA s = .ok ts) := hl
    clear hl ho
    go_wp2
    refine leaves_cons (f := 12) (args := #[.pointer (some ⟨w.heap.size, 0, none⟩), .pointer (some ⟨w.heap.size + 1, 0, none⟩)]) (by simp) (by simp [go_sem]) ?_
    refine (idleTk _ _ _).mono ?_
    rintro e u' w4 ⟨rfl, rfl, rfl⟩
    refine ⟨.tuple #[.slice la ts.length lc, .int .i64 0, .int .i64 0], results_tcc (p := 2) (q := 3) (r := 4) rfl _ _ _ _ _ _ (by rfl) (by rfl) ?_ ?_, ?_, ?_⟩
    · rw [World.cell?_setCell_other _ _ _ _ (fun e => by have := congrArg Addr.block e; simp at this)]
      exact World.cell?_setCell_same _ _ _ e0
    · exact World.cell?_setCell_same _ _ _ ((World.cell?_setCell_other _ _ _ _ (fun e => by have := congrArg Addr.block e; simp at this)).trans a0)
    · unfold LexR
      rw [HL.out]
      refine ⟨_, rfl, ?_⟩
      refine (HO.out.keep (fun k h1 h2 => ?_)).down (by omega)
      rw [Below.heap_setCell _ _ _ _ (by show k ≠ w.heap.size + 1; omega), Below.heap_setCell _ _ _ _ (by show k ≠ w.heap.size; omega)]
    · exact (HB3.out.setCell (p := ⟨w.heap.size, 0, none⟩) (Nat.le_refl _) _).setCell (p := ⟨w.heap.size + 1, 0, none⟩) (by show w.heap.size ≤ w.heap.size + 1; omega) _
theorem lexT (s : ByteArray) (w : World) (hz : s.size ≤ 140737488355328) (hg : GX w) :
    Calls Tryz.prog 4 #[.string s] w fun e w' => LexR w.heap.size (lexA s) e w' ∧ Below w.heap.size w w' := by
  have hmf : ∀ (fn : Fn) (first cap : Array Value) (w : World), (Instr.makeFunc fn first cap).run Tryz.prog w = .ok (.func fn first cap) w := fun _ _ _ _ => rfl
  have HB0 : Hid (Below w.heap.size w (w.alloc (.cells #[.string s] 9))) := (Below.refl _ _).alloc (Nat.le_refl _) _
  have HC : Hid (∀ _ : Unit, _) := fun _ => caughtT s w.heap.size (w.alloc (.cells #[.string s] 9)) (by unfold World.cell?; rw [heap_alloc_new]; rfl) hz (hg.next HB0.out)
  have hsz : (w.alloc (.cells #[.string s] 9)).heap.size = w.heap.size + 1 := sizeAl _ _
  clear hg
  go_enter Tryz.func4, Tryz.ntmps4
  go_wp2_with fail
  refine (HC.out ()).mono ?_
  rintro e w1 ⟨hlr, hb1⟩
  have HB : Hid (Below w.heap.size w w1) := HB0.out.trans (hb1.mono (by omega))
  rw [hsz] at hlr
  clear hb1 HC HB0
  unfold LexR at hlr
  rcases hl : lexA s with ⟨er, p⟩ | ts
  · rw [hl] at hlr
    dsimp only at hlr
    subst hlr
    have HL : Hid (lexA s = .error (er, p)) := hl
    clear hl
    go_wp2
    exact bodyPost_ret (results_ttt rfl _ _) rfl ⟨by unfold LexR; rw [HL.out]; rfl, HB.out⟩
  · rw [hl] at hlr
    obtain ⟨v, rfl, ho⟩ := hlr
    have HO : Hid (ownT w1 (w.heap.size + 1) v ts) := ho
    have HL : Hid (lexA s = .ok ts) := hl
    clear hl ho
    go_wp2
    exact bodyPost_ret (results_ttt rfl _ _) rfl ⟨by unfold LexR; rw [HL.out]; exact ⟨_, rfl, HO.out.down (by omega)⟩, HB.out⟩
end Go.Proofs.YtlidkdnfibfnfaaGreatDoor
