import Derived.Test.YtbfjnidpjmhfiaaGreatDoorDa10
import Derived.Defers
import Derived.Recover
import Derived.Laws.Pointers
import Derived.Test.YtbfjnidpjmhfiaaGreatDoorDa13
import Derived.Test.YtbfjnidpjmhfiaaGreatDoorDa5
namespace Go.Proofs.YtbfjnidpjmhfiaaGreatDoor
set_option linter.unusedSimpArgs false
open Go.ChangeShapes Go.WideShapes Go.ChangeAt Go.RowKit
set_option linter.unusedVariables false
set_option maxRecDepth 100000
theorem Fp6.drewA {W : World} {g : Nat} {a b c d e f : Value} (h : Fp6 W g a b c d e f) : Fp6 W.drew g a b c d e f := h
set_option maxHeartbeats 1600000 in
theorem catchDa (c : Int) (bC bE : Nat) (a b d f x y z : Value) (older : List PanicEntry) (w : World)
    (hC : Fp6 w bC a b d f x y) (hE : w.cell? ⟨bE, 0, none⟩ = some z) (fE : w.frozen? ⟨bE, 0, none⟩ = false) (n5 : bC ≠ bE) :
    CallsD Tryz.prog 33 #[.pointer (some ⟨bC, 0, none⟩), .pointer (some ⟨bE, 0, none⟩)] (.panicking ({ v := .iface 37 (.int .i64 c), recovered := false } :: older)) w fun e u' w' =>
      e = .returned (.tuple #[]) ∧ u' = .panicking ({ v := .iface 37 (.int .i64 c), recovered := true } :: older) ∧ Fp6 w' bC (.int .i64 0) (.int .u64 0) (.int .u64 0) (.slice none 0 0) (.int .i64 0) (.slice none 0 0) ∧ w'.cell? ⟨bE, 0, none⟩ = some (.int .i64 c) ∧ (∀ B, B ≤ bC → B ≤ bE → Below B w w') := by
  have k0 : w.cell? ⟨bC, 0, none⟩ = some a := hC.cell 0
  have k1 : w.cell? ⟨bC, 1, none⟩ = some b := hC.cell 1
  have k2 : w.cell? ⟨bC, 2, none⟩ = some d := hC.cell 2
  have k3 : w.cell? ⟨bC, 3, none⟩ = some f := hC.cell 3
  have k4 : w.cell? ⟨bC, 4, none⟩ = some x := hC.cell 4
  have k5 : w.cell? ⟨bC, 5, none⟩ = some y := hC.cell 5
  have f0 := hC.free 0
  have f1 := hC.free 1
  have f2 := hC.free 2
  have f3 := hC.free 3
  have f4 := hC.free 4
  have f5 := hC.free 5
  have HC : Hid (Fp6 w bC a b d f x y) := hC
  clear hC
  refine callsD_of_wpS Tryz.func33 rfl fun c₀ cs hu => ?_
  apply wpS_seq
  apply wpS_region
  simp [wpOpsS, go_sem, recoverD, hu, Tryz.ntmps33, Exit.thenS]
  refine wpS_of_wp ?_
  simp only [Array.replicate, List.replicate, List.setIfInBounds_toArray, List.set_cons_zero, List.set_cons_succ, List.append_toArray, List.cons_append, List.nil_append]
  go_wp2
  have hta := assert_errno
  go_region
  change bodyPostS _ _ _ _ _ _ _ _ _
  refine ⟨rfl, _, rfl, _, results_none rfl _ _ _, rfl, rfl, ?_, ?_, ?_⟩
  · have h1 := HC.out.setAll (.int .i64 0) (.int .u64 0) (.int .u64 0) (.slice none 0 0) (.int .i64 0) (.slice none 0 0)
    have h2 := h1.other (p := ⟨bE, 0, none⟩) (.int .i64 c) n5
    exact h2.drewA
  · simp [go_sem, hE]
  · intro B h1 h3
    exact ((((((((Below.refl _ _).setCell h1 _).setCell h1 _).setCell h1 _).setCell h1 _).setCell h1 _).setCell h1 _).setCell h3 _) |>.drew
theorem idleDa (pA pV : Addr) (w : World) :
    CallsD Tryz.prog 33 #[.pointer (some pA), .pointer (some pV)] .returning w fun e u' w' => e = .returned (.tuple #[]) ∧ u' = .returning ∧ w' = w := by
  refine callsD_of_wpS Tryz.func33 rfl fun c₀ cs hu => ?_
  apply wpS_seq
  apply wpS_region
  simp [wpOpsS, go_sem, recoverD, hu, Tryz.ntmps33, Exit.thenS]
  refine wpS_of_wp ?_
  simp only [Array.replicate, List.replicate, List.setIfInBounds_toArray, List.set_cons_zero, List.set_cons_succ, List.append_toArray, List.cons_append, List.nil_append]
  go_wp2
  change bodyPostS _ _ _ _ _ _ _ _ _
  cases c₀
  simp only at hu
  subst hu
  exact ⟨rfl, _, rfl, _, results_none rfl _ _ _, rfl, rfl, rfl⟩
theorem ret_da2 {fn : Func} {p u : Tmp} (h : fn.results = #[.cell p 26, .cell u 37]) (tmps : Array Value) (w : World) (a b d : Int) (f : Value) (x : Int) (y : Value) (c : Int) (g gu : Nat) (hp : tmps.getD p undef = .pointer (some ⟨g, 0, none⟩)) (hu : tmps.getD u undef = .pointer (some ⟨gu, 0, none⟩))
    (hg : Fp6 w g (.int .i64 a) (.int .u64 b) (.int .u64 d) f (.int .i64 x) y) (cu : w.cell? ⟨gu, 0, none⟩ = some (.int .i64 c)) :
    (results fn tmps).run Tryz.prog w = .ok (.tuple #[.agg #[.int .i64 a, .int .u64 b, .int .u64 d, f, .int .i64 x, y], .int .i64 c]) w := by
  have hp' : tmps[p]?.getD undef = .pointer (some ⟨g, 0, none⟩) := by simpa using hp
  have hu' : tmps[u]?.getD undef = .pointer (some ⟨gu, 0, none⟩) := by simpa using hu
  have q0 : w.cell? ⟨g, 0, none⟩ = some (.int .i64 a) := hg.cell 0
  have q1 : w.cell? ⟨g, 1, none⟩ = some (.int .u64 b) := hg.cell 1
  have q2 : w.cell? ⟨g, 2, none⟩ = some (.int .u64 d) := hg.cell 2
  have q3 : w.cell? ⟨g, 3, none⟩ = some f := hg.cell 3
  have q4 : w.cell? ⟨g, 4, none⟩ = some (.int .i64 x) := hg.cell 4
  have q5 : w.cell? ⟨g, 5, none⟩ = some y := hg.cell 5
  simp [results, h, hp', hu', asAddr, go_sem, q0, q1, q2, q3, q4, q5, cu]
/-- What DecodeData answers. -/
def AdC (w : World) (b : ByteArray) (e : Ending) (w' : World) : Prop :=
  Below w.heap.size w w' ∧ ((∃ id lo hi ps v, AoYes b id lo hi ps ∧ e = .returned (.tuple #[.agg #[.int .i64 id, .int .u64 lo, .int .u64 hi, v, .int .i64 0, .slice none 0 0], .int .i64 0]) ∧ ownT w' w.heap.size v ps) ∨ ∃ c, AoNo b c ∧ e = .returned (.tuple #[.agg #[.int .i64 0, .int .u64 0, .int .u64 0, .slice none 0 0, .int .i64 0, .slice none 0 0], .int .i64 c]))
set_option maxHeartbeats 3200000 in
theorem decDat_any (w : World) (b : ByteArray) (hs : b.size ≤ 1125899906842624) (hT : HalfAt w) : Calls Tryz.prog 12 #[.string b] w (AdC w b) := by
  have hmf : ∀ (fn : Fn) (first cap : Array Value) (w : World), (Instr.makeFunc fn first cap).run Tryz.prog w = .ok (.func fn first cap) w := fun _ _ _ _ => rfl
  have HBw : Hid (Below w.heap.size w ((w.alloc (.cells #[.int .i64 0, .int .u64 0, .int .u64 0, .slice none 0 0, .int .i64 0, .slice none 0 0] 26)).alloc (.cells #[.int .i64 0] 37))) := ((Below.refl _ _).alloc (Nat.le_refl _) _).alloc (by simp) _
  have HZ : Hid (Fp6 ((w.alloc (.cells #[.int .i64 0, .int .u64 0, .int .u64 0, .slice none 0 0, .int .i64 0, .slice none 0 0] 26)).alloc (.cells #[.int .i64 0] 37)) w.heap.size (.int .i64 0) (.int .u64 0) (.int .u64 0) (.slice none 0 0) (.int .i64 0) (.slice none 0 0)) := (Below.heap_alloc _ _ _ (by simp)).trans (heap_alloc_new w _)
  have hE : ((w.alloc (.cells #[.int .i64 0, .int .u64 0, .int .u64 0, .slice none 0 0, .int .i64 0, .slice none 0 0] 26)).alloc (.cells #[.int .i64 0] 37)).cell? ⟨w.heap.size + 1, 0, none⟩ = some (.int .i64 0) := by simp [go_sem]
  have fE : ((w.alloc (.cells #[.int .i64 0, .int .u64 0, .int .u64 0, .slice none 0 0, .int .i64 0, .slice none 0 0] 26)).alloc (.cells #[.int .i64 0] 37)).frozen? ⟨w.heap.size + 1, 0, none⟩ = false := by simp [go_sem]
  have hsz : ((w.alloc (.cells #[.int .i64 0, .int .u64 0, .int .u64 0, .slice none 0 0, .int .i64 0, .slice none 0 0] 26)).alloc (.cells #[.int .i64 0] 37)).heap.size = w.heap.size + 2 := by simp
  have HT : Hid (HalfAt ((w.alloc (.cells #[.int .i64 0, .int .u64 0, .int .u64 0, .slice none 0 0, .int .i64 0, .slice none 0 0] 26)).alloc (.cells #[.int .i64 0] 37))) := hT.later HBw.out
  have HE : Hid _ := hE
  have HFE : Hid _ := fE
  clear hE fE hT
  go_enter_defers Tryz.func12, Tryz.ntmps12
  go_wp2_with fail
  generalize (w.alloc (.cells #[.int .i64 0, .int .u64 0, .int .u64 0, .slice none 0 0, .int .i64 0, .slice none 0 0] 26)).alloc (.cells #[.int .i64 0] 37) = W2 at *
  refine (dataOf_any W2 b hs HT.out).mono ?_
  rintro e w3 ⟨hb, hm⟩
  have HZ3 : Hid (Fp6 w3 w.heap.size (.int .i64 0) (.int .u64 0) (.int .u64 0) (.slice none 0 0) (.int .i64 0) (.slice none 0 0)) := HZ.out.later hb HZ.out.lt
  have hE3 := (hb.cell (p := ⟨w.heap.size + 1, 0, none⟩) (by simp only; omega)).trans HE.out
  have fE3 := (hb.frozen (p := ⟨w.heap.size + 1, 0, none⟩) (by simp only; omega)).trans HFE.out
  have HB3 : Hid (Below w.heap.size w w3) := HBw.out.trans (hb.mono HBw.out.size)
  clear hb HE HFE HBw HZ HT
  rcases hm with ⟨id, lo, hi, ps, v, hy, rfl, hown⟩ | ⟨c, hn, rfl⟩
  · have HY : Hid (AoYes b id lo hi ps) := hy
    have HO : Hid (ownT w3 W2.heap.size v ps) := hown
    obtain ⟨a', n', c', rfl⟩ := hown.isSlice
    clear hown hy
    have z0 : w3.cell? ⟨w.heap.size, 0, none⟩ = some (.int .i64 0) := HZ3.out.cell 0
    have z1 : w3.cell? ⟨w.heap.size, 1, none⟩ = some (.int .u64 0) := HZ3.out.cell 1
    have z2 : w3.cell? ⟨w.heap.size, 2, none⟩ = some (.int .u64 0) := HZ3.out.cell 2
    have z3 : w3.cell? ⟨w.heap.size, 3, none⟩ = some (.slice none 0 0) := HZ3.out.cell 3
    have z4 : w3.cell? ⟨w.heap.size, 4, none⟩ = some (.int .i64 0) := HZ3.out.cell 4
    have z5 : w3.cell? ⟨w.heap.size, 5, none⟩ = some (.slice none 0 0) := HZ3.out.cell 5
    have o0 := HZ3.out.free 0
    have o1 := HZ3.out.free 1
    have o2 := HZ3.out.free 2
    have o3 := HZ3.out.free 3
    have o4 := HZ3.out.free 4
    have o5 := HZ3.out.free 5
    go_wp2
    refine leaves_cons (f := 33) (args := #[.pointer (some ⟨w.heap.size, 0, none⟩), .pointer (some ⟨w.heap.size + 1, 0, none⟩)]) (by simp) (by simp [go_sem]) ?_
    refine (idleDa _ _ _).mono ?_
    rintro e u' w4 ⟨rfl, rfl, rfl⟩
    have h1 := (HZ3.out.setAll (.int .i64 id) (.int .u64 lo) (.int .u64 hi) (.slice a' n' c') (.int .i64 0) (.slice none 0 0)).other (p := ⟨w.heap.size + 1, 0, none⟩) (.int .i64 0) (by simp only; omega)
    refine ⟨.tuple #[.agg #[.int .i64 id, .int .u64 lo, .int .u64 hi, .slice a' n' c', .int .i64 0, .slice none 0 0], .int .i64 0], ret_da2 rfl _ _ _ _ _ _ _ _ _ _ _ (by rfl) (by rfl) h1 (by simp [go_sem, hE3]), ?_, .inl ⟨id, lo, hi, ps, _, HY.out, rfl, ?_⟩⟩
    · exact ((((((HB3.out.setCell (p := ⟨w.heap.size, 0, none⟩) (Nat.le_refl _) _).setCell (p := ⟨w.heap.size, 1, none⟩) (Nat.le_refl _) _).setCell (p := ⟨w.heap.size, 2, none⟩) (Nat.le_refl _) _).setCell (p := ⟨w.heap.size, 3, none⟩) (Nat.le_refl _) _).setCell (p := ⟨w.heap.size, 4, none⟩) (Nat.le_refl _) _).setCell (p := ⟨w.heap.size, 5, none⟩) (Nat.le_refl _) _).setCell (p := ⟨w.heap.size + 1, 0, none⟩) (by simp only; omega) _
    · refine (HO.out.same fun k hk hB => ?_).mono (by omega)
      have hne : k ≠ w.heap.size := by omega
      have hne2 : k ≠ w.heap.size + 1 := by omega
      exact (Below.heap_setCell _ _ _ k hne2).trans ((Below.heap_setCell _ _ _ k hne).trans ((Below.heap_setCell _ _ _ k hne).trans ((Below.heap_setCell _ _ _ k hne).trans ((Below.heap_setCell _ _ _ k hne).trans ((Below.heap_setCell _ _ _ k hne).trans (Below.heap_setCell _ _ _ k hne))))))
  · refine leaves_cons (f := 33) (args := #[.pointer (some ⟨w.heap.size, 0, none⟩), .pointer (some ⟨w.heap.size + 1, 0, none⟩)]) (by simp) (by simp [go_sem]) ?_
    refine (catchDa c _ _ _ _ _ _ _ _ _ [] _ HZ3.out hE3 fE3 (by omega)).mono ?_
    rintro e u' w4 ⟨rfl, rfl, dV, dE, hb2⟩
    refine ⟨.tuple #[.agg #[.int .i64 0, .int .u64 0, .int .u64 0, .slice none 0 0, .int .i64 0, .slice none 0 0], .int .i64 c], ret_da2 rfl _ _ _ _ _ _ _ _ _ _ _ (by rfl) (by rfl) dV dE, ?_, .inr ⟨c, hn, rfl⟩⟩
    exact HB3.out.trans (hb2 _ (by omega) (by omega))
end Go.Proofs.YtbfjnidpjmhfiaaGreatDoor

namespace Go.Proofs.YtbfjnidpjmhfiaaGreatDoor
set_option linter.unusedSimpArgs false
open Go.ChangeShapes Go.WideShapes Go.ChangeAt Go.RowKit
set_option linter.unusedVariables false
set_option maxRecDepth 100000
set_option maxHeartbeats 25600000 in
theorem refDecA_any (w : World) (b : ByteArray) (hs : b.size ≤ 1125899906842624) (Y : Prop) (i0 l0 t0 : Int) (ps0 : List DT) (hY : Y → AoYes b i0 l0 t0 ps0) : Calls Tryz.prog 13 #[.string b] w (QdC w b Y) := by
  have hb0 : Below w.heap.size w (w.alloc (.cells #[.int .i64 0, .int .u64 0, .int .u64 0, .slice none 0 0, .int .i64 0, .slice none 0 0] 26)) := (Below.refl _ _).alloc (Nat.le_refl _) _
  have HB0 : Hid _ := hb0
  have HZ0 : Hid (Fp6 (w.alloc (.cells #[.int .i64 0, .int .u64 0, .int .u64 0, .slice none 0 0, .int .i64 0, .slice none 0 0] 26)) w.heap.size (.int .i64 0) (.int .u64 0) (.int .u64 0) (.slice none 0 0) (.int .i64 0) (.slice none 0 0)) := heap_alloc_new w _
  have HO : Hid (∀ _ : Unit, _) := fun _ => opened_any b mgAB (w.alloc (.cells #[.int .i64 0, .int .u64 0, .int .u64 0, .slice none 0 0, .int .i64 0, .slice none 0 0] 26)) rfl hs
  have HY : Hid (Y → AoYes b i0 l0 t0 ps0) := hY
  have hsz : (b.extract 8 (b.size - 4)).size ≤ 1125899906842624 := by rw [ByteArray.size_extract]; omega
  clear hb0 hY
  go_enter Tryz.func13, Tryz.ntmps13
  go_wp2_with fail
  generalize hw0 : w.alloc (.cells #[.int .i64 0, .int .u64 0, .int .u64 0, .slice none 0 0, .int .i64 0, .slice none 0 0] 26) = y0 at *
  clear hw0
  refine (HO.out ()).mono ?_
  rintro e w1 ⟨hb1, hor⟩
  have HZ1 : Hid (Fp6 w1 w.heap.size (.int .i64 0) (.int .u64 0) (.int .u64 0) (.slice none 0 0) (.int .i64 0) (.slice none 0 0)) := HZ0.out.later hb1 HZ0.out.lt
  have HB1 : Hid (Below w.heap.size w w1) := HB0.out.trans (hb1.mono HB0.out.size)
  have hyz := HZ0.out.lt
  clear hb1 HO HB0 HZ0
  rcases hor.symm with ⟨hne, rfl⟩ | ⟨h0, C, rfl, hR, hrd⟩
  · have HNE : Hid (opE b mgAB ≠ 0) := hne
    have hnd : (opE b mgAB != 0) = true := by rw [bne_iff_ne]; exact hne
    have HNY : Hid (¬ Y) := fun y => hne (HY.out y).1
    have z0 : w1.cell? ⟨w.heap.size, 0, none⟩ = some (.int .i64 0) := HZ1.out.cell 0
    have z1 : w1.cell? ⟨w.heap.size, 1, none⟩ = some (.int .u64 0) := HZ1.out.cell 1
    have z2 : w1.cell? ⟨w.heap.size, 2, none⟩ = some (.int .u64 0) := HZ1.out.cell 2
    have z3 : w1.cell? ⟨w.heap.size, 3, none⟩ = some (.slice none 0 0) := HZ1.out.cell 3
    have z4 : w1.cell? ⟨w.heap.size, 4, none⟩ = some (.int .i64 0) := HZ1.out.cell 4
    have z5 : w1.cell? ⟨w.heap.size, 5, none⟩ = some (.slice none 0 0) := HZ1.out.cell 5
    have o0 := HZ1.out.free 0
    have o1 := HZ1.out.free 1
    have o2 := HZ1.out.free 2
    have o3 := HZ1.out.free 3
    have o4 := HZ1.out.free 4
    have o5 := HZ1.out.free 5
    clear hor hne
    generalize hoe : opE b mgAB = oe at *
    have HOE : Hid (opE b mgAB = oe) := hoe
    clear hoe
    go_wp2
    refine bodyPost_ret (ret_fp2 rfl _ _ _ _ _ _ _ _ w.heap.size (by rfl) (HZ1.out.setAll _ _ _ _ _ _)) rfl ⟨?_, .inr ⟨HNY.out, ?_⟩⟩
    · exact (((((HB1.out.setCell (p := ⟨w.heap.size, 0, none⟩) (Nat.le_refl _) _).setCell (p := ⟨w.heap.size, 1, none⟩) (Nat.le_refl _) _).setCell (p := ⟨w.heap.size, 2, none⟩) (Nat.le_refl _) _).setCell (p := ⟨w.heap.size, 3, none⟩) (Nat.le_refl _) _).setCell (p := ⟨w.heap.size, 4, none⟩) (Nat.le_refl _) _).setCell (p := ⟨w.heap.size, 5, none⟩) (Nat.le_refl _) _
    · show _ = Ending.returned (.tuple #[_, .int .i64 (if opE b mgAB = 0 then 125 else opE b mgAB)])
      rw [HOE.out, if_neg HNE.out]
      rfl
  · have HOP : Hid (opE b mgAB = 0) := h0
    have hzc : w.heap.size < C := Nat.lt_of_lt_of_le hyz hR
    have HC1 : Hid (Cu w1 C (b.extract 8 (b.size - 4)) 0 false) := hrd
    have HY0 : Hid (Y → mayA i0 l0 t0 ps0 ∧ (∀ p ∈ ps0, p.wf) ∧ 0 ≤ l0 ∧ HasAt (b.extract 8 (b.size - 4)) 0 (encA i0 l0 t0 ps0)) := fun y => ⟨(HY.out y).2.2.1, (HY.out y).2.2.2.1, (HY.out y).2.2.2.2, (HY.out y).has⟩
    clear hor h0 hrd hR hyz
    generalize hss : b.extract 8 (b.size - 4) = s at *
    clear hss
    have HN1 : Hid (∀ _ : Unit, _) := fun _ => smallU C s 0 false w1 HC1.out (Nat.zero_le _) hsz
    go_wp2_with fail
    refine (HN1.out ()).mono ?_
    rintro e w2 ⟨hf, x1, p1, bad1, rfl, hcu, lb1, ub1, hp1, hx⟩
    have HY1 : Hid (Y → x1 = i0 ∧ bad1 = false ∧ HasAt s p1 (uvB l0 ++ (uvB (t0 - l0) ++ (uvB ps0.length ++ encTs l0 ps0)))) := fun y => by
      obtain ⟨⟨⟨g1, g2⟩, _⟩, _, _, hh⟩ := HY0.out y
      exact cu_stepA hx (by omega) (by omega) ⟨rfl, hh⟩
    have hba : Below w2.heap.size w2 (w2.alloc (.cells #[.int .i64 x1, .int .u64 0, .int .u64 0, .slice none 0 0, .int .i64 0, .slice none 0 0] 26)) := (Below.refl _ _).alloc (Nat.le_refl _) _
    have hC2 := hcu.lt
    have HS2 : Hid (QdS w C w2.heap.size (w2.heap.size + 1) s x1 0 0 (w2.alloc (.cells #[.int .i64 x1, .int .u64 0, .int .u64 0, .slice none 0 0, .int .i64 0, .slice none 0 0] 26)) p1 bad1 (.slice none 0 0) []) := ⟨(HB1.out.trans (hf.toBelow.mono (Nat.le_of_lt hzc))).trans (hba.mono (Nat.le_trans HB1.out.size hf.toBelow.size)), (HZ1.out.fr hf (by omega)).later hba (by have := (HZ1.out.fr hf (by omega)).lt; omega), hcu.later hba hC2, heap_alloc_new w2 _, ownT_nil _ _, hzc, by omega, by omega, by omega, by omega, by simp⟩
    clear hba hf hcu hx HN1 HC1 HB1 HZ1
    go_wp2_with fail
    generalize hya : w2.alloc (.cells #[.int .i64 x1, .int .u64 0, .int .u64 0, .slice none 0 0, .int .i64 0, .slice none 0 0] 26) = y2 at *
    generalize hgg : w2.heap.size = g at *
    clear hya hgg hC2
    have HN2 : Hid (∀ _ : Unit, _) := fun _ => numberU C s p1 bad1 y2 HS2.out.cu hp1 hsz
    refine (HN2.out ()).mono ?_
    rintro e w3 ⟨hf, x2, p2, bad2, rfl, hcu, lb2, ub2, hp2, hx⟩
    have HY2 : Hid (Y → x1 = i0 ∧ x2 = l0 ∧ bad2 = false ∧ HasAt s p2 (uvB (t0 - l0) ++ (uvB ps0.length ++ encTs l0 ps0))) := fun y => by
      obtain ⟨⟨_, ⟨m1, m2⟩, _⟩, _, m0, _⟩ := HY0.out y
      obtain ⟨e1, hh⟩ := HY1.out y
      exact ⟨e1, cu_stepA hx (by omega) (by omega) hh⟩
    have hS3 := HS2.out.read hf hcu
    have c4 : w3.cell? ⟨g, 1, none⟩ = some (.int .u64 0) := hS3.hg.cell 1
    have f4 := hS3.hg.free 1
    have HS3 : Hid (QdS w C g (g + 1) s x1 x2 0 (w3.setCell ⟨g, 1, none⟩ (.int .u64 x2)) p2 bad2 (.slice none 0 0) []) := hS3.put 1 _ (hS3.hg.set1 _)
    clear hf hcu hx HN2 HS2 HY1 hS3 hp1
    go_wp2_with fail
    generalize hya : w3.setCell ⟨g, 1, none⟩ (.int .u64 x2) = y3 at *
    clear hya c4 f4
    have e1 : y3.cell? ⟨g, 1, none⟩ = some (.int .u64 x2) := HS3.out.hg.cell 1
    have HN3 : Hid (∀ _ : Unit, _) := fun _ => numberU C s p2 bad2 y3.drew HS3.out.drew.cu hp2 hsz
    (refine wp_region_held_drew (S := (fun W => W.cell? ⟨g, 1, none⟩ = some (.int .u64 x2))) (by kernel_rfl) e1 (fun hHeld => ?_); simp only [List.size_toArray, List.length_cons, List.length_nil, Nat.reduceAdd, Array.replicate_succ, Array.replicate_zero, List.push_toArray, List.append_toArray, List.nil_append, List.cons_append])
    (refine tk0 (v := ?_) (by kernel_rfl) (by kernel_rfl) (by kernel_rfl) (fun _ _ _ h => h) (Or.inl ⟨by rfl, ?_⟩) (by assumption) ?_; rotate_left; (focus (intro w hSw; (try dsimp only at hSw); go_simp; (try first | (rw [dif_pos (by omega)]; simp only [Result.andThen_ok]) | rw [if_pos (by omega)]); (try with_reducible rfl); done)); try simp only [Act.put, List.setIfInBounds_toArray, List.set_cons_zero, List.set_cons_succ])
    (refine tk1 (v := ?_) (by kernel_rfl) (by kernel_rfl) (by kernel_rfl) (fun _ _ _ h => h) (Or.inl ⟨by rfl, ?_⟩) (by assumption) ?_; rotate_left; (focus (intro w hSw; (try dsimp only at hSw); go_simp; (try first | (rw [dif_pos (by omega)]; simp only [Result.andThen_ok]) | rw [if_pos (by omega)]); (try with_reducible rfl); done)); try simp only [Act.put, List.setIfInBounds_toArray, List.set_cons_zero, List.set_cons_succ])
    (refine tk2 (v := ?_) (by kernel_rfl) (by kernel_rfl) (by kernel_rfl) (fun _ _ _ h => h) (Or.inl ⟨by rfl, ?_⟩) (by assumption) ?_; rotate_left; (focus (intro w hSw; (try dsimp only at hSw); go_simp; (try first | (rw [dif_pos (by omega)]; simp only [Result.andThen_ok]) | rw [if_pos (by omega)]); (try with_reducible rfl); done)); try simp only [Act.put, List.setIfInBounds_toArray, List.set_cons_zero, List.set_cons_succ])
    (refine wpAnyH_ready (rs := [3]) (by kernel_rfl) (by simp) ?_; refine ar3 (fun K hK => ?_) AllReadyH.nil; go_simp)
    refine (HN3.out ()).mono ?_
    rintro e w4 ⟨hf, x3, p3, bad3, rfl, hcu, lb3, ub3, hp3, hx⟩
    have HY3 : Hid (Y → x1 = i0 ∧ x2 = l0 ∧ IntKind.u64.wrap (x2 + x3) = t0 ∧ bad3 = false ∧ HasAt s p3 (uvB ps0.length ++ encTs l0 ps0)) := fun y => by
      obtain ⟨⟨_, ⟨m1, m2⟩, _⟩, _, m0, _⟩ := HY0.out y
      obtain ⟨e1, e2, hh⟩ := HY2.out y
      obtain ⟨e3, hh2⟩ := cu_stepA hx (by omega) (by omega) hh
      refine ⟨e1, e2, ?_, hh2⟩
      rw [IntKind.wrap_u64]
      omega
    have HH3 : Hid (0 ≤ IntKind.u64.wrap (x2 + x3) ∧ IntKind.u64.wrap (x2 + x3) ≤ 18446744073709551615) := by show _ ∧ _; rw [IntKind.wrap_u64]; omega
    have hS4 := HS3.out.drew.read hf hcu
    have e2 : w4.cell? ⟨g, 1, none⟩ = some (.int .u64 x2) := hS4.hg.cell 1
    have c4 : w4.cell? ⟨g, 2, none⟩ = some (.int .u64 0) := hS4.hg.cell 2
    have f4 := hS4.hg.free 2
    have HS4 : Hid (QdS w C g (g + 1) s x1 x2 (IntKind.u64.wrap (x2 + x3)) (w4.setCell ⟨g, 2, none⟩ (.int .u64 (IntKind.u64.wrap (x2 + x3)))) p3 bad3 (.slice none 0 0) []) := hS4.put 2 _ (Fp6.set2 hS4.hg _)
    have e3 : (w4.setCell ⟨g, 2, none⟩ (.int .u64 (IntKind.u64.wrap (x2 + x3)))).cell? ⟨g, 1, none⟩ = some (.int .u64 x2) := HS4.out.hg.cell 1
    clear hf hcu hx hS4 HN3 HS3 HY2 hp2
    go_wp2_with fail
    (refine hK.out _ _ e2 (fun hHeld => ?_); clear hK K; try simp only [Act.put, List.setIfInBounds_toArray, List.set_cons_zero, List.set_cons_succ])
    (refine tk4 (v := ?_) (by kernel_rfl) (by kernel_rfl) (by kernel_rfl) (fun _ _ _ h => h) (Or.inl ⟨by rfl, ?_⟩) (by assumption) ?_; rotate_left; (focus (intro w hSw; (try dsimp only at hSw); go_simp; (try first | (rw [dif_pos (by omega)]; simp only [Result.andThen_ok]) | rw [if_pos (by omega)]); (try with_reducible rfl); done)); try simp only [Act.put, List.setIfInBounds_toArray, List.set_cons_zero, List.set_cons_succ])
    (refine tk5 (v := ?_) (by kernel_rfl) (by kernel_rfl) (by kernel_rfl) (fun _ _ _ h => h) (Or.inl ⟨by rfl, ?_⟩) (by assumption) ?_; rotate_left; (focus (intro w hSw; (try dsimp only at hSw); go_simp; (try first | (rw [dif_pos (by omega)]; simp only [Result.andThen_ok]) | rw [if_pos (by omega)]); (try with_reducible rfl); done)); try simp only [Act.put, List.setIfInBounds_toArray, List.set_cons_zero, List.set_cons_succ])
    (refine wpAnyH_ready (rs := [6]) (by kernel_rfl) (by simp) ?_; refine ar6 (fun K hK => ?_) AllReadyH.nil; go_simp)
    (refine hK.out _ _ e3 (fun hHeld => ?_); clear hK K; try simp only [Act.put, List.setIfInBounds_toArray, List.set_cons_zero, List.set_cons_succ])
    refine wpAnyH_done (by kernel_rfl) ?_ _
    generalize hya : w4.setCell ⟨g, 2, none⟩ (.int .u64 (IntKind.u64.wrap (x2 + x3))) = y4 at *
    generalize hgh : IntKind.u64.wrap (x2 + x3) = t at *
    clear hya hgh c4 f4 e1 e2 e3 hHeld
    have HN4 : Hid (∀ _ : Unit, _) := fun _ => smallU C s p3 bad3 y4 HS4.out.cu hp3 hsz
    go_wp2_with fail
    refine (HN4.out ()).mono ?_
    rintro e w5 ⟨hf, x4, p4, bad4, rfl, hcu, lb4, ub4, hp4, hx⟩
    have HY4 : Hid (Y → x1 = i0 ∧ x2 = l0 ∧ t = t0 ∧ x4 = ps0.length ∧ bad4 = false ∧ HasAt s p4 (encTs l0 ps0)) := fun y => by
      obtain ⟨⟨_, _, m1, _⟩, _, _⟩ := HY0.out y
      obtain ⟨e1, e2, e3, hh⟩ := HY3.out y
      exact ⟨e1, e2, e3, cu_stepA hx (by omega) (by omega) hh⟩
    have HS5 : Hid (QdS w C g (g + 1) s x1 x2 t w5 p4 bad4 (.slice none 0 0) []) := HS4.out.read hf hcu
    have e1 : w5.cell? ⟨g, 1, none⟩ = some (.int .u64 x2) := HS5.out.hg.cell 1
    clear hf hcu hx HN4 HS4 HY3 hp3
    obtain ⟨n, rfl⟩ := Int.eq_ofNat_of_zero_le lb4
    go_wp2_with fail
    clear e1
    go_loopw [8, 9] (fun h i wr => ∃ (k p : Nat) (bad : Bool) (last : Int) (v : Value) (ps : List DT), k ≤ n ∧ i = .int .i64 k ∧ h = .int .u64 last ∧ 0 ≤ last ∧ last ≤ 18446744073709551615 ∧ p ≤ s.size ∧ ps.length = k ∧ (∀ q ∈ ps, q.wf) ∧ QdS w C g (g + 1) s x1 x2 t wr p bad v ps ∧ (Y → ps = ps0.take k ∧ last = lastT l0 ps0 k ∧ bad = false ∧ HasAt s p (encTs last (ps0.drop k)))) (fun _ i _ => n - (intOf i).toNat)
    case atStart => exact ⟨0, p4, bad4, x2, .slice none 0 0, [], by omega, rfl, rfl, lb2, ub2, hp4, rfl, (fun _ h => by cases h), HS5.out, fun y => ⟨rfl, (HY4.out y).2.1, (HY4.out y).2.2.2.2.1, by rw [(HY4.out y).2.1]; exact (HY4.out y).2.2.2.2.2⟩⟩
    case round =>
      obtain ⟨k, p, bad, last, v, ps, hk, rfl, rfl, hl0, hl1, hps, hlen, hwf, hS, hyy⟩ := hrel
      have HSk : Hid (QdS w C g (g + 1) s x1 x2 t wr p bad v ps) := hS
      have HWF : Hid (∀ q ∈ ps, q.wf) := hwf
      have HLN : Hid (ps.length = k) := hlen
      have HYk : Hid (Y → ps = ps0.take k ∧ last = lastT l0 ps0 k ∧ bad = false ∧ HasAt s p (encTs last (ps0.drop k))) := hyy
      clear hS hwf hlen hyy HS5
      have cb : wr.cell? ⟨C, 2, none⟩ = some (.bool bad) := HSk.out.cu.cell 2
      by_cases hgo : k < n ∧ bad = false
      · obtain ⟨hlt, rfl⟩ := hgo
        have HYP : Hid (Y → mayT l0 t0 (ps0.getD k ⟨0, ⟨#[]⟩, ⟨#[]⟩⟩) ∧ last ≤ (ps0.getD k ⟨0, ⟨#[]⟩, ⟨#[]⟩⟩).beg) := fun y => by
          have hkl : k < ps0.length := by have := (HY4.out y).2.2.2.1; omega
          obtain ⟨hm, _, _, _⟩ := HY0.out y
          have hok := okTs_drop hm.2.2.2 (ps0.length - k) k (by omega)
          rw [(drop_getT ps0 k _ hkl).2]
          rw [List.drop_eq_getElem_cons hkl] at hok
          exact ⟨hok.2.1, by rw [(HYk.out y).2.1]; exact hok.1⟩
        have HYn : Hid (Y → ps ++ [ps0.getD k ⟨0, ⟨#[]⟩, ⟨#[]⟩⟩] = ps0.take (k + 1) ∧ (ps0.getD k ⟨0, ⟨#[]⟩, ⟨#[]⟩⟩).beg = lastT l0 ps0 (k + 1)) := fun y => by
          have hkl : k < ps0.length := by have := (HY4.out y).2.2.2.1; omega
          rw [(drop_getT ps0 k _ hkl).2, lastT_succ hkl, (HYk.out y).1]
          exact ⟨(List.take_succ_eq_append_getElem hkl).symm, rfl⟩
        have HY1 : Hid (Y → HasAt s p (uvB ((ps0.getD k ⟨0, ⟨#[]⟩, ⟨#[]⟩⟩).beg - last) ++ (blB (ps0.getD k ⟨0, ⟨#[]⟩, ⟨#[]⟩⟩).key ++ (blB (ps0.getD k ⟨0, ⟨#[]⟩, ⟨#[]⟩⟩).data ++ encTs (ps0.getD k ⟨0, ⟨#[]⟩, ⟨#[]⟩⟩).beg (ps0.drop (k + 1)))))) := fun y => by
          have hkl : k < ps0.length := by have := (HY4.out y).2.2.2.1; omega
          have := (HYk.out y).2.2.2
          rw [(drop_getT ps0 k ⟨0, ⟨#[]⟩, ⟨#[]⟩⟩ hkl).1, encTs, encT] at this
          simp only [List.append_assoc] at this
          exact this
        generalize ps0.getD k ⟨0, ⟨#[]⟩, ⟨#[]⟩⟩ = P at *
        generalize hDD : ps0.drop (k + 1) = D at *
        have HDD : Hid (ps0.drop (k + 1) = D) := hDD
        clear hDD
        have HN1 : Hid (∀ _ : Unit, _) := fun _ => numberU C s p false wr HSk.out.cu hps hsz
        go_wp2_with fail
        refine (HN1.out ()).mono ?_
        rintro e v1 ⟨hf, a1, q1, d1, rfl, hcu, la1, ua1, hq1, hx⟩
        have HE1 : Hid (Y → IntKind.u64.wrap (last + a1) = P.beg) := fun y => by
          obtain ⟨⟨m1, m2, m3, _⟩, h2⟩ := HYP.out y
          obtain ⟨⟨_, ⟨_, m9⟩, _⟩, _, m0, _⟩ := HY0.out y
          have e := (cu_stepA hx (by omega) (by omega) ⟨rfl, HY1.out y⟩).1
          rw [IntKind.wrap_u64]
          omega
        have HY2 : Hid (Y → d1 = false ∧ HasAt s q1 _) := fun y => (cu_stepA hx (by have := (HYP.out y).2; omega) (by obtain ⟨⟨m1, m2, m3, _⟩, h2⟩ := HYP.out y; obtain ⟨⟨_, ⟨_, m9⟩, _⟩, _, m0, _⟩ := HY0.out y; omega) ⟨rfl, HY1.out y⟩).2
        have HL1 : Hid (0 ≤ IntKind.u64.wrap (last + a1) ∧ IntKind.u64.wrap (last + a1) ≤ 18446744073709551615) := by show _ ∧ _; rw [IntKind.wrap_u64]; omega
        have hS1 := HSk.out.read hf hcu
        have hb3 := hS1.b3
        have hb1 := hS1.b1
        have hba : Below v1.heap.size v1 (v1.alloc (.cells #[.int .u64 (IntKind.u64.wrap (last + a1)), .string ⟨#[]⟩, .string ⟨#[]⟩] 31)) := (Below.refl _ _).alloc (Nat.le_refl _) _
        have HS1 : Hid (YdS w C g (g + 1) s x1 x2 t v ps v1.heap.size (v1.alloc (.cells #[.int .u64 (IntKind.u64.wrap (last + a1)), .string ⟨#[]⟩, .string ⟨#[]⟩] 31)) q1 d1 ⟨IntKind.u64.wrap (last + a1), ⟨#[]⟩, ⟨#[]⟩⟩) := ⟨hS1.later hba, heap_alloc_new v1 _, by omega, by omega, fun k hk => by have := (hS1.own.own k hk).2; omega⟩
        clear hf hcu hx hba hb3 hb1 hS1 HN1 HSk HYk HY1 hps cb
        go_wp2_with fail
        generalize hya : v1.alloc (.cells #[.int .u64 (IntKind.u64.wrap (last + a1)), .string ⟨#[]⟩, .string ⟨#[]⟩] 31) = y1 at *
        generalize hgg : v1.heap.size = q at *
        generalize hgl : IntKind.u64.wrap (last + a1) = L1 at *
        clear hya hgg hgl
        have HN3 : Hid (∀ _ : Unit, _) := fun _ => textU C s q1 d1 y1 HS1.out.base.cu hq1 hsz
        refine (HN3.out ()).mono ?_
        rintro e v3 ⟨hf, a3, q3, d3, rfl, hcu, ua3, hq3, hx⟩
        have hst : Y → a3 = P.key ∧ d3 = false ∧ HasAt s q3 _ := fun y => cu_stepV hx (by obtain ⟨⟨m1, m2, m3, m4, m5⟩, h2⟩ := HYP.out y; omega) (HY2.out y)
        have HE3 : Hid (Y → a3 = P.key) := fun y => (hst y).1
        have HY3 : Hid (Y → d3 = false ∧ HasAt s q3 _) := fun y => (hst y).2
        have hS3 := HS1.out.read hf hcu
        have c2 : v3.cell? ⟨q, 1, none⟩ = some (.string ⟨#[]⟩) := hS3.x.cell 1
        have f2 := hS3.x.free 1
        have HS3 : Hid (YdS w C g (g + 1) s x1 x2 t v ps q (v3.setCell ⟨q, 1, none⟩ (.string a3)) q3 d3 ⟨L1, a3, ⟨#[]⟩⟩) := hS3.put 1 _ (Dt3.set1 hS3.x _)
        clear hf hcu hx hst hS3 HN3 HS1 HY2 hq1
        go_wp2_with fail
        generalize hya : v3.setCell ⟨q, 1, none⟩ (.string a3) = y3 at *
        clear hya c2 f2
        have HN4 : Hid (∀ _ : Unit, _) := fun _ => textU C s q3 d3 y3 HS3.out.base.cu hq3 hsz
        refine (HN4.out ()).mono ?_
        rintro e v8 ⟨hf, a8, q8, d8, rfl, hcu, ua8, hq8, hx⟩
        have hst : Y → a8 = P.data ∧ d8 = false ∧ HasAt s q8 _ := fun y => cu_stepV hx (by obtain ⟨⟨m1, m2, m3, m4, m5⟩, h2⟩ := HYP.out y; omega) (HY3.out y)
        have HE8 : Hid (Y → a8 = P.data) := fun y => (hst y).1
        have HYs8 : Hid (Y → d8 = false ∧ HasAt s q8 _) := fun y => (hst y).2
        have hS8 := HS3.out.read hf hcu
        have c8 : v8.cell? ⟨q, 2, none⟩ = some (.string ⟨#[]⟩) := hS8.x.cell 2
        have f8 := hS8.x.free 2
        have k3 : v8.cell? ⟨g, 3, none⟩ = some v := hS8.base.hg.cell 3
        have hqg : q ≠ g := by have := hS8.q1; omega
        have hgv : g < v8.heap.size := hS8.base.hg.lt
        have r0 : v8.cell? ⟨q, 0, none⟩ = some (.int .u64 L1) := hS8.x.cell 0
        have r1 : v8.cell? ⟨q, 1, none⟩ = some (.string a3) := hS8.x.cell 1
        have HS8 : Hid (YdS w C g (g + 1) s x1 x2 t v ps q (v8.setCell ⟨q, 2, none⟩ (.string a8)) q8 d8 ⟨L1, a3, a8⟩) := hS8.put 2 _ (Dt3.set2 hS8.x _)
        clear hf hcu hx hst hS8 HN4 HS3 HY3 hq3
        have HXE : Hid (Y → (⟨L1, a3, a8⟩ : DT) = P) := fun y => by
          rw [HE1.out y, HE3.out y, HE8.out y]
        have HXW : Hid (DT.wf ⟨L1, a3, a8⟩) := ⟨HL1.out.1, HL1.out.2⟩
        clear HE1 HE3 HE8
        obtain ⟨ao, cap, rfl, -, -⟩ := HS8.out.base.own.slice
        have HLen : Hid ((ps.length + 1) * 40 ≤ 140737488355328) := by have := HLN.out; show _ ≤ _; omega
        go_wp2_with (at_builtin; refine hideG ?_)
        change wpList _ _ _ _ _ _
        refine app_dt (by rfl) _ _ (by rfl) (g + 1) _ ps ⟨L1, a3, a8⟩ HS8.out.base.own (by rfl) v8.heap.size (by simp) (by rfl) HLen.out (by simp; omega) ?_
        intro v' w' ho' hb' hk'
        obtain ⟨a', n', c', rfl⟩ := ho'.isSlice
        have HS9 : Hid _ := HS8.out.base.app ho' hb'
        have k4 : w'.cell? ⟨g, 3, none⟩ = some (.slice ao ps.length cap) := (HS8.out.base.hg.later hb' (by omega)).cell 3
        have k5 := (HS8.out.base.hg.later hb' (by omega)).free 3
        have HYe : Hid (Y → ps ++ [⟨L1, a3, a8⟩] = ps0.take (k + 1) ∧ L1 = lastT l0 ps0 (k + 1) ∧ d8 = false ∧ HasAt s q8 (encTs L1 (ps0.drop (k + 1)))) := fun y => by
          rw [HDD.out]
          have e := HXE.out y
          have e2 : L1 = P.beg := congrArg DT.beg e
          rw [e, e2]
          exact ⟨(HYn.out y).1, (HYn.out y).2, HYs8.out y⟩
        clear ho' hb' hk' HS8 k3 c8 f8
        go_wp2
        go_roundw
        case rel => exact ⟨k + 1, q8, d8, L1, _, ps ++ [⟨L1, a3, a8⟩], by omega, by go_num, rfl, HL1.out.1, HL1.out.2, hq8, by rw [List.length_append, HLN.out]; rfl, (fun y hy => by rcases List.mem_append.1 hy with h | h; exact HWF.out _ h; rw [List.mem_singleton.1 h]; exact HXW.out), HS9.out, HYe.out⟩
        case measure => simp [intOf]; omega
      · have HYF : Hid (Y → bad = false ∧ mayA x1 x2 t ps ∧ sealM mgDa (encA x1 x2 t ps) = b) := fun y => by
          obtain ⟨h1, _, h3, _⟩ := HYk.out y
          obtain ⟨e1, e2, e3, e4, _⟩ := HY4.out y
          have hkn : ¬ k < n := fun h => hgo ⟨h, h3⟩
          have hps : ps = ps0 := by rw [h1, List.take_of_length_le (by omega)]
          rw [e1, e2, e3, hps]
          exact ⟨h3, (HY0.out y).1, (HY.out y).seal⟩
        obtain ⟨ao, cap, rfl, -, -⟩ := HSk.out.own.slice
        clear HYk
        by_cases hlt : k < n
        · have hbt : bad = true := by
            cases bad
            · exact absurd ⟨hlt, rfl⟩ hgo
            · rfl
          subst hbt
          have HNY : Hid (¬ Y) := fun y => by have := (HYF.out y).1; cases this
          clear hgo HYF
          have c0 : wr.cell? ⟨g, 0, none⟩ = some (.int .i64 x1) := HSk.out.hg.cell 0
          have c1 : wr.cell? ⟨g, 1, none⟩ = some (.int .u64 x2) := HSk.out.hg.cell 1
          have c2 : wr.cell? ⟨g, 2, none⟩ = some (.int .u64 t) := HSk.out.hg.cell 2
          have c3 : wr.cell? ⟨g, 3, none⟩ = some (.slice ao ps.length cap) := HSk.out.hg.cell 3
          have c4 : wr.cell? ⟨g, 4, none⟩ = some (.int .i64 0) := HSk.out.hg.cell 4
          have c5 : wr.cell? ⟨g, 5, none⟩ = some (.slice none 0 0) := HSk.out.hg.cell 5
          have HEn : Hid (∀ _ : Unit, _) := fun _ => refEncA_any wr x1 0 x2 t ao none 0 cap 0 ps lb2 HSk.out.own.sees HWF.out
          go_wp2_with fail
          refine (HEn.out ()).mono ?_
          rintro e w6 ⟨hme, hmn, hb6⟩
          have HS6 : Hid (QdS w C g (g + 1) s x1 x2 t w6 p true (.slice ao ps.length cap) ps) := HSk.out.later hb6
          clear hb6 HEn HSk c0 c1 c2 c3 c4 c5 cb
          have cb : w6.cell? ⟨C, 2, none⟩ = some (.bool true) := HS6.out.cu.cell 2
          have c0 : w6.cell? ⟨g, 0, none⟩ = some (.int .i64 x1) := HS6.out.hg.cell 0
          have c1 : w6.cell? ⟨g, 1, none⟩ = some (.int .u64 x2) := HS6.out.hg.cell 1
          have c2 : w6.cell? ⟨g, 2, none⟩ = some (.int .u64 t) := HS6.out.hg.cell 2
          have c3 : w6.cell? ⟨g, 3, none⟩ = some (.slice ao ps.length cap) := HS6.out.hg.cell 3
          have c4 : w6.cell? ⟨g, 4, none⟩ = some (.int .i64 0) := HS6.out.hg.cell 4
          have c5 : w6.cell? ⟨g, 5, none⟩ = some (.slice none 0 0) := HS6.out.hg.cell 5
          have z0 : w6.cell? ⟨w.heap.size, 0, none⟩ = some (.int .i64 0) := HS6.out.z.cell 0
          have z1 : w6.cell? ⟨w.heap.size, 1, none⟩ = some (.int .u64 0) := HS6.out.z.cell 1
          have z2 : w6.cell? ⟨w.heap.size, 2, none⟩ = some (.int .u64 0) := HS6.out.z.cell 2
          have z3 : w6.cell? ⟨w.heap.size, 3, none⟩ = some (.slice none 0 0) := HS6.out.z.cell 3
          have z4 : w6.cell? ⟨w.heap.size, 4, none⟩ = some (.int .i64 0) := HS6.out.z.cell 4
          have z5 : w6.cell? ⟨w.heap.size, 5, none⟩ = some (.slice none 0 0) := HS6.out.z.cell 5
          have o0 := HS6.out.z.free 0
          have o1 := HS6.out.z.free 1
          have o2 := HS6.out.z.free 2
          have o3 := HS6.out.z.free 3
          have o4 := HS6.out.z.free 4
          have o5 := HS6.out.z.free 5
          have hzg := HS6.out.r2
          have hzn : w.heap.size ≠ g := by omega
          by_cases hm : mayA x1 x2 t ps
          · obtain rfl := hme hm
            clear hme hmn hm
            generalize sealM mgDa (encA x1 x2 t ps) = sl at *
            go_wp2
            refine bodyPost_ret (ret_fp2 rfl _ _ _ _ _ _ _ _ w.heap.size (by rfl) (HS6.out.z.setAll _ _ _ _ _ _)) rfl ⟨?_, .inr ⟨HNY.out, ?_⟩⟩
            · exact (((((HS6.out.bel.setCell (p := ⟨w.heap.size, 0, none⟩) (Nat.le_refl _) _).setCell (p := ⟨w.heap.size, 1, none⟩) (Nat.le_refl _) _).setCell (p := ⟨w.heap.size, 2, none⟩) (Nat.le_refl _) _).setCell (p := ⟨w.heap.size, 3, none⟩) (Nat.le_refl _) _).setCell (p := ⟨w.heap.size, 4, none⟩) (Nat.le_refl _) _).setCell (p := ⟨w.heap.size, 5, none⟩) (Nat.le_refl _) _
            · show _ = Ending.returned (.tuple #[_, .int .i64 (if opE b mgAB = 0 then 125 else opE b mgAB)])
              rw [if_pos HOP.out]
              rfl
          · obtain rfl := hmn hm
            clear hme hmn hm
            go_wp2
            refine bodyPost_ret (ret_fp2 rfl _ _ _ _ _ _ _ _ w.heap.size (by rfl) (HS6.out.z.setAll _ _ _ _ _ _)) rfl ⟨?_, .inr ⟨HNY.out, ?_⟩⟩
            · exact (((((HS6.out.bel.setCell (p := ⟨w.heap.size, 0, none⟩) (Nat.le_refl _) _).setCell (p := ⟨w.heap.size, 1, none⟩) (Nat.le_refl _) _).setCell (p := ⟨w.heap.size, 2, none⟩) (Nat.le_refl _) _).setCell (p := ⟨w.heap.size, 3, none⟩) (Nat.le_refl _) _).setCell (p := ⟨w.heap.size, 4, none⟩) (Nat.le_refl _) _).setCell (p := ⟨w.heap.size, 5, none⟩) (Nat.le_refl _) _
            · show _ = Ending.returned (.tuple #[_, .int .i64 (if opE b mgAB = 0 then 125 else opE b mgAB)])
              rw [if_pos HOP.out]
              rfl
        · clear hgo
          cases bad
          · skip
            have c0 : wr.cell? ⟨g, 0, none⟩ = some (.int .i64 x1) := HSk.out.hg.cell 0
            have c1 : wr.cell? ⟨g, 1, none⟩ = some (.int .u64 x2) := HSk.out.hg.cell 1
            have c2 : wr.cell? ⟨g, 2, none⟩ = some (.int .u64 t) := HSk.out.hg.cell 2
            have c3 : wr.cell? ⟨g, 3, none⟩ = some (.slice ao ps.length cap) := HSk.out.hg.cell 3
            have c4 : wr.cell? ⟨g, 4, none⟩ = some (.int .i64 0) := HSk.out.hg.cell 4
            have c5 : wr.cell? ⟨g, 5, none⟩ = some (.slice none 0 0) := HSk.out.hg.cell 5
            have HEn : Hid (∀ _ : Unit, _) := fun _ => refEncA_any wr x1 0 x2 t ao none 0 cap 0 ps lb2 HSk.out.own.sees HWF.out
            go_wp2_with fail
            refine (HEn.out ()).mono ?_
            rintro e w6 ⟨hme, hmn, hb6⟩
            have HS6 : Hid (QdS w C g (g + 1) s x1 x2 t w6 p false (.slice ao ps.length cap) ps) := HSk.out.later hb6
            clear hb6 HEn HSk c0 c1 c2 c3 c4 c5 cb
            have cb : w6.cell? ⟨C, 2, none⟩ = some (.bool false) := HS6.out.cu.cell 2
            have c0 : w6.cell? ⟨g, 0, none⟩ = some (.int .i64 x1) := HS6.out.hg.cell 0
            have c1 : w6.cell? ⟨g, 1, none⟩ = some (.int .u64 x2) := HS6.out.hg.cell 1
            have c2 : w6.cell? ⟨g, 2, none⟩ = some (.int .u64 t) := HS6.out.hg.cell 2
            have c3 : w6.cell? ⟨g, 3, none⟩ = some (.slice ao ps.length cap) := HS6.out.hg.cell 3
            have c4 : w6.cell? ⟨g, 4, none⟩ = some (.int .i64 0) := HS6.out.hg.cell 4
            have c5 : w6.cell? ⟨g, 5, none⟩ = some (.slice none 0 0) := HS6.out.hg.cell 5
            have z0 : w6.cell? ⟨w.heap.size, 0, none⟩ = some (.int .i64 0) := HS6.out.z.cell 0
            have z1 : w6.cell? ⟨w.heap.size, 1, none⟩ = some (.int .u64 0) := HS6.out.z.cell 1
            have z2 : w6.cell? ⟨w.heap.size, 2, none⟩ = some (.int .u64 0) := HS6.out.z.cell 2
            have z3 : w6.cell? ⟨w.heap.size, 3, none⟩ = some (.slice none 0 0) := HS6.out.z.cell 3
            have z4 : w6.cell? ⟨w.heap.size, 4, none⟩ = some (.int .i64 0) := HS6.out.z.cell 4
            have z5 : w6.cell? ⟨w.heap.size, 5, none⟩ = some (.slice none 0 0) := HS6.out.z.cell 5
            have o0 := HS6.out.z.free 0
            have o1 := HS6.out.z.free 1
            have o2 := HS6.out.z.free 2
            have o3 := HS6.out.z.free 3
            have o4 := HS6.out.z.free 4
            have o5 := HS6.out.z.free 5
            have hzg := HS6.out.r2
            have hzn : w.heap.size ≠ g := by omega
            by_cases hm : mayA x1 x2 t ps
            · obtain rfl := hme hm
              have HMM : Hid (mayA x1 x2 t ps) := hm
              clear hme hmn hm
              have hbq := bytes_beq (sealM mgDa (encA x1 x2 t ps)) b
              by_cases hse : sealM mgDa (encA x1 x2 t ps) = b
              · rw [decide_eq_true hse] at hbq
                have HYm : Hid (AoYes b x1 x2 t ps) := AoYes.of HOP.out lb2 HMM.out HWF.out hse
                clear hse HYF
                generalize sealM mgDa (encA x1 x2 t ps) = sl at *
                go_wp2
                refine bodyPost_ret (ret_fp2 rfl _ _ _ _ _ _ _ _ w.heap.size (by rfl) (HS6.out.z.setAll _ _ _ _ _ _)) rfl ⟨?_, .inl ⟨x1, x2, t, ps, _, HYm.out, rfl, ?_⟩⟩
                · exact (((((HS6.out.bel.setCell (p := ⟨w.heap.size, 0, none⟩) (Nat.le_refl _) _).setCell (p := ⟨w.heap.size, 1, none⟩) (Nat.le_refl _) _).setCell (p := ⟨w.heap.size, 2, none⟩) (Nat.le_refl _) _).setCell (p := ⟨w.heap.size, 3, none⟩) (Nat.le_refl _) _).setCell (p := ⟨w.heap.size, 4, none⟩) (Nat.le_refl _) _).setCell (p := ⟨w.heap.size, 5, none⟩) (Nat.le_refl _) _
                · refine (HS6.out.own.same fun k hk hB => ?_).mono (by omega)
                  have hne : k ≠ w.heap.size := by omega
                  exact (Below.heap_setCell _ _ _ k hne).trans ((Below.heap_setCell _ _ _ k hne).trans ((Below.heap_setCell _ _ _ k hne).trans ((Below.heap_setCell _ _ _ k hne).trans ((Below.heap_setCell _ _ _ k hne).trans (Below.heap_setCell _ _ _ k hne)))))
              · rw [decide_eq_false hse] at hbq
                have HNY : Hid (¬ Y) := fun y => hse (HYF.out y).2.2
                clear hse HYF
                generalize sealM mgDa (encA x1 x2 t ps) = sl at *
                go_wp2
                refine bodyPost_ret (ret_fp2 rfl _ _ _ _ _ _ _ _ w.heap.size (by rfl) (HS6.out.z.setAll _ _ _ _ _ _)) rfl ⟨?_, .inr ⟨HNY.out, ?_⟩⟩
                · exact (((((HS6.out.bel.setCell (p := ⟨w.heap.size, 0, none⟩) (Nat.le_refl _) _).setCell (p := ⟨w.heap.size, 1, none⟩) (Nat.le_refl _) _).setCell (p := ⟨w.heap.size, 2, none⟩) (Nat.le_refl _) _).setCell (p := ⟨w.heap.size, 3, none⟩) (Nat.le_refl _) _).setCell (p := ⟨w.heap.size, 4, none⟩) (Nat.le_refl _) _).setCell (p := ⟨w.heap.size, 5, none⟩) (Nat.le_refl _) _
                · show _ = Ending.returned (.tuple #[_, .int .i64 (if opE b mgAB = 0 then 125 else opE b mgAB)])
                  rw [if_pos HOP.out]
                  rfl
            · have HNY : Hid (¬ Y) := fun y => hm (HYF.out y).2.1
              obtain rfl := hmn hm
              clear hme hmn hm HYF
              go_wp2
              refine bodyPost_ret (ret_fp2 rfl _ _ _ _ _ _ _ _ w.heap.size (by rfl) (HS6.out.z.setAll _ _ _ _ _ _)) rfl ⟨?_, .inr ⟨HNY.out, ?_⟩⟩
              · exact (((((HS6.out.bel.setCell (p := ⟨w.heap.size, 0, none⟩) (Nat.le_refl _) _).setCell (p := ⟨w.heap.size, 1, none⟩) (Nat.le_refl _) _).setCell (p := ⟨w.heap.size, 2, none⟩) (Nat.le_refl _) _).setCell (p := ⟨w.heap.size, 3, none⟩) (Nat.le_refl _) _).setCell (p := ⟨w.heap.size, 4, none⟩) (Nat.le_refl _) _).setCell (p := ⟨w.heap.size, 5, none⟩) (Nat.le_refl _) _
              · show _ = Ending.returned (.tuple #[_, .int .i64 (if opE b mgAB = 0 then 125 else opE b mgAB)])
                rw [if_pos HOP.out]
                rfl
          · have HNY : Hid (¬ Y) := fun y => by have := (HYF.out y).1; cases this
            clear HYF
            have c0 : wr.cell? ⟨g, 0, none⟩ = some (.int .i64 x1) := HSk.out.hg.cell 0
            have c1 : wr.cell? ⟨g, 1, none⟩ = some (.int .u64 x2) := HSk.out.hg.cell 1
            have c2 : wr.cell? ⟨g, 2, none⟩ = some (.int .u64 t) := HSk.out.hg.cell 2
            have c3 : wr.cell? ⟨g, 3, none⟩ = some (.slice ao ps.length cap) := HSk.out.hg.cell 3
            have c4 : wr.cell? ⟨g, 4, none⟩ = some (.int .i64 0) := HSk.out.hg.cell 4
            have c5 : wr.cell? ⟨g, 5, none⟩ = some (.slice none 0 0) := HSk.out.hg.cell 5
            have HEn : Hid (∀ _ : Unit, _) := fun _ => refEncA_any wr x1 0 x2 t ao none 0 cap 0 ps lb2 HSk.out.own.sees HWF.out
            go_wp2_with fail
            refine (HEn.out ()).mono ?_
            rintro e w6 ⟨hme, hmn, hb6⟩
            have HS6 : Hid (QdS w C g (g + 1) s x1 x2 t w6 p true (.slice ao ps.length cap) ps) := HSk.out.later hb6
            clear hb6 HEn HSk c0 c1 c2 c3 c4 c5 cb
            have cb : w6.cell? ⟨C, 2, none⟩ = some (.bool true) := HS6.out.cu.cell 2
            have c0 : w6.cell? ⟨g, 0, none⟩ = some (.int .i64 x1) := HS6.out.hg.cell 0
            have c1 : w6.cell? ⟨g, 1, none⟩ = some (.int .u64 x2) := HS6.out.hg.cell 1
            have c2 : w6.cell? ⟨g, 2, none⟩ = some (.int .u64 t) := HS6.out.hg.cell 2
            have c3 : w6.cell? ⟨g, 3, none⟩ = some (.slice ao ps.length cap) := HS6.out.hg.cell 3
            have c4 : w6.cell? ⟨g, 4, none⟩ = some (.int .i64 0) := HS6.out.hg.cell 4
            have c5 : w6.cell? ⟨g, 5, none⟩ = some (.slice none 0 0) := HS6.out.hg.cell 5
            have z0 : w6.cell? ⟨w.heap.size, 0, none⟩ = some (.int .i64 0) := HS6.out.z.cell 0
            have z1 : w6.cell? ⟨w.heap.size, 1, none⟩ = some (.int .u64 0) := HS6.out.z.cell 1
            have z2 : w6.cell? ⟨w.heap.size, 2, none⟩ = some (.int .u64 0) := HS6.out.z.cell 2
            have z3 : w6.cell? ⟨w.heap.size, 3, none⟩ = some (.slice none 0 0) := HS6.out.z.cell 3
            have z4 : w6.cell? ⟨w.heap.size, 4, none⟩ = some (.int .i64 0) := HS6.out.z.cell 4
            have z5 : w6.cell? ⟨w.heap.size, 5, none⟩ = some (.slice none 0 0) := HS6.out.z.cell 5
            have o0 := HS6.out.z.free 0
            have o1 := HS6.out.z.free 1
            have o2 := HS6.out.z.free 2
            have o3 := HS6.out.z.free 3
            have o4 := HS6.out.z.free 4
            have o5 := HS6.out.z.free 5
            have hzg := HS6.out.r2
            have hzn : w.heap.size ≠ g := by omega
            by_cases hm : mayA x1 x2 t ps
            · obtain rfl := hme hm
              clear hme hmn hm
              generalize sealM mgDa (encA x1 x2 t ps) = sl at *
              go_wp2
              refine bodyPost_ret (ret_fp2 rfl _ _ _ _ _ _ _ _ w.heap.size (by rfl) (HS6.out.z.setAll _ _ _ _ _ _)) rfl ⟨?_, .inr ⟨HNY.out, ?_⟩⟩
              · exact (((((HS6.out.bel.setCell (p := ⟨w.heap.size, 0, none⟩) (Nat.le_refl _) _).setCell (p := ⟨w.heap.size, 1, none⟩) (Nat.le_refl _) _).setCell (p := ⟨w.heap.size, 2, none⟩) (Nat.le_refl _) _).setCell (p := ⟨w.heap.size, 3, none⟩) (Nat.le_refl _) _).setCell (p := ⟨w.heap.size, 4, none⟩) (Nat.le_refl _) _).setCell (p := ⟨w.heap.size, 5, none⟩) (Nat.le_refl _) _
              · show _ = Ending.returned (.tuple #[_, .int .i64 (if opE b mgAB = 0 then 125 else opE b mgAB)])
                rw [if_pos HOP.out]
                rfl
            · obtain rfl := hmn hm
              clear hme hmn hm
              go_wp2
              refine bodyPost_ret (ret_fp2 rfl _ _ _ _ _ _ _ _ w.heap.size (by rfl) (HS6.out.z.setAll _ _ _ _ _ _)) rfl ⟨?_, .inr ⟨HNY.out, ?_⟩⟩
              · exact (((((HS6.out.bel.setCell (p := ⟨w.heap.size, 0, none⟩) (Nat.le_refl _) _).setCell (p := ⟨w.heap.size, 1, none⟩) (Nat.le_refl _) _).setCell (p := ⟨w.heap.size, 2, none⟩) (Nat.le_refl _) _).setCell (p := ⟨w.heap.size, 3, none⟩) (Nat.le_refl _) _).setCell (p := ⟨w.heap.size, 4, none⟩) (Nat.le_refl _) _).setCell (p := ⟨w.heap.size, 5, none⟩) (Nat.le_refl _) _
              · show _ = Ending.returned (.tuple #[_, .int .i64 (if opE b mgAB = 0 then 125 else opE b mgAB)])
                rw [if_pos HOP.out]
                rfl
end Go.Proofs.YtbfjnidpjmhfiaaGreatDoor

namespace Go.Proofs.YtbfjnidpjmhfiaaGreatDoor
set_option linter.unusedSimpArgs false
open Go.ChangeShapes Go.WideShapes Go.ChangeAt Go.RowKit
set_option linter.unusedVariables false
set_option maxRecDepth 100000
theorem AoYes.one {b : ByteArray} {g n m g' n' m' : Int} {ps ps' : List DT} (h : AoYes b g n m ps) (k : AoYes b g' n' m' ps') : g = g' ∧ n = n' ∧ m = m' ∧ ps = ps' := by
  have := h.2.1.symm.trans k.2.1
  injection this with this
  injection this with ha hd
  injection ha with ha hb
  injection hb with hb hc
  exact ⟨ha, hb, hc, hd⟩
theorem AoYes.no {b : ByteArray} {g n m : Int} {ps : List DT} (h : AoYes b g n m ps) {c : Int} (k : AoNo b c) : False := by
  rcases k with ⟨k1, _⟩ | ⟨_, _, k3⟩
  · exact k1 h.1
  · exact k3 _ _ _ _ h.2.1 h.2.2.1
/-- What both readings of a file answer. -/
def RdG (w : World) (id lo hi : Int) (ps : List DT) (c : Int) (e : Ending) (w' : World) : Prop := Below w.heap.size w w' ∧ ∃ v, e = .returned (.tuple #[.agg #[.int .i64 id, .int .u64 lo, .int .u64 hi, v, .int .i64 0, .slice none 0 0], .int .i64 c]) ∧ ownT w' w.heap.size v ps
theorem opE_boundA (b mg : ByteArray) : 0 ≤ opE b mg ∧ opE b mg ≤ 124 := by
  unfold opE
  split
  · omega
  · split
    · omega
    · split <;> omega
theorem decA_both (b : ByteArray) (hs : b.size ≤ 1125899906842624) : ∃ id lo hi ps c, 0 ≤ c ∧ c ≤ 1000 ∧ ps.length ≤ 65536 ∧ (∀ w, HalfAt w → Calls Tryz.prog 12 #[.string b] w (RdG w id lo hi ps c)) ∧ (∀ w, Calls Tryz.prog 13 #[.string b] w (RdG w id lo hi ps c)) := by
  by_cases hE : ∃ g n m ps, AoYes b g n m ps
  · obtain ⟨g, n, m, ps, hm⟩ := hE
    refine ⟨g, n, m, ps, 0, by omega, by omega, hm.2.2.1.2.2.1, fun w hT => (decDat_any w b hs hT).mono ?_, fun w => (refDecA_any w b hs True g n m ps (fun _ => hm)).mono ?_⟩
    · rintro e w' ⟨hb, ⟨g', n', m', ps', v, hy, he, ho⟩ | ⟨c, hn, _⟩⟩
      · obtain ⟨rfl, rfl, rfl, rfl⟩ := hm.one hy
        exact ⟨hb, v, he, ho⟩
      · exact (hm.no hn).elim
    · rintro e w' ⟨hb, ⟨g', n', m', ps', v, hy, he, ho⟩ | ⟨hn, _⟩⟩
      · obtain ⟨rfl, rfl, rfl, rfl⟩ := hm.one hy
        exact ⟨hb, v, he, ho⟩
      · exact (hn trivial).elim
  · have ho := opE_boundA b mgAB
    refine ⟨0, 0, 0, [], if opE b mgAB = 0 then 125 else opE b mgAB, by split <;> omega, by split <;> omega, by simp, fun w hT => (decDat_any w b hs hT).mono ?_, fun w => (refDecA_any w b hs False 0 0 0 [] (fun h => h.elim)).mono ?_⟩
    · rintro e w' ⟨hb, ⟨g', n', m', ps', v, hy, he, ho⟩ | ⟨c, hn, he⟩⟩
      · exact (hE ⟨_, _, _, _, hy⟩).elim
      · refine ⟨hb, .slice none 0 0, ?_, ownT_nil _ _⟩
        rw [he]
        rcases hn with ⟨k1, k2⟩ | ⟨k1, k2, _⟩
        · rw [if_neg k1, k2]
        · rw [if_pos k1, k2]
    · rintro e w' ⟨hb, ⟨g', n', m', ps', v, hy, he, ho⟩ | ⟨_, he⟩⟩
      · exact (hE ⟨_, _, _, _, hy⟩).elim
      · exact ⟨hb, .slice none 0 0, he, ownT_nil _ _⟩
/-- What both encodings answer. -/
theorem encA_both (id lo hi : Int) (ps : List DT) (h0 : 0 ≤ lo) (hw : ∀ p ∈ ps, p.wf) : ∃ str c, 0 ≤ c ∧ c ≤ 1000 ∧ (∀ w gen da dc ao en cap, SeesT w w.heap.size da ps → HalfAt w → Calls Tryz.prog 7 #[.agg #[.int .i64 id, .int .u64 lo, .int .u64 hi, .slice da ps.length dc, .int .i64 gen, .slice ao en cap]] w fun e w' => e = .returned (.tuple #[.string str, .int .i64 c]) ∧ Below w.heap.size w w') ∧ (∀ w gen da dc ao en cap, SeesT w w.heap.size da ps → Calls Tryz.prog 8 #[.agg #[.int .i64 id, .int .u64 lo, .int .u64 hi, .slice da ps.length dc, .int .i64 gen, .slice ao en cap]] w fun e w' => e = .returned (.tuple #[.string str, .int .i64 c]) ∧ Below w.heap.size w w') := by
  by_cases hm : mayA id lo hi ps
  · exact ⟨sealM mgDa (encA id lo hi ps), 0, by omega, by omega, fun w gen da dc ao en cap hs hT => (encData_any w id gen lo hi da ao en dc cap ps h0 hs hw hT).mono fun e w' ⟨h1, _, h3⟩ => ⟨h1 hm, h3⟩, fun w gen da dc ao en cap hs => (refEncA_any w id gen lo hi da ao en dc cap ps h0 hs hw).mono fun e w' ⟨h1, _, h3⟩ => ⟨h1 hm, h3⟩⟩
  · exact ⟨⟨#[]⟩, 2, by omega, by omega, fun w gen da dc ao en cap hs hT => (encData_any w id gen lo hi da ao en dc cap ps h0 hs hw hT).mono fun e w' ⟨_, h2, h3⟩ => ⟨h2 hm, h3⟩, fun w gen da dc ao en cap hs => (refEncA_any w id gen lo hi da ao en dc cap ps h0 hs hw).mono fun e w' ⟨_, h2, h3⟩ => ⟨h2 hm, h3⟩⟩
end Go.Proofs.YtbfjnidpjmhfiaaGreatDoor
