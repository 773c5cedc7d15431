import Derived.Test.YtjceellpmopnkaaDoorMd5
import Derived.Defers
import Derived.Recover
import Derived.Laws.Pointers
namespace Go.Proofs.YtjceellpmopnkaaDoor
open Go.ChangeShapes Go.WideShapes Go.ChangeAt Go.RowKit
set_option linter.unusedVariables false
set_option maxRecDepth 100000
theorem Mn4.drew {W : World} {g : Nat} {a b c d : Value} (h : Mn4 W g a b c d) : Mn4 W.drew g a b c d := h
set_option maxHeartbeats 1600000 in
theorem catchMn (c : Int) (bC bE : Nat) (a b d f z : Value) (older : List PanicEntry) (w : World)
    (hC : Mn4 w bC a b d f) (hE : w.cell? ⟨bE, 0, none⟩ = some z) (fE : w.frozen? ⟨bE, 0, none⟩ = false) (n5 : bC ≠ bE) :
    CallsD Tryd.prog 22 #[.pointer (some ⟨bC, 0, none⟩), .pointer (some ⟨bE, 0, none⟩)] (.panicking ({ v := .iface 27 (.int .i64 c), recovered := false } :: older)) w fun e u' w' =>
      e = .returned (.tuple #[]) ∧ u' = .panicking ({ v := .iface 27 (.int .i64 c), recovered := true } :: older) ∧ Mn4 w' bC (.int .i64 0) (.int .i64 0) (.int .u64 0) (.slice none 0 0) ∧ w'.cell? ⟨bE, 0, none⟩ = some (.int .i64 c) ∧ (∀ B, B ≤ bC → B ≤ bE → Below B w w') := by
  have k0 : w.cell? ⟨bC, 0, none⟩ = some a := hC.cell 0
  have k1 : w.cell? ⟨bC, 1, none⟩ = some b := hC.cell 1
  have k2 : w.cell? ⟨bC, 2, none⟩ = some d := hC.cell 2
  have k3 : w.cell? ⟨bC, 3, none⟩ = some f := hC.cell 3
  have f0 := hC.free 0
  have f1 := hC.free 1
  have f2 := hC.free 2
  have f3 := hC.free 3
  have HC : Hid (Mn4 w bC a b d f) := hC
  clear hC
  refine callsD_of_wpS Tryd.func22 rfl fun c₀ cs hu => ?_
  apply wpS_seq
  apply wpS_region
  simp [wpOpsS, go_sem, recoverD, hu, Tryd.ntmps22, Exit.thenS]
  refine wpS_of_wp ?_
  simp only [Array.replicate, List.replicate, List.setIfInBounds_toArray, List.set_cons_zero, List.set_cons_succ, List.append_toArray, List.cons_append, List.nil_append]
  go_wp2
  have hta := assert_errno
  go_region
  change bodyPostS _ _ _ _ _ _ _ _ _
  refine ⟨rfl, _, rfl, _, results_none rfl _ _ _, rfl, rfl, ?_, ?_, ?_⟩
  · have h1 := HC.out.setAll (.int .i64 0) (.int .i64 0) (.int .u64 0) (.slice none 0 0)
    have h2 := h1.other (p := ⟨bE, 0, none⟩) (.int .i64 c) n5
    exact h2.drew
  · simp [go_sem, hE]
  · intro B h1 h3
    exact ((((((Below.refl _ _).setCell h1 _).setCell h1 _).setCell h1 _).setCell h1 _).setCell h3 _) |>.drew
theorem idleMn (pA pV : Addr) (w : World) :
    CallsD Tryd.prog 22 #[.pointer (some pA), .pointer (some pV)] .returning w fun e u' w' => e = .returned (.tuple #[]) ∧ u' = .returning ∧ w' = w := by
  refine callsD_of_wpS Tryd.func22 rfl fun c₀ cs hu => ?_
  apply wpS_seq
  apply wpS_region
  simp [wpOpsS, go_sem, recoverD, hu, Tryd.ntmps22, Exit.thenS]
  refine wpS_of_wp ?_
  simp only [Array.replicate, List.replicate, List.setIfInBounds_toArray, List.set_cons_zero, List.set_cons_succ, List.append_toArray, List.cons_append, List.nil_append]
  go_wp2
  change bodyPostS _ _ _ _ _ _ _ _ _
  cases c₀
  simp only at hu
  subst hu
  exact ⟨rfl, _, rfl, _, results_none rfl _ _ _, rfl, rfl, rfl⟩
theorem ret_mn2 {fn : Func} {p u : Tmp} (h : fn.results = #[.cell p 25, .cell u 27]) (tmps : Array Value) (w : World) (a b d : Int) (f : Value) (c : Int) (g gu : Nat) (hp : tmps.getD p undef = .pointer (some ⟨g, 0, none⟩)) (hu : tmps.getD u undef = .pointer (some ⟨gu, 0, none⟩))
    (hg : Mn4 w g (.int .i64 a) (.int .i64 b) (.int .u64 d) f) (cu : w.cell? ⟨gu, 0, none⟩ = some (.int .i64 c)) :
    (results fn tmps).run Tryd.prog w = .ok (.tuple #[.agg #[.int .i64 a, .int .i64 b, .int .u64 d, f], .int .i64 c]) w := by
  have hp' : tmps[p]?.getD undef = .pointer (some ⟨g, 0, none⟩) := by simpa using hp
  have hu' : tmps[u]?.getD undef = .pointer (some ⟨gu, 0, none⟩) := by simpa using hu
  have q0 : w.cell? ⟨g, 0, none⟩ = some (.int .i64 a) := hg.cell 0
  have q1 : w.cell? ⟨g, 1, none⟩ = some (.int .i64 b) := hg.cell 1
  have q2 : w.cell? ⟨g, 2, none⟩ = some (.int .u64 d) := hg.cell 2
  have q3 : w.cell? ⟨g, 3, none⟩ = some f := hg.cell 3
  simp [results, h, hp', hu', asAddr, go_sem, q0, q1, q2, q3, cu]
/-- What DecodeManifest answers. -/
def DmC (w : World) (b : ByteArray) (e : Ending) (w' : World) : Prop :=
  Below w.heap.size w w' ∧ ((∃ gen next upto ps v, MoYes b gen next upto ps ∧ e = .returned (.tuple #[.agg #[.int .i64 gen, .int .i64 next, .int .u64 upto, v], .int .i64 0]) ∧ ownP w' w.heap.size v ps) ∨ ∃ c, MoNo b c ∧ e = .returned (.tuple #[.agg #[.int .i64 0, .int .i64 0, .int .u64 0, .slice none 0 0], .int .i64 c]))
set_option maxHeartbeats 3200000 in
theorem decMan_any (w : World) (b : ByteArray) (hs : b.size ≤ 1125899906842624) (hT : HalfAt w) : Calls Tryd.prog 9 #[.string b] w (DmC w b) := by
  have hmf : ∀ (fn : Fn) (first cap : Array Value) (w : World), (Instr.makeFunc fn first cap).run Tryd.prog w = .ok (.func fn first cap) w := fun _ _ _ _ => rfl
  have HBw : Hid (Below w.heap.size w ((w.alloc (.cells #[.int .i64 0, .int .i64 0, .int .u64 0, .slice none 0 0] 25)).alloc (.cells #[.int .i64 0] 27))) := ((Below.refl _ _).alloc (Nat.le_refl _) _).alloc (by simp) _
  have HZ : Hid (Mn4 ((w.alloc (.cells #[.int .i64 0, .int .i64 0, .int .u64 0, .slice none 0 0] 25)).alloc (.cells #[.int .i64 0] 27)) w.heap.size (.int .i64 0) (.int .i64 0) (.int .u64 0) (.slice none 0 0)) := (Below.heap_alloc _ _ _ (by simp)).trans (heap_alloc_new w _)
  have hE : ((w.alloc (.cells #[.int .i64 0, .int .i64 0, .int .u64 0, .slice none 0 0] 25)).alloc (.cells #[.int .i64 0] 27)).cell? ⟨w.heap.size + 1, 0, none⟩ = some (.int .i64 0) := by simp [go_sem]
  have fE : ((w.alloc (.cells #[.int .i64 0, .int .i64 0, .int .u64 0, .slice none 0 0] 25)).alloc (.cells #[.int .i64 0] 27)).frozen? ⟨w.heap.size + 1, 0, none⟩ = false := by simp [go_sem]
  have hsz : ((w.alloc (.cells #[.int .i64 0, .int .i64 0, .int .u64 0, .slice none 0 0] 25)).alloc (.cells #[.int .i64 0] 27)).heap.size = w.heap.size + 2 := by simp
  have HT : Hid (HalfAt ((w.alloc (.cells #[.int .i64 0, .int .i64 0, .int .u64 0, .slice none 0 0] 25)).alloc (.cells #[.int .i64 0] 27))) := hT.later HBw.out
  have HE : Hid _ := hE
  have HFE : Hid _ := fE
  clear hE fE hT
  go_enter_defers Tryd.func9, Tryd.ntmps9
  go_wp2_with fail
  generalize (w.alloc (.cells #[.int .i64 0, .int .i64 0, .int .u64 0, .slice none 0 0] 25)).alloc (.cells #[.int .i64 0] 27) = W2 at *
  refine (manifestOf_any W2 b hs HT.out).mono ?_
  rintro e w3 ⟨hb, hm⟩
  have HZ3 : Hid (Mn4 w3 w.heap.size (.int .i64 0) (.int .i64 0) (.int .u64 0) (.slice none 0 0)) := HZ.out.later hb HZ.out.lt
  have hE3 := (hb.cell (p := ⟨w.heap.size + 1, 0, none⟩) (by simp only; omega)).trans HE.out
  have fE3 := (hb.frozen (p := ⟨w.heap.size + 1, 0, none⟩) (by simp only; omega)).trans HFE.out
  have HB3 : Hid (Below w.heap.size w w3) := HBw.out.trans (hb.mono HBw.out.size)
  clear hb HE HFE HBw HZ HT
  rcases hm with ⟨gen, next, upto, ps, v, hy, rfl, hown⟩ | ⟨c, hn, rfl⟩
  · have HY : Hid (MoYes b gen next upto ps) := hy
    have HO : Hid (ownP w3 W2.heap.size v ps) := hown
    obtain ⟨a', n', c', rfl⟩ := hown.isSlice
    clear hown hy
    have z0 : w3.cell? ⟨w.heap.size, 0, none⟩ = some (.int .i64 0) := HZ3.out.cell 0
    have z1 : w3.cell? ⟨w.heap.size, 1, none⟩ = some (.int .i64 0) := HZ3.out.cell 1
    have z2 : w3.cell? ⟨w.heap.size, 2, none⟩ = some (.int .u64 0) := HZ3.out.cell 2
    have z3 : w3.cell? ⟨w.heap.size, 3, none⟩ = some (.slice none 0 0) := HZ3.out.cell 3
    have o0 := HZ3.out.free 0
    have o1 := HZ3.out.free 1
    have o2 := HZ3.out.free 2
    have o3 := HZ3.out.free 3
    go_wp2
    refine leaves_cons (f := 22) (args := #[.pointer (some ⟨w.heap.size, 0, none⟩), .pointer (some ⟨w.heap.size + 1, 0, none⟩)]) (by simp) (by simp [go_sem]) ?_
    refine (idleMn _ _ _).mono ?_
    rintro e u' w4 ⟨rfl, rfl, rfl⟩
    have h1 := (HZ3.out.setAll (.int .i64 gen) (.int .i64 next) (.int .u64 upto) (.slice a' n' c')).other (p := ⟨w.heap.size + 1, 0, none⟩) (.int .i64 0) (by simp only; omega)
    refine ⟨.tuple #[.agg #[.int .i64 gen, .int .i64 next, .int .u64 upto, .slice a' n' c'], .int .i64 0], ret_mn2 rfl _ _ _ _ _ _ _ _ _ (by rfl) (by rfl) h1 (by simp [go_sem, hE3]), ?_, .inl ⟨gen, next, upto, ps, _, HY.out, rfl, ?_⟩⟩
    · exact ((((HB3.out.setCell (p := ⟨w.heap.size, 0, none⟩) (Nat.le_refl _) _).setCell (p := ⟨w.heap.size, 1, none⟩) (Nat.le_refl _) _).setCell (p := ⟨w.heap.size, 2, none⟩) (Nat.le_refl _) _).setCell (p := ⟨w.heap.size, 3, none⟩) (Nat.le_refl _) _).setCell (p := ⟨w.heap.size + 1, 0, none⟩) (by simp only; omega) _
    · refine (HO.out.same fun k hk hB => ?_).mono (by omega)
      have hne : k ≠ w.heap.size := by omega
      have hne2 : k ≠ w.heap.size + 1 := by omega
      exact (Below.heap_setCell _ _ _ k hne2).trans ((Below.heap_setCell _ _ _ k hne).trans ((Below.heap_setCell _ _ _ k hne).trans ((Below.heap_setCell _ _ _ k hne).trans (Below.heap_setCell _ _ _ k hne))))
  · refine leaves_cons (f := 22) (args := #[.pointer (some ⟨w.heap.size, 0, none⟩), .pointer (some ⟨w.heap.size + 1, 0, none⟩)]) (by simp) (by simp [go_sem]) ?_
    refine (catchMn c _ _ _ _ _ _ _ [] _ HZ3.out hE3 fE3 (by omega)).mono ?_
    rintro e u' w4 ⟨rfl, rfl, dV, dE, hb2⟩
    refine ⟨.tuple #[.agg #[.int .i64 0, .int .i64 0, .int .u64 0, .slice none 0 0], .int .i64 c], ret_mn2 rfl _ _ _ _ _ _ _ _ _ (by rfl) (by rfl) dV dE, ?_, .inr ⟨c, hn, rfl⟩⟩
    exact HB3.out.trans (hb2 _ (by omega) (by omega))
end Go.Proofs.YtjceellpmopnkaaDoor
