import Derived.Test.YtmolfemcciljjaaCoD4
import Derived.Defers
import Derived.Recover
import Derived.Laws.Pointers
namespace Go.Proofs.Ytmolfemcciljjaa
open Go.ChangeShapes Go.WideShapes Go.ChangeAt Go.RowKit
set_option linter.unusedVariables false
set_option maxRecDepth 100000
theorem Wc2.drew {W : World} {g : Nat} {a b : Value} (h : Wc2 W g a b) : Wc2 W.drew g a b := h
set_option maxHeartbeats 800000 in
theorem catchCo (c : Int) (bC bE : Nat) (a b z : Value) (older : List PanicEntry) (w : World)
    (hC : Wc2 w bC a b) (hE : w.cell? ⟨bE, 0, none⟩ = some z) (fE : w.frozen? ⟨bE, 0, none⟩ = false) (n5 : bC ≠ bE) :
    CallsD Try.prog 13 #[.pointer (some ⟨bC, 0, none⟩), .pointer (some ⟨bE, 0, none⟩)] (.panicking ({ v := .iface 26 (.int .i64 c), recovered := false } :: older)) w fun e u' w' =>
      e = .returned (.tuple #[]) ∧ u' = .panicking ({ v := .iface 26 (.int .i64 c), recovered := true } :: older) ∧ Wc2 w' bC (.int .u64 0) (.slice none 0 0) ∧ w'.cell? ⟨bE, 0, none⟩ = some (.int .i64 c) ∧ (∀ B, B ≤ bC → B ≤ bE → Below B w w') := by
  have k0 := hC.c0
  have k1 := hC.c1
  have f0 := hC.free 0
  have f1 := hC.free 1
  have HC : Hid (Wc2 w bC a b) := hC
  clear hC
  refine callsD_of_wpS Try.func13 rfl fun c₀ cs hu => ?_
  apply wpS_seq
  apply wpS_region
  simp [wpOpsS, go_sem, recoverD, hu, Try.ntmps13, Exit.thenS]
  refine wpS_of_wp ?_
  simp only [Array.replicate, List.replicate, List.setIfInBounds_toArray, List.set_cons_zero, List.set_cons_succ, List.append_toArray, List.cons_append, List.nil_append]
  go_wp2
  have hta := assert_errno
  go_region
  change bodyPostS _ _ _ _ _ _ _ _ _
  refine ⟨rfl, _, rfl, _, results_none rfl _ _ _, rfl, rfl, ?_, ?_, ?_⟩
  · have h1 := HC.out.set (.int .u64 0) (.slice none 0 0)
    have h2 := h1.other (p := ⟨bE, 0, none⟩) (.int .i64 c) n5
    exact h2.drew
  · simp [go_sem, hE]
  · intro B h1 h3
    exact ((((Below.refl _ _).setCell h1 _).setCell h1 _).setCell h3 _) |>.drew
theorem idleCo (pA pV : Addr) (w : World) :
    CallsD Try.prog 13 #[.pointer (some pA), .pointer (some pV)] .returning w fun e u' w' => e = .returned (.tuple #[]) ∧ u' = .returning ∧ w' = w := by
  refine callsD_of_wpS Try.func13 rfl fun c₀ cs hu => ?_
  apply wpS_seq
  apply wpS_region
  simp [wpOpsS, go_sem, recoverD, hu, Try.ntmps13, Exit.thenS]
  refine wpS_of_wp ?_
  simp only [Array.replicate, List.replicate, List.setIfInBounds_toArray, List.set_cons_zero, List.set_cons_succ, List.append_toArray, List.cons_append, List.nil_append]
  go_wp2
  change bodyPostS _ _ _ _ _ _ _ _ _
  cases c₀
  simp only at hu
  subst hu
  exact ⟨rfl, _, rfl, _, results_none rfl _ _ _, rfl, rfl, rfl⟩
theorem ret_commit2 {fn : Func} {p u : Tmp} (h : fn.results = #[.cell p 25, .cell u 26]) (tmps : Array Value) (w : World) (a : Int) (b : Value) (c : Int) (g gu : Nat) (hp : tmps.getD p undef = .pointer (some ⟨g, 0, none⟩)) (hu : tmps.getD u undef = .pointer (some ⟨gu, 0, none⟩))
    (hg : Wc2 w g (.int .u64 a) b) (cu : w.cell? ⟨gu, 0, none⟩ = some (.int .i64 c)) :
    (results fn tmps).run Try.prog w = .ok (.tuple #[.agg #[.int .u64 a, b], .int .i64 c]) w := by
  have hp' : tmps[p]?.getD undef = .pointer (some ⟨g, 0, none⟩) := by simpa using hp
  have hu' : tmps[u]?.getD undef = .pointer (some ⟨gu, 0, none⟩) := by simpa using hu
  have q0 := hg.c0
  have q1 := hg.c1
  simp [results, h, hp', hu', asAddr, go_sem, q0, q1, cu]
/-- What DecodeCommit answers. -/
def DcC (w : World) (r : Option (Int × List W3)) (e : Ending) (w' : World) : Prop :=
  Below w.heap.size w w' ∧ match r with
    | some (st, vs) => ∃ v, e = .returned (.tuple #[.agg #[.int .u64 st, v], .int .i64 0]) ∧ ownW w' w.heap.size v vs
    | none => e = .returned (.tuple #[.agg #[.int .u64 0, .slice none 0 0], .int .i64 112])
/-- The same, with rows that have no room behind them. -/
def DcF (w : World) (r : Option (Int × List W3)) (e : Ending) (w' : World) : Prop :=
  Below w.heap.size w w' ∧ match r with
    | some (st, vs) => ∃ v, e = .returned (.tuple #[.agg #[.int .u64 st, v], .int .i64 0]) ∧ ownW w' w.heap.size v vs ∧ FullW v vs
    | none => e = .returned (.tuple #[.agg #[.int .u64 0, .slice none 0 0], .int .i64 112])
set_option maxHeartbeats 1600000 in
theorem decodeF (s : ByteArray) (w : World) (hs : s.size ≤ 1125899906842624) : Calls Try.prog 5 #[.string s] w (DcF w (rdCo s)) := by
  have hmf : ∀ (fn : Fn) (first cap : Array Value) (w : World), (Instr.makeFunc fn first cap).run Try.prog w = .ok (.func fn first cap) w := fun _ _ _ _ => rfl
  have HBw : Hid (Below w.heap.size w ((w.alloc (.cells #[.int .u64 0, .slice none 0 0] 25)).alloc (.cells #[.int .i64 0] 26))) := ((Below.refl _ _).alloc (Nat.le_refl _) _).alloc (by simp) _
  have HZ : Hid (Wc2 ((w.alloc (.cells #[.int .u64 0, .slice none 0 0] 25)).alloc (.cells #[.int .i64 0] 26)) w.heap.size (.int .u64 0) (.slice none 0 0)) := (Below.heap_alloc _ _ _ (by simp)).trans (heap_alloc_new w _)
  have hE : ((w.alloc (.cells #[.int .u64 0, .slice none 0 0] 25)).alloc (.cells #[.int .i64 0] 26)).cell? ⟨w.heap.size + 1, 0, none⟩ = some (.int .i64 0) := by simp [go_sem]
  have fE : ((w.alloc (.cells #[.int .u64 0, .slice none 0 0] 25)).alloc (.cells #[.int .i64 0] 26)).frozen? ⟨w.heap.size + 1, 0, none⟩ = false := by simp [go_sem]
  have hsz : ((w.alloc (.cells #[.int .u64 0, .slice none 0 0] 25)).alloc (.cells #[.int .i64 0] 26)).heap.size = w.heap.size + 2 := by simp
  have HE : Hid _ := hE
  have HFE : Hid _ := fE
  clear hE fE
  go_enter_defers Try.func5, Try.ntmps5
  go_wp2_with fail
  generalize (w.alloc (.cells #[.int .u64 0, .slice none 0 0] 25)).alloc (.cells #[.int .i64 0] 26) = W2 at *
  refine (commitOf_any s W2 hs).mono ?_
  rintro e w3 ⟨hb, hm⟩
  have HZ3 : Hid (Wc2 w3 w.heap.size (.int .u64 0) (.slice none 0 0)) := HZ.out.later hb
  have hE3 := (hb.cell (p := ⟨w.heap.size + 1, 0, none⟩) (by simp only; omega)).trans HE.out
  have fE3 := (hb.frozen (p := ⟨w.heap.size + 1, 0, none⟩) (by simp only; omega)).trans HFE.out
  have HB3 : Hid (Below w.heap.size w w3) := HBw.out.trans (hb.mono HBw.out.size)
  clear hb HE HFE HBw HZ
  cases hr : rdCo s with
  | none =>
    rw [hr] at hm
    obtain rfl := hm
    refine leaves_cons (f := 13) (args := #[.pointer (some ⟨w.heap.size, 0, none⟩), .pointer (some ⟨w.heap.size + 1, 0, none⟩)]) (by simp) (by simp [go_sem]) ?_
    refine (catchCo 112 _ _ _ _ _ [] _ HZ3.out hE3 fE3 (by omega)).mono ?_
    rintro e u' w4 ⟨rfl, rfl, dV, dE, hb2⟩
    refine ⟨.tuple #[.agg #[.int .u64 0, .slice none 0 0], .int .i64 112], ret_commit2 rfl _ _ _ _ _ _ _ (by rfl) (by rfl) dV dE, ?_, rfl⟩
    exact HB3.out.trans (hb2 _ (by omega) (by omega))
  | some y =>
    obtain ⟨st, vs⟩ := y
    rw [hr] at hm
    obtain ⟨v, rfl, hown, hful⟩ := hm
    have z0 := HZ3.out.c0
    have z1 := HZ3.out.c1
    have y0 := HZ3.out.free 0
    have y1 := HZ3.out.free 1
    rcases hown.2 with ⟨hv, hn⟩ | ⟨g', c', cur', hv, e2, e3⟩
    · exact absurd hful (by rw [hv]; rintro ⟨g, hg⟩; cases hg)
    · subst hv
      have HF : Hid (FullW (.slice (some ⟨g', 0, none⟩) vs.length c') vs) := hful
      clear hful
      have HO : Hid (ownW w3 W2.heap.size _ vs) := hown
      clear hown
      go_wp2
      refine leaves_cons (f := 13) (args := #[.pointer (some ⟨w.heap.size, 0, none⟩), .pointer (some ⟨w.heap.size + 1, 0, none⟩)]) (by simp) (by simp [go_sem]) ?_
      refine (idleCo _ _ _).mono ?_
      rintro e u' w4 ⟨rfl, rfl, rfl⟩
      have h1 := (HZ3.out.set (.int .u64 st) ((.slice (some ⟨g', 0, none⟩) vs.length c'))).other (p := ⟨w.heap.size + 1, 0, none⟩) (.int .i64 0) (by simp only; omega)
      refine ⟨.tuple #[.agg #[.int .u64 st, (.slice (some ⟨g', 0, none⟩) vs.length c')], .int .i64 0], ret_commit2 rfl _ _ _ _ _ _ _ (by rfl) (by rfl) h1 (by simp [go_sem, hE3]), ?_, ?_⟩
      · exact ((HB3.out.setCell (p := ⟨w.heap.size, 0, none⟩) (Nat.le_refl _) _).setCell (p := ⟨w.heap.size, 1, none⟩) (Nat.le_refl _) _).setCell (p := ⟨w.heap.size + 1, 0, none⟩) (by simp only; omega) _
      · rw [hr]
        refine ⟨_, rfl, ?_, HF.out⟩
        have hne : g' ≠ w.heap.size := by omega
        have hne2 : g' ≠ w.heap.size + 1 := by omega
        have h2 := HO.out.one (W' := ((w3.setCell ⟨w.heap.size, 0, none⟩ (.int .u64 st)).setCell ⟨w.heap.size, 1, none⟩ (.slice (some ⟨g', 0, none⟩) vs.length c')).setCell ⟨w.heap.size + 1, 0, none⟩ (.int .i64 0)) ((Below.heap_setCell _ _ _ g' hne2).trans ((Below.heap_setCell _ _ _ g' hne).trans (Below.heap_setCell _ _ _ g' hne)))
        refine ⟨h2.1, ?_⟩
        rcases h2.2 with hx | ⟨g2, c2, cur2, k1, k2, k3⟩
        · exact .inl hx
        · exact .inr ⟨g2, c2, cur2, k1, by omega, k3⟩
theorem decodeC (s : ByteArray) (w : World) (hs : s.size ≤ 1125899906842624) : Calls Try.prog 5 #[.string s] w (DcC w (rdCo s)) := by
  refine (decodeF s w hs).mono ?_
  rintro e w' ⟨hb, hm⟩
  refine ⟨hb, ?_⟩
  cases hr : rdCo s with
  | none => rw [hr] at hm; exact hm
  | some y => rw [hr] at hm; obtain ⟨v, h1, h2, _⟩ := hm; exact ⟨v, h1, h2⟩
end Go.Proofs.Ytmolfemcciljjaa
