import Derived.Test.YtgopplgknplkiaaGreatDoorDe10
import Derived.Defers
import Derived.Recover
import Derived.Laws.Pointers
import Derived.Test.YtgopplgknplkiaaGreatDoorMfR
import Derived.Test.YtgopplgknplkiaaGreatDoorDe9
import Derived.Test.YtgopplgknplkiaaGreatDoorDe6
import Derived.Test.YtgopplgknplkiaaGreatDoorMd8
namespace Go.Proofs.YtgopplgknplkiaaGreatDoor
open Go.ChangeShapes Go.WideShapes Go.ChangeAt Go.RowKit
set_option linter.unusedVariables false
set_option maxRecDepth 100000
theorem Fp6.drew {W : World} {g : Nat} {a b c d e f : Value} (h : Fp6 W g a b c d e f) : Fp6 W.drew g a b c d e f := h
set_option maxHeartbeats 1600000 in
theorem catchDe (c : Int) (bC bE : Nat) (a b d f x y z : Value) (older : List PanicEntry) (w : World)
    (hC : Fp6 w bC a b d f x y) (hE : w.cell? ⟨bE, 0, none⟩ = some z) (fE : w.frozen? ⟨bE, 0, none⟩ = false) (n5 : bC ≠ bE) :
    CallsD Tryz.prog 24 #[.pointer (some ⟨bC, 0, none⟩), .pointer (some ⟨bE, 0, none⟩)] (.panicking ({ v := .iface 28 (.int .i64 c), recovered := false } :: older)) w fun e u' w' =>
      e = .returned (.tuple #[]) ∧ u' = .panicking ({ v := .iface 28 (.int .i64 c), recovered := true } :: older) ∧ Fp6 w' bC (.int .i64 0) (.int .u64 0) (.int .u64 0) (.slice none 0 0) (.int .i64 0) (.slice none 0 0) ∧ w'.cell? ⟨bE, 0, none⟩ = some (.int .i64 c) ∧ (∀ B, B ≤ bC → B ≤ bE → Below B w w') := by
  have k0 : w.cell? ⟨bC, 0, none⟩ = some a := hC.cell 0
  have k1 : w.cell? ⟨bC, 1, none⟩ = some b := hC.cell 1
  have k2 : w.cell? ⟨bC, 2, none⟩ = some d := hC.cell 2
  have k3 : w.cell? ⟨bC, 3, none⟩ = some f := hC.cell 3
  have k4 : w.cell? ⟨bC, 4, none⟩ = some x := hC.cell 4
  have k5 : w.cell? ⟨bC, 5, none⟩ = some y := hC.cell 5
  have f0 := hC.free 0
  have f1 := hC.free 1
  have f2 := hC.free 2
  have f3 := hC.free 3
  have f4 := hC.free 4
  have f5 := hC.free 5
  have HC : Hid (Fp6 w bC a b d f x y) := hC
  clear hC
  refine callsD_of_wpS Tryz.func24 rfl fun c₀ cs hu => ?_
  apply wpS_seq
  apply wpS_region
  simp [wpOpsS, go_sem, recoverD, hu, Tryz.ntmps24, Exit.thenS]
  refine wpS_of_wp ?_
  simp only [Array.replicate, List.replicate, List.setIfInBounds_toArray, List.set_cons_zero, List.set_cons_succ, List.append_toArray, List.cons_append, List.nil_append]
  go_wp2
  have hta := assert_errno
  go_region
  change bodyPostS _ _ _ _ _ _ _ _ _
  refine ⟨rfl, _, rfl, _, results_none rfl _ _ _, rfl, rfl, ?_, ?_, ?_⟩
  · have h1 := HC.out.setAll (.int .i64 0) (.int .u64 0) (.int .u64 0) (.slice none 0 0) (.int .i64 0) (.slice none 0 0)
    have h2 := h1.other (p := ⟨bE, 0, none⟩) (.int .i64 c) n5
    exact h2.drew
  · simp [go_sem, hE]
  · intro B h1 h3
    exact ((((((((Below.refl _ _).setCell h1 _).setCell h1 _).setCell h1 _).setCell h1 _).setCell h1 _).setCell h1 _).setCell h3 _) |>.drew
theorem idleDe (pA pV : Addr) (w : World) :
    CallsD Tryz.prog 24 #[.pointer (some pA), .pointer (some pV)] .returning w fun e u' w' => e = .returned (.tuple #[]) ∧ u' = .returning ∧ w' = w := by
  refine callsD_of_wpS Tryz.func24 rfl fun c₀ cs hu => ?_
  apply wpS_seq
  apply wpS_region
  simp [wpOpsS, go_sem, recoverD, hu, Tryz.ntmps24, Exit.thenS]
  refine wpS_of_wp ?_
  simp only [Array.replicate, List.replicate, List.setIfInBounds_toArray, List.set_cons_zero, List.set_cons_succ, List.append_toArray, List.cons_append, List.nil_append]
  go_wp2
  change bodyPostS _ _ _ _ _ _ _ _ _
  cases c₀
  simp only at hu
  subst hu
  exact ⟨rfl, _, rfl, _, results_none rfl _ _ _, rfl, rfl, rfl⟩
theorem ret_de2 {fn : Func} {p u : Tmp} (h : fn.results = #[.cell p 26, .cell u 28]) (tmps : Array Value) (w : World) (a b d : Int) (f : Value) (x : Int) (y : Value) (c : Int) (g gu : Nat) (hp : tmps.getD p undef = .pointer (some ⟨g, 0, none⟩)) (hu : tmps.getD u undef = .pointer (some ⟨gu, 0, none⟩))
    (hg : Fp6 w g (.int .i64 a) (.int .u64 b) (.int .u64 d) f (.int .i64 x) y) (cu : w.cell? ⟨gu, 0, none⟩ = some (.int .i64 c)) :
    (results fn tmps).run Tryz.prog w = .ok (.tuple #[.agg #[.int .i64 a, .int .u64 b, .int .u64 d, f, .int .i64 x, y], .int .i64 c]) w := by
  have hp' : tmps[p]?.getD undef = .pointer (some ⟨g, 0, none⟩) := by simpa using hp
  have hu' : tmps[u]?.getD undef = .pointer (some ⟨gu, 0, none⟩) := by simpa using hu
  have q0 : w.cell? ⟨g, 0, none⟩ = some (.int .i64 a) := hg.cell 0
  have q1 : w.cell? ⟨g, 1, none⟩ = some (.int .u64 b) := hg.cell 1
  have q2 : w.cell? ⟨g, 2, none⟩ = some (.int .u64 d) := hg.cell 2
  have q3 : w.cell? ⟨g, 3, none⟩ = some f := hg.cell 3
  have q4 : w.cell? ⟨g, 4, none⟩ = some (.int .i64 x) := hg.cell 4
  have q5 : w.cell? ⟨g, 5, none⟩ = some y := hg.cell 5
  simp [results, h, hp', hu', asAddr, go_sem, q0, q1, q2, q3, q4, q5, cu]
/-- What DecodeDelta answers. -/
def DdC (w : World) (b : ByteArray) (e : Ending) (w' : World) : Prop :=
  Below w.heap.size w w' ∧ ((∃ id gen ps v, DoYes b id gen ps ∧ e = .returned (.tuple #[.agg #[.int .i64 id, .int .u64 0, .int .u64 0, .slice none 0 0, .int .i64 gen, v], .int .i64 0]) ∧ ownE w' w.heap.size v ps) ∨ ∃ c, DoNo b c ∧ e = .returned (.tuple #[.agg #[.int .i64 0, .int .u64 0, .int .u64 0, .slice none 0 0, .int .i64 0, .slice none 0 0], .int .i64 c]))
set_option maxHeartbeats 3200000 in
theorem decDel_any (w : World) (b : ByteArray) (hs : b.size ≤ 1125899906842624) (hT : HalfAt w) : Calls Tryz.prog 10 #[.string b] w (DdC w b) := by
  have hmf : ∀ (fn : Fn) (first cap : Array Value) (w : World), (Instr.makeFunc fn first cap).run Tryz.prog w = .ok (.func fn first cap) w := fun _ _ _ _ => rfl
  have HBw : Hid (Below w.heap.size w ((w.alloc (.cells #[.int .i64 0, .int .u64 0, .int .u64 0, .slice none 0 0, .int .i64 0, .slice none 0 0] 26)).alloc (.cells #[.int .i64 0] 28))) := ((Below.refl _ _).alloc (Nat.le_refl _) _).alloc (by simp) _
  have HZ : Hid (Fp6 ((w.alloc (.cells #[.int .i64 0, .int .u64 0, .int .u64 0, .slice none 0 0, .int .i64 0, .slice none 0 0] 26)).alloc (.cells #[.int .i64 0] 28)) w.heap.size (.int .i64 0) (.int .u64 0) (.int .u64 0) (.slice none 0 0) (.int .i64 0) (.slice none 0 0)) := (Below.heap_alloc _ _ _ (by simp)).trans (heap_alloc_new w _)
  have hE : ((w.alloc (.cells #[.int .i64 0, .int .u64 0, .int .u64 0, .slice none 0 0, .int .i64 0, .slice none 0 0] 26)).alloc (.cells #[.int .i64 0] 28)).cell? ⟨w.heap.size + 1, 0, none⟩ = some (.int .i64 0) := by simp [go_sem]
  have fE : ((w.alloc (.cells #[.int .i64 0, .int .u64 0, .int .u64 0, .slice none 0 0, .int .i64 0, .slice none 0 0] 26)).alloc (.cells #[.int .i64 0] 28)).frozen? ⟨w.heap.size + 1, 0, none⟩ = false := by simp [go_sem]
  have hsz : ((w.alloc (.cells #[.int .i64 0, .int .u64 0, .int .u64 0, .slice none 0 0, .int .i64 0, .slice none 0 0] 26)).alloc (.cells #[.int .i64 0] 28)).heap.size = w.heap.size + 2 := by simp
  have HT : Hid (HalfAt ((w.alloc (.cells #[.int .i64 0, .int .u64 0, .int .u64 0, .slice none 0 0, .int .i64 0, .slice none 0 0] 26)).alloc (.cells #[.int .i64 0] 28))) := hT.later HBw.out
  have HE : Hid _ := hE
  have HFE : Hid _ := fE
  clear hE fE hT
  go_enter_defers Tryz.func10, Tryz.ntmps10
  go_wp2_with fail
  generalize (w.alloc (.cells #[.int .i64 0, .int .u64 0, .int .u64 0, .slice none 0 0, .int .i64 0, .slice none 0 0] 26)).alloc (.cells #[.int .i64 0] 28) = W2 at *
  refine (deltaOf_any W2 b hs HT.out).mono ?_
  rintro e w3 ⟨hb, hm⟩
  have HZ3 : Hid (Fp6 w3 w.heap.size (.int .i64 0) (.int .u64 0) (.int .u64 0) (.slice none 0 0) (.int .i64 0) (.slice none 0 0)) := HZ.out.later hb HZ.out.lt
  have hE3 := (hb.cell (p := ⟨w.heap.size + 1, 0, none⟩) (by simp only; omega)).trans HE.out
  have fE3 := (hb.frozen (p := ⟨w.heap.size + 1, 0, none⟩) (by simp only; omega)).trans HFE.out
  have HB3 : Hid (Below w.heap.size w w3) := HBw.out.trans (hb.mono HBw.out.size)
  clear hb HE HFE HBw HZ HT
  rcases hm with ⟨id, gen, ps, v, hy, rfl, hown⟩ | ⟨c, hn, rfl⟩
  · have HY : Hid (DoYes b id gen ps) := hy
    have HO : Hid (ownE w3 W2.heap.size v ps) := hown
    obtain ⟨a', n', c', rfl⟩ := hown.isSlice
    clear hown hy
    have z0 : w3.cell? ⟨w.heap.size, 0, none⟩ = some (.int .i64 0) := HZ3.out.cell 0
    have z1 : w3.cell? ⟨w.heap.size, 1, none⟩ = some (.int .u64 0) := HZ3.out.cell 1
    have z2 : w3.cell? ⟨w.heap.size, 2, none⟩ = some (.int .u64 0) := HZ3.out.cell 2
    have z3 : w3.cell? ⟨w.heap.size, 3, none⟩ = some (.slice none 0 0) := HZ3.out.cell 3
    have z4 : w3.cell? ⟨w.heap.size, 4, none⟩ = some (.int .i64 0) := HZ3.out.cell 4
    have z5 : w3.cell? ⟨w.heap.size, 5, none⟩ = some (.slice none 0 0) := HZ3.out.cell 5
    have o0 := HZ3.out.free 0
    have o1 := HZ3.out.free 1
    have o2 := HZ3.out.free 2
    have o3 := HZ3.out.free 3
    have o4 := HZ3.out.free 4
    have o5 := HZ3.out.free 5
    go_wp2
    refine leaves_cons (f := 24) (args := #[.pointer (some ⟨w.heap.size, 0, none⟩), .pointer (some ⟨w.heap.size + 1, 0, none⟩)]) (by simp) (by simp [go_sem]) ?_
    refine (idleDe _ _ _).mono ?_
    rintro e u' w4 ⟨rfl, rfl, rfl⟩
    have h1 := (HZ3.out.setAll (.int .i64 id) (.int .u64 0) (.int .u64 0) (.slice none 0 0) (.int .i64 gen) (.slice a' n' c')).other (p := ⟨w.heap.size + 1, 0, none⟩) (.int .i64 0) (by simp only; omega)
    refine ⟨.tuple #[.agg #[.int .i64 id, .int .u64 0, .int .u64 0, .slice none 0 0, .int .i64 gen, .slice a' n' c'], .int .i64 0], ret_de2 rfl _ _ _ _ _ _ _ _ _ _ _ (by rfl) (by rfl) h1 (by simp [go_sem, hE3]), ?_, .inl ⟨id, gen, ps, _, HY.out, rfl, ?_⟩⟩
    · exact ((((((HB3.out.setCell (p := ⟨w.heap.size, 0, none⟩) (Nat.le_refl _) _).setCell (p := ⟨w.heap.size, 1, none⟩) (Nat.le_refl _) _).setCell (p := ⟨w.heap.size, 2, none⟩) (Nat.le_refl _) _).setCell (p := ⟨w.heap.size, 3, none⟩) (Nat.le_refl _) _).setCell (p := ⟨w.heap.size, 4, none⟩) (Nat.le_refl _) _).setCell (p := ⟨w.heap.size, 5, none⟩) (Nat.le_refl _) _).setCell (p := ⟨w.heap.size + 1, 0, none⟩) (by simp only; omega) _
    · refine (HO.out.same fun k hk hB => ?_).mono (by omega)
      have hne : k ≠ w.heap.size := by omega
      have hne2 : k ≠ w.heap.size + 1 := by omega
      exact (Below.heap_setCell _ _ _ k hne2).trans ((Below.heap_setCell _ _ _ k hne).trans ((Below.heap_setCell _ _ _ k hne).trans ((Below.heap_setCell _ _ _ k hne).trans ((Below.heap_setCell _ _ _ k hne).trans ((Below.heap_setCell _ _ _ k hne).trans (Below.heap_setCell _ _ _ k hne))))))
  · refine leaves_cons (f := 24) (args := #[.pointer (some ⟨w.heap.size, 0, none⟩), .pointer (some ⟨w.heap.size + 1, 0, none⟩)]) (by simp) (by simp [go_sem]) ?_
    refine (catchDe c _ _ _ _ _ _ _ _ _ [] _ HZ3.out hE3 fE3 (by omega)).mono ?_
    rintro e u' w4 ⟨rfl, rfl, dV, dE, hb2⟩
    refine ⟨.tuple #[.agg #[.int .i64 0, .int .u64 0, .int .u64 0, .slice none 0 0, .int .i64 0, .slice none 0 0], .int .i64 c], ret_de2 rfl _ _ _ _ _ _ _ _ _ _ _ (by rfl) (by rfl) dV dE, ?_, .inr ⟨c, hn, rfl⟩⟩
    exact HB3.out.trans (hb2 _ (by omega) (by omega))
end Go.Proofs.YtgopplgknplkiaaGreatDoor

namespace Go.Proofs.YtgopplgknplkiaaGreatDoor
open Go.ChangeShapes Go.WideShapes Go.ChangeAt Go.RowKit
set_option linter.unusedVariables false
set_option maxRecDepth 100000
theorem encE_bytes {last : Int} {p : ER} (hm : mayE p) (hl : last ≤ p.beg) (h0 : 0 ≤ last) : ∀ x ∈ encE last p, 0 ≤ x ∧ x < 256 := by
  obtain ⟨m1, m2, m3, m4, m5⟩ := hm
  unfold encE
  exact bytes_app (uvB_bytes _ (by omega) (by omega)) (bytes_app (uvB_bytes _ (by omega) (by omega)) (blB_bytes _ (by omega)))
theorem encEs_bytes : ∀ (ps : List ER) (last : Int), 0 ≤ last → okEs last ps → ∀ x ∈ encEs last ps, 0 ≤ x ∧ x < 256
  | [], _, _, _, x, h => by cases h
  | p :: ps, last, h0, ⟨o1, o2, o3⟩, x, h => bytes_app (encE_bytes o2 o1 h0) (encEs_bytes ps p.beg (by have := o2.1; omega) o3) x h
theorem encD_bytes {id gen : Int} {ps : List ER} (hm : mayD id gen ps) : ∀ x ∈ encD id gen ps, 0 ≤ x ∧ x < 256 := by
  have hf := mayD_from hm
  obtain ⟨⟨g1, g2⟩, ⟨n1, n2⟩, ⟨l0, l1⟩, _⟩ := hm
  unfold encD
  exact bytes_app (uvB_bytes _ (by omega) (by omega)) (bytes_app (uvB_bytes _ (by omega) (by omega)) (bytes_app (uvB_bytes _ (by omega) (by omega)) (encEs_bytes ps 0 (by omega) hf)))
theorem mgDl_bytes : ∀ x ∈ mgDl, 0 ≤ x ∧ x < 256 := by decide
theorem mgDB_str : mgDB = strOfNums mgDl := by decide
theorem DoYes.seal {b : ByteArray} {id gen : Int} {ps : List ER} (h : DoYes b id gen ps) : sealM mgDl (encD id gen ps) = b := by
  obtain ⟨h0, hr, hm, hw⟩ := h
  obtain ⟨h12, hg, hc⟩ := opE_parts h0
  have hsz : (b.extract 0 (b.size - 4)).size = b.size - 4 := by rw [ByteArray.size_extract]; omega
  obtain ⟨f1, f2, -⟩ := rdD_form (by omega) hr
  have e1 := has_ext (encD_bytes hm) (by omega) f1
  rw [← f2] at e1
  have e2 : (b.extract 0 (b.size - 4)).extract 0 8 = strOfNums mgDl := by
    rw [← mgDB_str, ← hg, ByteArray.extract_extract]
    congr 1
    omega
  have e3 : b.extract 0 (b.size - 4) = strOfNums (mgDl ++ encD id gen ps) := by
    rw [strApp, ← e1, ← e2]
    exact split_at _ 8 (by omega)
  have e4 := (fx4_iff b (b.size - 4) _ (by omega) (by unfold crN; omega)).1 hc
  unfold sealM
  rw [← e3, e4]
  exact (split_at b (b.size - 4) (by omega)).symm
theorem sealD_parts {b : ByteArray} {l : List Int} (h : sealM mgDl l = b) : b.size = 12 + l.length ∧ b.extract 0 (b.size - 4) = strOfNums (mgDl ++ l) := by
  have hz : (strOfNums (mgDl ++ l)).size = 8 + l.length := by rw [strOfNums_size, List.length_append]; rfl
  have hb : b.size = 12 + l.length := by
    rw [← h]
    unfold sealM
    rw [ByteArray.size_append, hz, strOfNums_size, fxB_len]
    omega
  refine ⟨hb, ?_⟩
  rw [hb, show 12 + l.length - 4 = (strOfNums (mgDl ++ l)).size from by omega, ← h]
  unfold sealM
  exact ByteArray.extract_append_eq_left rfl
theorem sealD_has {b : ByteArray} {l : List Int} (hl : ∀ x ∈ l, 0 ≤ x ∧ x < 256) (h : sealM mgDl l = b) : HasAt (b.extract 0 (b.size - 4)) 8 l := by
  rw [(sealD_parts h).2]
  intro i hi
  obtain ⟨g, hg⟩ := nums_get (mgDl ++ l) (bytes_app mgDl_bytes hl) (8 + i) (by rw [List.length_append]; show _ < 8 + _; omega)
  refine ⟨g, ?_⟩
  rw [hg, List.getElem_append_right (by show 8 ≤ _; omega)]
  congr 1
  show 8 + i - 8 = i
  omega
theorem DoYes.of {b : ByteArray} {id gen : Int} {ps : List ER} (h0 : opE b mgDB = 0) (hm : mayD id gen ps) (hw : ∀ p ∈ ps, p.wf) (h : sealM mgDl (encD id gen ps) = b) : DoYes b id gen ps := by
  have hp := (sealD_parts h).1
  have hsz : (b.extract 0 (b.size - 4)).size = b.size - 4 := by rw [ByteArray.size_extract]; omega
  exact ⟨h0, rdD_back (by omega) hm (sealD_has (encD_bytes hm) h) (by omega), hm, hw⟩
theorem DoYes.has {b : ByteArray} {id gen : Int} {ps : List ER} (h : DoYes b id gen ps) : HasAt (b.extract 8 (b.size - 4)) 0 (encD id gen ps) := by
  have hp := (sealD_parts h.seal).1
  exact has_shift (by omega) (sealD_has (encD_bytes h.2.2.1) h.seal) (by omega)
end Go.Proofs.YtgopplgknplkiaaGreatDoor

namespace Go.Proofs.YtgopplgknplkiaaGreatDoor
open Go.ChangeShapes Go.WideShapes Go.ChangeAt Go.RowKit
set_option linter.unusedVariables false
set_option maxRecDepth 100000
/-- What the document's DecodeDelta answers; Y: the file is that of a delta file. -/
def RdC (w : World) (b : ByteArray) (Y : Prop) (e : Ending) (w' : World) : Prop :=
  Below w.heap.size w w' ∧ ((∃ id gen ps v, DoYes b id gen ps ∧ e = .returned (.tuple #[.agg #[.int .i64 id, .int .u64 0, .int .u64 0, .slice none 0 0, .int .i64 gen, v], .int .i64 0]) ∧ ownE w' w.heap.size v ps) ∨ (¬ Y ∧ e = .returned (.tuple #[.agg #[.int .i64 0, .int .u64 0, .int .u64 0, .slice none 0 0, .int .i64 0, .slice none 0 0], .int .i64 (if opE b mgDB = 0 then 125 else opE b mgDB)])))
theorem cu_stepD {s : ByteArray} {p q : Nat} {bad bad' : Bool} {v hi : Int} {F : Int → List Int} (hx : ∀ x, 0 ≤ x → x ≤ hi → bad = false → HasAt s p (F x) → v = x ∧ q = p + (F x).length ∧ bad' = false) {x : Int} {rest : List Int} (h0 : 0 ≤ x) (h1 : x ≤ hi) (h : bad = false ∧ HasAt s p (F x ++ rest)) : v = x ∧ bad' = false ∧ HasAt s q rest := by
  obtain ⟨e1, e2, e3⟩ := hx x h0 h1 h.1 h.2.left
  exact ⟨e1, e3, by rw [e2]; exact h.2.right⟩
theorem cu_stepT {s : ByteArray} {p q : Nat} {bad bad' : Bool} {v : ByteArray} (hx : ∀ x : ByteArray, x.size ≤ 1048576 → bad = false → HasAt s p (blB x) → v = x ∧ q = p + (blB x).length ∧ bad' = false) {x : ByteArray} {rest : List Int} (h1 : x.size ≤ 1048576) (h : bad = false ∧ HasAt s p (blB x ++ rest)) : v = x ∧ bad' = false ∧ HasAt s q rest := by
  obtain ⟨e1, e2, e3⟩ := hx x h1 h.1 h.2.left
  exact ⟨e1, e3, by rw [e2]; exact h.2.right⟩
theorem Cu.frD {w w' : World} {C R : Nat} {s : ByteArray} {p : Nat} {bad : Bool} (h : Cu w C s p bad) (hf : Fr R w w') (hn : C ≠ R) : Cu w' C s p bad := (hf.rest C h.lt hn).trans h
theorem Fp6.set4 {W : World} {g : Nat} {a b c d e f : Value} (h : Fp6 W g a b c d e f) (v : Value) : Fp6 (W.setCell ⟨g, 4, none⟩ v) g a b c d v f := by
  unfold Fp6 at h ⊢
  simp [World.setCell, Array.getElem?_modify, h]
/-- An erasure in a block. -/
def Er3 (W : World) (g : Nat) (a b c : Value) : Prop := W.heap[g]? = some (.cells #[a, b, c] 46 (0, 0))
theorem Er3.cell {W : World} {g : Nat} {a b c : Value} (h : Er3 W g a b c) (j : Nat) : W.cell? ⟨g, j, none⟩ = (#[a, b, c] : Array Value)[j]? := cells_at h j
theorem Er3.free {W : World} {g : Nat} {a b c : Value} (h : Er3 W g a b c) (j : Nat) : W.frozen? ⟨g, j, none⟩ = false := by
  unfold Er3 at h
  simp [World.frozen?, h]
theorem Er3.lt {W : World} {g : Nat} {a b c : Value} (h : Er3 W g a b c) : g < W.heap.size := (Array.getElem?_eq_some_iff.1 h).1
theorem Er3.fr {W W' : World} {g R : Nat} {a b c : Value} (h : Er3 W g a b c) (hf : Fr R W W') (hn : g ≠ R) : Er3 W' g a b c := (hf.rest g h.lt hn).trans h
theorem Er3.set1 {W : World} {g : Nat} {a b c : Value} (h : Er3 W g a b c) (v : Value) : Er3 (W.setCell ⟨g, 1, none⟩ v) g a v c := by
  unfold Er3 at h ⊢
  simp [World.setCell, Array.getElem?_modify, h]
theorem Er3.set2 {W : World} {g : Nat} {a b c : Value} (h : Er3 W g a b c) (v : Value) : Er3 (W.setCell ⟨g, 2, none⟩ v) g a b v := by
  unfold Er3 at h ⊢
  simp [World.setCell, Array.getElem?_modify, h]
/-- What stands while the document reads a delta file. -/
structure RdS (w : World) (C g B : Nat) (s : ByteArray) (id gen : Int) (W : World) (p : Nat) (bad : Bool) (v : Value) (ps : List ER) : Prop where
  bel : Below w.heap.size w W
  z : Fp6 W w.heap.size (.int .i64 0) (.int .u64 0) (.int .u64 0) (.slice none 0 0) (.int .i64 0) (.slice none 0 0)
  cu : Cu W C s p bad
  hg : Fp6 W g (.int .i64 id) (.int .u64 0) (.int .u64 0) (.slice none 0 0) (.int .i64 gen) v
  own : ownE W B v ps
  r1 : w.heap.size < C
  r2 : w.heap.size < g
  n1 : C ≠ g
  b1 : C < B
  b2 : g < B
  b3 : B ≤ W.heap.size
theorem RdS.read {w : World} {C g B : Nat} {s : ByteArray} {id gen : Int} {W W' : World} {p q : Nat} {bad bad' : Bool} {v : Value} {ps : List ER} (h : RdS w C g B s id gen W p bad v ps) (hf : Fr C W W') (hr : Cu W' C s q bad') : RdS w C g B s id gen W' q bad' v ps :=
  ⟨h.bel.trans (hf.toBelow.mono (Nat.le_of_lt h.r1)), h.z.fr hf (by have := h.r1; omega), hr, h.hg.fr hf (Ne.symm h.n1), h.own.same (fun k hk hB => hf.rest k hk (by have := h.b1; omega)), h.r1, h.r2, h.n1, h.b1, h.b2, Nat.le_trans h.b3 hf.toBelow.size⟩
theorem RdS.put {w : World} {C g B : Nat} {s : ByteArray} {id gen : Int} {W : World} {p : Nat} {bad : Bool} {v : Value} {ps : List ER} (h : RdS w C g B s id gen W p bad v ps) (j : Nat) (u : Value) {id' gen' : Int} (hm : Fp6 (W.setCell ⟨g, j, none⟩ u) g (.int .i64 id') (.int .u64 0) (.int .u64 0) (.slice none 0 0) (.int .i64 gen') v) : RdS w C g B s id' gen' (W.setCell ⟨g, j, none⟩ u) p bad v ps := by
  have := h.r1
  have := h.r2
  have := h.b1
  have := h.b2
  exact ⟨h.bel.setCell (p := ⟨g, j, none⟩) (by simp only; omega) _, h.z.other (p := ⟨g, j, none⟩) _ (by simp only; omega), Cu.other (p := ⟨g, j, none⟩) h.cu _ h.n1, hm, h.own.same (fun k hk hB => Below.heap_setCell _ _ _ k (by simp only; omega)), h.r1, h.r2, h.n1, h.b1, h.b2, by simp; exact h.b3⟩
theorem RdS.app {w : World} {C g B : Nat} {s : ByteArray} {id gen : Int} {W W' : World} {p : Nat} {bad : Bool} {v v' : Value} {ps ps' : List ER} (h : RdS w C g B s id gen W p bad v ps) (ho : ownE W' B v' ps') (hb : Below B W W') : RdS w C g B s id gen (W'.setCell ⟨g, 5, none⟩ v') p bad v' ps' := by
  have := h.r1
  have := h.r2
  have := h.b1
  have := h.b2
  refine ⟨(h.bel.trans (hb.mono (by omega))).setCell (p := ⟨g, 5, none⟩) (by simp only; omega) _, (h.z.later hb (by omega)).other (p := ⟨g, 5, none⟩) _ (by simp only; omega), Cu.other (p := ⟨g, 5, none⟩) (h.cu.later hb h.b1) _ h.n1, (h.hg.later hb h.b2).set5 v', ho.same (fun k hk hB => Below.heap_setCell _ _ _ k (by simp only; omega)), h.r1, h.r2, h.n1, h.b1, h.b2, ?_⟩
  have := hb.size
  have := h.b3
  simp
  omega
theorem RdS.drew {w : World} {C g B : Nat} {s : ByteArray} {id gen : Int} {W : World} {p : Nat} {bad : Bool} {v : Value} {ps : List ER} (h : RdS w C g B s id gen W p bad v ps) : RdS w C g B s id gen W.drew p bad v ps :=
  ⟨h.bel.drew, h.z, h.cu, h.hg, h.own.same (fun _ _ _ => rfl), h.r1, h.r2, h.n1, h.b1, h.b2, h.b3⟩
theorem RdS.later {w : World} {C g B : Nat} {s : ByteArray} {id gen : Int} {W W' : World} {p : Nat} {bad : Bool} {v : Value} {ps : List ER} (h : RdS w C g B s id gen W p bad v ps) (hb : Below W.heap.size W W') : RdS w C g B s id gen W' p bad v ps :=
  ⟨h.bel.trans (hb.mono h.bel.size), h.z.later hb h.z.lt, h.cu.later hb h.cu.lt, h.hg.later hb h.hg.lt, h.own.later hb, h.r1, h.r2, h.n1, h.b1, h.b2, Nat.le_trans h.b3 hb.size⟩
/-- The same, beside an erasure that is being read, at the block q. -/
structure XdS (w : World) (C g B : Nat) (s : ByteArray) (id gen : Int) (v : Value) (ps : List ER) (q : Nat) (W : World) (p : Nat) (bad : Bool) (x : ER) : Prop where
  base : RdS w C g B s id gen W p bad v ps
  x : Er3 W q (.int .u64 x.beg) (.int .u64 x.fin) (.string x.key)
  q1 : g < q
  q2 : C < q
  q3 : ∀ k, v.ownBlock = some k → k ≠ q
theorem XdS.read {w : World} {C g B : Nat} {s : ByteArray} {id gen : Int} {v : Value} {ps : List ER} {q : Nat} {W W' : World} {p p' : Nat} {bad bad' : Bool} {x : ER} (h : XdS w C g B s id gen v ps q W p bad x) (hf : Fr C W W') (hr : Cu W' C s p' bad') : XdS w C g B s id gen v ps q W' p' bad' x :=
  ⟨h.base.read hf hr, h.x.fr hf (by have := h.q2; omega), h.q1, h.q2, h.q3⟩
theorem XdS.drew {w : World} {C g B : Nat} {s : ByteArray} {id gen : Int} {v : Value} {ps : List ER} {q : Nat} {W : World} {p : Nat} {bad : Bool} {x : ER} (h : XdS w C g B s id gen v ps q W p bad x) : XdS w C g B s id gen v ps q W.drew p bad x := ⟨h.base.drew, h.x, h.q1, h.q2, h.q3⟩
theorem XdS.put {w : World} {C g B : Nat} {s : ByteArray} {id gen : Int} {v : Value} {ps : List ER} {q : Nat} {W : World} {p : Nat} {bad : Bool} {x x' : ER} (h : XdS w C g B s id gen v ps q W p bad x) (j : Nat) (u : Value) (hx : Er3 (W.setCell ⟨q, j, none⟩ u) q (.int .u64 x'.beg) (.int .u64 x'.fin) (.string x'.key)) : XdS w C g B s id gen v ps q (W.setCell ⟨q, j, none⟩ u) p bad x' := by
  have := h.base.r1
  have := h.base.r2
  have := h.q1
  have := h.q2
  exact ⟨⟨h.base.bel.setCell (p := ⟨q, j, none⟩) (by simp only; omega) _, h.base.z.other (p := ⟨q, j, none⟩) _ (by simp only; omega), Cu.other (p := ⟨q, j, none⟩) h.base.cu _ (by simp only; omega), h.base.hg.other (p := ⟨q, j, none⟩) _ (by simp only; omega), h.base.own.keep (fun k hk => Below.heap_setCell _ _ _ k (h.q3 k hk)), h.base.r1, h.base.r2, h.base.n1, h.base.b1, h.base.b2, by simp; exact h.base.b3⟩, hx, h.q1, h.q2, h.q3⟩
theorem drop_getE (ps : List ER) (k : Nat) (d : ER) (h : k < ps.length) : ps.drop k = ps.getD k d :: ps.drop (k + 1) ∧ ps.getD k d = ps[k] := by
  have e : ps.getD k d = ps[k] := by simp [List.getD, List.getElem?_eq_getElem h]
  exact ⟨by rw [e]; exact List.drop_eq_getElem_cons h, e⟩
theorem ret_fp1 {fn : Func} {p u : Tmp} (h : fn.results = #[.cell p 26, .tmp u]) (tmps : Array Value) (w : World) (a b c d e f : Value) (g : Nat) (hp : tmps.getD p undef = .pointer (some ⟨g, 0, none⟩)) (hg : Fp6 w g a b c d e f) :
    (results fn tmps).run Tryz.prog w = .ok (.tuple #[.agg #[a, b, c, d, e, f], tmps.getD u undef]) w := by
  have hp' : tmps[p]?.getD undef = .pointer (some ⟨g, 0, none⟩) := by simpa using hp
  unfold Fp6 at hg
  simp [results, h, hp', asAddr, run_loadVar_row w g 26 26 _ (0, 0) _ hg Tryz.underlying26 rfl infoFp]
end Go.Proofs.YtgopplgknplkiaaGreatDoor
