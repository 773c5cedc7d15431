import Derived.Test.YtlnpeicflofkjaaDoorFrmP4
import Derived.Defers
import Derived.Recover
import Derived.Laws.Pointers
namespace Go.Proofs.YtlnpeicflofkjaaDoor
set_option linter.unusedSimpArgs false
open Go.ChangeShapes Go.WideShapes Go.ChangeAt Go.RowKit
set_option linter.unusedVariables false
set_option maxRecDepth 100000
theorem Fr3.other {W : World} {g : Nat} {a b c : Value} (h : Fr3 W g a b c) {p : Addr} (v : Value) (hp : g ≠ p.block) : Fr3 (W.setCell p v) g a b c := (Below.heap_setCell W p v g hp).trans h
theorem Fr3.drew {W : World} {g : Nat} {a b c : Value} (h : Fr3 W g a b c) : Fr3 W.drew g a b c := h
/-- A cell in a block of its own. -/
def C1 (W : World) (g : Nat) (v : Value) : Prop := W.cell? ⟨g, 0, none⟩ = some v ∧ W.frozen? ⟨g, 0, none⟩ = false
theorem C1.other {W : World} {g : Nat} {v : Value} (h : C1 W g v) {p : Addr} (hp : p.block ≠ g) (u : Value) : C1 (W.setCell p u) g v := ⟨(World.cell?_setCell_far W p ⟨g, 0, none⟩ u hp).trans h.1, by simp [go_sem, h.2]⟩
theorem C1.set {W : World} {g : Nat} {v : Value} (h : C1 W g v) (u : Value) : C1 (W.setCell ⟨g, 0, none⟩ u) g u := ⟨World.cell?_setCell_same' W _ _ (by rw [h.1]; rfl), by simp [go_sem, h.2]⟩
theorem C1.drew {W : World} {g : Nat} {v : Value} (h : C1 W g v) : C1 W.drew g v := h
/-- A written number is stored: by its own law (the walk's own proof of it runs the kernel out of memory behind two other stores). -/
theorem wp_store_const {o : Oper} {a : Act} {w : World} {K : Act → World → Prop} {Q : Exit → Act → World → Prop} (i : Nat) (x : Int) (ho : o.op = .store 3 (.tmp i) (.const (.int .i64 x))) (hd : o.dst = none) (A : Addr) (hp : a.tmps[i]?.getD undef = .pointer (some A)) (u : Value) (hc : w.cell? A = some u) (hz : w.frozen? A = false)
    (h : K a (w.setCell A (.int .i64 x))) : o.wp Tryd.prog a w K Q := by
  unfold Oper.wp execOp
  simp [ho, hp, go_sem, hc, hz, hd]
  exact h
theorem assert_broken (c : Int) (w : World) : (Instr.typeAssert (.iface 45 (.int .i64 c)) 20 45 false).run Tryd.prog w = .ok (.int .i64 c) w := by kernel_rfl
set_option maxHeartbeats 800000 in
theorem catchD (c a : Int) (bA bV bN bE : Nat) (x0 x1 x2 y z : Value) (older : List PanicEntry) (w : World)
    (hA : w.cell? ⟨bA, 0, none⟩ = some (.int .i64 a)) (hV : Fr3 w bV x0 x1 x2) (hN : w.cell? ⟨bN, 0, none⟩ = some y) (hE : w.cell? ⟨bE, 0, none⟩ = some z)
    (fN : w.frozen? ⟨bN, 0, none⟩ = false) (fE : w.frozen? ⟨bE, 0, none⟩ = false)
    (n4 : bV ≠ bN) (n5 : bV ≠ bE) (n6 : bN ≠ bE) :
    CallsD Tryd.prog 17 #[.pointer (some ⟨bA, 0, none⟩), .pointer (some ⟨bV, 0, none⟩), .pointer (some ⟨bN, 0, none⟩), .pointer (some ⟨bE, 0, none⟩)] (.panicking ({ v := .iface 45 (.int .i64 c), recovered := false } :: older)) w fun e u' w' =>
      e = .returned (.tuple #[]) ∧ u' = .panicking ({ v := .iface 45 (.int .i64 c), recovered := true } :: older) ∧ Fr3 w' bV (.int .i64 0) (.int .u64 0) (.string ⟨#[]⟩) ∧ w'.cell? ⟨bN, 0, none⟩ = some (.int .i64 a) ∧ w'.cell? ⟨bE, 0, none⟩ = some (.int .i64 c) ∧ (∀ B, B ≤ bV → B ≤ bN → B ≤ bE → Below B w w') := by
  have k0 := hV.c0
  have k1 := hV.c1
  have k2 := hV.c2
  have f0 := hV.free 0
  have f1 := hV.free 1
  have f2 := hV.free 2
  have HV : Hid (Fr3 w bV x0 x1 x2) := hV
  clear hV
  refine callsD_of_wpS Tryd.func17 rfl fun c₀ cs hu => ?_
  apply wpS_seq
  apply wpS_region
  simp [wpOpsS, go_sem, recoverD, hu, Tryd.ntmps17, Exit.thenS]
  refine wpS_of_wp ?_
  simp only [Array.replicate, List.replicate, List.setIfInBounds_toArray, List.set_cons_zero, List.set_cons_succ, List.append_toArray, List.cons_append, List.nil_append]
  go_wp2
  have hta := assert_broken
  go_region
  change bodyPostS _ _ _ _ _ _ _ _ _
  refine ⟨rfl, _, rfl, _, results_none rfl _ _ _, rfl, rfl, ?_, ?_, ?_, ?_⟩
  · have h1 := HV.out.set (.int .i64 0) (.int .u64 0) (.string ⟨#[]⟩)
    have h2 := h1.other (p := ⟨bN, 0, none⟩) (.int .i64 a) n4
    have h3 := h2.other (p := ⟨bE, 0, none⟩) (.int .i64 c) n5
    exact h3.drew
  · simp [go_sem, hN]
  · simp [go_sem, hE]
  · intro B h1 h2 h3
    exact (((((Below.refl _ _).setCell h1 _).setCell h1 _).setCell h1 _).setCell h2 _).setCell h3 _ |>.drew
theorem idleD (pA pV pN pE : Addr) (w : World) :
    CallsD Tryd.prog 17 #[.pointer (some pA), .pointer (some pV), .pointer (some pN), .pointer (some pE)] .returning w fun e u' w' => e = .returned (.tuple #[]) ∧ u' = .returning ∧ w' = w := by
  refine callsD_of_wpS Tryd.func17 rfl fun c₀ cs hu => ?_
  apply wpS_seq
  apply wpS_region
  simp [wpOpsS, go_sem, recoverD, hu, Tryd.ntmps17, Exit.thenS]
  refine wpS_of_wp ?_
  simp only [Array.replicate, List.replicate, List.setIfInBounds_toArray, List.set_cons_zero, List.set_cons_succ, List.append_toArray, List.cons_append, List.nil_append]
  go_wp2
  change bodyPostS _ _ _ _ _ _ _ _ _
  cases c₀
  simp only at hu
  subst hu
  exact ⟨rfl, _, rfl, _, results_none rfl _ _ _, rfl, rfl, rfl⟩
theorem dfE_size {t : ByteArray} (h : dfE t = 0) : 24 + fxV t 4 4 ≤ t.size := by
  unfold dfE at h
  split at h
  · cases h
  split at h
  · cases h
  split at h
  · cases h
  split at h
  · cases h
  split at h
  · cases h
  omega
def zeroF : Value := .agg #[.int .i64 0, .int .u64 0, .string ⟨#[]⟩]
/-- What stands at an offset, as the three answers. -/
def dcV (s : ByteArray) (p : Int) : Value × Int × Int :=
  if 0 ≤ p ∧ p ≤ s.size then
    if dfE (s.extract p.toNat s.size) = 0 then (frV (s.extract p.toNat s.size), p + 24 + (fxV (s.extract p.toNat s.size) 4 4 : Nat), 0) else (zeroF, p, dfE (s.extract p.toNat s.size))
  else (zeroF, p, 1)
theorem tupF {a : Value} {b c : Int} {r : Value × Int × Int} (h : r = (a, b, c)) : Ending.returned (.tuple #[a, .int .i64 b, .int .i64 c]) = .returned (.tuple #[r.1, .int .i64 r.2.1, .int .i64 r.2.2]) := by rw [h]
theorem ret_frame3 {fn : Func} {p u v : Tmp} (h : fn.results = #[.cell p 27, .cell u 3, .cell v 3]) (tmps : Array Value) (w : World) (k l : Int) (t : ByteArray) (a b : Int) (g gu gv : Nat) (hp : tmps.getD p undef = .pointer (some ⟨g, 0, none⟩)) (hu : tmps.getD u undef = .pointer (some ⟨gu, 0, none⟩)) (hv : tmps.getD v undef = .pointer (some ⟨gv, 0, none⟩))
    (hg : Fr3 w g (.int .i64 k) (.int .u64 l) (.string t)) (cu : w.cell? ⟨gu, 0, none⟩ = some (.int .i64 a)) (cv : w.cell? ⟨gv, 0, none⟩ = some (.int .i64 b)) :
    (results fn tmps).run Tryd.prog w = .ok (.tuple #[.agg #[.int .i64 k, .int .u64 l, .string t], .int .i64 a, .int .i64 b]) w := by
  have hp' : tmps[p]?.getD undef = .pointer (some ⟨g, 0, none⟩) := by simpa using hp
  have hu' : tmps[u]?.getD undef = .pointer (some ⟨gu, 0, none⟩) := by simpa using hu
  have hv' : tmps[v]?.getD undef = .pointer (some ⟨gv, 0, none⟩) := by simpa using hv
  have q0 := hg.c0
  have q1 := hg.c1
  have q2 := hg.c2
  simp [results, h, hp', hu', hv', asAddr, go_sem, q0, q1, q2, cu, cv]
set_option maxHeartbeats 1600000 in
theorem decode_in (s : ByteArray) (p : Nat) (w : World) (hp : p ≤ s.size) (hs : s.size ≤ 1125899906842624) (hT : HalfAt w) :
    Calls Tryd.prog 9 #[.string s, .int .i64 p] w fun e w' => e = .returned (.tuple #[(dcV s p).1, .int .i64 (dcV s p).2.1, .int .i64 (dcV s p).2.2]) ∧ Below w.heap.size w w' := by
  have hmf : ∀ (fn : Fn) (first cap : Array Value) (w : World), (Instr.makeFunc fn first cap).run Tryd.prog w = .ok (.func fn first cap) w := fun _ _ _ _ => rfl
  have hz : (s.extract p s.size).size ≤ 1125899906842624 := by rw [ByteArray.size_extract]; omega
  have HF : Hid (∀ W, HalfAt W → Calls Tryd.prog 18 #[.string (s.extract p s.size)] W fun e w' => FrP (s.extract p s.size) e ∧ Below W.heap.size W w') := fun W h => frameOf_any _ W hz h
  have HZ : Hid (dfE (s.extract p s.size) = 0 → dcV s p = (frV (s.extract p s.size), (p : Int) + 24 + (fxV (s.extract p s.size) 4 4 : Nat), 0)) := fun h => by
    unfold dcV
    rw [if_pos ⟨by omega, by omega⟩, Int.toNat_natCast, if_pos h]
  have HN : Hid (dfE (s.extract p s.size) ≠ 0 → dcV s p = (zeroF, (p : Int), dfE (s.extract p s.size))) := fun h => by
    unfold dcV
    rw [if_pos ⟨by omega, by omega⟩, Int.toNat_natCast, if_neg h]
  have HT : Hid (HalfAt w) := hT
  clear hT
  go_enter_defers Tryd.func9, Tryd.ntmps9
  go_wp2_with fail
  have HBw : Hid (Below w.heap.size w ((((w.alloc (.cells #[.int .i64 p] 3)).alloc (.cells #[.int .i64 0, .int .u64 0, .string ⟨#[]⟩] 27)).alloc (.cells #[.int .i64 0] 3)).alloc (.cells #[.int .i64 0] 3))) := ((((Below.refl _ _).alloc (Nat.le_refl _) _).alloc (by simp) _).alloc (by simp; omega) _).alloc (by simp; omega) _
  refine (HF.out _ (HT.out.later HBw.out)).mono ?_
  rintro e w1 ⟨hf, hb⟩
  have cA : w1.cell? ⟨w.heap.size, 0, none⟩ = some (.int .i64 p) := by rw [hb.cell (by simp <;> omega)]; simp [go_sem]
  have cN : w1.cell? ⟨w.heap.size + 1 + 1, 0, none⟩ = some (.int .i64 0) := by rw [hb.cell (by simp <;> omega)]; simp [go_sem]
  have cE : w1.cell? ⟨w.heap.size + 1 + 1 + 1, 0, none⟩ = some (.int .i64 0) := by rw [hb.cell (by simp)]; simp [go_sem]
  have fA : w1.frozen? ⟨w.heap.size, 0, none⟩ = false := by rw [hb.frozen (by simp <;> omega)]; simp [go_sem]
  have fN : w1.frozen? ⟨w.heap.size + 1 + 1, 0, none⟩ = false := by rw [hb.frozen (by simp <;> omega)]; simp [go_sem]
  have fE : w1.frozen? ⟨w.heap.size + 1 + 1 + 1, 0, none⟩ = false := by rw [hb.frozen (by simp)]; simp [go_sem]
  have hV : Fr3 w1 (w.heap.size + 1) (.int .i64 0) (.int .u64 0) (.string ⟨#[]⟩) := by
    have e0 := heap_alloc_new (w.alloc (.cells #[.int .i64 p] 3)) (.cells #[.int .i64 0, .int .u64 0, .string ⟨#[]⟩] 27)
    rw [show (w.alloc (.cells #[.int .i64 p] 3)).heap.size = w.heap.size + 1 from by simp] at e0
    exact (hb.block _ (by simp <;> omega)).trans ((Below.heap_alloc _ _ _ (by simp <;> omega)).trans ((Below.heap_alloc _ _ _ (by simp <;> omega)).trans e0))
  have HB : Hid (Below w.heap.size w w1) := HBw.out.trans (hb.mono HBw.out.size)
  clear hb HF HT HBw
  by_cases c0 : dfE (s.extract p s.size) = 0
  · have he := hf.1 c0
    unfold frV at he
    subst he
    have HE : Hid _ := HZ.out c0
    have hn := dfE_size c0
    have hzb : ((s.extract p s.size).extract 24 (24 + fxV (s.extract p s.size) 4 4)).size = fxV (s.extract p s.size) 4 4 := by rw [ByteArray.size_extract]; omega
    have hn2 : fxV (s.extract p s.size) 4 4 ≤ 1125899906842624 := by rw [ByteArray.size_extract] at hn; omega
    have HF2 : Hid (frV (s.extract p s.size) = .agg #[.int .i64 (bAt (s.extract p s.size) 2 : Nat), .int .u64 (fxV (s.extract p s.size) 8 8 : Nat), .string ((s.extract p s.size).extract 24 (24 + fxV (s.extract p s.size) 4 4))]) := rfl
    have k0 := hV.c0
    have k1 := hV.c1
    have k2 := hV.c2
    have f0 := hV.free 0
    have f1 := hV.free 1
    have f2 := hV.free 2
    have HV : Hid (Fr3 w1 (w.heap.size + 1) (.int .i64 0) (.int .u64 0) (.string ⟨#[]⟩)) := hV
    clear hV hf HZ HN hn c0 hz
    generalize fxV (s.extract p s.size) 4 4 = n at *
    generalize (s.extract p s.size).extract 24 (24 + n) = b at *
    generalize bAt (s.extract p s.size) 2 = kk at *
    generalize fxV (s.extract p s.size) 8 8 = l at *
    go_wp2
    have hV2 := HV.out.set (.int .i64 kk) (.int .u64 l) (.string b)
    have sA : C1 (((w1.setCell ⟨w.heap.size + 1, 0, none⟩ (.int .i64 kk)).setCell ⟨w.heap.size + 1, 1, none⟩ (.int .u64 l)).setCell ⟨w.heap.size + 1, 2, none⟩ (.string b)) w.heap.size (.int .i64 p) := ((C1.other ⟨cA, fA⟩ (by simp) _).other (by simp) _).other (by simp) _
    have sN : C1 (((w1.setCell ⟨w.heap.size + 1, 0, none⟩ (.int .i64 kk)).setCell ⟨w.heap.size + 1, 1, none⟩ (.int .u64 l)).setCell ⟨w.heap.size + 1, 2, none⟩ (.string b)) (w.heap.size + 1 + 1) (.int .i64 0) := ((C1.other ⟨cN, fN⟩ (by simp) _).other (by simp) _).other (by simp) _
    have sE : C1 (((w1.setCell ⟨w.heap.size + 1, 0, none⟩ (.int .i64 kk)).setCell ⟨w.heap.size + 1, 1, none⟩ (.int .u64 l)).setCell ⟨w.heap.size + 1, 2, none⟩ (.string b)) (w.heap.size + 1 + 1 + 1) (.int .i64 0) := ((C1.other ⟨cE, fE⟩ (by simp) _).other (by simp) _).other (by simp) _
    have HB2 : Hid (Below w.heap.size w (((w1.setCell ⟨w.heap.size + 1, 0, none⟩ (.int .i64 kk)).setCell ⟨w.heap.size + 1, 1, none⟩ (.int .u64 l)).setCell ⟨w.heap.size + 1, 2, none⟩ (.string b))) := ((HB.out.setCell (by simp) _).setCell (by simp) _).setCell (by simp) _
    clear cA cN cE fA fN fE HB k0 k1 k2 f0 f1 f2 HV
    generalize ((w1.setCell ⟨w.heap.size + 1, 0, none⟩ (.int .i64 kk)).setCell ⟨w.heap.size + 1, 1, none⟩ (.int .u64 l)).setCell ⟨w.heap.size + 1, 2, none⟩ (.string b) = W1 at *
    have hgg : w.heap.size = w.heap.size := rfl
    generalize hn0 : w.heap.size = g at hgg ⊢ hV2 sA sN sE HB2
    clear hgg
    have HG : Hid (w.heap.size = g) := hn0
    clear hn0
    obtain ⟨i0, i1, i2, i3, i4, i5, i6, i7, i8⟩ : g + 1 ≠ g ∧ g + 1 + 1 ≠ g ∧ g + 1 + 1 + 1 ≠ g ∧ g + 1 + 1 ≠ g + 1 ∧ g + 1 + 1 + 1 ≠ g + 1 ∧ g + 1 + 1 + 1 ≠ g + 1 + 1 ∧ g ≤ g + 1 ∧ g ≤ g + 1 + 1 ∧ g ≤ g + 1 + 1 + 1 := by omega
    have HI : Hid (_ ∧ _ ∧ _ ∧ _ ∧ _ ∧ _ ∧ _ ∧ _ ∧ _) := ⟨i0, i1, i2, i3, i4, i5, i6, i7, i8⟩
    clear i0 i1 i2 i3 i4 i5 i6 i7 i8
    generalize g + 1 + 1 + 1 = gK at *
    generalize g + 1 + 1 = gN at *
    generalize g + 1 = gF at *
    have q0 := hV2.c0
    have q1 := hV2.c1
    have q2 := hV2.c2
    have f0 := hV2.free 0
    have f1 := hV2.free 1
    have f2 := hV2.free 2
    have HV2 : Hid (Fr3 W1 (gF) (.int .i64 kk) (.int .u64 l) (.string b)) := hV2
    have HSN : Hid (C1 W1 (gN) (.int .i64 0)) := sN
    have HSE : Hid (C1 W1 (gK) (.int .i64 0)) := sE
    have HSA : Hid (C1 W1 g (.int .i64 p)) := sA
    have cA := sA.1
    clear hV2 sN sE sA
    have hw1 : IntKind.i64.wrap ((p : Int) + 24) = (p : Int) + 24 := by rw [IntKind.wrap_i64]; omega
    have hw2 : IntKind.i64.wrap ((p : Int) + 24 + (n : Int)) = (p : Int) + 24 + (n : Int) := by rw [IntKind.wrap_i64]; omega
    refine wp_onceS (fun W => Fr3 W (gF) (.int .i64 kk) (.int .u64 l) (.string b) ∧ C1 W (gN) (.int .i64 ((p : Int) + 24 + n)) ∧ C1 W (gK) (.int .i64 0) ∧ Below g w W) ?_
    apply Exists.intro
    constructor
    · (refine wp_region_held_drew (S := (fun W => W.cell? ⟨g, 0, none⟩ = some (.int .i64 p) ∧ W.cell? ⟨gF, 0, none⟩ = some (.int .i64 kk) ∧ W.cell? ⟨gF, 1, none⟩ = some (.int .u64 l) ∧ W.cell? ⟨gF, 2, none⟩ = some (.string b))) (by kernel_rfl) ⟨cA, q0, q1, q2⟩ (fun hHeld => ?_); simp only [List.size_toArray, List.length_cons, List.length_nil, Nat.reduceAdd, Array.replicate_succ, Array.replicate_zero, List.push_toArray, List.append_toArray, List.nil_append, List.cons_append])
      (refine tk0 (v := ?_) (by kernel_rfl) (by kernel_rfl) (by kernel_rfl) (fun _ _ _ h => h) (Or.inl ⟨by rfl, ?_⟩) (by assumption) ?_; rotate_left; (focus (intro w hSw; (try dsimp only at hSw); go_simp; (try first | (rw [dif_pos (by omega)]; simp only [Result.andThen_ok]) | rw [if_pos (by omega)]); (try with_reducible rfl); done)); try simp only [Act.put, List.setIfInBounds_toArray, List.set_cons_zero, List.set_cons_succ])
      (refine tk1 (v := ?_) (by kernel_rfl) (by kernel_rfl) (by kernel_rfl) (fun _ _ _ h => h) (Or.inl ⟨by rfl, ?_⟩) (by assumption) ?_; rotate_left; (focus (intro w hSw; (try dsimp only at hSw); go_simp; (try first | (rw [dif_pos (by omega)]; simp only [Result.andThen_ok]) | rw [if_pos (by omega)]); (try with_reducible rfl); done)); try simp only [Act.put, List.setIfInBounds_toArray, List.set_cons_zero, List.set_cons_succ])
      (refine tk2 (v := ?_) (by kernel_rfl) (by kernel_rfl) (by kernel_rfl) (fun _ _ _ h => h) (Or.inl ⟨by rfl, ?_⟩) (by assumption) ?_; rotate_left; (focus (intro w hSw; (try dsimp only at hSw); go_simp; (try first | (rw [dif_pos (by omega)]; simp only [Result.andThen_ok]) | rw [if_pos (by omega)]); (try with_reducible rfl); done)); try simp only [Act.put, List.setIfInBounds_toArray, List.set_cons_zero, List.set_cons_succ])
      (refine tk3 (v := ?_) (by kernel_rfl) (by kernel_rfl) (by kernel_rfl) (fun _ _ _ h => h) (Or.inl ⟨by rfl, ?_⟩) (by assumption) ?_; rotate_left; (focus (intro w hSw; (try dsimp only at hSw); go_simp; (try first | (rw [dif_pos (by omega)]; simp only [Result.andThen_ok]) | rw [if_pos (by omega)]); (try with_reducible rfl); done)); try simp only [Act.put, List.setIfInBounds_toArray, List.set_cons_zero, List.set_cons_succ])
      (refine tk4 (v := ?_) (by kernel_rfl) (by kernel_rfl) (by kernel_rfl) (fun _ _ _ h => h) (Or.inl ⟨by rfl, ?_⟩) (by assumption) ?_; rotate_left; (focus (intro w hSw; (try dsimp only at hSw); go_simp; (try first | (rw [dif_pos (by omega)]; simp only [Result.andThen_ok]) | rw [if_pos (by omega)]); (try with_reducible rfl); done)); try simp only [Act.put, List.setIfInBounds_toArray, List.set_cons_zero, List.set_cons_succ])
      (refine tk5 (v := ?_) (by kernel_rfl) (by kernel_rfl) (by kernel_rfl) (fun _ _ _ h => h) (Or.inl ⟨by rfl, ?_⟩) (by assumption) ?_; rotate_left; (focus (intro w hSw; (try dsimp only at hSw); go_simp; (try first | (rw [dif_pos (by omega)]; simp only [Result.andThen_ok]) | rw [if_pos (by omega)]); (try with_reducible rfl); done)); try simp only [Act.put, List.setIfInBounds_toArray, List.set_cons_zero, List.set_cons_succ])
      (refine tk6 (v := ?_) (by kernel_rfl) (by kernel_rfl) (by kernel_rfl) (fun _ _ _ h => h) (Or.inl ⟨by rfl, ?_⟩) (by assumption) ?_; rotate_left; (focus (intro w hSw; (try dsimp only at hSw); go_simp; (try first | (rw [dif_pos (by omega)]; simp only [Result.andThen_ok]) | rw [if_pos (by omega)]); (try with_reducible rfl); done)); try simp only [Act.put, List.setIfInBounds_toArray, List.set_cons_zero, List.set_cons_succ])
      (refine wpAnyH_ready (rs := [7]) (by kernel_rfl) (by simp) ?_; refine ar7 (fun K hK => ?_) AllReadyH.nil; go_simp)
      have A3 : C1 (((W1.setCell ⟨gF, 0, none⟩ (.int .i64 kk)).setCell ⟨gF, 1, none⟩ (.int .u64 l)).setCell ⟨gF, 2, none⟩ (.string b)) g (.int .i64 p) := ((C1.other HSA.out HI.out.1 _).other HI.out.1 _).other HI.out.1 _
      have N3 : C1 (((W1.setCell ⟨gF, 0, none⟩ (.int .i64 kk)).setCell ⟨gF, 1, none⟩ (.int .u64 l)).setCell ⟨gF, 2, none⟩ (.string b)) (gN) (.int .i64 0) := ((C1.other HSN.out (Ne.symm HI.out.2.2.2.1) _).other (Ne.symm HI.out.2.2.2.1) _).other (Ne.symm HI.out.2.2.2.1) _
      have E3 : C1 (((W1.setCell ⟨gF, 0, none⟩ (.int .i64 kk)).setCell ⟨gF, 1, none⟩ (.int .u64 l)).setCell ⟨gF, 2, none⟩ (.string b)) (gK) (.int .i64 0) := ((C1.other HSE.out (Ne.symm HI.out.2.2.2.2.1) _).other (Ne.symm HI.out.2.2.2.2.1) _).other (Ne.symm HI.out.2.2.2.2.1) _
      have V3 := HV2.out.set (.int .i64 kk) (.int .u64 l) (.string b)
      have B3 : Below g w (((W1.setCell ⟨gF, 0, none⟩ (.int .i64 kk)).setCell ⟨gF, 1, none⟩ (.int .u64 l)).setCell ⟨gF, 2, none⟩ (.string b)) := ((HB2.out.setCell (p := ⟨gF, 0, none⟩) HI.out.2.2.2.2.2.2.1 _).setCell (p := ⟨gF, 1, none⟩) HI.out.2.2.2.2.2.2.1 _).setCell (p := ⟨gF, 2, none⟩) HI.out.2.2.2.2.2.2.1 _
      generalize ((W1.setCell ⟨gF, 0, none⟩ (.int .i64 kk)).setCell ⟨gF, 1, none⟩ (.int .u64 l)).setCell ⟨gF, 2, none⟩ (.string b) = W2 at *
      (refine hK.out _ _ ⟨A3.1, V3.c0, V3.c1, V3.c2⟩ (fun hHeld => ?_); clear hK K; try simp only [Act.put, List.setIfInBounds_toArray, List.set_cons_zero, List.set_cons_succ])
      have z1 := N3.1
      have z2 := N3.2
      (refine wpAnyH_ready (rs := [8]) (by kernel_rfl) (by simp) ?_; refine ar8 (fun K hK => ?_) AllReadyH.nil; go_simp)
      have A4 := A3.other (p := ⟨gN, 0, none⟩) HI.out.2.1 (.int .i64 ((p : Int) + 24 + n))
      have N4 := N3.set (.int .i64 ((p : Int) + 24 + n))
      have E4 := E3.other (p := ⟨gN, 0, none⟩) (Ne.symm HI.out.2.2.2.2.2.1) (.int .i64 ((p : Int) + 24 + n))
      have V4 := V3.other (p := ⟨gN, 0, none⟩) (.int .i64 ((p : Int) + 24 + n)) (Ne.symm HI.out.2.2.2.1)
      have B4 := B3.setCell (p := ⟨gN, 0, none⟩) HI.out.2.2.2.2.2.2.2.1 (.int .i64 ((p : Int) + 24 + n))
      clear A3 N3 E3 V3 B3 z1 z2
      generalize W2.setCell ⟨gN, 0, none⟩ (.int .i64 ((p : Int) + 24 + n)) = W3 at *
      (refine hK.out _ _ ⟨A4.1, V4.c0, V4.c1, V4.c2⟩ (fun hHeld => ?_); clear hK K; try simp only [Act.put, List.setIfInBounds_toArray, List.set_cons_zero, List.set_cons_succ])
      refine wpAnyH_ready (rs := [9]) (by kernel_rfl) (by simp) ?_
      refine AllReadyH.cons rfl (fun K hK => ?_) AllReadyH.nil
      rw [if_pos (by simp [Region.wanted])]
      refine wp_store_const 6 0 rfl rfl ⟨gK, 0, none⟩ (by rfl) (.int .i64 0) E4.drew.1 E4.drew.2 ?_
      replace E4 := E4.drew
      replace A4 := A4.drew
      replace N4 := N4.drew
      replace V4 := V4.drew
      replace B4 := B4.drew
      have A5 := A4.other (p := ⟨gK, 0, none⟩) HI.out.2.2.1 (.int .i64 0)
      have N5 := N4.other (p := ⟨gK, 0, none⟩) HI.out.2.2.2.2.2.1 (.int .i64 0)
      have E5 := E4.set (.int .i64 0)
      have V5 := V4.other (p := ⟨gK, 0, none⟩) (.int .i64 0) (Ne.symm HI.out.2.2.2.2.1)
      have B5 := B4.setCell (p := ⟨gK, 0, none⟩) HI.out.2.2.2.2.2.2.2.2 (.int .i64 0)
      clear A4 N4 E4 V4 B4
      generalize W3.drew.setCell ⟨gK, 0, none⟩ (.int .i64 0) = W4 at *
      (refine hK.out _ _ ⟨A5.1, V5.c0, V5.c1, V5.c2⟩ (fun hHeld => ?_); clear hK K; try simp only [Act.put, List.setIfInBounds_toArray, List.set_cons_zero, List.set_cons_succ])
      refine wpAnyH_done (by kernel_rfl) ?_ _
      first
        | exact Post2.here _ ⟨V5, N5, E5, B5⟩
        | exact Post2.here _ ⟨V5.drew, N5.drew, E5.drew, B5.drew⟩
    · rintro W ⟨V, N, E, B⟩
      have HV : Hid (Fr3 W (gF) (.int .i64 kk) (.int .u64 l) (.string b)) := V
      have HN : Hid (C1 W (gN) (.int .i64 ((p : Int) + 24 + n))) := N
      have HK : Hid (C1 W (gK) (.int .i64 0)) := E
      have HBB : Hid (Below g w W) := B
      clear V N E B
      go_wp2
      refine leaves_cons (f := 17) (args := #[.pointer (some ⟨g, 0, none⟩), .pointer (some ⟨gF, 0, none⟩), .pointer (some ⟨gN, 0, none⟩), .pointer (some ⟨gK, 0, none⟩)]) (by simp) (by simp [go_sem]) ?_
      refine (idleD _ _ _ _ _).mono ?_
      rintro e u' w2 ⟨rfl, rfl, rfl⟩
      refine ⟨.tuple #[.agg #[.int .i64 kk, .int .u64 l, .string b], .int .i64 ((p : Int) + 24 + n), .int .i64 0], ret_frame3 rfl _ _ _ _ _ _ _ _ _ _ (by rfl) (by rfl) (by rfl) HV.out HN.out.1 HK.out.1, ?_, by rw [HG.out]; exact HBB.out⟩
      exact tupF (HE.out.trans (by rw [HF2.out]))
  · obtain rfl := hf.2 c0
    have HE : Hid _ := HN.out c0
    refine leaves_cons (f := 17) (args := #[.pointer (some ⟨w.heap.size, 0, none⟩), .pointer (some ⟨w.heap.size + 1, 0, none⟩), .pointer (some ⟨w.heap.size + 1 + 1, 0, none⟩), .pointer (some ⟨w.heap.size + 1 + 1 + 1, 0, none⟩)]) (by simp) (by simp [go_sem]) ?_
    refine (catchD (dfE (s.extract p s.size)) p _ _ _ _ _ _ _ _ _ [] _ cA hV cN cE fN fE (by omega) (by omega) (by omega)).mono ?_
    rintro e u' w2 ⟨rfl, rfl, dV, dN, dE, hb2⟩
    refine ⟨.tuple #[zeroF, .int .i64 p, .int .i64 (dfE (s.extract p s.size))], ret_frame3 rfl _ _ _ _ _ _ _ _ _ _ (by rfl) (by rfl) (by rfl) dV dN dE, tupF HE.out, ?_⟩
    exact HB.out.trans (hb2 _ (by omega) (by omega) (by omega))
end Go.Proofs.YtlnpeicflofkjaaDoor
