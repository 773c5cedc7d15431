import Derived.Test.YtdpebhdjcgiboaaGreatKCells9Z
import Derived.Test.YtdpebhdjcgiboaaGreatKSg4
namespace Go.Proofs.YtdpebhdjcgiboaaGreat
set_option linter.unusedSimpArgs false
open Go.ChangeShapes Go.WideShapes Go.ChangeAt Go.RowKit
set_option linter.unusedVariables false
theorem infoPZ : (Tryz.prog.info? 263).map (fun i => (i.zero, i.size, i.bytes)) = some (some (.agg #[.int .u32 0, .int .i64 0]), 2, 16) := by kernel_rfl
theorem Made.fill {w W : World} {s u n wd : Nat} (h : Made w s u n wd W) (h1 : 1 ≤ n) (h2 : n ≤ 4096) (h3 : 1 ≤ wd) (h4 : wd ≤ 16) : Calls Tryz.prog 103 #[.pointer (some ⟨w.heap.size + 2, 9, none⟩), .int .i64 (n : Int)] W fun e w' => e = .returned (.tuple #[]) ∧ Hid (Holds w' ⟨w.heap.size + 2, s, u, w.heap.size + 3⟩ (.fresh n wd) ∧ Below w.heap.size w w') := by
  have hsz := h.size
  refine (fill_any (w.heap.size + 2) 9 n W (by omega) (by omega) (by omega) ((cell?_heap h.a _).trans rfl) ((cell?_heap h.a _).trans rfl) ((cell?_heap h.a _).trans rfl) (frozen?_heap h.a _) (frozen?_heap h.a _)).mono ?_
  rintro e w' ⟨rfl, hf⟩
  exact ⟨rfl, h.holds ⟨h1, h2⟩ ⟨h3, h4⟩ hf⟩
set_option maxRecDepth 100000 in
set_option maxHeartbeats 1600000 in
theorem new_ok (n wd : Nat) (w : World) (h1 : 1 ≤ n) (h2 : n ≤ 4096) (h3 : 1 ≤ wd) (h4 : wd ≤ 16) : Calls Tryz.prog 59 #[.int .i64 (n : Int), .int .i64 (wd : Int)] w fun e w' => ∃ s u, e = .returned (.tuple #[.pointer (some ⟨w.heap.size + 2, 0, none⟩), .int .i64 0]) ∧ (s = w.heap.size ∧ u = w.heap.size + 1 ∨ s = w.heap.size + 1 ∧ u = w.heap.size) ∧ Holds w' ⟨w.heap.size + 2, s, u, w.heap.size + 3⟩ (.fresh n wd) ∧ Below w.heap.size w w' := by
  have i1 : ¬ (n : Int) < 1 := by omega
  have i2 : ¬ (n : Int) > 4096 := by omega
  have i3 : ¬ (wd : Int) < 1 := by omega
  have i4 : ¬ (wd : Int) > 16 := by omega
  have hnw : n * wd ≤ 65536 := Nat.le_trans (Nat.mul_le_mul h2 h4) (by decide)
  have hm1 := run_make_any (P := Tryz.prog) 195 263 _ 2 16 Tryz.underlying195 infoPZ n (by omega) (by omega)
  have hm2 := run_make_any (P := Tryz.prog) 196 257 _ 1 8 Tryz.underlying196 infoU (n * wd) (by omega) (by omega)
  have hw : IntKind.i64.wrap ((n : Int) * (wd : Int)) = ((n * wd : Nat) : Int) := by rw [IntKind.wrap_i64, ← Int.natCast_mul]; omega
  have HM1 : Hid (Made w _ _ n wd _) := Made.one w n wd
  have HM2 : Hid (Made w _ _ n wd _) := Made.two w n wd
  rw [Int.natCast_mul] at hw hm2
  go_enter Tryz.func59, Tryz.ntmps59
  go_wp2_with fail
  refine wp_twice ?_
  refine ⟨?_, ?_, ?_, ?_, ?_, ?_, ?_⟩
  rotate_left 4
  · go_region_with (fail)
    all_goals first | exact Post2.one _ _ _ _ | exact Post2.two _ _ _ _
  · clear hm1 hm2 hw hnw HM2
    go_wp2_with fail
    refine (HM1.out.fill h1 h2 h3 h4).mono ?_
    rintro e w' ⟨rfl, HF⟩
    clear HM1
    go_wp2
    go_ret2
    exact ⟨_, _, rfl, Or.inl ⟨rfl, rfl⟩, HF.out.1, HF.out.2⟩
  · clear hm1 hm2 hw hnw HM1
    go_wp2_with fail
    refine (HM2.out.fill h1 h2 h3 h4).mono ?_
    rintro e w' ⟨rfl, HF⟩
    clear HM2
    go_wp2
    go_ret2
    exact ⟨_, _, rfl, Or.inr ⟨rfl, rfl⟩, HF.out.1, HF.out.2⟩
end Go.Proofs.YtdpebhdjcgiboaaGreat

namespace Go.Proofs.YtdpebhdjcgiboaaGreat
set_option linter.unusedSimpArgs false
open Go.ChangeShapes Go.WideShapes Go.ChangeAt Go.RowKit Go.MuLone Go.RwLone
set_option linter.unusedVariables false
set_option maxRecDepth 100000
set_option maxHeartbeats 3200000
/-- The arena of a bench: one slot with the program's words. -/
def wds (cs : List Int) (i : Nat) : Int := cs[i]?.getD 0
def asG (cs : List Int) : AS := ({ AS.fresh 1 cs.length with rc := 0, lk := 0, acc := wrap64 ((AS.fresh 1 cs.length).acc + 1), front := ((AS.fresh 1 cs.length).front + 1) % (AS.fresh 1 cs.length).n, count := (AS.fresh 1 cs.length).count - 1 } : AS).laid 0 (valW cs.length (wds cs))
theorem asG_facts (cs : List Int) : (asG cs).rc = 0 ∧ (asG cs).n = 1 ∧ (asG cs).use 0 = true ∧ (asG cs).wd = cs.length ∧ (asG cs).g0 = 0 ∧ ∀ i, i < cs.length → (asG cs).word i = wds cs i := by
  refine ⟨rfl, rfl, rfl, rfl, rfl, fun i hi => ?_⟩
  simp [asG, AS.laid, layW, valW, AS.fresh, hi]
abbrev be0 (w : World) : World := w.alloc (.cells #[.pointer none, .int .i64 0, .slice none 0 0, .pointer none] 146)
/-- An arena of one slot in the midst of laying out, the bench in the block bb. -/
structure Pre (av bv : Value) (w0 w : World) (L : Lay) (S : AS) (bb : Nat) (c : Array Value) : Prop where
  hd : Holds w L S
  be : w.heap[bb]? = some (.cells c 146)
  bl : Below w0.heap.size w0 w
  lm : ∀ k, L.has k → bb < k ∧ k < w.heap.size
  bm : w0.heap.size < bb
  y0 : w.cell? ⟨w0.heap.size, 0, none⟩ = some av
  y1 : w.cell? ⟨w0.heap.size, 1, none⟩ = some bv
theorem Pre.set {av bv : Value} {w0 w : World} {L : Lay} {S : AS} {bb : Nat} {c : Array Value} (h : Pre av bv w0 w L S bb c) (i : Nat) (u : Value) : Pre av bv w0 (w.setCell ⟨bb, i, none⟩ u) L S bb (c.setIfInBounds i u) := by
  have hb := h.be
  have e : ∀ j, (w.setCell ⟨bb, i, none⟩ u).cell? ⟨w0.heap.size, j, none⟩ = w.cell? ⟨w0.heap.size, j, none⟩ := fun j => World.cell?_setCell_other _ _ _ _ (fun e => by have := congrArg Addr.block e; have := h.bm; simp at *; try omega)
  refine ⟨h.hd.far (p := ⟨bb, i, none⟩) (fun e => by have := (h.lm bb e).1; omega) _, ?_, h.bl.trans ⟨rfl, rfl, rfl, by simp, fun k hk => Below.heap_setCell _ _ _ _ (by have := h.bm; show k ≠ bb; omega)⟩, fun k hk => by have := h.lm k hk; simp; omega, h.bm, (e 0).trans h.y0, (e 1).trans h.y1⟩
  simp [World.setCell, Array.getElem?_modify, hb]
theorem Pre.keeps {av bv : Value} {w0 w w' : World} {L : Lay} {S S' : AS} {bb : Nat} {c : Array Value} (h : Pre av bv w0 w L S bb c) (k : Keeps L.has w w') (hd : Holds w' L S') : Pre av bv w0 w' L S' bb c := by
  have hb := (Array.getElem?_eq_some_iff.1 h.be).1
  have e : ∀ j, w'.cell? ⟨w0.heap.size, j, none⟩ = w.cell? ⟨w0.heap.size, j, none⟩ := fun j => k.cell (p := ⟨w0.heap.size, j, none⟩) (by have := h.bm; show w0.heap.size < _; omega) (fun e => by have := (h.lm _ e).1; have := h.bm; simp at *; try omega)
  exact ⟨hd, (k.block _ hb (fun e => by have := (h.lm bb e).1; omega)).trans h.be, h.bl.trans (k.below h.bl.size (fun g hg e => by have := (h.lm g e).1; have := h.bm; omega)), fun g hg => ⟨(h.lm g hg).1, Nat.lt_of_lt_of_le (h.lm g hg).2 k.size⟩, h.bm, (e 0).trans h.y0, (e 1).trans h.y1⟩
theorem Pre.still {av bv : Value} {w0 w w' : World} {L : Lay} {S : AS} {bb : Nat} {c : Array Value} (h : Pre av bv w0 w L S bb c) (k : Keeps (fun _ => False) w w') : Pre av bv w0 w' L S bb c := h.keeps (k.mono (fun _ e => e.elim)) (h.hd.keeps k (fun _ _ e => e))
theorem Pre.start {av bv : Value} {wd : Nat} {w w2 w4 : World} {s u : Nat} {L : Lay} (k0 : Keeps (fun _ => False) w (lgW w #[av, bv])) (k2 : Keeps (fun _ => False) (lgW w #[av, bv]) w2) (hsu : s = (be0 w2).heap.size ∧ u = (be0 w2).heap.size + 1 ∨ s = (be0 w2).heap.size + 1 ∧ u = (be0 w2).heap.size) (hL : L = ⟨(be0 w2).heap.size + 2, s, u, (be0 w2).heap.size + 3⟩) (hd : Holds w4 L (.fresh 1 wd)) (hbl : Below (be0 w2).heap.size (be0 w2) w4) :
    Pre av bv w w4 L (.fresh 1 wd) w2.heap.size #[.pointer none, .int .i64 0, .slice none 0 0, .pointer none] := by
  have hs : (be0 w2).heap.size = w2.heap.size + 1 := szAl _ _
  have hs0 : (lgW w #[av, bv]).heap.size = w.heap.size + 1 := szAl _ _
  have hs2 := k2.size
  have kb : Keeps (fun _ => False) (lgW w #[av, bv]) w4 := (k2.alloc _).trans (Below.keeps hbl _)
  obtain ⟨q0, q1⟩ := lg_keep kb
  refine ⟨hd, (hbl.block _ (by omega)).trans (heap_alloc_last _ _ _ rfl), (k0.trans kb).below (Nat.le_refl _) (fun _ _ e => e), ?_, by omega, q0, q1⟩
  intro k hk
  have l1 := hd.lb
  have l2 := hd.ls
  have l3 := hd.lu
  have l4 := hd.lq
  subst hL
  simp only at l1 l2 l3 l4
  rcases hk with e | e | e | e <;> simp only at e <;> omega
theorem Pre.given {av bv : Value} {w0 w : World} {L : Lay} {S : AS} {bb : Nat} {c : Array Value} (h : Pre av bv w0 w L S bb c) {C : Nat} (hC : C ≤ w0.heap.size) {ca : Option Addr} {cc : Nat} {cs : List Int} (hc : InG wdC w0 C (.slice ca cs.length cc) cs) : Given w L ca cs.length (wds cs) := by
  intro i hi
  obtain ⟨g, o, e, hl, hx⟩ := InG.cell (cs := wdC) (n := 1) (fun _ => rfl) hc i hi (by decide)
  have hx0 := hx 0 (by decide)
  rw [Nat.mul_one, Nat.add_zero] at hx0
  have hg : g < w0.heap.size := by omega
  refine ⟨g, o, e, fun e => by have := (h.lm g e).1; have := h.bm; omega, Nat.lt_of_lt_of_le hg h.bl.size, ?_⟩
  rw [h.bl.cell (p := ⟨g, o + i, none⟩) hg, hx0]
  unfold wds
  rw [List.getElem?_eq_getElem hi]
  rfl
abbrev haW (w : World) (n : Nat) : World := (w.alloc (.cells (madeCells #[.slice none 0 0] n) 120)).alloc (.cells (haA w.heap.size n) 118)
theorem La.begin {av bv : Value} {w0 w : World} {L : Lay} {S : AS} {bb : Nat} (n : Nat) (ts : Nat → List I8) (f : Nat → Bk) (h : Pre av bv w0 w L S bb #[.pointer (some ⟨L.b, 0, none⟩), .int .i64 1, .slice none 0 0, .pointer none]) :
    Pre av bv w0 ((haW w n).setCell ⟨bb, 3, none⟩ (.pointer (some ⟨w.heap.size + 1, 0, none⟩))) L S bb (beA L (.slice none 0 0) (w.heap.size + 1)) ∧ La w0 ((haW w n).setCell ⟨bb, 3, none⟩ (.pointer (some ⟨w.heap.size + 1, 0, none⟩))) (w.heap.size + 2) L S bb (w.heap.size + 1) w.heap.size n ts f 0 (.slice none 0 0) [] := by
  have k : Keeps (fun _ => False) w (haW w n) := ((Keeps.refl _ _).alloc _).alloc _
  have hb := (Array.getElem?_eq_some_iff.1 h.be).1
  have hp := (h.still k).set 3 (.pointer (some ⟨w.heap.size + 1, 0, none⟩))
  have sz : (haW w n).heap.size = w.heap.size + 2 := by rw [szAl, szAl]
  have hs := h.bl.size
  have eq : (haW w n).heap[w.heap.size]? = some (.cells (madeCells #[.slice none 0 0] n) 120) := (Below.heap_alloc _ _ _ (by rw [szAl]; omega)).trans (heap_alloc_last _ _ _ rfl)
  have eh : (haW w n).heap[w.heap.size + 1]? = some (.cells (haA w.heap.size n) 118) := heap_alloc_last _ _ _ (szAl _ _).symm
  have hlm : ∀ k, L.has k → bb < k ∧ k < w.heap.size := h.lm
  have hbm := h.bm
  refine ⟨hp, hp.hd, hp.be, (Below.heap_setCell _ _ _ _ (by show w.heap.size + 1 ≠ bb; omega)).trans eh, fun j hj => by omega, fun j _ hj => ?_, fun j => ?_, ⟨_, (Below.heap_setCell _ _ _ _ (by show w.heap.size ≠ bb; omega)).trans eq⟩, OwG.nil _ _ _ _ _, fun j hj => by omega, fun j k _ hk => by omega, hp.bl, fun k hk => by have := hlm k hk; omega, by omega, by omega, by omega, by simp [sz], fun e => by have := hlm _ e; omega, fun e => by have := hlm _ e; omega, fun e => by have := hlm _ e; omega, by omega, by omega, by omega⟩
  · rw [World.cell?_setCell_other _ _ _ _ (fun e => by have := congrArg Addr.block e; simp at this; omega), cell?_heap eq, getElem?_made _ _ _ hj]
    simp [Nat.mod_one]
  · simp
theorem clone_any (w : World) (C : Nat) (v : Value) (xs : List I8) (h : InG iC w C v xs) (hC : C ≤ w.heap.size) (hl : xs.length ≤ 1000) :
    Calls Tryz.prog 61 #[v] w fun e w' => ∃ v', e = .returned v' ∧ OwG iC 106 8 w' w.heap.size v' xs ∧ Below w.heap.size w w' := by
  obtain ⟨ao, cap, e, h1, h2, h3⟩ := h
  match ao, h2, h3 with
  | none, h2, h3 =>
    have hc0 := h2 rfl
    have hx : xs = [] := List.eq_nil_of_length_eq_zero (by omega)
    subst hx hc0 e
    have q := eqNilI
    show Calls _ _ #[.slice none 0 0] _ _
    go_enter Tryz.func61, Tryz.ntmps61
    go_wp2
    go_ret
    exact ⟨_, rfl, OwG.nil _ _ _ _ _, Below.refl _ _⟩
  | some ad, h2, h3 =>
    subst e
    exact clone_in w C ad cap xs ⟨some ad, cap, rfl, h1, h2, h3⟩ hC hl
theorem layG_any (w : World) (C : Nat) (ca : Option Addr) (cc : Nat) (ta : Option Addr) (tc : Nat) (tvf : Nat → Value) (cs : List Int) (tl : List (List I8)) (h : LitG w C ca cc ta tc tvf cs tl) (hC : C ≤ w.heap.size) (hsd : soundP cs tl = true) (hc4 : 1 ≤ cs.length ∧ cs.length ≤ 4) (hn4 : 1 ≤ tl.length ∧ tl.length ≤ 4) (hl10 : ∀ i (hi : i < tl.length), tl[i].length ≤ 10) :
    Calls Tryz.prog 30 #[.agg (litC ca cs.length cc ta tl.length tc)] w fun e w' => ∃ M L bb hb qb f tv, e = .returned (.tuple #[.pointer (some ⟨bb, 0, none⟩), .int .i64 0]) ∧ La w w' M L (asG cs) bb hb qb tl.length (fun i => tl[i]?.getD []) f tl.length tv ((List.range tl.length).map (fun j => (f j).T)) := by
  have H : Hid (LitG w C ca cc ta tc tvf cs tl) := h
  have HL10 : Hid (∀ i (hi : i < tl.length), tl[i].length ≤ 10) := hl10
  obtain ⟨n, hn⟩ : ∃ n, tl.length = n := ⟨_, rfl⟩
  obtain ⟨wd, hwd⟩ : ∃ wd, cs.length = wd := ⟨_, rfl⟩
  have HN : Hid (tl.length = n ∧ cs.length = wd) := ⟨hn, hwd⟩
  rw [hn] at hn4 ⊢
  rw [hwd] at hc4 ⊢
  have h1 := hn4.1
  have h4 := hn4.2
  have HSD : Hid (∀ W, LitG W C ca cc ta tc tvf cs tl → C ≤ W.heap.size → Calls Tryz.prog 58 #[.agg (litC ca wd cc ta n tc)] W fun e w' => e = .returned (.bool true) ∧ Keeps (fun _ => False) W w') := fun W hW hC' => by rw [← hn, ← hwd, ← hsd]; exact isLit_any W C ca cc ta tc tvf cs tl hW hC'
  have HASG : Hid ((asG cs).wd = wd) := hwd
  clear h hl10 hn hwd hsd
  have HK0 : Hid (Keeps (fun _ => False) w (lgW w (litC ca wd cc ta n tc)) ∧ LitG (lgW w (litC ca wd cc ta n tc)) C ca cc ta tc tvf cs tl) := ⟨(Keeps.refl _ _).alloc _, H.out.later ((Below.refl _ _).alloc hC _)⟩
  go_enter Tryz.func30, Tryz.ntmps30
  go_wp2_with fail
  refine (HSD.out (lgW w (litC ca wd cc ta n tc)) HK0.out.2 (by rw [szAl]; omega)).mono ?_
  rintro e w2 ⟨rfl, k2⟩
  obtain ⟨q0, q1⟩ := lg_keep (k2.alloc (.cells #[.pointer none, .int .i64 0, .slice none 0 0, .pointer none] 146))
  have HK2 : Hid (Keeps (fun _ => False) (lgW w (litC ca wd cc ta n tc)) w2) := k2
  clear k2
  go_wp2_with fail
  refine (new_ok 1 wd _ (by decide) (by decide) hc4.1 (by omega)).mono ?_
  rintro e w4 ⟨s, u, rfl, hsu, hd, hbl⟩
  obtain ⟨L, hL⟩ : ∃ L : Lay, L = ⟨(be0 w2).heap.size + 2, s, u, (be0 w2).heap.size + 3⟩ := ⟨_, rfl⟩
  rw [show ((be0 w2).heap.size + 2) = L.b from by rw [hL]]
  rw [← hL] at hd
  have hp := Pre.start HK0.out.1 HK2.out hsu hL hd hbl
  generalize w2.heap.size = bb at *
  have HP : Hid (Pre (.slice ca wd cc) (.slice ta n tc) w w4 L (.fresh 1 wd) bb #[.pointer none, .int .i64 0, .slice none 0 0, .pointer none]) := hp
  have b0 := (cell?_heap hp.be 0).trans rfl
  have f0 := frozen?_heap hp.be 0
  clear hp hsu hL hd hbl HK2 HK0 q0 q1
  have HP5 : Hid (Pre (.slice ca wd cc) (.slice ta n tc) w (w4.setCell ⟨bb, 0, none⟩ (.pointer (some ⟨L.b, 0, none⟩))) L (.fresh 1 wd) bb #[.pointer (some ⟨L.b, 0, none⟩), .int .i64 0, .slice none 0 0, .pointer none]) := HP.out.set 0 _
  go_wp2_with fail
  clear b0 f0 HP
  generalize w4.setCell ⟨bb, 0, none⟩ (.pointer (some ⟨L.b, 0, none⟩)) = w5 at *
  (refine wp_region_held_drew (S := (fun W => W.cell? ⟨bb, 0, none⟩ = some (.pointer (some ⟨L.b, 0, none⟩)) ∧ W.cell? ⟨w.heap.size, 0, none⟩ = some (.slice ca wd cc))) (by kernel_rfl) ⟨(cell?_heap HP5.out.be 0).trans rfl, HP5.out.y0⟩ (fun hHeld => ?_); simp only [List.size_toArray, List.length_cons, List.length_nil, Nat.reduceAdd, Array.replicate_succ, Array.replicate_zero, List.push_toArray, List.append_toArray, List.nil_append, List.cons_append])
  refine rgT 0 (h := ?_)
  refine rgT 1 (h := ?_)
  refine rgT 2 (h := ?_)
  refine rgT 3 (h := ?_)
  refine rgT 4 (h := ?_)
  refine rgT 5 (h := ?_)
  refine rgT 6 (h := ?_)
  refine rgT 7 (h := ?_)
  refine rgT 8 (h := ?_)
  (refine rgS 9 (h := fun K hK => ?_); go_simp)
  have HP5' : Hid (Pre (.slice ca wd cc) (.slice ta n tc) w w5.drew L (.fresh 1 wd) bb #[.pointer (some ⟨L.b, 0, none⟩), .int .i64 0, .slice none 0 0, .pointer none]) := HP5.out.still (Keeps.refl _ _).drew
  have hgv := HP5'.out.given hC H.out.c
  rw [HN.out.2] at hgv
  refine (alloc_ok L (.fresh 1 wd) w5.drew ca wd cc 0 (wds cs) HP5'.out.hd hgv (Nat.le_refl _) rfl rfl (by decide : 0 < 1) (by decide : 0 < 1) (Nat.le_refl _) rfl (by decide : 0 < 1)).mono ?_
  rintro e w6 ⟨rfl, hd6, k6⟩
  have HP6 : Hid (Pre (.slice ca wd cc) (.slice ta n tc) w w6 L (asG cs) bb #[.pointer (some ⟨L.b, 0, none⟩), .int .i64 0, .slice none 0 0, .pointer none]) := HP5'.out.keeps k6 (by unfold asG; rw [HN.out.2]; exact hd6)
  clear hd6 k6 HP5 HP5' hgv
  (refine hK.out _ _ ⟨(cell?_heap HP6.out.be 0).trans rfl, HP6.out.y0⟩ (fun hHeld => ?_); clear hK K; try simp only [Act.put, List.setIfInBounds_toArray, List.set_cons_zero, List.set_cons_succ])
  refine rgT 10 (h := ?_)
  refine rgT 11 (h := ?_)
  refine rgT 12 (h := ?_)
  refine rgT 13 (h := ?_)
  refine rgT 14 (h := ?_)
  refine rgT 15 (h := ?_)
  have b1 := (cell?_heap HP6.out.be 1).trans rfl
  have f1 := frozen?_heap HP6.out.be 1
  (refine rgS 16 (h := fun K hK => ?_); go_simp)
  have HP7 : Hid (Pre (.slice ca wd cc) (.slice ta n tc) w (w6.setCell ⟨bb, 1, none⟩ (.int .i64 1)) L (asG cs) bb #[.pointer (some ⟨L.b, 0, none⟩), .int .i64 1, .slice none 0 0, .pointer none]) := HP6.out.set 1 _
  (refine hK.out _ _ ⟨(cell?_heap HP7.out.be 0).trans rfl, HP7.out.y0⟩ (fun hHeld => ?_); clear hK K; try simp only [Act.put, List.setIfInBounds_toArray, List.set_cons_zero, List.set_cons_succ])
  refine wpAnyH_done (by kernel_rfl) ?_ _
  clear b1 f1 HP6
  generalize w6.setCell ⟨bb, 1, none⟩ (.int .i64 1) = w7 at *
  have y1 := HP7.out.y1
  go_wp2_with fail
  refine (hnew_any w7 n h1 (by omega)).mono ?_
  rintro e w8 ⟨rfl, rfl⟩
  clear y1
  have HP8 : Hid (Pre (.slice ca wd cc) (.slice ta n tc) w (haW w7 n) L (asG cs) bb #[.pointer (some ⟨L.b, 0, none⟩), .int .i64 1, .slice none 0 0, .pointer none]) := HP7.out.still (((Keeps.refl _ _).alloc _).alloc _)
  have b3 := (cell?_heap HP8.out.be 3).trans rfl
  have f3 := frozen?_heap HP8.out.be 3
  obtain ⟨f0⟩ : Nonempty (Nat → Bk) := ⟨fun _ => ⟨0, .slice none 0 0, 0, 0⟩⟩
  have HLA : Hid (Pre (.slice ca wd cc) (.slice ta n tc) w ((haW w7 n).setCell ⟨bb, 3, none⟩ (.pointer (some ⟨w7.heap.size + 1, 0, none⟩))) L (asG cs) bb (beA L (.slice none 0 0) (w7.heap.size + 1)) ∧ La w ((haW w7 n).setCell ⟨bb, 3, none⟩ (.pointer (some ⟨w7.heap.size + 1, 0, none⟩))) (w7.heap.size + 2) L (asG cs) bb (w7.heap.size + 1) w7.heap.size n (fun i => tl[i]?.getD []) f0 0 (.slice none 0 0) []) := La.begin n (fun i => tl[i]?.getD []) f0 HP7.out
  have y1 := HLA.out.1.y1
  clear HP7
  go_wp2_with fail
  clear b3 f3 HP8 y1
  have HL : Hid (La w ((haW w7 n).setCell ⟨bb, 3, none⟩ (.pointer (some ⟨w7.heap.size + 1, 0, none⟩))) (w7.heap.size + 2) L (asG cs) bb (w7.heap.size + 1) w7.heap.size n (fun i => tl[i]?.getD []) f0 0 (.slice none 0 0) []) := HLA.out.2
  clear HLA
  generalize (haW w7 n).setCell ⟨bb, 3, none⟩ (.pointer (some ⟨w7.heap.size + 1, 0, none⟩)) = w9 at *
  generalize w7.heap.size + 2 = M at *
  generalize w7.heap.size + 1 = hb at *
  generalize w7.heap.size = qb at *
  go_loopw [52] (fun c wr => ∃ (t : Nat) (f : Nat → Bk) (tv : Value), c = .int .i64 t ∧ t ≤ n ∧ La w wr M L (asG cs) bb hb qb n (fun i => tl[i]?.getD []) f t tv ((List.range t).map (fun j => (f j).T))) (fun c _ => n - (intOf c).toNat)
  case atStart => exact ⟨0, f0, _, rfl, by omega, HL.out⟩
  case round =>
    obtain ⟨t, f, tv, rfl, ht, hla⟩ := hrel
    have HQ : Hid (La w wr M L (asG cs) bb hb qb n (fun i => tl[i]?.getD []) f t tv ((List.range t).map (fun j => (f j).T))) := hla
    clear hla HL
    by_cases h5 : t < n
    · have h5l : t < tl.length := by rw [HN.out.1]; exact h5
      have htl : tl[t]?.getD [] = tl[t] := by rw [List.getElem?_eq_getElem h5l]; rfl
      have HW := H.out.later (HQ.out.bl.mono hC)
      obtain ⟨tb, off, rfl, -, ct⟩ := HW.t t h5l
      obtain ⟨ia, icap, hiv⟩ := (HW.i t h5l).form
      have HIN : Hid (InG iC wr C (.slice ia tl[t].length icap) tl[t]) := by rw [← hiv]; exact HW.i t h5l
      rw [hiv] at ct
      have hlen10 := HL10.out t h5l
      have HTL : Hid (tl[t]?.getD [] = tl[t]) := htl
      clear HW hiv htl
      have t0 : (0 : Int) ≤ (t : Int) := Int.natCast_nonneg _
      have t1 : (t : Int) < (n : Int) := by omega
      have HC := HQ.out.be
      have HD : Hid (La w wr.drew M L (asG cs) bb hb qb n (fun i => tl[i]?.getD []) f t tv ((List.range t).map (fun j => (f j).T)) ∧ InG iC wr.drew C (.slice ia tl[t].length icap) tl[t]) := ⟨HQ.out.still (Keeps.refl _ _).drew, HIN.out⟩
      go_wp2_with fail
      (refine wp_region_held_drew (S := (fun W => W.cell? ⟨bb, 0, none⟩ = some (.pointer (some ⟨L.b, 0, none⟩)) ∧ W.cell? ⟨bb, 1, none⟩ = some (.int .i64 1))) (by kernel_rfl) ⟨(cell?_heap HC 0).trans rfl, (cell?_heap HC 1).trans rfl⟩ (fun hHeld => ?_); simp only [List.size_toArray, List.length_cons, List.length_nil, Nat.reduceAdd, Array.replicate_succ, Array.replicate_zero, List.push_toArray, List.append_toArray, List.nil_append, List.cons_append])
      clear HC HQ HIN ct
      refine rgT 0 (h := ?_)
      refine rgT 1 (h := ?_)
      refine rgT 2 (h := ?_)
      refine rgT 3 (h := ?_)
      refine rgT 4 (h := ?_)
      (refine rgS 5 (h := fun K hK => ?_); go_simp)
      refine (clone_any wr.drew C (.slice ia tl[t].length icap) tl[t] HD.out.2 (Nat.le_trans hC HD.out.1.bl.size) (by omega)).mono ?_
      rintro e w1 ⟨v, rfl, ho1, hb1⟩
      obtain ⟨va1, vc1, rfl⟩ := ho1.form
      obtain ⟨g, hg⟩ : ∃ g : Value, g = .slice va1 tl[t].length vc1 := ⟨_, rfl⟩
      have g12 : ∀ k, g.ownBlock = some k → wr.heap.size ≤ k ∧ k < w1.heap.size := fun k hk => by rw [hg] at hk; exact World.ownsRow.lt ho1 k hk
      have H1 : Hid (La w w1 M L (asG cs) bb hb qb n (fun i => tl[i]?.getD []) f t tv ((List.range t).map (fun j => (f j).T)) ∧ OwG iC 106 8 w1 M (.slice va1 tl[t].length vc1) tl[t] ∧ M ≤ w1.heap.size ∧ (∀ k, g.ownBlock = some k → M ≤ k ∧ k < w1.heap.size) ∧ ∀ j, j < t → (f j).pb < w1.heap.size ∧ ∀ k, g.ownBlock = some k → (f j).pb < k) := ⟨HD.out.1.still (Below.keeps hb1 _), ho1.down HD.out.1.ms, Nat.le_trans HD.out.1.ms hb1.size, fun k hk => ⟨Nat.le_trans HD.out.1.ms (g12 k hk).1, (g12 k hk).2⟩, fun j hj => ⟨Nat.lt_of_lt_of_le (HD.out.1.ea j hj).o4 hb1.size, fun k hk => Nat.lt_of_lt_of_le (HD.out.1.ea j hj).o4 (g12 k hk).1⟩⟩
      clear ho1 hb1 g12 HD
      have HC1 := H1.out.1.be
      (refine hK.out _ _ ⟨(cell?_heap HC1 0).trans rfl, (cell?_heap HC1 1).trans rfl⟩ (fun hHeld => ?_); clear hK K; try simp only [Act.put, List.setIfInBounds_toArray, List.set_cons_zero, List.set_cons_succ])
      refine rgT 6 (h := ?_)
      (refine rgS 7 (h := fun K hK => ?_); go_simp)
      have H2 : Hid (La w (w1.alloc (.cells (thA L (.slice va1 tl[t].length vc1)) 154)) M L (asG cs) bb hb qb n (fun i => tl[i]?.getD []) f t tv ((List.range t).map (fun j => (f j).T)) ∧ OwG iC 106 8 (w1.alloc (.cells (thA L (.slice va1 tl[t].length vc1)) 154)) M (.slice va1 tl[t].length vc1) tl[t] ∧ (w1.alloc (.cells (thA L (.slice va1 tl[t].length vc1)) 154)).heap[w1.heap.size]? = some (.cells (thA L (.slice va1 tl[t].length vc1)) 154)) := ⟨H1.out.1.still ((Keeps.refl _ _).alloc _), OwG.keeps (D := fun _ => False) H1.out.2.1 ((Keeps.refl _ _).alloc _) (fun _ e => e.elim), heap_alloc_last _ _ _ rfl⟩
      have HC2 := H2.out.1.be
      (refine hK.out _ _ ⟨(cell?_heap HC2 0).trans rfl, (cell?_heap HC2 1).trans rfl⟩ (fun hHeld => ?_); clear hK K; try simp only [Act.put, List.setIfInBounds_toArray, List.set_cons_zero, List.set_cons_succ])
      refine rgT 8 (h := ?_)
      refine wpAnyH_done (by kernel_rfl) ?_ _
      have HG : Hid (M ≤ w1.heap.size ∧ (∀ k, g.ownBlock = some k → M ≤ k ∧ k < w1.heap.size) ∧ ∀ j, j < t → (f j).pb < w1.heap.size ∧ ∀ k, g.ownBlock = some k → (f j).pb < k) := H1.out.2.2
      clear HC1 HC2 H1
      have hT : w1.heap.size < (w1.alloc (.cells (thA L (.slice va1 tl[t].length vc1)) 154)).heap.size := by rw [szAl]; omega
      generalize w1.alloc (.cells (thA L (.slice va1 tl[t].length vc1)) 154) = w2' at *
      generalize w1.heap.size = T at *
      obtain ⟨ts, hts⟩ : ∃ ts, (List.range t).map (fun j => (f j).T) = ts := ⟨_, rfl⟩
      rw [hts] at H2
      have HTS : Hid (ts = (List.range t).map (fun j => (f j).T)) := hts.symm
      have hlen : ts.length ≤ 4 := by rw [← hts]; simp; omega
      clear hts
      obtain ⟨va, vc, htv⟩ := H2.out.1.ot.form
      subst htv
      have c2 := (cell?_heap H2.out.1.be 2).trans rfl
      go_wp2_with (at_builtin; refine app_one (cs := thC) (wr := w2') (by rfl) _ _ 42 31 (by rfl) Tryz.underlying42 infoTh rfl (by decide) (fun _ => rfl) M _ ts T H2.out.1.ot (by rfl) w2'.heap.size rfl (by rfl) (by intro u hu; simp [thC] at hu; rcases hu with rfl; rfl) _ rfl (by unfold maxLen; omega) (by omega) H2.out.1.ms ?_; intro v' w3 ho3 hb3 hk3; refine hideG ?_)
      change wpList _ _ _ _ _ _
      obtain ⟨va', vc', rfl⟩ := ho3.form
      obtain ⟨mm, hmm⟩ : ∃ mm, (ts ++ [T]).length = mm := ⟨_, rfl⟩
      rw [hmm] at ho3 ⊢
      clear hmm
      have hB3 := (hb3.block bb H2.out.1.bm.2).trans H2.out.1.be
      have b2 := (cell?_heap hB3 2).trans rfl
      have f2 := frozen?_heap hB3 2
      have H4 : Hid (La w (w3.setCell ⟨bb, 2, none⟩ (.slice va' mm vc')) M L (asG cs) bb hb qb n (fun i => tl[i]?.getD []) f t (.slice va' mm vc') (ts ++ [T]) ∧ OwG iC 106 8 (w3.setCell ⟨bb, 2, none⟩ (.slice va' mm vc')) M (.slice va1 tl[t].length vc1) tl[t] ∧ (w3.setCell ⟨bb, 2, none⟩ (.slice va' mm vc')).heap[T]? = some (.cells (thA L (.slice va1 tl[t].length vc1)) 154)) := ⟨H2.out.1.push hb3 hk3 ho3, (OwG.kept H2.out.2.1 hk3 (by decide)).set (p := ⟨bb, 2, none⟩) H2.out.1.bm.2 _, (Below.heap_setCell _ _ _ _ (by have := H2.out.1.bm; have := HG.out; show T ≠ bb; omega)).trans ((hk3 _ _ _ _ H2.out.2.2 (by decide)).trans H2.out.2.2)⟩
      have e3 := (cell?_heap H4.out.1.be 3).trans rfl
      clear ho3 hb3 hk3 hB3 H2 c2 hT
      go_wp2_with fail
      clear b2 f2 e3
      have hsz : w3.heap.size = (w3.setCell ⟨bb, 2, none⟩ (.slice va' mm vc')).heap.size := by simp
      rw [hsz]
      clear hsz
      generalize w3.setCell ⟨bb, 2, none⟩ (.slice va' mm vc') = w4' at *
      have H5 : Hid (La w (w4'.alloc (.cells #[.pointer (some ⟨T, 0, none⟩)] 31)) M L (asG cs) bb hb qb n (fun i => tl[i]?.getD []) f t (.slice va' mm vc') (ts ++ [T]) ∧ OwG iC 106 8 (w4'.alloc (.cells #[.pointer (some ⟨T, 0, none⟩)] 31)) M (.slice va1 tl[t].length vc1) tl[t] ∧ (w4'.alloc (.cells #[.pointer (some ⟨T, 0, none⟩)] 31)).heap[T]? = some (.cells (thA L (.slice va1 tl[t].length vc1)) 154) ∧ (w4'.alloc (.cells #[.pointer (some ⟨T, 0, none⟩)] 31)).cell? ⟨w4'.heap.size, 0, none⟩ = some (.pointer (some ⟨T, 0, none⟩))) := ⟨H4.out.1.still ((Keeps.refl _ _).alloc _), OwG.keeps (D := fun _ => False) H4.out.2.1 ((Keeps.refl _ _).alloc _) (fun _ e => e.elim), (Below.heap_alloc _ _ _ (Array.getElem?_eq_some_iff.1 H4.out.2.2).1).trans H4.out.2.2, (cell?_heap (heap_alloc_last _ _ _ rfl) 0).trans rfl⟩
      generalize w4'.alloc (.cells #[.pointer (some ⟨T, 0, none⟩)] 31) = w5' at *
      have la := H5.out.1
      refine (submit_one w5' hb qb n w5'.heap.size t T w4'.heap.size (t : Int) (.slice none 0 0) [] ((cell?_heap la.ha 0).trans rfl) (la.qz t (Nat.le_refl _) h5) (la.qf t) (OwG.nil _ _ _ _ _) H5.out.2.2.2 h5 (by simp) (Nat.lt_of_lt_of_le la.hm.2 la.ms) (Nat.lt_of_lt_of_le la.qm.2 la.ms) la.d4 (Nat.le_refl _) (by omega) (by omega)).mono ?_
      rintro e w6' ⟨rfl, v6, cv6, ov6, oth, fz6, k6, kq6⟩
      rw [List.nil_append] at ov6
      obtain ⟨pb, cp, rfl, p1, p2⟩ := owG_some ov6 (by simp)
      have hM := la.qm
      have kT := k6.thin
      have H6 : Hid (La w w6' M L (asG cs) bb hb qb n (fun i => tl[i]?.getD []) (upd f t ⟨T, .slice va1 tl[t].length vc1, pb, cp⟩) (t + 1) (.slice va' mm vc') (ts ++ [T])) :=
        la.sub h5 cv6 oth k6 (fun j => (fz6 j).trans (la.qf j)) (la.qt.elim (fun c hc => kq6.2 c _ hc)) ⟨by show OwG iC _ 8 _ _ _ (tl[t]?.getD []); rw [HTL.out]; exact H5.out.2.1.keeps kT (fun x e => by omega), (kT.block _ (Array.getElem?_eq_some_iff.1 H5.out.2.2.1).1 (by have := HG.out; show ¬ T = qb; omega)).trans H5.out.2.2.1, ov6.down la.ms, HG.out.1, by rw [← hg]; exact HG.out.2.1, by have := (Array.getElem?_eq_some_iff.1 H5.out.2.2.1).1; show T < pb; omega, p2⟩ (by rw [← hg]; exact HG.out.2.2)
      clear ov6 cv6 oth fz6 k6 kq6 kT la H5 H4
      go_wp2
      go_roundw
      case rel => exact ⟨t + 1, _, _, by go_num, by omega, by
        have e : (List.range (t + 1)).map (fun j => (upd f t ⟨T, .slice va1 tl[t].length vc1, pb, cp⟩ j).T) = ts ++ [T] := by
          rw [HTS.out, List.range_succ, List.map_append]
          congr 1
          · apply List.map_congr_left
            intro j hj
            rw [upd_other _ _ (by have := List.mem_range.1 hj; omega)]
          · simp [upd_same]
        rw [e]; exact H6.out⟩
      case measure => simp [intOf]; omega
    · go_wp2
      go_ret2
      have : t = n := by omega
      subst this
      exact ⟨M, L, bb, hb, qb, f, tv, rfl, HQ.out⟩
end Go.Proofs.YtdpebhdjcgiboaaGreat
