import Derived.Test.YtegnmflbbpfdhaaGreatSdT
import Derived.Test.YtegnmflbbpfdhaaGreatCells7Z
namespace Go.Proofs.YtegnmflbbpfdhaaGreat
set_option linter.unusedSimpArgs false
open Go.ChangeShapes Go.WideShapes Go.ChangeAt Go.RowKit Go.MuLone Go.RwLone
set_option linter.unusedVariables false
set_option maxRecDepth 100000
set_option maxHeartbeats 3200000
/-- The arena of a bench: two words. -/
def wds (x0 : Int) (i : Nat) : Int := if i = 0 then 7 else x0
def as2 (x0 : Int) : AS := ({ AS.fresh 1 2 with rc := 0, lk := 0, acc := wrap64 ((AS.fresh 1 2).acc + 1), front := ((AS.fresh 1 2).front + 1) % (AS.fresh 1 2).n, count := (AS.fresh 1 2).count - 1 } : AS).laid 0 (valW 2 (wds x0))
theorem as2_facts (x0 : Int) : (as2 x0).rc = 0 ∧ (as2 x0).n = 1 ∧ (as2 x0).use 0 = true ∧ (as2 x0).wd = 2 ∧ (as2 x0).g0 = 0 ∧ (as2 x0).word 0 = 7 ∧ (as2 x0).word 1 = x0 := by
  refine ⟨rfl, rfl, rfl, rfl, rfl, ?_, ?_⟩ <;> simp [as2, AS.laid, layW, valW, wds, AS.fresh]
abbrev be0 (w : World) : World := w.alloc (.cells #[.pointer none, .int .i64 0, .slice none 0 0, .pointer none] 73)
/-- An arena of one slot in the midst of laying out, the bench in the block bb. -/
structure Pre (n cb tb tc : Nat) (w0 w : World) (L : Lay) (S : AS) (bb : Nat) (c : Array Value) : Prop where
  hd : Holds w L S
  be : w.heap[bb]? = some (.cells c 73)
  bl : Below w0.heap.size w0 w
  lm : ∀ k, L.has k → bb < k ∧ k < w.heap.size
  bm : w0.heap.size < bb
  y0 : w.cell? ⟨w0.heap.size, 0, none⟩ = some (.slice (some ⟨cb, 0, none⟩) 2 2)
  y1 : w.cell? ⟨w0.heap.size, 1, none⟩ = some (.slice (some ⟨tb, 0, none⟩) n tc)
theorem Pre.set {n cb tb tc : Nat} {w0 w : World} {L : Lay} {S : AS} {bb : Nat} {c : Array Value} (h : Pre n cb tb tc w0 w L S bb c) (i : Nat) (u : Value) : Pre n cb tb tc w0 (w.setCell ⟨bb, i, none⟩ u) L S bb (c.setIfInBounds i u) := by
  have hb := h.be
  have e : ∀ j, (w.setCell ⟨bb, i, none⟩ u).cell? ⟨w0.heap.size, j, none⟩ = w.cell? ⟨w0.heap.size, j, none⟩ := fun j => World.cell?_setCell_other _ _ _ _ (fun e => by have := congrArg Addr.block e; have := h.bm; simp at *; try omega)
  refine ⟨h.hd.far (p := ⟨bb, i, none⟩) (fun e => by have := (h.lm bb e).1; omega) _, ?_, h.bl.trans ⟨rfl, rfl, rfl, by simp, fun k hk => Below.heap_setCell _ _ _ _ (by have := h.bm; show k ≠ bb; omega)⟩, fun k hk => by have := h.lm k hk; simp; omega, h.bm, (e 0).trans h.y0, (e 1).trans h.y1⟩
  simp [World.setCell, Array.getElem?_modify, hb]
theorem Pre.keeps {n cb tb tc : Nat} {w0 w w' : World} {L : Lay} {S S' : AS} {bb : Nat} {c : Array Value} (h : Pre n cb tb tc w0 w L S bb c) (k : Keeps L.has w w') (hd : Holds w' L S') : Pre n cb tb tc w0 w' L S' bb c := by
  have hb := (Array.getElem?_eq_some_iff.1 h.be).1
  have e : ∀ j, w'.cell? ⟨w0.heap.size, j, none⟩ = w.cell? ⟨w0.heap.size, j, none⟩ := fun j => k.cell (p := ⟨w0.heap.size, j, none⟩) (by have := h.bm; show w0.heap.size < _; omega) (fun e => by have := (h.lm _ e).1; have := h.bm; simp at *; try omega)
  exact ⟨hd, (k.block _ hb (fun e => by have := (h.lm bb e).1; omega)).trans h.be, h.bl.trans (k.below h.bl.size (fun g hg e => by have := (h.lm g e).1; have := h.bm; omega)), fun g hg => ⟨(h.lm g hg).1, Nat.lt_of_lt_of_le (h.lm g hg).2 k.size⟩, h.bm, (e 0).trans h.y0, (e 1).trans h.y1⟩
theorem Pre.still {n cb tb tc : Nat} {w0 w w' : World} {L : Lay} {S : AS} {bb : Nat} {c : Array Value} (h : Pre n cb tb tc w0 w L S bb c) (k : Keeps (fun _ => False) w w') : Pre n cb tb tc w0 w' L S bb c := h.keeps (k.mono (fun _ e => e.elim)) (h.hd.keeps k (fun _ _ e => e))
theorem Pre.start {w w2 w4 : World} {n cb tb tc s u : Nat} {L : Lay} (k0 : Keeps (fun _ => False) w (litW w n cb tb tc)) (k2 : Keeps (fun _ => False) (litW w n cb tb tc) w2) (hsu : s = (be0 w2).heap.size ∧ u = (be0 w2).heap.size + 1 ∨ s = (be0 w2).heap.size + 1 ∧ u = (be0 w2).heap.size) (hL : L = ⟨(be0 w2).heap.size + 2, s, u, (be0 w2).heap.size + 3⟩) (hd : Holds w4 L (.fresh 1 2)) (hbl : Below (be0 w2).heap.size (be0 w2) w4) :
    Pre n cb tb tc w w4 L (.fresh 1 2) w2.heap.size #[.pointer none, .int .i64 0, .slice none 0 0, .pointer none] := by
  have hs : (be0 w2).heap.size = w2.heap.size + 1 := szAl _ _
  have hs0 : (litW w n cb tb tc).heap.size = w.heap.size + 1 := szAl _ _
  have hs2 := k2.size
  have kb : Keeps (fun _ => False) (litW w n cb tb tc) w4 := (k2.alloc _).trans (Below.keeps hbl _)
  obtain ⟨q0, q1⟩ := lit_keep kb
  refine ⟨hd, (hbl.block _ (by omega)).trans (heap_alloc_last _ _ _ rfl), (k0.trans kb).below (Nat.le_refl _) (fun _ _ e => e), ?_, by omega, q0, q1⟩
  intro k hk
  have l1 := hd.lb
  have l2 := hd.ls
  have l3 := hd.lu
  have l4 := hd.lq
  subst hL
  simp only at l1 l2 l3 l4
  rcases hk with e | e | e | e <;> simp only at e <;> omega
theorem Pre.given {n cb tb tc : Nat} {w0 w : World} {L : Lay} {S : AS} {bb : Nat} {c : Array Value} {x0 : Int} (h : Pre n cb tb tc w0 w L S bb c) (hc : cb < w0.heap.size) (c0 : w0.cell? ⟨cb, 0, none⟩ = some (.int .u64 7)) (c1 : w0.cell? ⟨cb, 1, none⟩ = some (.int .u64 x0)) : Given w L (some ⟨cb, 0, none⟩) 2 (wds x0) := by
  intro i hi
  refine ⟨cb, 0, rfl, fun e => by have := (h.lm cb e).1; have := h.bm; omega, Nat.lt_of_lt_of_le hc h.bl.size, ?_⟩
  have e : ∀ j, w.cell? ⟨cb, j, none⟩ = w0.cell? ⟨cb, j, none⟩ := fun j => h.bl.cell (p := ⟨cb, j, none⟩) hc
  rw [e]
  have : i = 0 ∨ i = 1 := by omega
  rcases this with rfl | rfl
  · exact c0
  · exact c1
abbrev haW (w : World) (n : Nat) : World := (w.alloc (.cells (madeCells #[.slice none 0 0] n) 146)).alloc (.cells (haA w.heap.size n) 144)
theorem La.begin {n cb tb tc : Nat} {w0 w : World} {L : Lay} {S : AS} {bb : Nat} (x0 : Int) (f : Nat → Bk) (h : Pre n cb tb tc w0 w L S bb #[.pointer (some ⟨L.b, 0, none⟩), .int .i64 1, .slice none 0 0, .pointer none]) :
    Pre n cb tb tc w0 ((haW w n).setCell ⟨bb, 3, none⟩ (.pointer (some ⟨w.heap.size + 1, 0, none⟩))) L S bb (beA L (.slice none 0 0) (w.heap.size + 1)) ∧ La w0 ((haW w n).setCell ⟨bb, 3, none⟩ (.pointer (some ⟨w.heap.size + 1, 0, none⟩))) (w.heap.size + 2) L S bb (w.heap.size + 1) w.heap.size n x0 f 0 (.slice none 0 0) [] := by
  have k : Keeps (fun _ => False) w (haW w n) := ((Keeps.refl _ _).alloc _).alloc _
  have hb := (Array.getElem?_eq_some_iff.1 h.be).1
  have hp := (h.still k).set 3 (.pointer (some ⟨w.heap.size + 1, 0, none⟩))
  have sz : (haW w n).heap.size = w.heap.size + 2 := by rw [szAl, szAl]
  have hs := h.bl.size
  have eq : (haW w n).heap[w.heap.size]? = some (.cells (madeCells #[.slice none 0 0] n) 146) := (Below.heap_alloc _ _ _ (by rw [szAl]; omega)).trans (heap_alloc_last _ _ _ rfl)
  have eh : (haW w n).heap[w.heap.size + 1]? = some (.cells (haA w.heap.size n) 144) := heap_alloc_last _ _ _ (szAl _ _).symm
  have hlm : ∀ k, L.has k → bb < k ∧ k < w.heap.size := h.lm
  have hbm := h.bm
  refine ⟨hp, hp.hd, hp.be, (Below.heap_setCell _ _ _ _ (by show w.heap.size + 1 ≠ bb; omega)).trans eh, fun j hj => by omega, fun j _ hj => ?_, fun j => ?_, OwG.nil _ _ _ _ _, fun j hj => by omega, fun j k _ hk => by omega, hp.bl, fun k hk => by have := hlm k hk; omega, by omega, by omega, by omega, by simp [sz], fun e => by have := hlm _ e; omega, fun e => by have := hlm _ e; omega, fun e => by have := hlm _ e; omega, by omega, by omega, by omega⟩
  · rw [World.cell?_setCell_other _ _ _ _ (fun e => by have := congrArg Addr.block e; simp at this; omega), cell?_heap eq, getElem?_made _ _ _ hj]
    simp [Nat.mod_one]
  · simp
theorem Lit2.ing {w w' : World} {x0 : Int} {n cb tb t : Nat} {ib ic : Nat → Nat} (h : Lit2 w x0 n cb tb ib ic) (ht : t < n) (hb : Below w.heap.size w w') : w'.cell? ⟨tb, t, none⟩ = some (.slice (some ⟨ib t, 0, none⟩) 1 (ic t)) ∧ InG iC w' w.heap.size (.slice (some ⟨ib t, 0, none⟩) [sw x0 t].length (ic t)) [sw x0 t] := by
  have i8 := h.i t ht
  refine ⟨(hb.cell (p := ⟨tb, t, none⟩) h.lt).trans (h.t t ht), _, _, rfl, h.k t ht, (fun e => by cases e), fun j u hj => ⟨ib t, 0, rfl, i8.lt, ?_⟩⟩
  rw [hb.cell (p := ⟨ib t, 0 + j, none⟩) i8.lt, Nat.zero_add]
  have hlt := (List.getElem?_eq_some_iff.1 hj).1
  have hl : ([sw x0 t].flatMap iC).length = 8 := rfl
  have c0 := i8.c0
  have c1 := i8.c1
  have c2 := i8.c2
  have c3 := i8.c3
  have c4 := i8.c4
  have c5 := i8.c5
  have c6 := i8.c6
  have c7 := i8.c7
  simp only [Nat.zero_mul, Nat.zero_add] at c0 c1 c2 c3 c4 c5 c6 c7
  have : j = 0 ∨ j = 1 ∨ j = 2 ∨ j = 3 ∨ j = 4 ∨ j = 5 ∨ j = 6 ∨ j = 7 := by omega
  rcases this with rfl | rfl | rfl | rfl | rfl | rfl | rfl | rfl
  · exact c0.trans hj
  · exact c1.trans hj
  · exact c2.trans hj
  · exact c3.trans hj
  · exact c4.trans hj
  · exact c5.trans hj
  · exact c6.trans hj
  · exact c7.trans hj
theorem lay_swaps (w : World) (x0 : Int) (n cb tb tc : Nat) (ib ic : Nat → Nat) (h : Lit2 w x0 n cb tb ib ic) (h1 : 1 ≤ n) (h4 : n ≤ 4) (x1 : 0 ≤ x0) (x2 : x0 < 18446744073709551616) :
    Calls Tryz.prog 12 #[litV n cb tb tc] w fun e w' => ∃ M L bb hb qb f tv, e = .returned (.tuple #[.pointer (some ⟨bb, 0, none⟩), .int .i64 0]) ∧ La w w' M L (as2 x0) bb hb qb n x0 f n tv ((List.range n).map (fun j => (f j).T)) := by
  have H : Hid (Lit2 w x0 n cb tb ib ic) := h
  have HI : Hid (∀ i, i < n → ib i < w.heap.size) := fun i hi => (h.i i hi).lt
  have hcb : cb < w.heap.size := h.lc
  have htb : tb < w.heap.size := h.lt
  clear h
  have HK0 : Hid (Keeps (fun _ => False) w (litW w n cb tb tc) ∧ Lit2 (litW w n cb tb tc) x0 n cb tb ib ic) := ⟨(Keeps.refl _ _).alloc _, H.out.still ((Keeps.refl _ _).alloc _)⟩
  go_enter Tryz.func12, Tryz.ntmps12
  go_wp2_with fail
  refine (isLit_swaps (litW w n cb tb tc) x0 n cb tb tc ib ic HK0.out.2 h1 h4).mono ?_
  rintro e w2 ⟨rfl, k2⟩
  obtain ⟨q0, q1⟩ := lit_keep (k2.alloc (.cells #[.pointer none, .int .i64 0, .slice none 0 0, .pointer none] 73))
  have HK2 : Hid (Keeps (fun _ => False) (litW w n cb tb tc) w2) := k2
  clear k2
  go_wp2_with fail
  refine (new_ok 1 2 _ (by decide) (by decide) (by decide) (by decide)).mono ?_
  rintro e w4 ⟨s, u, rfl, hsu, hd, hbl⟩
  obtain ⟨L, hL⟩ : ∃ L : Lay, L = ⟨(be0 w2).heap.size + 2, s, u, (be0 w2).heap.size + 3⟩ := ⟨_, rfl⟩
  rw [show ((be0 w2).heap.size + 2) = L.b from by rw [hL]]
  rw [← hL] at hd
  have hp := Pre.start HK0.out.1 HK2.out hsu hL hd hbl
  generalize w2.heap.size = bb at *
  have HP : Hid (Pre n cb tb tc w w4 L (.fresh 1 2) bb #[.pointer none, .int .i64 0, .slice none 0 0, .pointer none]) := hp
  have b0 := (cell?_heap hp.be 0).trans rfl
  have f0 := frozen?_heap hp.be 0
  clear hp hsu hL hd hbl HK2 HK0 q0 q1
  have HP5 : Hid (Pre n cb tb tc w (w4.setCell ⟨bb, 0, none⟩ (.pointer (some ⟨L.b, 0, none⟩))) L (.fresh 1 2) bb #[.pointer (some ⟨L.b, 0, none⟩), .int .i64 0, .slice none 0 0, .pointer none]) := HP.out.set 0 _
  go_wp2_with fail
  clear b0 f0 HP
  generalize w4.setCell ⟨bb, 0, none⟩ (.pointer (some ⟨L.b, 0, none⟩)) = w5 at *
  (refine wp_region_held_drew (S := (fun W => W.cell? ⟨bb, 0, none⟩ = some (.pointer (some ⟨L.b, 0, none⟩)) ∧ W.cell? ⟨w.heap.size, 0, none⟩ = some (.slice (some ⟨cb, 0, none⟩) 2 2))) (by kernel_rfl) ⟨(cell?_heap HP5.out.be 0).trans rfl, HP5.out.y0⟩ (fun hHeld => ?_); simp only [List.size_toArray, List.length_cons, List.length_nil, Nat.reduceAdd, Array.replicate_succ, Array.replicate_zero, List.push_toArray, List.append_toArray, List.nil_append, List.cons_append])
  (refine tk0 (v := ?_) (by kernel_rfl) (by kernel_rfl) (by kernel_rfl) (fun _ _ _ h => h) (Or.inl ⟨by rfl, ?_⟩) (by assumption) ?_; rotate_left; (focus (intro w hSw; (try dsimp only at hSw); go_simp; (try first | (rw [dif_pos (by omega)]; simp only [Result.andThen_ok]) | rw [if_pos (by omega)]); (try with_reducible rfl); done)); try simp only [Act.put, List.setIfInBounds_toArray, List.set_cons_zero, List.set_cons_succ])
  (refine tk1 (v := ?_) (by kernel_rfl) (by kernel_rfl) (by kernel_rfl) (fun _ _ _ h => h) (Or.inl ⟨by rfl, ?_⟩) (by assumption) ?_; rotate_left; (focus (intro w hSw; (try dsimp only at hSw); go_simp; (try first | (rw [dif_pos (by omega)]; simp only [Result.andThen_ok]) | rw [if_pos (by omega)]); (try with_reducible rfl); done)); try simp only [Act.put, List.setIfInBounds_toArray, List.set_cons_zero, List.set_cons_succ])
  (refine tk2 (v := ?_) (by kernel_rfl) (by kernel_rfl) (by kernel_rfl) (fun _ _ _ h => h) (Or.inl ⟨by rfl, ?_⟩) (by assumption) ?_; rotate_left; (focus (intro w hSw; (try dsimp only at hSw); go_simp; (try first | (rw [dif_pos (by omega)]; simp only [Result.andThen_ok]) | rw [if_pos (by omega)]); (try with_reducible rfl); done)); try simp only [Act.put, List.setIfInBounds_toArray, List.set_cons_zero, List.set_cons_succ])
  (refine tk3 (v := ?_) (by kernel_rfl) (by kernel_rfl) (by kernel_rfl) (fun _ _ _ h => h) (Or.inl ⟨by rfl, ?_⟩) (by assumption) ?_; rotate_left; (focus (intro w hSw; (try dsimp only at hSw); go_simp; (try first | (rw [dif_pos (by omega)]; simp only [Result.andThen_ok]) | rw [if_pos (by omega)]); (try with_reducible rfl); done)); try simp only [Act.put, List.setIfInBounds_toArray, List.set_cons_zero, List.set_cons_succ])
  (refine tk4 (v := ?_) (by kernel_rfl) (by kernel_rfl) (by kernel_rfl) (fun _ _ _ h => h) (Or.inl ⟨by rfl, ?_⟩) (by assumption) ?_; rotate_left; (focus (intro w hSw; (try dsimp only at hSw); go_simp; (try first | (rw [dif_pos (by omega)]; simp only [Result.andThen_ok]) | rw [if_pos (by omega)]); (try with_reducible rfl); done)); try simp only [Act.put, List.setIfInBounds_toArray, List.set_cons_zero, List.set_cons_succ])
  (refine tk5 (v := ?_) (by kernel_rfl) (by kernel_rfl) (by kernel_rfl) (fun _ _ _ h => h) (Or.inl ⟨by rfl, ?_⟩) (by assumption) ?_; rotate_left; (focus (intro w hSw; (try dsimp only at hSw); go_simp; (try first | (rw [dif_pos (by omega)]; simp only [Result.andThen_ok]) | rw [if_pos (by omega)]); (try with_reducible rfl); done)); try simp only [Act.put, List.setIfInBounds_toArray, List.set_cons_zero, List.set_cons_succ])
  (refine tk6 (v := ?_) (by kernel_rfl) (by kernel_rfl) (by kernel_rfl) (fun _ _ _ h => h) (Or.inl ⟨by rfl, ?_⟩) (by assumption) ?_; rotate_left; (focus (intro w hSw; (try dsimp only at hSw); go_simp; (try first | (rw [dif_pos (by omega)]; simp only [Result.andThen_ok]) | rw [if_pos (by omega)]); (try with_reducible rfl); done)); try simp only [Act.put, List.setIfInBounds_toArray, List.set_cons_zero, List.set_cons_succ])
  (refine tk7 (v := ?_) (by kernel_rfl) (by kernel_rfl) (by kernel_rfl) (fun _ _ _ h => h) (Or.inl ⟨by rfl, ?_⟩) (by assumption) ?_; rotate_left; (focus (intro w hSw; (try dsimp only at hSw); go_simp; (try first | (rw [dif_pos (by omega)]; simp only [Result.andThen_ok]) | rw [if_pos (by omega)]); (try with_reducible rfl); done)); try simp only [Act.put, List.setIfInBounds_toArray, List.set_cons_zero, List.set_cons_succ])
  (refine tk8 (v := ?_) (by kernel_rfl) (by kernel_rfl) (by kernel_rfl) (fun _ _ _ h => h) (Or.inl ⟨by rfl, ?_⟩) (by assumption) ?_; rotate_left; (focus (intro w hSw; (try dsimp only at hSw); go_simp; (try first | (rw [dif_pos (by omega)]; simp only [Result.andThen_ok]) | rw [if_pos (by omega)]); (try with_reducible rfl); done)); try simp only [Act.put, List.setIfInBounds_toArray, List.set_cons_zero, List.set_cons_succ])
  (refine wpAnyH_ready (rs := [9]) (by kernel_rfl) (by simp) ?_; refine ar9 (fun K hK => ?_) AllReadyH.nil; go_simp)
  have HP5' : Hid (Pre n cb tb tc w w5.drew L (.fresh 1 2) bb #[.pointer (some ⟨L.b, 0, none⟩), .int .i64 0, .slice none 0 0, .pointer none]) := HP5.out.still (Keeps.refl _ _).drew
  refine (alloc_ok L (.fresh 1 2) w5.drew (some ⟨cb, 0, none⟩) 2 2 0 (wds x0) HP5'.out.hd (HP5'.out.given hcb H.out.c0 H.out.c1) (by decide) rfl rfl (by decide) (by decide) (by decide) rfl (by decide)).mono ?_
  rintro e w6 ⟨rfl, hd6, k6⟩
  have HP6 : Hid (Pre n cb tb tc w w6 L (as2 x0) bb #[.pointer (some ⟨L.b, 0, none⟩), .int .i64 0, .slice none 0 0, .pointer none]) := HP5'.out.keeps k6 hd6
  clear hd6 k6 HP5 HP5'
  (refine hK.out _ _ ⟨(cell?_heap HP6.out.be 0).trans rfl, HP6.out.y0⟩ (fun hHeld => ?_); clear hK K; try simp only [Act.put, List.setIfInBounds_toArray, List.set_cons_zero, List.set_cons_succ])
  (refine tk10 (v := ?_) (by kernel_rfl) (by kernel_rfl) (by kernel_rfl) (fun _ _ _ h => h) (Or.inl ⟨by rfl, ?_⟩) (by assumption) ?_; rotate_left; (focus (intro w hSw; (try dsimp only at hSw); go_simp; (try first | (rw [dif_pos (by omega)]; simp only [Result.andThen_ok]) | rw [if_pos (by omega)]); (try with_reducible rfl); done)); try simp only [Act.put, List.setIfInBounds_toArray, List.set_cons_zero, List.set_cons_succ])
  (refine tk11 (v := ?_) (by kernel_rfl) (by kernel_rfl) (by kernel_rfl) (fun _ _ _ h => h) (Or.inl ⟨by rfl, ?_⟩) (by assumption) ?_; rotate_left; (focus (intro w hSw; (try dsimp only at hSw); go_simp; (try first | (rw [dif_pos (by omega)]; simp only [Result.andThen_ok]) | rw [if_pos (by omega)]); (try with_reducible rfl); done)); try simp only [Act.put, List.setIfInBounds_toArray, List.set_cons_zero, List.set_cons_succ])
  (refine tk12 (v := ?_) (by kernel_rfl) (by kernel_rfl) (by kernel_rfl) (fun _ _ _ h => h) (Or.inl ⟨by rfl, ?_⟩) (by assumption) ?_; rotate_left; (focus (intro w hSw; (try dsimp only at hSw); go_simp; (try first | (rw [dif_pos (by omega)]; simp only [Result.andThen_ok]) | rw [if_pos (by omega)]); (try with_reducible rfl); done)); try simp only [Act.put, List.setIfInBounds_toArray, List.set_cons_zero, List.set_cons_succ])
  (refine tk13 (v := ?_) (by kernel_rfl) (by kernel_rfl) (by kernel_rfl) (fun _ _ _ h => h) (Or.inl ⟨by rfl, ?_⟩) (by assumption) ?_; rotate_left; (focus (intro w hSw; (try dsimp only at hSw); go_simp; (try first | (rw [dif_pos (by omega)]; simp only [Result.andThen_ok]) | rw [if_pos (by omega)]); (try with_reducible rfl); done)); try simp only [Act.put, List.setIfInBounds_toArray, List.set_cons_zero, List.set_cons_succ])
  (refine tk14 (v := ?_) (by kernel_rfl) (by kernel_rfl) (by kernel_rfl) (fun _ _ _ h => h) (Or.inl ⟨by rfl, ?_⟩) (by assumption) ?_; rotate_left; (focus (intro w hSw; (try dsimp only at hSw); go_simp; (try first | (rw [dif_pos (by omega)]; simp only [Result.andThen_ok]) | rw [if_pos (by omega)]); (try with_reducible rfl); done)); try simp only [Act.put, List.setIfInBounds_toArray, List.set_cons_zero, List.set_cons_succ])
  (refine tk15 (v := ?_) (by kernel_rfl) (by kernel_rfl) (by kernel_rfl) (fun _ _ _ h => h) (Or.inl ⟨by rfl, ?_⟩) (by assumption) ?_; rotate_left; (focus (intro w hSw; (try dsimp only at hSw); go_simp; (try first | (rw [dif_pos (by omega)]; simp only [Result.andThen_ok]) | rw [if_pos (by omega)]); (try with_reducible rfl); done)); try simp only [Act.put, List.setIfInBounds_toArray, List.set_cons_zero, List.set_cons_succ])
  have b1 := (cell?_heap HP6.out.be 1).trans rfl
  have f1 := frozen?_heap HP6.out.be 1
  (refine wpAnyH_ready (rs := [16]) (by kernel_rfl) (by simp) ?_; refine ar16 (fun K hK => ?_) AllReadyH.nil; go_simp)
  have HP7 : Hid (Pre n cb tb tc w (w6.setCell ⟨bb, 1, none⟩ (.int .i64 1)) L (as2 x0) bb #[.pointer (some ⟨L.b, 0, none⟩), .int .i64 1, .slice none 0 0, .pointer none]) := HP6.out.set 1 _
  (refine hK.out _ _ ⟨(cell?_heap HP7.out.be 0).trans rfl, HP7.out.y0⟩ (fun hHeld => ?_); clear hK K; try simp only [Act.put, List.setIfInBounds_toArray, List.set_cons_zero, List.set_cons_succ])
  refine wpAnyH_done (by kernel_rfl) ?_ _
  clear b1 f1 HP6
  generalize w6.setCell ⟨bb, 1, none⟩ (.int .i64 1) = w7 at *
  have y1 := HP7.out.y1
  go_wp2_with fail
  refine (hnew_any w7 n h1 (by omega)).mono ?_
  rintro e w8 ⟨rfl, rfl⟩
  clear y1
  have HP8 : Hid (Pre n cb tb tc w (haW w7 n) L (as2 x0) bb #[.pointer (some ⟨L.b, 0, none⟩), .int .i64 1, .slice none 0 0, .pointer none]) := HP7.out.still (((Keeps.refl _ _).alloc _).alloc _)
  have b3 := (cell?_heap HP8.out.be 3).trans rfl
  have f3 := frozen?_heap HP8.out.be 3
  obtain ⟨f0⟩ : Nonempty (Nat → Bk) := ⟨fun _ => ⟨0, 0, 0, 0, 0⟩⟩
  have HLA : Hid (Pre n cb tb tc w ((haW w7 n).setCell ⟨bb, 3, none⟩ (.pointer (some ⟨w7.heap.size + 1, 0, none⟩))) L (as2 x0) bb (beA L (.slice none 0 0) (w7.heap.size + 1)) ∧ La w ((haW w7 n).setCell ⟨bb, 3, none⟩ (.pointer (some ⟨w7.heap.size + 1, 0, none⟩))) (w7.heap.size + 2) L (as2 x0) bb (w7.heap.size + 1) w7.heap.size n x0 f0 0 (.slice none 0 0) []) := La.begin x0 f0 HP7.out
  have y1 := HLA.out.1.y1
  clear HP7
  go_wp2_with fail
  clear b3 f3 HP8 y1
  have HL : Hid (La w ((haW w7 n).setCell ⟨bb, 3, none⟩ (.pointer (some ⟨w7.heap.size + 1, 0, none⟩))) (w7.heap.size + 2) L (as2 x0) bb (w7.heap.size + 1) w7.heap.size n x0 f0 0 (.slice none 0 0) []) := HLA.out.2
  clear HLA
  generalize (haW w7 n).setCell ⟨bb, 3, none⟩ (.pointer (some ⟨w7.heap.size + 1, 0, none⟩)) = w9 at *
  generalize w7.heap.size + 2 = M at *
  generalize w7.heap.size + 1 = hb at *
  generalize w7.heap.size = qb at *
  go_loopw [52] (fun c wr => ∃ (t : Nat) (f : Nat → Bk) (tv : Value), c = .int .i64 t ∧ t ≤ n ∧ La w wr M L (as2 x0) bb hb qb n x0 f t tv ((List.range t).map (fun j => (f j).T))) (fun c _ => n - (intOf c).toNat)
  case atStart => exact ⟨0, f0, _, rfl, by omega, HL.out⟩
  case round =>
    obtain ⟨t, f, tv, rfl, ht, hla⟩ := hrel
    have HQ : Hid (La w wr M L (as2 x0) bb hb qb n x0 f t tv ((List.range t).map (fun j => (f j).T))) := hla
    clear hla HL
    by_cases h5 : t < n
    · obtain ⟨ct, hin⟩ := H.out.ing h5 HQ.out.bl
      have HIN : Hid (InG iC wr w.heap.size (.slice (some ⟨ib t, 0, none⟩) [sw x0 t].length (ic t)) [sw x0 t]) := hin
      have t0 : (0 : Int) ≤ (t : Int) := Int.natCast_nonneg _
      have t1 : (t : Int) < (n : Int) := by omega
      clear hin
      have HC := HQ.out.be
      have HD : Hid (La w wr.drew M L (as2 x0) bb hb qb n x0 f t tv ((List.range t).map (fun j => (f j).T)) ∧ InG iC wr.drew w.heap.size (.slice (some ⟨ib t, 0, none⟩) [sw x0 t].length (ic t)) [sw x0 t]) := ⟨HQ.out.still (Keeps.refl _ _).drew, HIN.out⟩
      go_wp2_with fail
      (refine wp_region_held_drew (S := (fun W => W.cell? ⟨bb, 0, none⟩ = some (.pointer (some ⟨L.b, 0, none⟩)) ∧ W.cell? ⟨bb, 1, none⟩ = some (.int .i64 1))) (by kernel_rfl) ⟨(cell?_heap HC 0).trans rfl, (cell?_heap HC 1).trans rfl⟩ (fun hHeld => ?_); simp only [List.size_toArray, List.length_cons, List.length_nil, Nat.reduceAdd, Array.replicate_succ, Array.replicate_zero, List.push_toArray, List.append_toArray, List.nil_append, List.cons_append])
      clear HC HQ HIN ct
      (refine tk0 (v := ?_) (by kernel_rfl) (by kernel_rfl) (by kernel_rfl) (fun _ _ _ h => h) (Or.inl ⟨by rfl, ?_⟩) (by assumption) ?_; rotate_left; (focus (intro w hSw; (try dsimp only at hSw); go_simp; (try first | (rw [dif_pos (by omega)]; simp only [Result.andThen_ok]) | rw [if_pos (by omega)]); (try with_reducible rfl); done)); try simp only [Act.put, List.setIfInBounds_toArray, List.set_cons_zero, List.set_cons_succ])
      (refine tk1 (v := ?_) (by kernel_rfl) (by kernel_rfl) (by kernel_rfl) (fun _ _ _ h => h) (Or.inl ⟨by rfl, ?_⟩) (by assumption) ?_; rotate_left; (focus (intro w hSw; (try dsimp only at hSw); go_simp; (try first | (rw [dif_pos (by omega)]; simp only [Result.andThen_ok]) | rw [if_pos (by omega)]); (try with_reducible rfl); done)); try simp only [Act.put, List.setIfInBounds_toArray, List.set_cons_zero, List.set_cons_succ])
      (refine tk2 (v := ?_) (by kernel_rfl) (by kernel_rfl) (by kernel_rfl) (fun _ _ _ h => h) (Or.inl ⟨by rfl, ?_⟩) (by assumption) ?_; rotate_left; (focus (intro w hSw; (try dsimp only at hSw); go_simp; (try first | (rw [dif_pos (by omega)]; simp only [Result.andThen_ok]) | rw [if_pos (by omega)]); (try with_reducible rfl); done)); try simp only [Act.put, List.setIfInBounds_toArray, List.set_cons_zero, List.set_cons_succ])
      (refine tk3 (v := ?_) (by kernel_rfl) (by kernel_rfl) (by kernel_rfl) (fun _ _ _ h => h) (Or.inl ⟨by rfl, ?_⟩) (by assumption) ?_; rotate_left; (focus (intro w hSw; (try dsimp only at hSw); go_simp; (try first | (rw [dif_pos (by omega)]; simp only [Result.andThen_ok]) | rw [if_pos (by omega)]); (try with_reducible rfl); done)); try simp only [Act.put, List.setIfInBounds_toArray, List.set_cons_zero, List.set_cons_succ])
      (refine tk4 (v := ?_) (by kernel_rfl) (by kernel_rfl) (by kernel_rfl) (fun _ _ _ h => h) (Or.inl ⟨by rfl, ?_⟩) (by assumption) ?_; rotate_left; (focus (intro w hSw; (try dsimp only at hSw); go_simp; (try first | (rw [dif_pos (by omega)]; simp only [Result.andThen_ok]) | rw [if_pos (by omega)]); (try with_reducible rfl); done)); try simp only [Act.put, List.setIfInBounds_toArray, List.set_cons_zero, List.set_cons_succ])
      (refine wpAnyH_ready (rs := [5]) (by kernel_rfl) (by simp) ?_; refine ar5 (fun K hK => ?_) AllReadyH.nil; go_simp)
      refine (clone_in wr.drew w.heap.size ⟨ib t, 0, none⟩ (ic t) [sw x0 t] HD.out.2 HD.out.1.bl.size (by simp)).mono ?_
      rintro e w1 ⟨v, rfl, ho1, hb1⟩
      obtain ⟨g, c, rfl, g1, g2⟩ := owG_some ho1 (by simp)
      have H1 : Hid (La w w1 M L (as2 x0) bb hb qb n x0 f t tv ((List.range t).map (fun j => (f j).T)) ∧ OwG iC 31 8 w1 M (.slice (some ⟨g, 0, none⟩) 1 c) [sw x0 t] ∧ M ≤ g ∧ g < w1.heap.size ∧ ∀ j, j < t → (f j).pb < g) := ⟨HD.out.1.still (Below.keeps hb1 _), ho1.down HD.out.1.ms, Nat.le_trans HD.out.1.ms g1, g2, fun j hj => Nat.lt_of_lt_of_le (HD.out.1.ea j hj).o4 g1⟩
      clear ho1 hb1 g1 g2 HD
      have HC1 := H1.out.1.be
      (refine hK.out _ _ ⟨(cell?_heap HC1 0).trans rfl, (cell?_heap HC1 1).trans rfl⟩ (fun hHeld => ?_); clear hK K; try simp only [Act.put, List.setIfInBounds_toArray, List.set_cons_zero, List.set_cons_succ])
      (refine tk6 (v := ?_) (by kernel_rfl) (by kernel_rfl) (by kernel_rfl) (fun _ _ _ h => h) (Or.inl ⟨by rfl, ?_⟩) (by assumption) ?_; rotate_left; (focus (intro w hSw; (try dsimp only at hSw); go_simp; (try first | (rw [dif_pos (by omega)]; simp only [Result.andThen_ok]) | rw [if_pos (by omega)]); (try with_reducible rfl); done)); try simp only [Act.put, List.setIfInBounds_toArray, List.set_cons_zero, List.set_cons_succ])
      (refine wpAnyH_ready (rs := [7]) (by kernel_rfl) (by simp) ?_; refine ar7 (fun K hK => ?_) AllReadyH.nil; go_simp)
      have H2 : Hid (La w (w1.alloc (.cells (thA L (.slice (some ⟨g, 0, none⟩) 1 c)) 89)) M L (as2 x0) bb hb qb n x0 f t tv ((List.range t).map (fun j => (f j).T)) ∧ OwG iC 31 8 (w1.alloc (.cells (thA L (.slice (some ⟨g, 0, none⟩) 1 c)) 89)) M (.slice (some ⟨g, 0, none⟩) 1 c) [sw x0 t] ∧ (w1.alloc (.cells (thA L (.slice (some ⟨g, 0, none⟩) 1 c)) 89)).heap[w1.heap.size]? = some (.cells (thA L (.slice (some ⟨g, 0, none⟩) 1 c)) 89)) := ⟨H1.out.1.still ((Keeps.refl _ _).alloc _), OwG.keeps (D := fun _ => False) H1.out.2.1 ((Keeps.refl _ _).alloc _) (fun _ e => e.elim), heap_alloc_last _ _ _ rfl⟩
      have HC2 := H2.out.1.be
      (refine hK.out _ _ ⟨(cell?_heap HC2 0).trans rfl, (cell?_heap HC2 1).trans rfl⟩ (fun hHeld => ?_); clear hK K; try simp only [Act.put, List.setIfInBounds_toArray, List.set_cons_zero, List.set_cons_succ])
      (refine tk8 (v := ?_) (by kernel_rfl) (by kernel_rfl) (by kernel_rfl) (fun _ _ _ h => h) (Or.inl ⟨by rfl, ?_⟩) (by assumption) ?_; rotate_left; (focus (intro w hSw; (try dsimp only at hSw); go_simp; (try first | (rw [dif_pos (by omega)]; simp only [Result.andThen_ok]) | rw [if_pos (by omega)]); (try with_reducible rfl); done)); try simp only [Act.put, List.setIfInBounds_toArray, List.set_cons_zero, List.set_cons_succ])
      refine wpAnyH_done (by kernel_rfl) ?_ _
      have HG : Hid (M ≤ g ∧ g < w1.heap.size ∧ ∀ j, j < t → (f j).pb < g) := H1.out.2.2
      clear HC1 HC2 H1
      have hT : w1.heap.size < (w1.alloc (.cells (thA L (.slice (some ⟨g, 0, none⟩) 1 c)) 89)).heap.size := by rw [szAl]; omega
      generalize w1.alloc (.cells (thA L (.slice (some ⟨g, 0, none⟩) 1 c)) 89) = w2' at *
      generalize w1.heap.size = T at *
      obtain ⟨ts, hts⟩ : ∃ ts, (List.range t).map (fun j => (f j).T) = ts := ⟨_, rfl⟩
      rw [hts] at H2
      have HTS : Hid (ts = (List.range t).map (fun j => (f j).T)) := hts.symm
      have hlen : ts.length ≤ 4 := by rw [← hts]; simp; omega
      clear hts
      obtain ⟨va, vc, htv⟩ := H2.out.1.ot.form
      subst htv
      have c2 := (cell?_heap H2.out.1.be 2).trans rfl
      go_wp2_with (at_builtin; refine app_one (cs := thC) (wr := w2') (by rfl) _ _ 70 75 (by rfl) Tryz.underlying70 infoTh rfl (by decide) (fun _ => rfl) M _ ts T H2.out.1.ot (by rfl) w2'.heap.size rfl (by rfl) (by intro u hu; simp [thC] at hu; rcases hu with rfl; rfl) _ rfl (by unfold maxLen; omega) (by omega) H2.out.1.ms ?_; intro v' w3 ho3 hb3 hk3; refine hideG ?_)
      change wpList _ _ _ _ _ _
      obtain ⟨va', vc', rfl⟩ := ho3.form
      obtain ⟨mm, hmm⟩ : ∃ mm, (ts ++ [T]).length = mm := ⟨_, rfl⟩
      rw [hmm] at ho3 ⊢
      clear hmm
      have hB3 := (hb3.block bb H2.out.1.bm.2).trans H2.out.1.be
      have b2 := (cell?_heap hB3 2).trans rfl
      have f2 := frozen?_heap hB3 2
      have H4 : Hid (La w (w3.setCell ⟨bb, 2, none⟩ (.slice va' mm vc')) M L (as2 x0) bb hb qb n x0 f t (.slice va' mm vc') (ts ++ [T]) ∧ OwG iC 31 8 (w3.setCell ⟨bb, 2, none⟩ (.slice va' mm vc')) M (.slice (some ⟨g, 0, none⟩) 1 c) [sw x0 t] ∧ (w3.setCell ⟨bb, 2, none⟩ (.slice va' mm vc')).heap[T]? = some (.cells (thA L (.slice (some ⟨g, 0, none⟩) 1 c)) 89)) := ⟨H2.out.1.push hb3 hk3 ho3, (OwG.kept H2.out.2.1 hk3 (by decide)).set (p := ⟨bb, 2, none⟩) H2.out.1.bm.2 _, (Below.heap_setCell _ _ _ _ (by have := H2.out.1.bm; have := HG.out; show T ≠ bb; omega)).trans ((hk3 _ _ _ _ H2.out.2.2 (by decide)).trans H2.out.2.2)⟩
      have e3 := (cell?_heap H4.out.1.be 3).trans rfl
      clear ho3 hb3 hk3 hB3 H2 c2 hT
      go_wp2_with fail
      clear b2 f2 e3
      have hsz : w3.heap.size = (w3.setCell ⟨bb, 2, none⟩ (.slice va' mm vc')).heap.size := by simp
      rw [hsz]
      clear hsz
      generalize w3.setCell ⟨bb, 2, none⟩ (.slice va' mm vc') = w4' at *
      have H5 : Hid (La w (w4'.alloc (.cells #[.pointer (some ⟨T, 0, none⟩)] 75)) M L (as2 x0) bb hb qb n x0 f t (.slice va' mm vc') (ts ++ [T]) ∧ OwG iC 31 8 (w4'.alloc (.cells #[.pointer (some ⟨T, 0, none⟩)] 75)) M (.slice (some ⟨g, 0, none⟩) 1 c) [sw x0 t] ∧ (w4'.alloc (.cells #[.pointer (some ⟨T, 0, none⟩)] 75)).heap[T]? = some (.cells (thA L (.slice (some ⟨g, 0, none⟩) 1 c)) 89) ∧ (w4'.alloc (.cells #[.pointer (some ⟨T, 0, none⟩)] 75)).cell? ⟨w4'.heap.size, 0, none⟩ = some (.pointer (some ⟨T, 0, none⟩))) := ⟨H4.out.1.still ((Keeps.refl _ _).alloc _), OwG.keeps (D := fun _ => False) H4.out.2.1 ((Keeps.refl _ _).alloc _) (fun _ e => e.elim), (Below.heap_alloc _ _ _ (Array.getElem?_eq_some_iff.1 H4.out.2.2).1).trans H4.out.2.2, (cell?_heap (heap_alloc_last _ _ _ rfl) 0).trans rfl⟩
      generalize w4'.alloc (.cells #[.pointer (some ⟨T, 0, none⟩)] 75) = w5' at *
      have la := H5.out.1
      refine (submit_one w5' hb qb n w5'.heap.size t T w4'.heap.size (t : Int) (.slice none 0 0) [] ((cell?_heap la.ha 0).trans rfl) (la.qz t (Nat.le_refl _) h5) (la.qf t) (OwG.nil _ _ _ _ _) H5.out.2.2.2 h5 (by simp) (Nat.lt_of_lt_of_le la.hm.2 la.ms) (Nat.lt_of_lt_of_le la.qm.2 la.ms) la.d4 (Nat.le_refl _) (by omega) (by omega)).mono ?_
      rintro e w6' ⟨rfl, v6, cv6, ov6, oth, fz6, k6, kq6⟩
      rw [List.nil_append] at ov6
      obtain ⟨pb, cp, rfl, p1, p2⟩ := owG_some ov6 (by simp)
      have hM := la.qm
      have kT := k6.thin
      have H6 : Hid (La w w6' M L (as2 x0) bb hb qb n x0 (upd f t ⟨T, g, pb, cp, c⟩) (t + 1) (.slice va' mm vc') (ts ++ [T])) :=
        la.sub h5 cv6 oth k6 (fun j => (fz6 j).trans (la.qf j)) ⟨H5.out.2.1.keeps kT (fun x e => by omega), (kT.block _ (Array.getElem?_eq_some_iff.1 H5.out.2.2.1).1 (by have := HG.out; show ¬ T = qb; omega)).trans H5.out.2.2.1, ov6.down la.ms, HG.out.1, HG.out.2.1, by have := (Array.getElem?_eq_some_iff.1 H5.out.2.2.1).1; show T < pb; omega, p2⟩ HG.out.2.2
      clear ov6 cv6 oth fz6 k6 kq6 kT la H5 H4
      go_wp2
      go_roundw
      case rel => exact ⟨t + 1, _, _, by go_num, by omega, by
        have e : (List.range (t + 1)).map (fun j => (upd f t ⟨T, g, pb, cp, c⟩ j).T) = ts ++ [T] := by
          rw [HTS.out, List.range_succ, List.map_append]
          congr 1
          · apply List.map_congr_left
            intro j hj
            rw [upd_other _ _ (by have := List.mem_range.1 hj; omega)]
          · simp [upd_same]
        rw [e]; exact H6.out⟩
      case measure => simp [intOf]; omega
    · go_wp2
      go_ret2
      have : t = n := by omega
      subst this
      exact ⟨M, L, bb, hb, qb, f, tv, rfl, HQ.out⟩
end Go.Proofs.YtegnmflbbpfdhaaGreat
