import Derived.Test.YtmolfemcciljjaaCoF1
import Derived.Deep.LoopGhost
namespace Go.Proofs.Ytmolfemcciljjaa
set_option linter.unusedSimpArgs false
open Go.ChangeShapes Go.WideShapes Go.ChangeAt Go.RowKit
set_option linter.unusedVariables false
set_option maxRecDepth 100000
set_option maxHeartbeats 800000 in
theorem catchFr (c : Int) (bL bE : Nat) (a z : Value) (older : List PanicEntry) (w : World)
    (hL : w.cell? ⟨bL, 0, none⟩ = some a) (fL : w.frozen? ⟨bL, 0, none⟩ = false) (hE : w.cell? ⟨bE, 0, none⟩ = some z) (fE : w.frozen? ⟨bE, 0, none⟩ = false) (n5 : bL ≠ bE) :
    CallsD Try.prog 18 #[.pointer (some ⟨bL, 0, none⟩), .pointer (some ⟨bE, 0, none⟩)] (.panicking ({ v := .iface 26 (.int .i64 c), recovered := false } :: older)) w fun e u' w' =>
      e = .returned (.tuple #[]) ∧ u' = .panicking ({ v := .iface 26 (.int .i64 c), recovered := true } :: older) ∧ w'.cell? ⟨bL, 0, none⟩ = some (.slice none 0 0) ∧ w'.cell? ⟨bE, 0, none⟩ = some (.int .i64 c) ∧ (∀ B, B ≤ bL → B ≤ bE → Below B w w') := by
  refine callsD_of_wpS Try.func18 rfl fun c₀ cs hu => ?_
  apply wpS_seq
  apply wpS_region
  simp [wpOpsS, go_sem, recoverD, hu, Try.ntmps18, Exit.thenS]
  refine wpS_of_wp ?_
  simp only [Array.replicate, List.replicate, List.setIfInBounds_toArray, List.set_cons_zero, List.set_cons_succ, List.append_toArray, List.cons_append, List.nil_append]
  go_wp2
  have hta := assert_errno
  go_region
  change bodyPostS _ _ _ _ _ _ _ _ _
  refine ⟨rfl, _, rfl, _, results_none rfl _ _ _, rfl, rfl, ?_, ?_, ?_⟩
  · simp [go_sem, hL, hE, n5, Ne.symm n5]
  · simp [go_sem, hE]
  · intro B h1 h3
    exact (((Below.refl _ _).setCell h1 _).setCell h3 _) |>.drew
theorem idleFr (pA pV : Addr) (w : World) :
    CallsD Try.prog 18 #[.pointer (some pA), .pointer (some pV)] .returning w fun e u' w' => e = .returned (.tuple #[]) ∧ u' = .returning ∧ w' = w := by
  refine callsD_of_wpS Try.func18 rfl fun c₀ cs hu => ?_
  apply wpS_seq
  apply wpS_region
  simp [wpOpsS, go_sem, recoverD, hu, Try.ntmps18, Exit.thenS]
  refine wpS_of_wp ?_
  simp only [Array.replicate, List.replicate, List.setIfInBounds_toArray, List.set_cons_zero, List.set_cons_succ, List.append_toArray, List.cons_append, List.nil_append]
  go_wp2
  change bodyPostS _ _ _ _ _ _ _ _ _
  cases c₀
  simp only at hu
  subst hu
  exact ⟨rfl, _, rfl, _, results_none rfl _ _ _, rfl, rfl, rfl⟩
theorem ret_list2 {fn : Func} {p u : Tmp} (h : fn.results = #[.cell p 33, .cell u 26]) (tmps : Array Value) (w : World) (a b : Value) (g gu : Nat) (hp : tmps.getD p undef = .pointer (some ⟨g, 0, none⟩)) (hu : tmps.getD u undef = .pointer (some ⟨gu, 0, none⟩))
    (hg : w.cell? ⟨g, 0, none⟩ = some a) (cu : w.cell? ⟨gu, 0, none⟩ = some b) :
    (results fn tmps).run Try.prog w = .ok (.tuple #[a, b]) w := by
  have hp' : tmps[p]?.getD undef = .pointer (some ⟨g, 0, none⟩) := by simpa using hp
  have hu' : tmps[u]?.getD undef = .pointer (some ⟨gu, 0, none⟩) := by simpa using hu
  simp [results, h, hp', hu', asAddr, go_sem, hg, cu]
/-- How a function with defers leaves hangs on its results' slots alone. -/
theorem leaves_tmps {P : Program} {fn : Func} {t1 t2 : Array Value} {R : Ending → World → Prop} (h : results fn t1 = results fn t2) : ∀ (ds : List Deferred) (u : FrameMode) (w : World), Leaves P fn t1 R ds u w → Leaves P fn t2 R ds u w
  | [], .returning, w, hl => by unfold Leaves at hl ⊢; rw [← h]; exact hl
  | [], .panicking chain, w, hl => hl
  | [], .run, _, hl => hl
  | d :: ds, u, w, hl => by
    unfold Leaves at hl ⊢
    obtain ⟨h1, fv, cap, f, args, h2, h3, h4⟩ := hl
    refine ⟨h1, fv, cap, f, args, h2, h3, h4.mono ?_⟩
    intro e u' w' hh
    cases e with
    | returned v => exact leaves_tmps h ds _ _ hh
    | panicked chain => exact leaves_tmps h ds _ _ hh
    | outgrown => exact hh
theorem leaves_put {P : Program} {fn : Func} {R : Ending → World → Prop} {p q d : Tmp} {ta tb : TypeId} {v : Value} {a : Act} {u : FrameMode} {w : World} (h : fn.results = #[.cell p ta, .cell q tb]) (hp : d ≠ p) (hq : d ≠ q)
    (hl : Leaves P fn (a.put (some d) v).tmps R (a.put (some d) v).defers u w) : Leaves P fn a.tmps R a.defers u w := by
  refine leaves_tmps ?_ _ _ _ hl
  simp [results, h, Act.put, Array.getElem?_setIfInBounds, hp, hq]
/-- What FrameCommits answers. -/
def FcC (w : World) (r : Option (List (Int × List W3))) (e : Ending) (w' : World) : Prop :=
  Below w.heap.size w w' ∧ match r with
    | some cs => ∃ v xs, e = .returned (.tuple #[v, .int .i64 0]) ∧ ownC w' w.heap.size v xs ∧ CsIn w' w.heap.size xs cs
    | none => e = .returned (.tuple #[.slice none 0 0, .int .i64 112])
/-- The rows of writes have no room behind them, and lie apart. -/
structure FulD (xs : List (Int × Value)) (cs : List (Int × List W3)) : Prop where
  full : ∀ z ∈ xs.zip cs, FullW z.1.2 z.2.2
  apart : xs.Pairwise (fun a b => a.2.ownBlock ≠ b.2.ownBlock)
theorem FulD.nil : FulD [] [] := ⟨(fun z h => by cases h), List.Pairwise.nil⟩
theorem FulD.snoc {xs : List (Int × Value)} {cs : List (Int × List W3)} (h : FulD xs cs) (hl : xs.length = cs.length) {st : Int} {v : Value} {vs : List W3} (hf : FullW v vs) (hn : ∀ x ∈ xs, x.2.ownBlock ≠ v.ownBlock) : FulD (xs ++ [(st, v)]) (cs ++ [(st, vs)]) := by
  refine ⟨fun z hz => ?_, ?_⟩
  · rw [List.zip_append hl, List.mem_append] at hz
    rcases hz with hz | hz
    · exact h.full z hz
    · simp at hz
      subst hz
      exact hf
  · rw [List.pairwise_append]
    exact ⟨h.apart, List.pairwise_singleton _ _, fun a ha b hb => by simp at hb; subst hb; exact hn a ha⟩
/-- What FrameCommits answers, with rows apart. -/
def FcF (w : World) (r : Option (List (Int × List W3))) (e : Ending) (w' : World) : Prop :=
  Below w.heap.size w w' ∧ match r with
    | some cs => ∃ v xs, e = .returned (.tuple #[v, .int .i64 0]) ∧ ownC w' w.heap.size v xs ∧ CsIn w' w.heap.size xs cs ∧ FulD xs cs
    | none => e = .returned (.tuple #[.slice none 0 0, .int .i64 112])
/-- What stands in a round: the list's cell, the error's, the reader, the row of commits. -/
structure FrS (w : World) (L : Nat) (s : ByteArray) (W : World) (p : Nat) (v : Value) (xs : List (Int × Value)) (cs : List (Int × List W3)) : Prop where
  eL : L = w.heap.size
  bel : Below w.heap.size w W
  l0 : W.heap[L]? = some (.cells #[v] 33 (0, 0))
  e0 : W.heap[L + 1]? = some (.cells #[.int .i64 0] 26 (0, 0))
  rd : RdC W (L + 2) s p
  own : ownC W (L + 3) v xs
  cin : CsIn W (L + 3) xs cs
  sz : L + 3 ≤ W.heap.size
  cnt : xs.length ≤ p
  ful : FulD xs cs
theorem cell1 {w : World} {k : Nat} {v : Value} {t : TypeId} (h : w.heap[k]? = some (.cells #[v] t (0, 0))) : w.cell? ⟨k, 0, none⟩ = some v ∧ w.frozen? ⟨k, 0, none⟩ = false := ⟨by simp [World.cell?, h], by simp [World.frozen?, h]⟩
/-- The reader goes on, or new memory is made. -/
theorem FrS.fr {w : World} {L : Nat} {s : ByteArray} {W W' : World} {p q : Nat} {v : Value} {xs : List (Int × Value)} {cs : List (Int × List W3)} (h : FrS w L s W p v xs cs) (hf : Fr (L + 2) W W') (hr : RdC W' (L + 2) s q) (hpq : p ≤ q) : FrS w L s W' q v xs cs := by
  have hl := h.eL
  have hs := h.sz
  have hk : ∀ k, k < W.heap.size → L + 3 ≤ k → W'.heap[k]? = W.heap[k]? := fun k hk hB => hf.rest k hk (by omega)
  exact ⟨h.eL, h.bel.trans (hf.toBelow.mono (by omega)), (hf.rest L (by omega) (by omega)).trans h.l0, (hf.rest (L + 1) (by omega) (by omega)).trans h.e0, hr, h.own.same hk, h.cin.keep (fun u us hu => hu.same hk), Nat.le_trans h.sz hf.toBelow.size, Nat.le_trans h.cnt hpq, h.ful⟩
theorem FrS.step {w : World} {L : Nat} {s : ByteArray} {W W' : World} {p : Nat} {v : Value} {xs : List (Int × Value)} {cs : List (Int × List W3)} (h : FrS w L s W p v xs cs) (hb : Below W.heap.size W W') : FrS w L s W' p v xs cs := by
  have hs := h.sz
  have hk : ∀ k, k < W.heap.size → L + 3 ≤ k → W'.heap[k]? = W.heap[k]? := fun k hk _ => hb.block k hk
  exact ⟨h.eL, h.bel.trans (hb.mono h.bel.size), (hb.block L (by omega)).trans h.l0, (hb.block (L + 1) (by omega)).trans h.e0, h.rd.later hb, h.own.same hk, h.cin.keep (fun u us hu => hu.same hk), Nat.le_trans h.sz hb.size, h.cnt, h.ful⟩
theorem FrS.gone {w : World} {L : Nat} {s : ByteArray} {W W' : World} {p : Nat} {v : Value} {xs : List (Int × Value)} {cs : List (Int × List W3)} (h : FrS w L s W p v xs cs) (hf : Fr (L + 2) W W') : W'.heap[L]? = some (.cells #[v] 33 (0, 0)) ∧ W'.heap[L + 1]? = some (.cells #[.int .i64 0] 26 (0, 0)) ∧ Below w.heap.size w W' := by
  have hl := h.eL
  have hs := h.sz
  exact ⟨(hf.rest L (by omega) (by omega)).trans h.l0, (hf.rest (L + 1) (by omega) (by omega)).trans h.e0, h.bel.trans (hf.toBelow.mono (by omega))⟩
theorem FrS.goneB {w : World} {L : Nat} {s : ByteArray} {W W' : World} {p : Nat} {v : Value} {xs : List (Int × Value)} {cs : List (Int × List W3)} (h : FrS w L s W p v xs cs) (hb : Below W.heap.size W W') : W'.heap[L]? = some (.cells #[v] 33 (0, 0)) ∧ W'.heap[L + 1]? = some (.cells #[.int .i64 0] 26 (0, 0)) ∧ Below w.heap.size w W' := ⟨(h.step hb).l0, (h.step hb).e0, (h.step hb).bel⟩
theorem alB (w : World) (o : Obj) : Below w.heap.size w (w.alloc o) := (Below.refl _ _).alloc (Nat.le_refl _) _
theorem FcF.no {w w' : World} {r : Option (List (Int × List W3))} (hb : Below w.heap.size w w') (h : r = none) : FcF w r (.returned (.tuple #[.slice none 0 0, .int .i64 112])) w' := ⟨hb, by rw [h]⟩
theorem FcF.yes {w w' : World} {r : Option (List (Int × List W3))} {v : Value} {xs : List (Int × Value)} {cs : List (Int × List W3)} (hb : Below w.heap.size w w') (h : r = some cs) (ho : ownC w' w.heap.size v xs) (hc : CsIn w' w.heap.size xs cs) (hf : FulD xs cs) : FcF w r (.returned (.tuple #[v, .int .i64 0])) w' := ⟨hb, by rw [h]; exact ⟨v, xs, rfl, ho, hc, hf⟩⟩
theorem FcC.no {w w' : World} {r : Option (List (Int × List W3))} (hb : Below w.heap.size w w') (h : r = none) : FcC w r (.returned (.tuple #[.slice none 0 0, .int .i64 112])) w' := ⟨hb, by rw [h]⟩
theorem FcC.yes {w w' : World} {r : Option (List (Int × List W3))} {v : Value} {xs : List (Int × Value)} {cs : List (Int × List W3)} (hb : Below w.heap.size w w') (h : r = some cs) (ho : ownC w' w.heap.size v xs) (hc : CsIn w' w.heap.size xs cs) : FcC w r (.returned (.tuple #[v, .int .i64 0])) w' := ⟨hb, by rw [h]; exact ⟨v, xs, rfl, ho, hc⟩⟩
/-- One commit more, laid into the list's cell. -/
theorem FrS.put {w : World} {L : Nat} {s : ByteArray} {W W' : World} {p : Nat} {v v' : Value} {xs : List (Int × Value)} {cs : List (Int × List W3)} {st : Int} {u : Value} {us : List W3} (h : FrS w L s W p v xs cs) (hu : ownW W (L + 3) u us) (hp : xs.length < p) (hfu : FullW u us) (hnu : ∀ x ∈ xs, x.2.ownBlock ≠ u.ownBlock)
    (hb : Below (L + 3) W W') (hk : ∀ y ys, ownW W (L + 3) y ys → ownW W' (L + 3) y ys) (ho : ownC W' (L + 3) v' (xs ++ [(st, u)])) : FrS w L s (W'.setCell ⟨L, 0, none⟩ v') p v' (xs ++ [(st, u)]) (cs ++ [(st, us)]) := by
  have hl := h.eL
  have hs := h.sz
  have hne : ∀ j, L + 3 ≤ j → (W'.setCell ⟨L, 0, none⟩ v').heap[j]? = W'.heap[j]? := fun j hj => Below.heap_setCell _ _ _ j (by simp only; omega)
  refine ⟨h.eL, ?_, ?_, ?_, ?_, ?_, ?_, ?_, by simp; omega, h.ful.snoc h.cin.1 hfu hnu⟩
  · exact (h.bel.trans (hb.mono (by omega))).setCell (p := ⟨L, 0, none⟩) (by simp only; omega) _
  · have := setCellW (j := 0) v' ((hb.block L (by omega)).trans h.l0)
    simpa using this
  · exact (Below.heap_setCell _ _ _ (L + 1) (by simp only; omega)).trans ((hb.block (L + 1) (by omega)).trans h.e0)
  · exact (show RdC W' (L + 2) s p from (hb.block (L + 2) (by omega)).trans h.rd).other _ (by simp only; omega)
  · exact ho.same (fun j _ hj => hne j hj)
  · exact (((h.cin.keep hk).snoc (hk _ _ hu))).keep (fun y ys hy => hy.same (fun j _ hj => hne j hj))
  · have h1 := ((Below.refl 0 W').setCell (p := ⟨L, 0, none⟩) (Nat.zero_le _) v').size
    have h2 := hb.size
    omega
/-- The end: the list and no error. -/
theorem done9 {w : World} {L : Nat} {s : ByteArray} {W : World} {q : Nat} {v : Value} {xs : List (Int × Value)} {cs : List (Int × List W3)} {tmps : Array Value} (h : FrS w L s W q v xs cs) (hr : rdFr s = some cs)
    (h2 : tmps.getD 2 undef = .pointer (some ⟨L, 0, none⟩) := by rfl) (h3 : tmps.getD 3 undef = .pointer (some ⟨L + 1, 0, none⟩) := by rfl) :
    ∃ x, (results Try.f9 tmps).run Try.prog ((W.setCell ⟨L, 0, none⟩ v).setCell ⟨L + 1, 0, none⟩ (.int .i64 0)) = .ok x ((W.setCell ⟨L, 0, none⟩ v).setCell ⟨L + 1, 0, none⟩ (.int .i64 0)) ∧ FcF w (rdFr s) (.returned x) ((W.setCell ⟨L, 0, none⟩ v).setCell ⟨L + 1, 0, none⟩ (.int .i64 0)) := by
  have hl := h.eL
  have hk : ∀ j, j < W.heap.size → L + 3 ≤ j → ((W.setCell ⟨L, 0, none⟩ v).setCell ⟨L + 1, 0, none⟩ (.int .i64 0)).heap[j]? = W.heap[j]? := fun j _ hj => (Below.heap_setCell _ _ _ j (by simp only; omega)).trans (Below.heap_setCell _ _ _ j (by simp only; omega))
  have l0 := h.l0
  have e0 := h.e0
  refine ⟨.tuple #[v, .int .i64 0], ret_list2 rfl _ _ _ _ L (L + 1) h2 h3 ?_ ?_, FcF.yes ?_ hr ((h.own.same hk).base (by omega)) (h.cin.keep (fun u us hu => (hu.same hk).base (by omega))) h.ful⟩
  · have := setCellW (j := 0) v l0
    have h5 := (Below.heap_setCell (W.setCell ⟨L, 0, none⟩ v) ⟨L + 1, 0, none⟩ (.int .i64 0) L (by simp only; omega)).trans this
    exact (cell1 (v := v) (by simpa using h5)).1
  · have h4 := (Below.heap_setCell W ⟨L, 0, none⟩ v (L + 1) (by simp only; omega)).trans e0
    have := setCellW (j := 0) (.int .i64 0) h4
    exact (cell1 (v := .int .i64 0) (by simpa using this)).1
  · exact (h.bel.setCell (p := ⟨L, 0, none⟩) (by simp only; omega) _).setCell (p := ⟨L + 1, 0, none⟩) (by simp only; omega) _
theorem apart_new {W w' : World} {B : Nat} {xs : List (Int × Value)} {cs : List (Int × List W3)} {u : Value} {us : List W3} (h : CsIn W B xs cs) (hu : ownW w' W.heap.size u us) (hf : FullW u us) : ∀ x ∈ xs, x.2.ownBlock ≠ u.ownBlock := by
  intro x hx e
  obtain ⟨g, rfl⟩ := hf
  have hg := (World.ownsRow.lt hu g rfl).1
  obtain ⟨i, hi, rfl⟩ := List.mem_iff_getElem.1 hx
  have h1 := (h.at i hi (by rw [← h.1]; exact hi)).2
  have h2 := (World.ownsRow.lt h1 g (by rw [e]; rfl)).2
  omega
set_option maxHeartbeats 3200000 in
theorem frameF (s : ByteArray) (w : World) (hs : s.size ≤ 1125899906842) : Calls Try.prog 9 #[.string s] w (FcF w (rdFr s)) := by
  have hmf : ∀ (fn : Fn) (first cap : Array Value) (w : World), (Instr.makeFunc fn first cap).run Try.prog w = .ok (.func fn first cap) w := fun _ _ _ _ => rfl
  have HS : Hid (FrS w w.heap.size s (((w.alloc (.cells #[.slice none 0 0] 33)).alloc (.cells #[.int .i64 0] 26)).alloc (.cells #[.string s, .int .i64 0] 53)) 0 (.slice none 0 0) [] []) := by
    have b1 : Below w.heap.size w (w.alloc (.cells #[.slice none 0 0] 33)) := (Below.refl _ _).alloc (Nat.le_refl _) _
    refine ⟨rfl, (b1.alloc b1.size _).alloc (by simp only [sizeAl]; omega) _, ?_, ?_, ?_, ownC_nil _ _, CsIn.nil _ _, by simp only [sizeAl]; omega, Nat.le_refl _, FulD.nil⟩
    · exact ((Below.heap_alloc _ _ _ (by simp only [sizeAl]; omega)).trans (Below.heap_alloc _ _ _ (by simp only [sizeAl]; omega))).trans (heap_alloc_new w _)
    · refine (Below.heap_alloc _ _ _ (by simp only [sizeAl]; omega)).trans ?_
      have := heap_alloc_new (w.alloc (.cells #[.slice none 0 0] 33)) (.cells #[.int .i64 0] 26)
      rwa [sizeAl] at this
    · have := heap_alloc_new ((w.alloc (.cells #[.slice none 0 0] 33)).alloc (.cells #[.int .i64 0] 26)) (.cells #[.string s, .int .i64 0] 53)
      rw [sizeAl, sizeAl] at this
      exact this
  go_enter_defers Try.func9, Try.ntmps9
  go_wp2_with fail
  generalize ((w.alloc (.cells #[.slice none 0 0] 33)).alloc (.cells #[.int .i64 0] 26)).alloc (.cells #[.string s, .int .i64 0] 53) = WX at *
  generalize hL : w.heap.size = L at *
  go_loopg [] (s.size + 1) (fun k wr => ∃ (p : Nat) (v : Value) (xs : List (Int × Value)) (cs : List (Int × List W3)), p ≤ s.size ∧ s.size < k + p ∧ FrS w L s wr p v xs cs ∧ rdFr s = restB s cs k p)
  case atStart => exact ⟨0, _, [], [], Nat.zero_le _, by omega, HS.out, (restB_nil _ _ _).symm⟩
  case round =>
    obtain ⟨p, v, xs, cs, hp, hk, hS, hrest⟩ := hrel
    have HSp : Hid (FrS w L s wr p v xs cs) := hS
    have HRs : Hid (rdFr s = restB s cs gk p) := hrest
    clear hrest hS
    obtain ⟨sp, cp, rfl⟩ := HSp.out.own.isSlice
    obtain ⟨n, rfl⟩ : ∃ n, gk = n + 1 := ⟨gk - 1, by omega⟩
    have c0 := (cell1 HSp.out.l0).1
    -- BEGIN (mkcof.py)
    have HCnt : Hid (xs.length ≤ p) := HSp.out.cnt
    have HSd : Hid (FrS w L s wr.drew p (.slice sp xs.length cp) xs cs) := HSp.out.step (Below.refl _ _).drew
    have HLen : Hid ((xs.length + 1) * 32 ≤ 140737488355328) := by show _ ≤ _; have := HSp.out.cnt; omega
    by_cases hc : (rbV s p 1048576).2.2 = 0
    · have hform := rb_form s p 1048576 hc
      have hlen := (uvB_len (((rbV s p 1048576).1.size : Nat) : Int)).2
      have hT := takeB (L + 2) s p wr.drew HSd.out.rd hp (by omega)
      rw [if_pos hc] at hT
      have HBl : Hid ((∀ c, rdCo (rbV s p 1048576).1 = some c → rdBl s p = some (c, p + (rbV s p 1048576).2.1)) ∧ (rdCo (rbV s p 1048576).1 = none → rdBl s p = none)) := ⟨fun c h => by unfold rdBl; rw [if_pos hc, h], fun h => by unfold rdBl; rw [if_pos hc, h]⟩
      have ht : (rbV s p 1048576).1.size ≤ 1048576 := hform.2.2.1
      have hq1 : p + (rbV s p 1048576).2.1 ≤ s.size := hform.2.2.2
      have hq2 : 1 ≤ (rbV s p 1048576).2.1 := by omega
      clear hform hlen hc
      generalize (rbV s p 1048576).1 = t at *
      generalize hqe : p + (rbV s p 1048576).2.1 = q at *
      have hpq : p < q := by omega
      clear hqe hq2
      have HT : Hid (∀ _ : Unit, _) := fun _ => hT
      clear hT
      cases hr : rdCo t with
      | none =>
        have HN : Hid (rdFr s = none) := by
          show _ = _
          rw [HRs.out, restB_no]
          exact HBl.out.2 hr
        clear HBl HRs
        go_wp2_with fail
        (refine wp_region_held_drew (S := (fun _ => True)) (by kernel_rfl) trivial (fun hHeld => ?_); simp only [List.size_toArray, List.length_cons, List.length_nil, Nat.reduceAdd, Array.replicate_succ, Array.replicate_zero, List.push_toArray, List.append_toArray, List.nil_append, List.cons_append])
        (refine tk1 (v := ?_) (by kernel_rfl) (by kernel_rfl) (by kernel_rfl) (fun _ _ _ h => leaves_put rfl (by decide) (by decide) h) (Or.inl ⟨by rfl, ?_⟩) (by assumption) ?_; rotate_left; (focus (intro w hSw; (try dsimp only at hSw); go_simp; (try first | (rw [dif_pos (by omega)]; simp only [Result.andThen_ok]) | rw [if_pos (by omega)]); (try with_reducible rfl); done)); try simp only [Act.put, List.setIfInBounds_toArray, List.set_cons_zero, List.set_cons_succ])
        (refine wpAnyH_ready (rs := [0, 2]) (by kernel_rfl) (by simp) ?_; refine ar0 (fun K hK => ?_) (ar2 (fun K hK => ?_) AllReadyH.nil) <;> go_simp)
        · (refine hK.out _ _ trivial (fun hHeld => ?_); clear hK K; try simp only [Act.put, List.setIfInBounds_toArray, List.set_cons_zero, List.set_cons_succ])
          (refine wpAnyH_ready (rs := [2]) (by kernel_rfl) (by simp) ?_; refine ar2 (fun K hK => ?_) AllReadyH.nil; go_simp)
          refine (HT.out ()).mono ?_
          rintro e w5 ⟨hf5, ⟨n5, hn5, rfl, hr5⟩ | ⟨hn5, rfl⟩⟩
          · obtain rfl : q = n5 := Option.some.inj hn5
            have H5 := HSd.out.fr hf5 hr5 (by omega)
            have c5 := (cell1 H5.l0).1
            have HC5 : Hid (∀ _ : Unit, _) := fun _ => commitOf_any t w5 (by omega)
            have HS5 : Hid _ := H5
            clear hf5 hr5 hn5 H5
            go_wp2_with fail
            (refine hK.out _ _ trivial (fun hHeld => ?_); clear hK K; try simp only [Act.put, List.setIfInBounds_toArray, List.set_cons_zero, List.set_cons_succ])
            (refine wpAnyH_ready (rs := [3]) (by kernel_rfl) (by simp) ?_; refine ar3 (fun K hK => ?_) AllReadyH.nil; go_simp)
            refine (HC5.out ()).mono ?_
            rintro e w6 ⟨hb6, hm6⟩
            rw [hr] at hm6
            obtain rfl := hm6
            have G6 := HS5.out.goneB hb6
            refine leaves_cons (f := 18) (args := #[.pointer (some ⟨L, 0, none⟩), .pointer (some ⟨L + 1, 0, none⟩)]) (by simp) (by simp [go_sem]) ?_
            refine (catchFr 112 L (L + 1) _ _ [] _ (cell1 G6.1).1 (cell1 G6.1).2 (cell1 G6.2.1).1 (cell1 G6.2.1).2 (by omega)).mono ?_
            rintro e u' w9 ⟨rfl, rfl, dL, dE, hb9⟩
            exact ⟨.tuple #[.slice none 0 0, .int .i64 112], ret_list2 rfl _ _ _ _ _ _ (by rfl) (by rfl) dL dE, FcF.no (G6.2.2.trans (hb9 _ (by omega) (by omega))) HN.out⟩
          · cases hn5
        · refine (HT.out ()).mono ?_
          rintro e w5 ⟨hf5, ⟨n5, hn5, rfl, hr5⟩ | ⟨hn5, rfl⟩⟩
          · obtain rfl : q = n5 := Option.some.inj hn5
            have H5 := HSd.out.fr hf5 hr5 (by omega)
            have c5 := (cell1 H5.l0).1
            have HC5 : Hid (∀ _ : Unit, _) := fun _ => commitOf_any t w5 (by omega)
            have HS5 : Hid _ := H5
            clear hf5 hr5 hn5 H5
            go_wp2_with fail
            (refine hK.out _ _ trivial (fun hHeld => ?_); clear hK K; try simp only [Act.put, List.setIfInBounds_toArray, List.set_cons_zero, List.set_cons_succ])
            (refine wpAnyH_ready (rs := [0, 3]) (by kernel_rfl) (by simp) ?_; refine ar0 (fun K hK => ?_) (ar3 (fun K hK => ?_) AllReadyH.nil) <;> go_simp)
            · (refine hK.out _ _ trivial (fun hHeld => ?_); clear hK K; try simp only [Act.put, List.setIfInBounds_toArray, List.set_cons_zero, List.set_cons_succ])
              (refine wpAnyH_ready (rs := [3]) (by kernel_rfl) (by simp) ?_; refine ar3 (fun K hK => ?_) AllReadyH.nil; go_simp)
              refine (HC5.out ()).mono ?_
              rintro e w6 ⟨hb6, hm6⟩
              rw [hr] at hm6
              obtain rfl := hm6
              have G6 := HS5.out.goneB hb6
              refine leaves_cons (f := 18) (args := #[.pointer (some ⟨L, 0, none⟩), .pointer (some ⟨L + 1, 0, none⟩)]) (by simp) (by simp [go_sem]) ?_
              refine (catchFr 112 L (L + 1) _ _ [] _ (cell1 G6.1).1 (cell1 G6.1).2 (cell1 G6.2.1).1 (cell1 G6.2.1).2 (by omega)).mono ?_
              rintro e u' w9 ⟨rfl, rfl, dL, dE, hb9⟩
              exact ⟨.tuple #[.slice none 0 0, .int .i64 112], ret_list2 rfl _ _ _ _ _ _ (by rfl) (by rfl) dL dE, FcF.no (G6.2.2.trans (hb9 _ (by omega) (by omega))) HN.out⟩
            · refine (HC5.out ()).mono ?_
              rintro e w6 ⟨hb6, hm6⟩
              rw [hr] at hm6
              obtain rfl := hm6
              have G6 := HS5.out.goneB hb6
              refine leaves_cons (f := 18) (args := #[.pointer (some ⟨L, 0, none⟩), .pointer (some ⟨L + 1, 0, none⟩)]) (by simp) (by simp [go_sem]) ?_
              refine (catchFr 112 L (L + 1) _ _ [] _ (cell1 G6.1).1 (cell1 G6.1).2 (cell1 G6.2.1).1 (cell1 G6.2.1).2 (by omega)).mono ?_
              rintro e u' w9 ⟨rfl, rfl, dL, dE, hb9⟩
              exact ⟨.tuple #[.slice none 0 0, .int .i64 112], ret_list2 rfl _ _ _ _ _ _ (by rfl) (by rfl) dL dE, FcF.no (G6.2.2.trans (hb9 _ (by omega) (by omega))) HN.out⟩
          · cases hn5
      | some y =>
        obtain ⟨st, us⟩ := y
        have HBy : Hid (rdBl s p = some ((st, us), q)) := HBl.out.1 _ hr
        clear HBl
        go_wp2_with fail
        (refine wp_region_held_drew (S := (fun _ => True)) (by kernel_rfl) trivial (fun hHeld => ?_); simp only [List.size_toArray, List.length_cons, List.length_nil, Nat.reduceAdd, Array.replicate_succ, Array.replicate_zero, List.push_toArray, List.append_toArray, List.nil_append, List.cons_append])
        (refine tk1 (v := ?_) (by kernel_rfl) (by kernel_rfl) (by kernel_rfl) (fun _ _ _ h => leaves_put rfl (by decide) (by decide) h) (Or.inl ⟨by rfl, ?_⟩) (by assumption) ?_; rotate_left; (focus (intro w hSw; (try dsimp only at hSw); go_simp; (try first | (rw [dif_pos (by omega)]; simp only [Result.andThen_ok]) | rw [if_pos (by omega)]); (try with_reducible rfl); done)); try simp only [Act.put, List.setIfInBounds_toArray, List.set_cons_zero, List.set_cons_succ])
        (refine wpAnyH_ready (rs := [0, 2]) (by kernel_rfl) (by simp) ?_; refine ar0 (fun K hK => ?_) (ar2 (fun K hK => ?_) AllReadyH.nil) <;> go_simp)
        · (refine hK.out _ _ trivial (fun hHeld => ?_); clear hK K; try simp only [Act.put, List.setIfInBounds_toArray, List.set_cons_zero, List.set_cons_succ])
          (refine wpAnyH_ready (rs := [2]) (by kernel_rfl) (by simp) ?_; refine ar2 (fun K hK => ?_) AllReadyH.nil; go_simp)
          refine (HT.out ()).mono ?_
          rintro e w5 ⟨hf5, ⟨n5, hn5, rfl, hr5⟩ | ⟨hn5, rfl⟩⟩
          · obtain rfl : q = n5 := Option.some.inj hn5
            have H5 := HSd.out.fr hf5 hr5 (by omega)
            have c5 := (cell1 H5.l0).1
            have HC5 : Hid (∀ _ : Unit, _) := fun _ => commitOf_any t w5 (by omega)
            have HS5 : Hid _ := H5
            clear hf5 hr5 hn5 H5
            go_wp2_with fail
            (refine hK.out _ _ trivial (fun hHeld => ?_); clear hK K; try simp only [Act.put, List.setIfInBounds_toArray, List.set_cons_zero, List.set_cons_succ])
            (refine wpAnyH_ready (rs := [3]) (by kernel_rfl) (by simp) ?_; refine ar3 (fun K hK => ?_) AllReadyH.nil; go_simp)
            refine (HC5.out ()).mono ?_
            rintro e w6 ⟨hb6, hm6⟩
            rw [hr] at hm6
            obtain ⟨u, rfl, hu, hfu⟩ := hm6
            obtain ⟨su, nu, cu, rfl⟩ := hu.isSlice
            have H6 := HS5.out.step hb6
            have HNu : Hid (∀ x ∈ xs, x.2.ownBlock ≠ (Value.slice su nu cu).ownBlock) := apart_new HS5.out.cin hu hfu
            have HFu : Hid (FullW (.slice su nu cu) us) := hfu
            have hu6 : ownW w6 (L + 3) (.slice su nu cu) us := hu.base HS5.out.sz
            have c6 := (cell1 H6.l0).1
            have HS6 : Hid _ := H6
            have HU6 : Hid (∀ _ : Unit, _) := fun _ => hu6
            clear hb6 hu hu6 H6 c5 hfu
            go_wp2_with fail
            (refine hK.out _ _ trivial (fun hHeld => ?_); clear hK K; try simp only [Act.put, List.setIfInBounds_toArray, List.set_cons_zero, List.set_cons_succ])
            (refine wpAnyH_ready (rs := [4]) (by kernel_rfl) (by simp) ?_; refine ar4 (fun K hK => ?_) AllReadyH.nil; go_simp)
            have c7 := (cell1 (HS6.out.step (alB w6 (.cells #[.int .u64 st, .slice su nu cu] 25))).l0).1
            (refine hK.out _ _ trivial (fun hHeld => ?_); clear hK K; try simp only [Act.put, List.setIfInBounds_toArray, List.set_cons_zero, List.set_cons_succ])
            (refine wpAnyH_ready (rs := [5]) (by kernel_rfl) (by simp) ?_; refine ar5 (fun K hK => ?_) AllReadyH.nil; rw [if_pos (by rfl)])
            refine app_commitK (.tmp 9) (.tmp 13) (by rfl) (L + 3) _ xs (st, .slice su nu cu) HS6.out.own (by rfl) w6.heap.size rfl (by rfl) rfl HLen.out HS6.out.sz ?_
            intro v' w7 ho hb hk7
            obtain ⟨sp', cp', hv'⟩ := ho.isSlice
            rw [show (xs ++ [(st, Value.slice su nu cu)]).length = xs.length + 1 from by simp] at hv'
            subst hv'
            have H8 := HS6.out.put (HU6.out ()) (by have := HS5.out.cnt; have := HCnt.out; omega) HFu.out HNu.out hb hk7 ho
            have l7 := cell1 ((hb.block L (by omega)).trans HS6.out.l0)
            have d7 := l7.1
            have e7 := l7.2
            have HS8 : Hid _ := H8
            clear ho hb hk7 l7 H8
            (refine hK.out _ _ trivial (fun hHeld => ?_); clear hK K; try simp only [Act.put, List.setIfInBounds_toArray, List.set_cons_zero, List.set_cons_succ])
            (refine wpAnyH_ready (rs := [6]) (by kernel_rfl) (by simp) ?_; refine ar6 (fun K hK => ?_) AllReadyH.nil; go_simp)
            (refine hK.out _ _ trivial (fun hHeld => ?_); clear hK K; try simp only [Act.put, List.setIfInBounds_toArray, List.set_cons_zero, List.set_cons_succ])
            refine wpAnyH_done (by kernel_rfl) ?_ _
            have hLf := leftC (L + 2) s q _ HS8.out.rd (by omega)
            by_cases hqs : q < s.size
            · rw [decide_eq_true hqs] at hLf
              have HLf : Hid (∀ _ : Unit, _) := fun _ => hLf
              have HR8 : Hid (rdFr s = restB s (cs ++ [(st, us)]) n q) := HRs.out.trans (restB_more HBy.out hqs)
              clear hLf d7 e7 c0 c6 c7 HRs HBy
              go_wp2_with fail
              refine (HLf.out ()).mono ?_
              rintro e w9 ⟨rfl, nd, rfl⟩
              go_wp2
              go_roundg n
              case measure => omega
              case rel => exact ⟨q, _, _, _, hq1, by omega, HS8.out.step (below_drewNW nd), HR8.out⟩
            · rw [decide_eq_false hqs] at hLf
              have HLf : Hid (∀ _ : Unit, _) := fun _ => hLf
              have HR8 : Hid (rdFr s = some (cs ++ [(st, us)])) := HRs.out.trans (restB_last HBy.out hqs)
              clear hLf d7 e7 c0 c6 c7 HRs HBy
              go_wp2_with fail
              refine (HLf.out ()).mono ?_
              rintro e w9 ⟨rfl, nd, rfl⟩
              have H9 := HS8.out.step (below_drewNW nd)
              have j0 := (cell1 H9.l0).1
              have j1 := (cell1 H9.l0).2
              have j2 := (cell1 H9.e0).1
              have j3 := (cell1 H9.e0).2
              have HS9 : Hid _ := H9
              clear H9
              go_wp2
              refine leaves_cons (f := 18) (args := #[.pointer (some ⟨L, 0, none⟩), .pointer (some ⟨L + 1, 0, none⟩)]) (by simp) (by simp [go_sem]) ?_
              refine (idleFr _ _ _).mono ?_
              rintro e u' w10 ⟨rfl, rfl, rfl⟩
              exact done9 HS9.out HR8.out
          · cases hn5
        · refine (HT.out ()).mono ?_
          rintro e w5 ⟨hf5, ⟨n5, hn5, rfl, hr5⟩ | ⟨hn5, rfl⟩⟩
          · obtain rfl : q = n5 := Option.some.inj hn5
            have H5 := HSd.out.fr hf5 hr5 (by omega)
            have c5 := (cell1 H5.l0).1
            have HC5 : Hid (∀ _ : Unit, _) := fun _ => commitOf_any t w5 (by omega)
            have HS5 : Hid _ := H5
            clear hf5 hr5 hn5 H5
            go_wp2_with fail
            (refine hK.out _ _ trivial (fun hHeld => ?_); clear hK K; try simp only [Act.put, List.setIfInBounds_toArray, List.set_cons_zero, List.set_cons_succ])
            (refine wpAnyH_ready (rs := [0, 3]) (by kernel_rfl) (by simp) ?_; refine ar0 (fun K hK => ?_) (ar3 (fun K hK => ?_) AllReadyH.nil) <;> go_simp)
            · (refine hK.out _ _ trivial (fun hHeld => ?_); clear hK K; try simp only [Act.put, List.setIfInBounds_toArray, List.set_cons_zero, List.set_cons_succ])
              (refine wpAnyH_ready (rs := [3]) (by kernel_rfl) (by simp) ?_; refine ar3 (fun K hK => ?_) AllReadyH.nil; go_simp)
              refine (HC5.out ()).mono ?_
              rintro e w6 ⟨hb6, hm6⟩
              rw [hr] at hm6
              obtain ⟨u, rfl, hu, hfu⟩ := hm6
              obtain ⟨su, nu, cu, rfl⟩ := hu.isSlice
              have H6 := HS5.out.step hb6
              have HNu : Hid (∀ x ∈ xs, x.2.ownBlock ≠ (Value.slice su nu cu).ownBlock) := apart_new HS5.out.cin hu hfu
              have HFu : Hid (FullW (.slice su nu cu) us) := hfu
              have hu6 : ownW w6 (L + 3) (.slice su nu cu) us := hu.base HS5.out.sz
              have c6 := (cell1 H6.l0).1
              have HS6 : Hid _ := H6
              have HU6 : Hid (∀ _ : Unit, _) := fun _ => hu6
              clear hb6 hu hu6 H6 c5 hfu
              go_wp2_with fail
              (refine hK.out _ _ trivial (fun hHeld => ?_); clear hK K; try simp only [Act.put, List.setIfInBounds_toArray, List.set_cons_zero, List.set_cons_succ])
              (refine wpAnyH_ready (rs := [4]) (by kernel_rfl) (by simp) ?_; refine ar4 (fun K hK => ?_) AllReadyH.nil; go_simp)
              have c7 := (cell1 (HS6.out.step (alB w6 (.cells #[.int .u64 st, .slice su nu cu] 25))).l0).1
              (refine hK.out _ _ trivial (fun hHeld => ?_); clear hK K; try simp only [Act.put, List.setIfInBounds_toArray, List.set_cons_zero, List.set_cons_succ])
              (refine wpAnyH_ready (rs := [5]) (by kernel_rfl) (by simp) ?_; refine ar5 (fun K hK => ?_) AllReadyH.nil; rw [if_pos (by rfl)])
              refine app_commitK (.tmp 9) (.tmp 13) (by rfl) (L + 3) _ xs (st, .slice su nu cu) HS6.out.own (by rfl) w6.heap.size rfl (by rfl) rfl HLen.out HS6.out.sz ?_
              intro v' w7 ho hb hk7
              obtain ⟨sp', cp', hv'⟩ := ho.isSlice
              rw [show (xs ++ [(st, Value.slice su nu cu)]).length = xs.length + 1 from by simp] at hv'
              subst hv'
              have H8 := HS6.out.put (HU6.out ()) (by have := HS5.out.cnt; have := HCnt.out; omega) HFu.out HNu.out hb hk7 ho
              have l7 := cell1 ((hb.block L (by omega)).trans HS6.out.l0)
              have d7 := l7.1
              have e7 := l7.2
              have HS8 : Hid _ := H8
              clear ho hb hk7 l7 H8
              (refine hK.out _ _ trivial (fun hHeld => ?_); clear hK K; try simp only [Act.put, List.setIfInBounds_toArray, List.set_cons_zero, List.set_cons_succ])
              (refine wpAnyH_ready (rs := [6]) (by kernel_rfl) (by simp) ?_; refine ar6 (fun K hK => ?_) AllReadyH.nil; go_simp)
              (refine hK.out _ _ trivial (fun hHeld => ?_); clear hK K; try simp only [Act.put, List.setIfInBounds_toArray, List.set_cons_zero, List.set_cons_succ])
              refine wpAnyH_done (by kernel_rfl) ?_ _
              have hLf := leftC (L + 2) s q _ HS8.out.rd (by omega)
              by_cases hqs : q < s.size
              · rw [decide_eq_true hqs] at hLf
                have HLf : Hid (∀ _ : Unit, _) := fun _ => hLf
                have HR8 : Hid (rdFr s = restB s (cs ++ [(st, us)]) n q) := HRs.out.trans (restB_more HBy.out hqs)
                clear hLf d7 e7 c0 c6 c7 HRs HBy
                go_wp2_with fail
                refine (HLf.out ()).mono ?_
                rintro e w9 ⟨rfl, nd, rfl⟩
                go_wp2
                go_roundg n
                case measure => omega
                case rel => exact ⟨q, _, _, _, hq1, by omega, HS8.out.step (below_drewNW nd), HR8.out⟩
              · rw [decide_eq_false hqs] at hLf
                have HLf : Hid (∀ _ : Unit, _) := fun _ => hLf
                have HR8 : Hid (rdFr s = some (cs ++ [(st, us)])) := HRs.out.trans (restB_last HBy.out hqs)
                clear hLf d7 e7 c0 c6 c7 HRs HBy
                go_wp2_with fail
                refine (HLf.out ()).mono ?_
                rintro e w9 ⟨rfl, nd, rfl⟩
                have H9 := HS8.out.step (below_drewNW nd)
                have j0 := (cell1 H9.l0).1
                have j1 := (cell1 H9.l0).2
                have j2 := (cell1 H9.e0).1
                have j3 := (cell1 H9.e0).2
                have HS9 : Hid _ := H9
                clear H9
                go_wp2
                refine leaves_cons (f := 18) (args := #[.pointer (some ⟨L, 0, none⟩), .pointer (some ⟨L + 1, 0, none⟩)]) (by simp) (by simp [go_sem]) ?_
                refine (idleFr _ _ _).mono ?_
                rintro e u' w10 ⟨rfl, rfl, rfl⟩
                exact done9 HS9.out HR8.out
            · refine (HC5.out ()).mono ?_
              rintro e w6 ⟨hb6, hm6⟩
              rw [hr] at hm6
              obtain ⟨u, rfl, hu, hfu⟩ := hm6
              obtain ⟨su, nu, cu, rfl⟩ := hu.isSlice
              have H6 := HS5.out.step hb6
              have HNu : Hid (∀ x ∈ xs, x.2.ownBlock ≠ (Value.slice su nu cu).ownBlock) := apart_new HS5.out.cin hu hfu
              have HFu : Hid (FullW (.slice su nu cu) us) := hfu
              have hu6 : ownW w6 (L + 3) (.slice su nu cu) us := hu.base HS5.out.sz
              have c6 := (cell1 H6.l0).1
              have HS6 : Hid _ := H6
              have HU6 : Hid (∀ _ : Unit, _) := fun _ => hu6
              clear hb6 hu hu6 H6 c5 hfu
              go_wp2_with fail
              (refine hK.out _ _ trivial (fun hHeld => ?_); clear hK K; try simp only [Act.put, List.setIfInBounds_toArray, List.set_cons_zero, List.set_cons_succ])
              (refine wpAnyH_ready (rs := [0, 4]) (by kernel_rfl) (by simp) ?_; refine ar0 (fun K hK => ?_) (ar4 (fun K hK => ?_) AllReadyH.nil) <;> go_simp)
              · (refine hK.out _ _ trivial (fun hHeld => ?_); clear hK K; try simp only [Act.put, List.setIfInBounds_toArray, List.set_cons_zero, List.set_cons_succ])
                (refine wpAnyH_ready (rs := [4]) (by kernel_rfl) (by simp) ?_; refine ar4 (fun K hK => ?_) AllReadyH.nil; go_simp)
                have c7 := (cell1 (HS6.out.step (alB w6 (.cells #[.int .u64 st, .slice su nu cu] 25))).l0).1
                (refine hK.out _ _ trivial (fun hHeld => ?_); clear hK K; try simp only [Act.put, List.setIfInBounds_toArray, List.set_cons_zero, List.set_cons_succ])
                (refine wpAnyH_ready (rs := [5]) (by kernel_rfl) (by simp) ?_; refine ar5 (fun K hK => ?_) AllReadyH.nil; rw [if_pos (by rfl)])
                refine app_commitK (.tmp 9) (.tmp 13) (by rfl) (L + 3) _ xs (st, .slice su nu cu) HS6.out.own (by rfl) w6.heap.size rfl (by rfl) rfl HLen.out HS6.out.sz ?_
                intro v' w7 ho hb hk7
                obtain ⟨sp', cp', hv'⟩ := ho.isSlice
                rw [show (xs ++ [(st, Value.slice su nu cu)]).length = xs.length + 1 from by simp] at hv'
                subst hv'
                have H8 := HS6.out.put (HU6.out ()) (by have := HS5.out.cnt; have := HCnt.out; omega) HFu.out HNu.out hb hk7 ho
                have l7 := cell1 ((hb.block L (by omega)).trans HS6.out.l0)
                have d7 := l7.1
                have e7 := l7.2
                have HS8 : Hid _ := H8
                clear ho hb hk7 l7 H8
                (refine hK.out _ _ trivial (fun hHeld => ?_); clear hK K; try simp only [Act.put, List.setIfInBounds_toArray, List.set_cons_zero, List.set_cons_succ])
                (refine wpAnyH_ready (rs := [6]) (by kernel_rfl) (by simp) ?_; refine ar6 (fun K hK => ?_) AllReadyH.nil; go_simp)
                (refine hK.out _ _ trivial (fun hHeld => ?_); clear hK K; try simp only [Act.put, List.setIfInBounds_toArray, List.set_cons_zero, List.set_cons_succ])
                refine wpAnyH_done (by kernel_rfl) ?_ _
                have hLf := leftC (L + 2) s q _ HS8.out.rd (by omega)
                by_cases hqs : q < s.size
                · rw [decide_eq_true hqs] at hLf
                  have HLf : Hid (∀ _ : Unit, _) := fun _ => hLf
                  have HR8 : Hid (rdFr s = restB s (cs ++ [(st, us)]) n q) := HRs.out.trans (restB_more HBy.out hqs)
                  clear hLf d7 e7 c0 c6 c7 HRs HBy
                  go_wp2_with fail
                  refine (HLf.out ()).mono ?_
                  rintro e w9 ⟨rfl, nd, rfl⟩
                  go_wp2
                  go_roundg n
                  case measure => omega
                  case rel => exact ⟨q, _, _, _, hq1, by omega, HS8.out.step (below_drewNW nd), HR8.out⟩
                · rw [decide_eq_false hqs] at hLf
                  have HLf : Hid (∀ _ : Unit, _) := fun _ => hLf
                  have HR8 : Hid (rdFr s = some (cs ++ [(st, us)])) := HRs.out.trans (restB_last HBy.out hqs)
                  clear hLf d7 e7 c0 c6 c7 HRs HBy
                  go_wp2_with fail
                  refine (HLf.out ()).mono ?_
                  rintro e w9 ⟨rfl, nd, rfl⟩
                  have H9 := HS8.out.step (below_drewNW nd)
                  have j0 := (cell1 H9.l0).1
                  have j1 := (cell1 H9.l0).2
                  have j2 := (cell1 H9.e0).1
                  have j3 := (cell1 H9.e0).2
                  have HS9 : Hid _ := H9
                  clear H9
                  go_wp2
                  refine leaves_cons (f := 18) (args := #[.pointer (some ⟨L, 0, none⟩), .pointer (some ⟨L + 1, 0, none⟩)]) (by simp) (by simp [go_sem]) ?_
                  refine (idleFr _ _ _).mono ?_
                  rintro e u' w10 ⟨rfl, rfl, rfl⟩
                  exact done9 HS9.out HR8.out
              · have c7 := (cell1 (HS6.out.step (alB w6 (.cells #[.int .u64 st, .slice su nu cu] 25))).l0).1
                (refine hK.out _ _ trivial (fun hHeld => ?_); clear hK K; try simp only [Act.put, List.setIfInBounds_toArray, List.set_cons_zero, List.set_cons_succ])
                (refine wpAnyH_ready (rs := [0]) (by kernel_rfl) (by simp) ?_; refine ar0 (fun K hK => ?_) AllReadyH.nil; go_simp)
                (refine hK.out _ _ trivial (fun hHeld => ?_); clear hK K; try simp only [Act.put, List.setIfInBounds_toArray, List.set_cons_zero, List.set_cons_succ])
                (refine wpAnyH_ready (rs := [5]) (by kernel_rfl) (by simp) ?_; refine ar5 (fun K hK => ?_) AllReadyH.nil; rw [if_pos (by rfl)])
                refine app_commitK (.tmp 9) (.tmp 13) (by rfl) (L + 3) _ xs (st, .slice su nu cu) HS6.out.own (by rfl) w6.heap.size rfl (by rfl) rfl HLen.out HS6.out.sz ?_
                intro v' w7 ho hb hk7
                obtain ⟨sp', cp', hv'⟩ := ho.isSlice
                rw [show (xs ++ [(st, Value.slice su nu cu)]).length = xs.length + 1 from by simp] at hv'
                subst hv'
                have H8 := HS6.out.put (HU6.out ()) (by have := HS5.out.cnt; have := HCnt.out; omega) HFu.out HNu.out hb hk7 ho
                have l7 := cell1 ((hb.block L (by omega)).trans HS6.out.l0)
                have d7 := l7.1
                have e7 := l7.2
                have HS8 : Hid _ := H8
                clear ho hb hk7 l7 H8
                (refine hK.out _ _ trivial (fun hHeld => ?_); clear hK K; try simp only [Act.put, List.setIfInBounds_toArray, List.set_cons_zero, List.set_cons_succ])
                (refine wpAnyH_ready (rs := [6]) (by kernel_rfl) (by simp) ?_; refine ar6 (fun K hK => ?_) AllReadyH.nil; go_simp)
                (refine hK.out _ _ trivial (fun hHeld => ?_); clear hK K; try simp only [Act.put, List.setIfInBounds_toArray, List.set_cons_zero, List.set_cons_succ])
                refine wpAnyH_done (by kernel_rfl) ?_ _
                have hLf := leftC (L + 2) s q _ HS8.out.rd (by omega)
                by_cases hqs : q < s.size
                · rw [decide_eq_true hqs] at hLf
                  have HLf : Hid (∀ _ : Unit, _) := fun _ => hLf
                  have HR8 : Hid (rdFr s = restB s (cs ++ [(st, us)]) n q) := HRs.out.trans (restB_more HBy.out hqs)
                  clear hLf d7 e7 c0 c6 c7 HRs HBy
                  go_wp2_with fail
                  refine (HLf.out ()).mono ?_
                  rintro e w9 ⟨rfl, nd, rfl⟩
                  go_wp2
                  go_roundg n
                  case measure => omega
                  case rel => exact ⟨q, _, _, _, hq1, by omega, HS8.out.step (below_drewNW nd), HR8.out⟩
                · rw [decide_eq_false hqs] at hLf
                  have HLf : Hid (∀ _ : Unit, _) := fun _ => hLf
                  have HR8 : Hid (rdFr s = some (cs ++ [(st, us)])) := HRs.out.trans (restB_last HBy.out hqs)
                  clear hLf d7 e7 c0 c6 c7 HRs HBy
                  go_wp2_with fail
                  refine (HLf.out ()).mono ?_
                  rintro e w9 ⟨rfl, nd, rfl⟩
                  have H9 := HS8.out.step (below_drewNW nd)
                  have j0 := (cell1 H9.l0).1
                  have j1 := (cell1 H9.l0).2
                  have j2 := (cell1 H9.e0).1
                  have j3 := (cell1 H9.e0).2
                  have HS9 : Hid _ := H9
                  clear H9
                  go_wp2
                  refine leaves_cons (f := 18) (args := #[.pointer (some ⟨L, 0, none⟩), .pointer (some ⟨L + 1, 0, none⟩)]) (by simp) (by simp [go_sem]) ?_
                  refine (idleFr _ _ _).mono ?_
                  rintro e u' w10 ⟨rfl, rfl, rfl⟩
                  exact done9 HS9.out HR8.out
          · cases hn5
    · have hT := takeB (L + 2) s p wr.drew HSd.out.rd hp (by omega)
      rw [if_neg hc] at hT
      have HN : Hid (rdFr s = none) := by
        show _ = _
        rw [HRs.out, restB_no]
        unfold rdBl
        rw [if_neg hc]
      have HT : Hid (∀ _ : Unit, _) := fun _ => hT
      clear hT hc HRs
      go_wp2_with fail
      (refine wp_region_held_drew (S := (fun _ => True)) (by kernel_rfl) trivial (fun hHeld => ?_); simp only [List.size_toArray, List.length_cons, List.length_nil, Nat.reduceAdd, Array.replicate_succ, Array.replicate_zero, List.push_toArray, List.append_toArray, List.nil_append, List.cons_append])
      (refine tk1 (v := ?_) (by kernel_rfl) (by kernel_rfl) (by kernel_rfl) (fun _ _ _ h => leaves_put rfl (by decide) (by decide) h) (Or.inl ⟨by rfl, ?_⟩) (by assumption) ?_; rotate_left; (focus (intro w hSw; (try dsimp only at hSw); go_simp; (try first | (rw [dif_pos (by omega)]; simp only [Result.andThen_ok]) | rw [if_pos (by omega)]); (try with_reducible rfl); done)); try simp only [Act.put, List.setIfInBounds_toArray, List.set_cons_zero, List.set_cons_succ])
      (refine wpAnyH_ready (rs := [0, 2]) (by kernel_rfl) (by simp) ?_; refine ar0 (fun K hK => ?_) (ar2 (fun K hK => ?_) AllReadyH.nil) <;> go_simp)
      · (refine hK.out _ _ trivial (fun hHeld => ?_); clear hK K; try simp only [Act.put, List.setIfInBounds_toArray, List.set_cons_zero, List.set_cons_succ])
        (refine wpAnyH_ready (rs := [2]) (by kernel_rfl) (by simp) ?_; refine ar2 (fun K hK => ?_) AllReadyH.nil; go_simp)
        refine (HT.out ()).mono ?_
        rintro e w5 ⟨hf5, ⟨n5, hn5, rfl, hr5⟩ | ⟨hn5, rfl⟩⟩
        · cases hn5
        · have G5 := HSd.out.gone hf5
          refine leaves_cons (f := 18) (args := #[.pointer (some ⟨L, 0, none⟩), .pointer (some ⟨L + 1, 0, none⟩)]) (by simp) (by simp [go_sem]) ?_
          refine (catchFr 112 L (L + 1) _ _ [] _ (cell1 G5.1).1 (cell1 G5.1).2 (cell1 G5.2.1).1 (cell1 G5.2.1).2 (by omega)).mono ?_
          rintro e u' w9 ⟨rfl, rfl, dL, dE, hb9⟩
          exact ⟨.tuple #[.slice none 0 0, .int .i64 112], ret_list2 rfl _ _ _ _ _ _ (by rfl) (by rfl) dL dE, FcF.no (G5.2.2.trans (hb9 _ (by omega) (by omega))) HN.out⟩
      · refine (HT.out ()).mono ?_
        rintro e w5 ⟨hf5, ⟨n5, hn5, rfl, hr5⟩ | ⟨hn5, rfl⟩⟩
        · cases hn5
        · have G5 := HSd.out.gone hf5
          refine leaves_cons (f := 18) (args := #[.pointer (some ⟨L, 0, none⟩), .pointer (some ⟨L + 1, 0, none⟩)]) (by simp) (by simp [go_sem]) ?_
          refine (catchFr 112 L (L + 1) _ _ [] _ (cell1 G5.1).1 (cell1 G5.1).2 (cell1 G5.2.1).1 (cell1 G5.2.1).2 (by omega)).mono ?_
          rintro e u' w9 ⟨rfl, rfl, dL, dE, hb9⟩
          exact ⟨.tuple #[.slice none 0 0, .int .i64 112], ret_list2 rfl _ _ _ _ _ _ (by rfl) (by rfl) dL dE, FcF.no (G5.2.2.trans (hb9 _ (by omega) (by omega))) HN.out⟩
theorem frameC (s : ByteArray) (w : World) (hs : s.size ≤ 1125899906842) : Calls Try.prog 9 #[.string s] w (FcC w (rdFr s)) := by
  refine (frameF s w hs).mono ?_
  rintro e w' ⟨hb, hm⟩
  refine ⟨hb, ?_⟩
  cases hr : rdFr s with
  | none => rw [hr] at hm; exact hm
  | some cs => rw [hr] at hm; obtain ⟨v, xs, h1, h2, h3, _⟩ := hm; exact ⟨v, xs, h1, h2, h3⟩
end Go.Proofs.Ytmolfemcciljjaa
