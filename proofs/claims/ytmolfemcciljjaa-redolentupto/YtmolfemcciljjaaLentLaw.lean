import Derived.Test.YtmolfemcciljjaaLentF
namespace Go.Proofs.Ytmolfemcciljjaa
set_option linter.unusedSimpArgs false
open Go.ChangeShapes Go.WideShapes Go.ChangeAt Go.RowKit
set_option linter.unusedVariables false
set_option maxRecDepth 100000
/-- All that was read, ahead of the gathering. -/
structure LA (w W : World) (ga gb K2 K3 : Nat) (st : Int) (vs : List W3) (oa ob : Option Addr) (vl vm : Value) (xs ys : List (Int × Value)) (cs : List (Int × List W3)) : Prop where
  two : TwoC w W vl vm xs ys cs
  a : Wc2 W ga (.int .u64 st) (.slice oa vs.length vs.length)
  b : Wc2 W gb (.int .u64 st) (.slice ob vs.length vs.length)
  owa : ownW W w.heap.size (.slice oa vs.length vs.length) vs
  owb : ownW W w.heap.size (.slice ob vs.length vs.length) vs
  rg : Rg K2 K3 xs ys
  fl : FulD xs cs
  fm : FulD ys cs
  ab : ∀ g, oa = some ⟨g, 0, none⟩ → ob ≠ some ⟨g, 0, none⟩
  la : ∀ g, oa = some ⟨g, 0, none⟩ → g < K2
  lb : ∀ g, ob = some ⟨g, 0, none⟩ → g < K2
  lm : ∀ g, vl.ownBlock = some g → vm.ownBlock ≠ some g
theorem LA.step {w W W' : World} {ga gb K2 K3 : Nat} {st : Int} {vs : List W3} {oa ob : Option Addr} {vl vm : Value} {xs ys : List (Int × Value)} {cs : List (Int × List W3)} (h : LA w W ga gb K2 K3 st vs oa ob vl vm xs ys cs) (hb : Below W.heap.size W W') : LA w W' ga gb K2 K3 st vs oa ob vl vm xs ys cs :=
  ⟨h.two.step hb, h.a.later hb, h.b.later hb, h.owa.same (fun k hk _ => hb.block k hk), h.owb.same (fun k hk _ => hb.block k hk), h.rg, h.fl, h.fm, h.ab, h.la, h.lb, h.lm⟩
set_option maxHeartbeats 1600000 in
/-- The two readings and the two bodies, put together. -/
theorem LA.make {w w1 w2 w3 w4 : World} {st : Int} {vs : List W3} {oa ob lo mo : Option Addr} {lc mc : Nat} {xs ys : List (Int × Value)} {cs : List (Int × List W3)}
    (hb1 : Below w.heap.size w w1) (ha : ownW w1 w.heap.size (.slice oa vs.length vs.length) vs)
    (hb2 : Below (w1.alloc (.cells #[.int .u64 st, .slice oa vs.length vs.length] 25)).heap.size (w1.alloc (.cells #[.int .u64 st, .slice oa vs.length vs.length] 25)) w2) (hob : ownW w2 (w1.alloc (.cells #[.int .u64 st, .slice oa vs.length vs.length] 25)).heap.size (.slice ob vs.length vs.length) vs)
    (hb3 : Below (w2.alloc (.cells #[.int .u64 st, .slice ob vs.length vs.length] 25)).heap.size (w2.alloc (.cells #[.int .u64 st, .slice ob vs.length vs.length] 25)) w3) (hol : ownC w3 (w2.alloc (.cells #[.int .u64 st, .slice ob vs.length vs.length] 25)).heap.size (.slice lo cs.length lc) xs) (hcl : CsIn w3 (w2.alloc (.cells #[.int .u64 st, .slice ob vs.length vs.length] 25)).heap.size xs cs) (hfl : FulD xs cs)
    (hb4 : Below w3.heap.size w3 w4) (hom : ownC w4 w3.heap.size (.slice mo cs.length mc) ys) (hcm : CsIn w4 w3.heap.size ys cs) (hfm : FulD ys cs) :
    LA w w4 w1.heap.size w2.heap.size (w2.heap.size + 1) w3.heap.size st vs oa ob (.slice lo cs.length lc) (.slice mo cs.length mc) xs ys cs := by
  have s1 := hb1.size
  have e1 : (w1.alloc (.cells #[.int .u64 st, .slice oa vs.length vs.length] 25)).heap.size = w1.heap.size + 1 := sizeAl _ _
  have e2 : (w2.alloc (.cells #[.int .u64 st, .slice ob vs.length vs.length] 25)).heap.size = w2.heap.size + 1 := sizeAl _ _
  have a1 := alB w1 (.cells #[.int .u64 st, .slice oa vs.length vs.length] 25)
  have a2 := alB w2 (.cells #[.int .u64 st, .slice ob vs.length vs.length] 25)
  have s2 := hb2.size
  have s3 := hb3.size
  have s4 := hb4.size
  have c12 : Below w1.heap.size w1 w2 := a1.trans (hb2.mono (by omega))
  have c23 : Below w2.heap.size w2 w3 := a2.trans (hb3.mono (by omega))
  have c14 : Below w1.heap.size w1 w4 := (c12.trans (c23.mono (by omega))).trans (hb4.mono (by omega))
  have c24 : Below w2.heap.size w2 w4 := c23.trans (hb4.mono (by omega))
  have kC : ∀ u us, ownC w3 w.heap.size u us → ownC w4 w.heap.size u us := fun u us h => h.same (fun k hk _ => hb4.block k hk)
  have kW : ∀ u us, ownW w3 w.heap.size u us → ownW w4 w.heap.size u us := fun u us h => h.same (fun k hk _ => hb4.block k hk)
  refine ⟨⟨hb1.trans (c14.mono s1), kC _ _ (hol.base (by omega)), (hcl.keep (fun u us h => h.base (by omega))).keep kW, hom.base (by omega), hcm.keep (fun u us h => h.base (by omega))⟩, ?_, ?_, ha.same (fun k hk _ => c14.block k hk), ?_, ⟨?_, ?_⟩, hfl, hfm, ?_, ?_, ?_, ?_⟩
  · refine (show Wc2 w2 w1.heap.size _ _ from (hb2.block w1.heap.size (by omega)).trans (heap_alloc_new w1 _)).later (c24)
  · exact (show Wc2 w3 w2.heap.size _ _ from (hb3.block w2.heap.size (by omega)).trans (heap_alloc_new w2 _)).later hb4
  · exact (hob.base (by omega)).same (fun k hk _ => c24.block k hk)
  · intro j h g hg
    have := World.ownsRow.lt ((hcl.at j h (by rw [← hcl.1]; exact h)).2) g hg
    omega
  · intro j h g hg
    have := World.ownsRow.lt ((hcm.at j h (by rw [← hcm.1]; exact h)).2) g hg
    omega
  · intro g hg hg2
    have h1 := World.ownsRow.lt ha g (by rw [hg]; rfl)
    have h2 := World.ownsRow.lt hob g (by rw [hg2]; rfl)
    omega
  · intro g hg
    have h1 := World.ownsRow.lt ha g (by rw [hg]; rfl)
    omega
  · intro g hg
    have h1 := World.ownsRow.lt hob g (by rw [hg]; rfl)
    omega
  · intro g hg hg2
    have h1 := World.ownsRow.lt hol g hg
    have h2 := World.ownsRow.lt hom g hg2
    omega
theorem LA.start {w W : World} {ga gb K2 K3 : Nat} {st : Int} {vs : List W3} {oa ob : Option Addr} {vl vm : Value} {xs ys : List (Int × Value)} {cs : List (Int × List W3)} (h : LA w W ga gb K2 K3 st vs oa ob vl vm xs ys cs) (hv : vs.length ≤ 128) :
    LS w (W.alloc (.cells #[.slice oa vs.length vs.length, .slice ob vs.length vs.length] 23)) K2 0 vl vm (.slice (some ⟨W.heap.size, 0, none⟩) 2 2) xs ys cs [(oa, vs), (ob, vs)] := by
  have h' := h.step (alB W (.cells #[.slice oa vs.length vs.length, .slice ob vs.length vs.length] 23))
  refine ⟨h'.two, builtW W _ _ _ h.two.bel.size, ⟨fun r hr => ?_, ?_, fun r hr g hg => ?_⟩, rfl⟩
  · simp only [List.mem_cons, List.not_mem_nil, or_false] at hr
    rcases hr with rfl | rfl
    · exact ⟨h'.owa, hv⟩
    · exact ⟨h'.owb, hv⟩
  · simp only [List.pairwise_cons, List.mem_cons, List.not_mem_nil, or_false, forall_eq, List.Pairwise.nil, and_true, false_imp_iff, implies_true]
    exact h.ab
  · simp only [List.mem_cons, List.not_mem_nil, or_false] at hr
    rcases hr with rfl | rfl
    · exact .inl (h.la g hg)
    · exact .inl (h.lb g hg)
theorem FulD.at {xs : List (Int × Value)} {cs : List (Int × List W3)} (h : FulD xs cs) (i : Nat) (hi : i < xs.length) (hj : i < cs.length) : FullW xs[i].2 cs[i].2 :=
  h.full (xs[i], cs[i]) (by
    rw [List.mem_iff_getElem]
    exact ⟨i, by simp [List.length_zip]; omega, by simp⟩)
/-- The cells of the two commits at a place. -/
def CellsAt (W : World) (g h i : Nat) (st : Int) (x y : Value) : Prop := W.cell? ⟨g, i * 2, none⟩ = some (.int .u64 st) ∧ W.cell? ⟨g, i * 2 + 1, none⟩ = some x ∧ W.cell? ⟨h, i * 2, none⟩ = some (.int .u64 st) ∧ W.cell? ⟨h, i * 2 + 1, none⟩ = some y
theorem TwoC.cells {w W : World} {lo mo : Option Addr} {n lc mc : Nat} {xs ys : List (Int × Value)} {cs : List (Int × List W3)} (h : TwoC w W (.slice lo n lc) (.slice mo n mc) xs ys cs) (i : Nat) (hi : i < cs.length) (st : Int) (x y : Value) (hx1 : i < xs.length) (hy1 : i < ys.length) (es : cs[i].1 = st) (ex : xs[i].2 = x) (ey : ys[i].2 = y) :
    ∃ g k, lo = some ⟨g, 0, none⟩ ∧ mo = some ⟨k, 0, none⟩ ∧ g < W.heap.size ∧ k < W.heap.size ∧ CellsAt W g k i st x y := by
  obtain ⟨g, e1, hg, p0, p1⟩ := h.ov.at i hx1
  obtain ⟨k, e2, hk, q0, q1⟩ := h.ou.at i hy1
  rw [(h.cv.at i hx1 hi).1, es] at p0
  rw [(h.cu.at i hy1 hi).1, es] at q0
  rw [ex] at p1
  rw [ey] at q1
  exact ⟨g, k, e1, e2, hg, hk, p0, p1, q0, q1⟩
def spR (rl : RL) (j : Nat) : Option Addr := (rl.getD j (none, [])).1
def coR (rl : RL) (j : Nat) : List W3 := (rl.getD j (none, [])).2
def nsR (rl : RL) (j : Nat) : Nat := (coR rl j).length
theorem getR {rl : RL} {j : Nat} (h : j < rl.length) : rl.getD j (none, []) = rl[j] := by simp [List.getD_eq_getElem?_getD, List.getElem?_eq_getElem h]
/-- The gathered rows, as apartWrites wants them. -/
theorem LS.ready {w W : World} {K2 i wc : Nat} {vl vm : Value} {wo : Option Addr} {xs ys : List (Int × Value)} {cs : List (Int × List W3)} {rl : RL} (h : LS w W K2 i vl vm (.slice wo (2 + 2 * i) wc) xs ys cs rl) (hi : i ≤ 1048577) :
    ∃ gw, wo = some ⟨gw, 0, none⟩ ∧ RW W w.heap.size (2 + 2 * i) gw (spR rl) (nsR rl) ∧ PW W W w.heap.size (2 + 2 * i) (spR rl) (nsR rl) (coR rl) := by
  have hl := h.len
  obtain ⟨ao, cap, hv, _, hc⟩ := h.row.form
  simp only [Value.slice.injEq] at hv
  obtain ⟨rfl, _, _⟩ := hv
  obtain ⟨gw, hgw, _⟩ := hc 0 (by rw [List.length_map]; omega)
  have hrow : ∀ j, j < 2 + 2 * i → ownW W w.heap.size (rowV (spR rl) (nsR rl) j) (coR rl j) ∧ (coR rl j).length ≤ 128 := fun j hj => by
    have hm : rl.getD j (none, []) ∈ rl := by rw [getR (by omega)]; exact List.getElem_mem _
    exact h.rls.own _ hm
  refine ⟨gw, hgw, ⟨fun j hj => ?_, ?_, fun a b g ha hb hne hg => ?_, fun j g hj hg => ?_, fun j hj => (hrow j hj).2, by omega⟩, ⟨Below.refl _ _, fun _ _ _ => rfl, fun j hj => (hrow j hj).1, fun _ _ => rfl⟩⟩
  · obtain ⟨g2, hg2, c⟩ := hc j (by rw [List.length_map]; omega)
    have : gw = g2 := by rw [hgw] at hg2; simpa using hg2
    subst this
    rw [c, List.getElem_map]
    unfold rowV spR nsR coR
    rw [getR (by omega)]
    rfl
  · exact (World.ownsRow.lt h.row gw (by rw [hgw]; rfl)).2
  · have hp := List.pairwise_iff_getElem.1 h.rls.pw
    unfold spR at hg ⊢
    rw [getR (by omega)] at hg ⊢
    rcases Nat.lt_or_ge a b with hab | hab
    · exact hp a b (by omega) (by omega) hab g hg
    · intro e
      exact hp b a (by omega) (by omega) (by omega) g e hg
  · intro e
    subst e
    rcases rows_neC (hrow j hj).1 h.row (by decide) with e2 | e2
    · unfold rowV at e2; rw [hg] at e2; cases e2
    · exact e2 (by unfold rowV; rw [hg, hgw]; rfl)
/-- Behind apartWrites the lists of commits are as they were: as apartCommits wants them. -/
theorem LS.after {w W W' : World} {K2 i lc mc : Nat} {lo mo : Option Addr} {wv : Value} {xs ys : List (Int × Value)} {cs : List (Int × List W3)} {rl : RL} (h : LS w W K2 i (.slice lo cs.length lc) (.slice mo cs.length mc) wv xs ys cs rl)
    (hb : Below w.heap.size W W') (hoth : ∀ k, k < W.heap.size → (∀ j, j < 2 + 2 * i → ∀ g, spR rl j = some ⟨g, 0, none⟩ → g ≠ k) → W'.heap[k]? = W.heap[k]?) (hlm : ∀ g, (Value.slice lo cs.length lc).ownBlock = some g → (Value.slice mo cs.length mc).ownBlock ≠ some g) (hcl : cs.length ≤ 1048577) :
    RC2 (W'.alloc (.cells #[.slice lo cs.length lc, .slice mo cs.length mc] 33)) w.heap.size 2 W'.heap.size (fun j => if j = 0 then lo else mo) (fun _ => cs.length) (fun j => if j = 0 then lc else mc) ∧
    PC (W'.alloc (.cells #[.slice lo cs.length lc, .slice mo cs.length mc] 33)) (W'.alloc (.cells #[.slice lo cs.length lc, .slice mo cs.length mc] 33)) w.heap.size 2 (fun j => if j = 0 then lo else mo) (fun _ => cs.length) (fun j => if j = 0 then lc else mc) (fun j => if j = 0 then xs else ys) ∧
    w.heap.size ≤ (W'.alloc (.cells #[.slice lo cs.length lc, .slice mo cs.length mc] 33)).heap.size ∧ Below w.heap.size w (W'.alloc (.cells #[.slice lo cs.length lc, .slice mo cs.length mc] 33)) := by
  have hl := h.len
  have hal := alB W' (.cells #[.slice lo cs.length lc, .slice mo cs.length mc] 33)
  have hbw : Below w.heap.size w W' := h.two.bel.trans hb
  have kC : ∀ u us, ownC W w.heap.size u us → ownC W' w.heap.size u us := fun u us hu => hu.keepB (fun b hb2 => hoth b (World.ownsRow.lt hu b hb2).2 (fun j hj g hg e => by
    subst e
    have hm : rl.getD j (none, []) ∈ rl := by rw [getR (by omega)]; exact List.getElem_mem _
    have ho := (h.rls.own _ hm).1
    rcases rows_neC ho hu (by decide) with e2 | e2
    · unfold valR at e2; rw [show (rl.getD j (none, [])).1 = some ⟨g, 0, none⟩ from hg] at e2; cases e2
    · exact e2 (by unfold valR; rw [show (rl.getD j (none, [])).1 = some ⟨g, 0, none⟩ from hg, hb2]; rfl)))
  have ol := kC _ _ h.two.ov
  have om := kC _ _ h.two.ou
  have ll : ∀ g, lo = some ⟨g, 0, none⟩ → g < W'.heap.size := fun g hg => (World.ownsRow.lt ol g (by rw [hg]; rfl)).2
  have lm : ∀ g, mo = some ⟨g, 0, none⟩ → g < W'.heap.size := fun g hg => (World.ownsRow.lt om g (by rw [hg]; rfl)).2
  have two : ∀ j, j < 2 → j = 0 ∨ j = 1 := fun j hj => by omega
  refine ⟨⟨fun j hj => ?_, by rw [sizeAl]; omega, fun a b g ha hb2 hne hg hg2 => ?_, fun j g hj hg e => ?_, fun _ _ => hcl, by omega⟩, ⟨Below.refl _ _, fun _ _ _ => rfl, fun j hj => ?_, fun j hj => ?_⟩, Nat.le_trans hbw.size hal.size, hbw.alloc hbw.size _⟩
  · rcases two j hj with rfl | rfl
    · simp [rowC, go_sem]
    · simp [rowC, go_sem]
  · rcases two a ha with rfl | rfl
    · rcases two b hb2 with rfl | rfl
      · exact hne rfl
      · simp only [if_true, Nat.one_ne_zero, if_false] at hg hg2
        exact hlm g (by rw [hg]; rfl) (by rw [hg2]; rfl)
    · rcases two b hb2 with rfl | rfl
      · simp only [if_true, Nat.one_ne_zero, if_false] at hg hg2
        exact hlm g (by rw [hg2]; rfl) (by rw [hg]; rfl)
      · exact hne rfl
  · rcases two j hj with rfl | rfl
    · simp only [if_true] at hg; have := ll g hg; omega
    · simp only [Nat.one_ne_zero, if_false] at hg; have := lm g hg; omega
  · rcases two j hj with rfl | rfl
    · exact ol.same (fun k hk _ => hal.block k hk)
    · exact om.same (fun k hk _ => hal.block k hk)
  · rcases two j hj with rfl | rfl
    · exact h.two.cv.1
    · exact h.two.cu.1
set_option maxHeartbeats 6400000 in
theorem lent_walk (s : ByteArray) (w : World) (hs : s.size ≤ 1048576) : Calls Try.prog 4 #[.string s] w fun e w' => e = .returned (.bool true) ∧ Below w.heap.size w w' := by
  have HD := fun W => decU s W hs
  have HE := fun W => rdecU s W hs
  have HF := fun W => frmU s W hs
  have HG := fun W => rfrmU s W hs
  have hdl := dV_len s
  have hfl := fV_len s hs
  have hfs := fV_small s
  generalize dS s = st at *
  generalize dE s = de at *
  generalize dV s = vs at *
  generalize fE s = fe at *
  generalize fV s = cs at *
  have HDh : Hid (∀ W, _) := HD
  have HEh : Hid (∀ W, _) := HE
  have HFh : Hid (∀ W, _) := HF
  have HGh : Hid (∀ W, _) := HG
  have HSm : Hid (∀ c ∈ cs, c.2.length ≤ 128) := hfs
  clear HD HE HF HG hfs
  go_enter Try.func4, Try.ntmps4
  go_wp2_with fail
  refine (HDh.out _).mono ?_
  rintro e w1 ⟨oa, rfl, ha, hsa, hb1⟩
  have H1 : Hid (Below w.heap.size w w1 ∧ ownW w1 w.heap.size (.slice oa vs.length vs.length) vs) := ⟨hb1, ha⟩
  clear ha hb1 hsa
  go_wp2_with fail
  refine (HDh.out _).mono ?_
  rintro e w2 ⟨ob, rfl, hob, hsb, hb2⟩
  have H2 : Hid (Below (w1.alloc (.cells #[.int .u64 st, .slice oa vs.length vs.length] 25)).heap.size (w1.alloc (.cells #[.int .u64 st, .slice oa vs.length vs.length] 25)) w2 ∧ ownW w2 (w1.alloc (.cells #[.int .u64 st, .slice oa vs.length vs.length] 25)).heap.size (.slice ob vs.length vs.length) vs) := ⟨hb2, hob⟩
  clear hob hb2 hsb
  go_wp2_with fail
  refine (HFh.out _).mono ?_
  rintro e w3 ⟨lo, lc, xs, rfl, hol, hcl, hffl, hb3⟩
  have H3 : Hid (Below (w2.alloc (.cells #[.int .u64 st, .slice ob vs.length vs.length] 25)).heap.size (w2.alloc (.cells #[.int .u64 st, .slice ob vs.length vs.length] 25)) w3 ∧ ownC w3 (w2.alloc (.cells #[.int .u64 st, .slice ob vs.length vs.length] 25)).heap.size (.slice lo cs.length lc) xs ∧ CsIn w3 (w2.alloc (.cells #[.int .u64 st, .slice ob vs.length vs.length] 25)).heap.size xs cs ∧ FulD xs cs) := ⟨hb3, hol, hcl, hffl⟩
  clear hb3 hol hcl hffl
  go_wp2_with fail
  refine (HFh.out _).mono ?_
  rintro e w4 ⟨mo, mc, ys, rfl, hom, hcm, hffm, hb4⟩
  have hLA := LA.make H1.out.1 H1.out.2 H2.out.1 H2.out.2 H3.out.1 H3.out.2.1 H3.out.2.2.1 H3.out.2.2.2 hb4 hom hcm hffm
  have HL : Hid (LA w w4 w1.heap.size w2.heap.size (w2.heap.size + 1) w3.heap.size st vs oa ob (.slice lo cs.length lc) (.slice mo cs.length mc) xs ys cs) := hLA
  have a0 := hLA.a.c0
  have a1 := hLA.a.c1
  have b0 := hLA.b.c0
  have b1 := hLA.b.c1
  have hS := sameC_any st st (.slice oa vs.length vs.length) (.slice ob vs.length vs.length) vs vs _ _ (Nat.le_refl _) (hLA.owa.seesAll (by omega)) (hLA.owb.seesAll (by omega))
  rw [decide_eq_true (⟨rfl, rfl⟩ : st = st ∧ vs = vs)] at hS
  have HS : Hid (∀ _ : Unit, _) := fun _ => hS
  clear hS hLA hom hcm hffm hb4 H1 H2 H3
  generalize w1.heap.size = ga at *
  generalize w2.heap.size = gb at *
  generalize w3.heap.size = K3 at *
  go_wp2_with fail
  refine (HS.out ()).mono ?_
  rintro e w5 ⟨rfl, hb5⟩
  have hL5 := HL.out.step hb5
  have HL5 : Hid (LA w w5 ga gb (gb + 1) K3 st vs oa ob (.slice lo cs.length lc) (.slice mo cs.length mc) xs ys cs) := hL5
  have HS0 : Hid _ := hL5.start hdl
  clear a0 a1 b0 b1 HS HL hb5
  have a1 := hL5.a.c1
  have b1 := hL5.b.c1
  clear hL5
  go_wp2_with fail
  generalize w5.alloc (.cells #[.slice oa vs.length vs.length, .slice ob vs.length vs.length] 23) = WX at *
  generalize w5.heap.size = gx5 at *
  have HK : Hid (Rg (gb + 1) K3 xs ys ∧ FulD xs cs ∧ FulD ys cs ∧ (∀ g, (Value.slice lo cs.length lc).ownBlock = some g → (Value.slice mo cs.length mc).ownBlock ≠ some g)) := ⟨HL5.out.rg, HL5.out.fl, HL5.out.fm, HL5.out.lm⟩
  clear HL5 a1 b1
  go_loopw [12, 13] (fun wv x wr => ∃ (i : Nat) (rl : RL), i ≤ cs.length ∧ x = .int .i64 i ∧ LS w wr (gb + 1) i (.slice lo cs.length lc) (.slice mo cs.length mc) wv xs ys cs rl) (fun _ x _ => cs.length - (intOf x).toNat)
  case atStart => exact ⟨0, _, Nat.zero_le _, rfl, HS0.out⟩
  case round =>
    obtain ⟨i, rl, hi, rfl, hLS⟩ := hrel
    obtain ⟨wo, wc, hwv, hwc, hwcells⟩ := hLS.row.form
    rw [List.length_map, hLS.len] at hwv hwc
    subst hwv
    have HLS : Hid (LS w wr (gb + 1) i (.slice lo cs.length lc) (.slice mo cs.length mc) (.slice wo (2 + 2 * i) wc) xs ys cs rl) := hLS
    have HWc : Hid (∀ j (hj : j < (rl.map valR).length), ∃ g, wo = some ⟨g, 0, none⟩ ∧ wr.cell? ⟨g, j, none⟩ = some (rl.map valR)[j]) := hwcells
    clear hLS hwcells HS0
    by_cases hlt : i < cs.length
    · have hx1 : i < xs.length := by rw [HLS.out.two.cv.1]; exact hlt
      have hy1 : i < ys.length := by rw [HLS.out.two.cu.1]; exact hlt
      obtain ⟨gx, ex⟩ := HK.out.2.1.at i hx1 hlt
      obtain ⟨gy, ey⟩ := HK.out.2.2.1.at i hy1 hlt
      have hul := HSm.out _ (List.getElem_mem hlt)
      obtain ⟨g, h, hlo, hmo, hgl, hhl, hcells⟩ := HLS.out.two.cells i hlt _ _ _ hx1 hy1 rfl ex ey
      have o1 := (HLS.out.two.cv.at i hx1 hlt).2
      have o2 := (HLS.out.two.cu.at i hy1 hlt).2
      rw [ex] at o1
      rw [ey] at o2
      have hS := sameC_any cs[i].1 cs[i].1 _ _ cs[i].2 cs[i].2 wr.drew.heap.size wr.drew (Nat.le_refl _) (o1.drew.seesAll (by omega)) (o2.drew.seesAll (by omega))
      rw [decide_eq_true (⟨rfl, rfl⟩ : cs[i].1 = cs[i].1 ∧ cs[i].2 = cs[i].2)] at hS
      have HS : Hid (∀ _ : Unit, _) := fun _ => hS
      have HX : Hid ((∀ h : i < xs.length, xs[i].2 = valR (some ⟨gx, 0, none⟩, cs[i].2)) ∧ (∀ h : i < ys.length, ys[i].2 = valR (some ⟨gy, 0, none⟩, cs[i].2)) ∧ cs[i].2.length ≤ 128 ∧ i < xs.length ∧ i < ys.length) := ⟨fun _ => ex, fun _ => ey, hul, hx1, hy1⟩
      have HO12 : Hid (ownW wr w.heap.size (valR (some ⟨gx, 0, none⟩, cs[i].2)) cs[i].2 ∧ ownW wr w.heap.size (valR (some ⟨gy, 0, none⟩, cs[i].2)) cs[i].2) := ⟨o1, o2⟩
      have HES : Hid (∃ s0, cs[i].1 = s0) := ⟨_, rfl⟩
      clear hS o1 o2 ex ey hul hx1 hy1
      subst hlo
      subst hmo
      have hc0 := hcells
      unfold CellsAt at hc0
      have HCL : Hid (CellsAt wr g h i cs[i].1 (.slice (some ⟨gx, 0, none⟩) cs[i].2.length cs[i].2.length) (.slice (some ⟨gy, 0, none⟩) cs[i].2.length cs[i].2.length)) := hcells
      clear hcells
      generalize cs[i].1 = st1 at *
      generalize cs[i].2 = us1 at *
      obtain ⟨p0, p1, q0, q1⟩ := hc0
      go_wp2_with fail
      (refine wp_region_held_drew (S := (fun W => W.cell? ⟨g, i * 2, none⟩ = some (.int .u64 st1) ∧ W.cell? ⟨g, i * 2 + 1, none⟩ = some (.slice (some ⟨gx, 0, none⟩) us1.length us1.length) ∧ W.cell? ⟨h, i * 2, none⟩ = some (.int .u64 st1) ∧ W.cell? ⟨h, i * 2 + 1, none⟩ = some (.slice (some ⟨gy, 0, none⟩) us1.length us1.length))) (by kernel_rfl) ⟨p0, p1, q0, q1⟩ (fun hHeld => ?_); simp only [List.size_toArray, List.length_cons, List.length_nil, Nat.reduceAdd, Array.replicate_succ, Array.replicate_zero, List.push_toArray, List.append_toArray, List.nil_append, List.cons_append])
      (refine tk0 (v := ?_) (by kernel_rfl) (by kernel_rfl) (by kernel_rfl) (fun _ _ _ h => h) (Or.inl ⟨by rfl, ?_⟩) (by assumption) ?_; rotate_left; (focus (intro w hSw; (try dsimp only at hSw); go_simp; (try first | (rw [dif_pos (by omega)]; simp only [Result.andThen_ok]) | rw [if_pos (by omega)]); (try with_reducible rfl); done)); try simp only [Act.put, List.setIfInBounds_toArray, List.set_cons_zero, List.set_cons_succ])
      (refine tk1 (v := ?_) (by kernel_rfl) (by kernel_rfl) (by kernel_rfl) (fun _ _ _ h => h) (Or.inl ⟨by rfl, ?_⟩) (by assumption) ?_; rotate_left; (focus (intro w hSw; (try dsimp only at hSw); go_simp; (try first | (rw [dif_pos (by omega)]; simp only [Result.andThen_ok]) | rw [if_pos (by omega)]); (try with_reducible rfl); done)); try simp only [Act.put, List.setIfInBounds_toArray, List.set_cons_zero, List.set_cons_succ])
      (refine tk2 (v := ?_) (by kernel_rfl) (by kernel_rfl) (by kernel_rfl) (fun _ _ _ h => h) (Or.inl ⟨by rfl, ?_⟩) (by assumption) ?_; rotate_left; (focus (intro w hSw; (try dsimp only at hSw); go_simp; (try first | (rw [dif_pos (by omega)]; simp only [Result.andThen_ok]) | rw [if_pos (by omega)]); (try with_reducible rfl); done)); try simp only [Act.put, List.setIfInBounds_toArray, List.set_cons_zero, List.set_cons_succ])
      (refine tk3 (v := ?_) (by kernel_rfl) (by kernel_rfl) (by kernel_rfl) (fun _ _ _ h => h) (Or.inl ⟨by rfl, ?_⟩) (by assumption) ?_; rotate_left; (focus (intro w hSw; (try dsimp only at hSw); go_simp; (try first | (rw [dif_pos (by omega)]; simp only [Result.andThen_ok]) | rw [if_pos (by omega)]); (try with_reducible rfl); done)); try simp only [Act.put, List.setIfInBounds_toArray, List.set_cons_zero, List.set_cons_succ])
      (refine tk4 (v := ?_) (by kernel_rfl) (by kernel_rfl) (by kernel_rfl) (fun _ _ _ h => h) (Or.inl ⟨by rfl, ?_⟩) (by assumption) ?_; rotate_left; (focus (intro w hSw; (try dsimp only at hSw); go_simp; (try first | (rw [dif_pos (by omega)]; simp only [Result.andThen_ok]) | rw [if_pos (by omega)]); (try with_reducible rfl); done)); try simp only [Act.put, List.setIfInBounds_toArray, List.set_cons_zero, List.set_cons_succ])
      (refine tk5 (v := ?_) (by kernel_rfl) (by kernel_rfl) (by kernel_rfl) (fun _ _ _ h => h) (Or.inl ⟨by rfl, ?_⟩) (by assumption) ?_; rotate_left; (focus (intro w hSw; (try dsimp only at hSw); go_simp; (try first | (rw [dif_pos (by omega)]; simp only [Result.andThen_ok]) | rw [if_pos (by omega)]); (try with_reducible rfl); done)); try simp only [Act.put, List.setIfInBounds_toArray, List.set_cons_zero, List.set_cons_succ])
      (refine tk6 (v := ?_) (by kernel_rfl) (by kernel_rfl) (by kernel_rfl) (fun _ _ _ h => h) (Or.inl ⟨by rfl, ?_⟩) (by assumption) ?_; rotate_left; (focus (intro w hSw; (try dsimp only at hSw); go_simp; (try first | (rw [dif_pos (by omega)]; simp only [Result.andThen_ok]) | rw [if_pos (by omega)]); (try with_reducible rfl); done)); try simp only [Act.put, List.setIfInBounds_toArray, List.set_cons_zero, List.set_cons_succ])
      (refine tk7 (v := ?_) (by kernel_rfl) (by kernel_rfl) (by kernel_rfl) (fun _ _ _ h => h) (Or.inl ⟨by rfl, ?_⟩) (by assumption) ?_; rotate_left; (focus (intro w hSw; (try dsimp only at hSw); go_simp; (try first | (rw [dif_pos (by omega)]; simp only [Result.andThen_ok]) | rw [if_pos (by omega)]); (try with_reducible rfl); done)); try simp only [Act.put, List.setIfInBounds_toArray, List.set_cons_zero, List.set_cons_succ])
      (refine wpAnyH_ready (rs := [8]) (by kernel_rfl) (by simp) ?_; refine ar8 (fun K hK => ?_) AllReadyH.nil; go_simp)
      refine (HS.out ()).mono ?_
      rintro e w8 ⟨rfl, hb8⟩
      have hbd : Below wr.heap.size wr w8 := (Below.refl wr.heap.size wr).drew.trans hb8
      have hL8 := HLS.out.step hbd
      have HO8 : Hid (ownW w8 w.heap.size (valR (some ⟨gx, 0, none⟩, us1)) us1 ∧ ownW w8 w.heap.size (valR (some ⟨gy, 0, none⟩, us1)) us1) := ⟨HO12.out.1.same (fun k hk _ => hbd.block k hk), HO12.out.2.same (fun k hk _ => hbd.block k hk)⟩
      have r0 := (hbd.cell (p := ⟨g, i * 2, none⟩) hgl).trans p0
      have r1 := (hbd.cell (p := ⟨g, i * 2 + 1, none⟩) hgl).trans p1
      have r2 := (hbd.cell (p := ⟨h, i * 2, none⟩) hhl).trans q0
      have r3 := (hbd.cell (p := ⟨h, i * 2 + 1, none⟩) hhl).trans q1
      have hg8 : g < w8.heap.size := Nat.lt_of_lt_of_le hgl hbd.size
      have hh8 : h < w8.heap.size := Nat.lt_of_lt_of_le hhl hbd.size
      have HL8 : Hid _ := hL8
      clear hb8 hbd hL8 p0 p1 q0 q1 hgl hhl HS HO12 HCL HLS HWc
      go_wp2_with fail
      (refine hK.out _ _ ⟨r0, r1, r2, r3⟩ (fun hHeld => ?_); clear hK K; try simp only [Act.put, List.setIfInBounds_toArray, List.set_cons_zero, List.set_cons_succ])
      (refine tk9 (v := ?_) (by kernel_rfl) (by kernel_rfl) (by kernel_rfl) (fun _ _ _ h => h) (Or.inl ⟨by rfl, ?_⟩) (by assumption) ?_; rotate_left; (focus (intro w hSw; (try dsimp only at hSw); go_simp; (try first | (rw [dif_pos (by omega)]; simp only [Result.andThen_ok]) | rw [if_pos (by omega)]); (try with_reducible rfl); done)); try simp only [Act.put, List.setIfInBounds_toArray, List.set_cons_zero, List.set_cons_succ])
      refine wpAnyH_done (by kernel_rfl) ?_ _
      go_wp2_with fail
      have HLd : Hid (LS w w8.drew (gb + 1) i (.slice (some ⟨g, 0, none⟩) cs.length lc) (.slice (some ⟨h, 0, none⟩) cs.length mc) (.slice wo (2 + 2 * i) wc) xs ys cs rl) := HL8.out.step (Below.refl _ _).drew
      have HOd : Hid (ownW w8.drew w.heap.size (valR (some ⟨gx, 0, none⟩, us1)) us1 ∧ ownW w8.drew w.heap.size (valR (some ⟨gy, 0, none⟩, us1)) us1) := ⟨HO8.out.1.drew, HO8.out.2.drew⟩
      have HLn : Hid ((rl.map valR).length ≤ 4398046511104) := by show _ ≤ _; rw [List.length_map, HL8.out.len]; omega
      (refine wp_region_held_drew (S := (fun W => W.cell? ⟨g, i * 2 + 1, none⟩ = some (.slice (some ⟨gx, 0, none⟩) us1.length us1.length) ∧ W.cell? ⟨h, i * 2 + 1, none⟩ = some (.slice (some ⟨gy, 0, none⟩) us1.length us1.length))) (by kernel_rfl) ⟨r1, r3⟩ (fun hHeld => ?_); simp only [List.size_toArray, List.length_cons, List.length_nil, Nat.reduceAdd, Array.replicate_succ, Array.replicate_zero, List.push_toArray, List.append_toArray, List.nil_append, List.cons_append])
      (refine tk0 (v := ?_) (by kernel_rfl) (by kernel_rfl) (by kernel_rfl) (fun _ _ _ h => h) (Or.inl ⟨by rfl, ?_⟩) (by assumption) ?_; rotate_left; (focus (intro w hSw; (try dsimp only at hSw); go_simp; (try first | (rw [dif_pos (by omega)]; simp only [Result.andThen_ok]) | rw [if_pos (by omega)]); (try with_reducible rfl); done)); try simp only [Act.put, List.setIfInBounds_toArray, List.set_cons_zero, List.set_cons_succ])
      (refine tk1 (v := ?_) (by kernel_rfl) (by kernel_rfl) (by kernel_rfl) (fun _ _ _ h => h) (Or.inl ⟨by rfl, ?_⟩) (by assumption) ?_; rotate_left; (focus (intro w hSw; (try dsimp only at hSw); go_simp; (try first | (rw [dif_pos (by omega)]; simp only [Result.andThen_ok]) | rw [if_pos (by omega)]); (try with_reducible rfl); done)); try simp only [Act.put, List.setIfInBounds_toArray, List.set_cons_zero, List.set_cons_succ])
      (refine tk2 (v := ?_) (by kernel_rfl) (by kernel_rfl) (by kernel_rfl) (fun _ _ _ h => h) (Or.inl ⟨by rfl, ?_⟩) (by assumption) ?_; rotate_left; (focus (intro w hSw; (try dsimp only at hSw); go_simp; (try first | (rw [dif_pos (by omega)]; simp only [Result.andThen_ok]) | rw [if_pos (by omega)]); (try with_reducible rfl); done)); try simp only [Act.put, List.setIfInBounds_toArray, List.set_cons_zero, List.set_cons_succ])
      (refine tk3 (v := ?_) (by kernel_rfl) (by kernel_rfl) (by kernel_rfl) (fun _ _ _ h => h) (Or.inl ⟨by rfl, ?_⟩) (by assumption) ?_; rotate_left; (focus (intro w hSw; (try dsimp only at hSw); go_simp; (try first | (rw [dif_pos (by omega)]; simp only [Result.andThen_ok]) | rw [if_pos (by omega)]); (try with_reducible rfl); done)); try simp only [Act.put, List.setIfInBounds_toArray, List.set_cons_zero, List.set_cons_succ])
      (refine tk4 (v := ?_) (by kernel_rfl) (by kernel_rfl) (by kernel_rfl) (fun _ _ _ h => h) (Or.inl ⟨by rfl, ?_⟩) (by assumption) ?_; rotate_left; (focus (intro w hSw; (try dsimp only at hSw); go_simp; (try first | (rw [dif_pos (by omega)]; simp only [Result.andThen_ok]) | rw [if_pos (by omega)]); (try with_reducible rfl); done)); try simp only [Act.put, List.setIfInBounds_toArray, List.set_cons_zero, List.set_cons_succ])
      (refine tk5 (v := ?_) (by kernel_rfl) (by kernel_rfl) (by kernel_rfl) (fun _ _ _ h => h) (Or.inl ⟨by rfl, ?_⟩) (by assumption) ?_; rotate_left; (focus (intro w hSw; (try dsimp only at hSw); go_simp; (try first | (rw [dif_pos (by omega)]; simp only [Result.andThen_ok]) | rw [if_pos (by omega)]); (try with_reducible rfl); done)); try simp only [Act.put, List.setIfInBounds_toArray, List.set_cons_zero, List.set_cons_succ])
      (refine tk6 (v := ?_) (by kernel_rfl) (by kernel_rfl) (by kernel_rfl) (fun _ _ _ h => h) (Or.inl ⟨by rfl, ?_⟩) (by assumption) ?_; rotate_left; (focus (intro w hSw; (try dsimp only at hSw); go_simp; (try first | (rw [dif_pos (by omega)]; simp only [Result.andThen_ok]) | rw [if_pos (by omega)]); (try with_reducible rfl); done)); try simp only [Act.put, List.setIfInBounds_toArray, List.set_cons_zero, List.set_cons_succ])
      (refine tk7 (v := ?_) (by kernel_rfl) (by kernel_rfl) (by kernel_rfl) (fun _ _ _ h => h) (Or.inl ⟨by rfl, ?_⟩) (by assumption) ?_; rotate_left; (focus (intro w hSw; (try dsimp only at hSw); go_simp; (try first | (rw [dif_pos (by omega)]; simp only [Result.andThen_ok]) | rw [if_pos (by omega)]); (try with_reducible rfl); done)); try simp only [Act.put, List.setIfInBounds_toArray, List.set_cons_zero, List.set_cons_succ])
      (refine tk8 (v := ?_) (by kernel_rfl) (by kernel_rfl) (by kernel_rfl) (fun _ _ _ h => h) (Or.inl ⟨by rfl, ?_⟩) (by assumption) ?_; rotate_left; (focus (intro w hSw; (try dsimp only at hSw); go_simp; (try first | (rw [dif_pos (by omega)]; simp only [Result.andThen_ok]) | rw [if_pos (by omega)]); (try with_reducible rfl); done)); try simp only [Act.put, List.setIfInBounds_toArray, List.set_cons_zero, List.set_cons_succ])
      (refine tk9 (v := ?_) (by kernel_rfl) (by kernel_rfl) (by kernel_rfl) (fun _ _ _ h => h) (Or.inl ⟨by rfl, ?_⟩) (by assumption) ?_; rotate_left; (focus (intro w hSw; (try dsimp only at hSw); go_simp; (try first | (rw [dif_pos (by omega)]; simp only [Result.andThen_ok]) | rw [if_pos (by omega)]); (try with_reducible rfl); done)); try simp only [Act.put, List.setIfInBounds_toArray, List.set_cons_zero, List.set_cons_succ])
      (refine tk10 (v := ?_) (by kernel_rfl) (by kernel_rfl) (by kernel_rfl) (fun _ _ _ h => h) (Or.inl ⟨by rfl, ?_⟩) (by assumption) ?_; rotate_left; (focus (intro w hSw; (try dsimp only at hSw); go_simp; (try first | (rw [dif_pos (by omega)]; simp only [Result.andThen_ok]) | rw [if_pos (by omega)]); (try with_reducible rfl); done)); try simp only [Act.put, List.setIfInBounds_toArray, List.set_cons_zero, List.set_cons_succ])
      (refine wpAnyH_ready (rs := [11]) (by kernel_rfl) (by simp) ?_; refine ar11 (fun K hK => ?_) AllReadyH.nil; go_simp)
      have k1 := ((alB w8.drew (.cells #[.slice (some ⟨gx, 0, none⟩) us1.length us1.length, .slice (some ⟨gy, 0, none⟩) us1.length us1.length] 23)).cell (p := ⟨g, i * 2 + 1, none⟩) hg8).trans r1
      have k3 := ((alB w8.drew (.cells #[.slice (some ⟨gx, 0, none⟩) us1.length us1.length, .slice (some ⟨gy, 0, none⟩) us1.length us1.length] 23)).cell (p := ⟨h, i * 2 + 1, none⟩) hh8).trans r3
      (refine hK.out _ _ ⟨k1, k3⟩ (fun hHeld => ?_); clear hK K; try simp only [Act.put, List.setIfInBounds_toArray, List.set_cons_zero, List.set_cons_succ])
      (refine wpAnyH_ready (rs := [12]) (by kernel_rfl) (by simp) ?_; refine ar12 (fun K hK => ?_) AllReadyH.nil; rw [if_pos (by rfl)])
      refine app_rowWK [.slice (some ⟨gx, 0, none⟩) us1.length us1.length, .slice (some ⟨gy, 0, none⟩) us1.length us1.length] (by intro u hu; simp at hu; rcases hu with rfl | rfl <;> rfl) (by simp) (.tmp 92) (.tmp 103) (by rfl) w.heap.size _ (rl.map valR) HLd.out.row (by rfl) w8.drew.heap.size rfl (by rfl) HLn.out HLd.out.two.bel.size ?_
      intro v' w9 ho9 hb9 hoth9
      have hL9 := HLd.out.push HK.out.1 HK.out.2.1 HK.out.2.2.1 HX.out.2.2.2.1 HX.out.2.2.2.2 gx gy us1 (HX.out.1 _) (HX.out.2.1 _) HOd.out.1 HOd.out.2 HX.out.2.2.1 ho9 hb9 hoth9
      obtain ⟨g', eg, _, _, m1⟩ := hL9.two.ov.at i HX.out.2.2.2.1
      obtain ⟨h', eh, _, _, m3⟩ := hL9.two.ou.at i HX.out.2.2.2.2
      rw [HX.out.1 HX.out.2.2.2.1] at m1
      rw [HX.out.2.1 HX.out.2.2.2.2] at m3
      have eg2 : g = g' := by simpa using eg
      have eh2 : h = h' := by simpa using eh
      subst eg2
      subst eh2
      obtain ⟨wo', wc', hwv', _, _⟩ := hL9.row.form
      subst hwv'
      have HL9 : Hid _ := hL9
      clear ho9 hb9 hoth9 hL9 eg eh
      (refine hK.out _ _ ⟨m1, m3⟩ (fun hHeld => ?_); clear hK K; try simp only [Act.put, List.setIfInBounds_toArray, List.set_cons_zero, List.set_cons_succ])
      (refine tk13 (v := ?_) (by kernel_rfl) (by kernel_rfl) (by kernel_rfl) (fun _ _ _ h => h) (Or.inl ⟨by rfl, ?_⟩) (by assumption) ?_; rotate_left; (focus (intro w hSw; (try dsimp only at hSw); go_simp; (try first | (rw [dif_pos (by omega)]; simp only [Result.andThen_ok]) | rw [if_pos (by omega)]); (try with_reducible rfl); done)); try simp only [Act.put, List.setIfInBounds_toArray, List.set_cons_zero, List.set_cons_succ])
      refine wpAnyH_done (by kernel_rfl) ?_ _
      clear m1 m3 k1 k3 r0 r1 r2 r3 HLd HOd HL8 HO8
      go_wp2
      refine ⟨⟨i + 1, rl ++ [(some ⟨gx, 0, none⟩, us1), (some ⟨gy, 0, none⟩, us1)], by omega, by go_num, ?_⟩, ?_⟩
      · have h9 := HL9.out
        rw [List.length_map, List.length_append] at h9
        exact h9
      · simp [intOf]; omega
    · have hin : i = cs.length := by omega
      subst hin
      obtain ⟨gw, hwo, hRW, hPW⟩ := HLS.out.ready (by omega)
      subst hwo
      have hA := apartW _ gw wc _ _ _ _ wr hRW hPW hwc HLS.out.two.bel.size
      have HA : Hid (∀ _ : Unit, _) := fun _ => hA
      clear hA hRW hPW HWc
      go_wp2_with fail
      refine (HA.out ()).mono ?_
      rintro e w6 ⟨rfl, hb6, hoth6⟩
      obtain ⟨hR2, hP2, hB2, hBw⟩ := HLS.out.after hb6 hoth6 HK.out.2.2.2 hfl
      have hC := apartC 2 w6.heap.size 2 w.heap.size _ _ _ _ _ hR2 hP2 (Nat.le_refl _) hB2
      have HC : Hid (∀ _ : Unit, _) := fun _ => hC
      have HBw : Hid (Below w.heap.size w (w6.alloc (.cells #[.slice lo cs.length lc, .slice mo cs.length mc] 33))) := hBw
      clear hC hR2 hP2 hB2 hBw hb6 hoth6 HA HLS
      go_wp2_with fail
      refine (HC.out ()).mono ?_
      rintro e w7 ⟨rfl, hb7⟩
      have HB7 : Hid (Below w.heap.size w w7) := HBw.out.trans hb7
      clear hb7 HC HBw HK
      go_wp2_with fail
      refine (HDh.out _).mono ?_
      rintro e w8 ⟨oc, rfl, hoc, _, hb8⟩
      have HB8 : Hid (Below w.heap.size w w8) := HB7.out.trans (hb8.mono HB7.out.size)
      have HO8 : Hid (ownW w8 w7.heap.size (.slice oc vs.length vs.length) vs) := hoc
      clear hoc hb8 HB7
      go_wp2_with fail
      refine (HEh.out _).mono ?_
      rintro e w9 ⟨od, dc, rfl, hod, hb9⟩
      have hal := alB w8 (.cells #[.int .u64 st, .slice oc vs.length vs.length] 25)
      have hb89 : Below w8.heap.size w8 w9 := hal.trans (hb9.mono hal.size)
      have hal2 := alB w9 (.cells #[.int .u64 st, .slice od vs.length dc] 25)
      have HB9 : Hid (Below w.heap.size w (w9.alloc (.cells #[.int .u64 st, .slice od vs.length dc] 25))) := (HB8.out.trans (hb89.mono HB8.out.size)).trans (hal2.mono (HB8.out.trans (hb89.mono HB8.out.size)).size)
      have ha : Wc2 (w9.alloc (.cells #[.int .u64 st, .slice od vs.length dc] 25)) w8.heap.size (.int .u64 st) (.slice oc vs.length vs.length) := (show Wc2 w9 w8.heap.size _ _ from (hb9.block w8.heap.size (by rw [sizeAl]; omega)).trans (heap_alloc_new w8 _)).later hal2
      have hbb : Wc2 (w9.alloc (.cells #[.int .u64 st, .slice od vs.length dc] 25)) w9.heap.size (.int .u64 st) (.slice od vs.length dc) := heap_alloc_new w9 _
      have hS := sameC_any st st (.slice oc vs.length vs.length) (.slice od vs.length dc) vs vs _ _ (Nat.le_refl _) (((HO8.out.same (fun j hj _ => hb89.block j hj)).same (fun j hj _ => hal2.block j hj)).seesAll (by omega)) ((hod.same (fun j hj _ => hal2.block j hj)).seesAll (by omega))
      rw [decide_eq_true (⟨rfl, rfl⟩ : st = st ∧ vs = vs)] at hS
      have HS : Hid (∀ _ : Unit, _) := fun _ => hS
      have a0 := ha.c0
      have a1 := ha.c1
      have b0 := hbb.c0
      have b1 := hbb.c1
      clear hS hal hb89 hal2 ha hbb hod hb9 HO8 HB8
      go_wp2_with fail
      refine (HS.out ()).mono ?_
      rintro e w10 ⟨rfl, hb10⟩
      have HB10 : Hid (Below w.heap.size w w10) := HB9.out.trans (hb10.mono HB9.out.size)
      clear hb10 HB9 HS a0 a1 b0 b1
      go_wp2_with fail
      refine (HFh.out _).mono ?_
      rintro e w11 ⟨no, nc, xn, rfl, hon, hcn, _, hb11⟩
      have HB11 : Hid (Below w.heap.size w w11) := HB10.out.trans (hb11.mono HB10.out.size)
      have HON : Hid (ownC w11 w.heap.size (.slice no cs.length nc) xn ∧ CsIn w11 w.heap.size xn cs) := ⟨hon.base HB10.out.size, hcn.keep (fun y ys hy => hy.base HB10.out.size)⟩
      clear hon hcn hb11 HB10
      go_wp2_with fail
      refine (HGh.out _).mono ?_
      rintro e w12 ⟨qo, qc, yq, rfl, hoq, hcq, hb12⟩
      have hk12 : ∀ k, k < w11.heap.size → w.heap.size ≤ k → w12.heap[k]? = w11.heap[k]? := fun k hk _ => hb12.block k hk
      have HT : Hid (TwoC w w12 (.slice no cs.length nc) (.slice qo cs.length qc) xn yq cs) := ⟨HB11.out.trans (hb12.mono HB11.out.size), HON.out.1.same hk12, HON.out.2.keep (fun y ys hy => hy.same hk12), hoq.base HB11.out.size, hcq.keep (fun y ys hy => hy.base HB11.out.size)⟩
      clear hoq hcq hk12 hb12 HB11 HON
      go_wp2_with (go_at_call 8; refine (numP _ _).mono ?_; rintro e w4 ⟨rfl, rfl⟩)
      go_loopw [26] (fun i wr => ∃ k : Nat, k ≤ cs.length ∧ i = .int .i64 k ∧ TwoC w wr (.slice no cs.length nc) (.slice qo cs.length qc) xn yq cs) (fun i _ => cs.length - (intOf i).toNat)
      case atStart => exact ⟨0, Nat.zero_le _, rfl, HT.out⟩
      case round =>
        obtain ⟨k, hk, rfl, hT⟩ := hrel
        have HTk : Hid (TwoC w wr (.slice no cs.length nc) (.slice qo cs.length qc) xn yq cs) := hT
        clear hT HT
        by_cases hlt2 : k < cs.length
        · have hx1 : k < xn.length := by rw [HTk.out.cv.1]; exact hlt2
          have hy1 : k < yq.length := by rw [HTk.out.cu.1]; exact hlt2
          obtain ⟨g, hg5, hgl, p0, p1⟩ := HTk.out.ov.at k hx1
          obtain ⟨h, hg6, hhl, q0, q1⟩ := HTk.out.ou.at k hy1
          obtain ⟨e1, o1⟩ := HTk.out.cv.at k hx1 hlt2
          obtain ⟨e2, o2⟩ := HTk.out.cu.at k hy1 hlt2
          obtain ⟨x1, x2, x3, ex⟩ := o1.isSlice
          obtain ⟨y1, y2, y3, ey⟩ := o2.isSlice
          rw [e1] at p0
          rw [e2] at q0
          rw [ex] at p1 o1
          rw [ey] at q1 o2
          have hl47 : cs[k].2.length ≤ 140737488355328 := Nat.le_trans (HSm.out _ (List.getElem_mem hlt2)) (by omega)
          have hS := sameC_any cs[k].1 cs[k].1 (.slice x1 x2 x3) (.slice y1 y2 y3) cs[k].2 cs[k].2 wr.drew.heap.size wr.drew (Nat.le_refl _) (o1.drew.seesAll hl47) (o2.drew.seesAll hl47)
          rw [decide_eq_true (⟨rfl, rfl⟩ : cs[k].1 = cs[k].1 ∧ cs[k].2 = cs[k].2)] at hS
          have HS : Hid (∀ _ : Unit, _) := fun _ => hS
          clear hS hl47 o1 o2 ex ey e1 e2 hx1 hy1
          generalize cs[k].1 = st1 at *
          subst hg5
          subst hg6
          go_wp2_with fail
          (refine wp_region_held_drew (S := (fun W => W.cell? ⟨g, k * 2, none⟩ = some (.int .u64 st1) ∧ W.cell? ⟨g, k * 2 + 1, none⟩ = some (.slice x1 x2 x3) ∧ W.cell? ⟨h, k * 2, none⟩ = some (.int .u64 st1) ∧ W.cell? ⟨h, k * 2 + 1, none⟩ = some (.slice y1 y2 y3))) (by kernel_rfl) ⟨p0, p1, q0, q1⟩ (fun hHeld => ?_); simp only [List.size_toArray, List.length_cons, List.length_nil, Nat.reduceAdd, Array.replicate_succ, Array.replicate_zero, List.push_toArray, List.append_toArray, List.nil_append, List.cons_append])
          (refine tk0 (v := ?_) (by kernel_rfl) (by kernel_rfl) (by kernel_rfl) (fun _ _ _ h => h) (Or.inl ⟨by rfl, ?_⟩) (by assumption) ?_; rotate_left; (focus (intro w hSw; (try dsimp only at hSw); go_simp; (try first | (rw [dif_pos (by omega)]; simp only [Result.andThen_ok]) | rw [if_pos (by omega)]); (try with_reducible rfl); done)); try simp only [Act.put, List.setIfInBounds_toArray, List.set_cons_zero, List.set_cons_succ])
          (refine tk1 (v := ?_) (by kernel_rfl) (by kernel_rfl) (by kernel_rfl) (fun _ _ _ h => h) (Or.inl ⟨by rfl, ?_⟩) (by assumption) ?_; rotate_left; (focus (intro w hSw; (try dsimp only at hSw); go_simp; (try first | (rw [dif_pos (by omega)]; simp only [Result.andThen_ok]) | rw [if_pos (by omega)]); (try with_reducible rfl); done)); try simp only [Act.put, List.setIfInBounds_toArray, List.set_cons_zero, List.set_cons_succ])
          (refine tk2 (v := ?_) (by kernel_rfl) (by kernel_rfl) (by kernel_rfl) (fun _ _ _ h => h) (Or.inl ⟨by rfl, ?_⟩) (by assumption) ?_; rotate_left; (focus (intro w hSw; (try dsimp only at hSw); go_simp; (try first | (rw [dif_pos (by omega)]; simp only [Result.andThen_ok]) | rw [if_pos (by omega)]); (try with_reducible rfl); done)); try simp only [Act.put, List.setIfInBounds_toArray, List.set_cons_zero, List.set_cons_succ])
          (refine tk3 (v := ?_) (by kernel_rfl) (by kernel_rfl) (by kernel_rfl) (fun _ _ _ h => h) (Or.inl ⟨by rfl, ?_⟩) (by assumption) ?_; rotate_left; (focus (intro w hSw; (try dsimp only at hSw); go_simp; (try first | (rw [dif_pos (by omega)]; simp only [Result.andThen_ok]) | rw [if_pos (by omega)]); (try with_reducible rfl); done)); try simp only [Act.put, List.setIfInBounds_toArray, List.set_cons_zero, List.set_cons_succ])
          (refine tk4 (v := ?_) (by kernel_rfl) (by kernel_rfl) (by kernel_rfl) (fun _ _ _ h => h) (Or.inl ⟨by rfl, ?_⟩) (by assumption) ?_; rotate_left; (focus (intro w hSw; (try dsimp only at hSw); go_simp; (try first | (rw [dif_pos (by omega)]; simp only [Result.andThen_ok]) | rw [if_pos (by omega)]); (try with_reducible rfl); done)); try simp only [Act.put, List.setIfInBounds_toArray, List.set_cons_zero, List.set_cons_succ])
          (refine tk5 (v := ?_) (by kernel_rfl) (by kernel_rfl) (by kernel_rfl) (fun _ _ _ h => h) (Or.inl ⟨by rfl, ?_⟩) (by assumption) ?_; rotate_left; (focus (intro w hSw; (try dsimp only at hSw); go_simp; (try first | (rw [dif_pos (by omega)]; simp only [Result.andThen_ok]) | rw [if_pos (by omega)]); (try with_reducible rfl); done)); try simp only [Act.put, List.setIfInBounds_toArray, List.set_cons_zero, List.set_cons_succ])
          (refine tk6 (v := ?_) (by kernel_rfl) (by kernel_rfl) (by kernel_rfl) (fun _ _ _ h => h) (Or.inl ⟨by rfl, ?_⟩) (by assumption) ?_; rotate_left; (focus (intro w hSw; (try dsimp only at hSw); go_simp; (try first | (rw [dif_pos (by omega)]; simp only [Result.andThen_ok]) | rw [if_pos (by omega)]); (try with_reducible rfl); done)); try simp only [Act.put, List.setIfInBounds_toArray, List.set_cons_zero, List.set_cons_succ])
          (refine tk7 (v := ?_) (by kernel_rfl) (by kernel_rfl) (by kernel_rfl) (fun _ _ _ h => h) (Or.inl ⟨by rfl, ?_⟩) (by assumption) ?_; rotate_left; (focus (intro w hSw; (try dsimp only at hSw); go_simp; (try first | (rw [dif_pos (by omega)]; simp only [Result.andThen_ok]) | rw [if_pos (by omega)]); (try with_reducible rfl); done)); try simp only [Act.put, List.setIfInBounds_toArray, List.set_cons_zero, List.set_cons_succ])
          (refine wpAnyH_ready (rs := [8]) (by kernel_rfl) (by simp) ?_; refine ar8 (fun K hK => ?_) AllReadyH.nil; go_simp)
          refine (HS.out ()).mono ?_
          rintro e w13 ⟨rfl, hb13⟩
          have H13 := (HTk.out.step (Below.refl _ _).drew).step hb13
          have r0 := (hb13.cell (p := ⟨g, k * 2, none⟩) hgl).trans p0
          have r1 := (hb13.cell (p := ⟨g, k * 2 + 1, none⟩) hgl).trans p1
          have r2 := (hb13.cell (p := ⟨h, k * 2, none⟩) hhl).trans q0
          have r3 := (hb13.cell (p := ⟨h, k * 2 + 1, none⟩) hhl).trans q1
          have HS13 : Hid _ := H13
          clear hb13 H13
          go_wp2_with fail
          (refine hK.out _ _ ⟨r0, r1, r2, r3⟩ (fun hHeld => ?_); clear hK K; try simp only [Act.put, List.setIfInBounds_toArray, List.set_cons_zero, List.set_cons_succ])
          (refine tk9 (v := ?_) (by kernel_rfl) (by kernel_rfl) (by kernel_rfl) (fun _ _ _ h => h) (Or.inl ⟨by rfl, ?_⟩) (by assumption) ?_; rotate_left; (focus (intro w hSw; (try dsimp only at hSw); go_simp; (try first | (rw [dif_pos (by omega)]; simp only [Result.andThen_ok]) | rw [if_pos (by omega)]); (try with_reducible rfl); done)); try simp only [Act.put, List.setIfInBounds_toArray, List.set_cons_zero, List.set_cons_succ])
          refine wpAnyH_done (by kernel_rfl) ?_ _
          clear p0 p1 q0 q1 r0 r1 r2 r3
          go_wp2
          go_roundw
          case rel => exact ⟨k + 1, by omega, by go_num, HS13.out⟩
          case measure => simp [intOf]; omega
        · go_wp2
          go_ret
          exact ⟨rfl, HTk.out.bel⟩
end Go.Proofs.Ytmolfemcciljjaa
