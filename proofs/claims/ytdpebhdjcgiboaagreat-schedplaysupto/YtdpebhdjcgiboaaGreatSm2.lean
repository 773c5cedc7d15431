import Derived.Test.YtdpebhdjcgiboaaGreatSl9
namespace Go.Proofs.YtdpebhdjcgiboaaGreat
set_option linter.unusedSimpArgs false
open Go.ChangeShapes Go.WideShapes Go.ChangeAt Go.RowKit Go.MuLone Go.RwLone
set_option linter.unusedVariables false
set_option maxRecDepth 100000
set_option maxHeartbeats 6400000
/-- The cells of the side and of the operation. -/
theorem PSt.cells {w : World} {G H P Q : Nat → Prop} {B : Bd} {bb b1 b2 : Nat} {tv : Value} {R : Rd} {r1 r2 hb qb rb sb sd : Nat} {a0 : Hp} {a : Hp × Ls} {ts : List (List I8)} {wd c nw : Nat} (p : PSt w G H P Q B bb b1 b2 tv R r1 r2 hb qb rb sb sd a0 a ts wd c nw) (kd wh tg nn : Int) (pv mv : Value) (W : World) (D : Nat → Prop) (k : Keeps D (opW w kd wh tg nn pv mv) W) (hD : ∀ y, D y → U4 G H P Q y ∨ w.heap.size < y) :
    (W.cell? ⟨sd, 0, none⟩ = some (.pointer (some ⟨hb, 0, none⟩)) ∧ W.cell? ⟨sd, 1, none⟩ = some (.pointer (some ⟨bb, 0, none⟩)) ∧ W.cell? ⟨sd, 2, none⟩ = some (.pointer (some ⟨rb, 0, none⟩)) ∧ W.cell? ⟨sd, 3, none⟩ = some (.pointer (some ⟨R.bk, 0, none⟩))) ∧ W.cell? ⟨w.heap.size, 1, none⟩ = some (.int .i64 wh) ∧ W.cell? ⟨w.heap.size, 2, none⟩ = some (.int .i64 tg) ∧ W.cell? ⟨w.heap.size, 3, none⟩ = some (.int .i64 nn) ∧ W.cell? ⟨w.heap.size, 4, none⟩ = some pv ∧ W.cell? ⟨w.heap.size, 5, none⟩ = some mv := by
  have sz : (opW w kd wh tg nn pv mv).heap.size = w.heap.size + 1 := szAl _ _
  have ls := (Array.getElem?_eq_some_iff.1 p.bs).1
  have eb : (opW w kd wh tg nn pv mv).heap[w.heap.size]? = some (.cells (opC kd wh tg nn pv mv) 93) := heap_alloc_last _ _ _ rfl
  have e0 : (opW w kd wh tg nn pv mv).heap[sd]? = some (.cells (sdC hb bb rb R.bk) 90) := (Below.heap_alloc _ _ _ ls).trans p.bs
  have e1 : W.heap[sd]? = some (.cells (sdC hb bb rb R.bk) 90) := (k.block sd (by omega) (fun e => (hD _ e).elim p.ns (fun e => by omega))).trans e0
  have e2 : W.heap[w.heap.size]? = some (.cells (opC kd wh tg nn pv mv) 93) := (k.block _ (by omega) (fun e => (hD _ e).elim (fun e => by have := p.q.lt _ e; omega) (fun e => by omega))).trans eb
  exact ⟨⟨(cell?_heap e1 0).trans rfl, (cell?_heap e1 1).trans rfl, (cell?_heap e1 2).trans rfl, (cell?_heap e1 3).trans rfl⟩, (cell?_heap e2 1).trans rfl, (cell?_heap e2 2).trans rfl, (cell?_heap e2 3).trans rfl, (cell?_heap e2 4).trans rfl, (cell?_heap e2 5).trans rfl⟩
/-- A play, on both sides. -/
theorem mv_play (w : World) (G H P Q : Nat → Prop) (B : Bd) (bb b1 b2 : Nat) (tv : Value) (R : Rd) (r1 r2 hb qb rb sb sd : Nat) (a0 : Hp) (a : Hp × Ls) (ts : List (List I8)) (wd c nw : Nat) (p : PSt w G H P Q B bb b1 b2 tv R r1 r2 hb qb rb sb sd a0 a ts wd c nw) (hc : c ≤ 1000000000) (C : Nat) (hU : ∀ y, U4 G H P Q y → C ≤ y) (hC : C ≤ w.heap.size) (wh tg nn : Int) (hnn : nn ≤ 9223372036854775807) (pa : Option Addr) (pc : Nat) (vs : List (Int × Int × Int)) (hv : InG pkC w C (.slice pa vs.length pc) vs) (hvl : vs.length ≤ 1048576) (hvn : ∀ p ∈ vs, p.2.2 ≤ 9223372036854775807) (ma : Option Addr) (mn mc : Nat) :
    Calls Tryz.prog 35 #[.pointer (some ⟨sd, 0, none⟩), .agg (opC 3 wh tg nn (.slice pa vs.length pc) (.slice ma mn mc))] w fun e w' => e = .returned (.bool true) ∧ MvP w G H P Q B bb b1 b2 tv R r1 r2 hb qb rb sb sd a0 ts wd c nw w' := by
  have k0 : Keeps (fun _ => False) w (opW w 3 wh tg nn (.slice pa vs.length pc) (.slice ma mn mc)) := (Keeps.refl _ _).alloc _
  have sz : (opW w 3 wh tg nn (.slice pa vs.length pc) (.slice ma mn mc)).heap.size = w.heap.size + 1 := szAl _ _
  have HP0 : Hid (PSt w G H P Q B bb b1 b2 tv R r1 r2 hb qb rb sb sd a0 a ts wd c nw ∧ (∀ y, U4 G H P Q y → C ≤ y) ∧ ∀ p ∈ vs, p.2.2 ≤ 9223372036854775807) := ⟨p, hU, hvn⟩
  have HS : Hid (∀ W D, Keeps D (opW w 3 wh tg nn (.slice pa vs.length pc) (.slice ma mn mc)) W → (∀ y, D y → U4 G H P Q y ∨ w.heap.size < y) → _) := fun W D k hD => p.cells 3 wh tg nn (.slice pa vs.length pc) (.slice ma mn mc) W D k hD
  have HI : Hid (∀ W D, Keeps D (opW w 3 wh tg nn (.slice pa vs.length pc) (.slice ma mn mc)) W → (∀ y, D y → C ≤ y) → InG pkC W C (.slice pa vs.length pc) vs) := fun W D k hD => hv.later ((k0.below hC (fun _ _ e => e)).trans (k.below (by omega) (fun x hx e => by have := hD x e; omega)))
  have cp4 := (HS.out _ (fun _ => False) (Keeps.refl _ _) (fun _ e => e.elim)).2.2.2.2.1
  clear p hv hU hvn
  have cp4' : ((opW w 3 wh tg nn (.slice pa vs.length pc) (.slice ma mn mc)).alloc (.cells #[] 110)).cell? ⟨w.heap.size, 4, none⟩ = some (.slice pa vs.length pc) := (((Keeps.refl (fun _ => False) _).alloc _).cell (p := ⟨w.heap.size, 4, none⟩) (by show w.heap.size < (opW w 3 wh tg nn (.slice pa vs.length pc) (.slice ma mn mc)).heap.size; omega) (fun e => e)).trans cp4
  go_enter Tryz.func35, Tryz.ntmps35
  go_wp2_with (at_builtin; refine hideG ?_)
  change wpList _ _ _ _ _ _
  refine copy_list (cs := pkC) (w := opW w 3 wh tg nn (.slice pa vs.length pc) (.slice ma mn mc)) (by rfl) _ _ 26 110 (by rfl) Tryz.underlying26 infoPk rfl (by decide) (fun _ => rfl) (w.heap.size + 1) sz.symm (by rfl) C _ vs (by rfl) (HI.out _ (fun _ => False) (Keeps.refl _ _) (fun _ e => e.elim)) (by omega) (fun y _ => pkC_one y) (by unfold maxLen; omega) (by omega) ?_
  intro v' w1 ho hb1
  rw [sz] at ho
  obtain ⟨va, vc, rfl⟩ := ho.form
  have K1 : Keeps (fun _ => False) (opW w 3 wh tg nn (.slice pa vs.length pc) (.slice ma mn mc)) w1 := Below.keeps hb1 _
  have s1 : w.heap.size + 1 ≤ w1.heap.size := by rw [← sz]; exact K1.size
  have HQ : Hid (PSt w1.drew G H P Q B bb b1 b2 tv R r1 r2 hb qb rb sb sd a0 a ts wd c nw ∧ Keeps (fun _ => False) (opW w 3 wh tg nn (.slice pa vs.length pc) (.slice ma mn mc)) w1.drew ∧ OwG pkC 110 3 w1.drew (w.heap.size + 1) (.slice va vs.length vc) vs) := ⟨(HP0.out.1.still k0).still K1.drew, K1.drew, owK ho (Keeps.refl (fun _ => False) _).drew (fun _ _ e => e)⟩
  have hk1 := HS.out w1.drew _ HQ.out.2.1 (fun _ e => e.elim)
  have hks := hk1
  clear ho hb1 cp4 cp4' K1
  go_wp2_with fail
  (refine wp_region_held_drew (S := (fun W => W.cell? ⟨sd, 0, none⟩ = some (.pointer (some ⟨hb, 0, none⟩)) ∧ W.cell? ⟨w.heap.size, 3, none⟩ = some (.int .i64 nn))) (by kernel_rfl) ⟨hk1.1.1, hk1.2.2.2.1⟩ (fun hHeld => ?_); simp only [List.size_toArray, List.length_cons, List.length_nil, Nat.reduceAdd, Array.replicate_succ, Array.replicate_zero, List.push_toArray, List.append_toArray, List.nil_append, List.cons_append])
  clear hk1 hks
  refine rgT 0 (h := ?_)
  refine rgT 1 (h := ?_)
  refine rgT 2 (h := ?_)
  refine rgT 3 (h := ?_)
  refine rgT 4 (h := ?_)
  refine rgT 5 (h := ?_)
  refine rgT 6 (h := ?_)
  (refine rgS 7 (h := fun K hK => ?_); go_simp)
  have hp := HQ.out.1
  refine (q4_play hp.q hp.ok hp.iw (by omega) vs _ (PkR.own HQ.out.2.2 (fun b e => by
    have : U4 G H P Q b := e.elim (fun e => .inr (.inr (.inl e))) (fun e => .inl (hp.q.b.lo b e))
    have := HP0.out.1.q.lt b this
    omega) (by omega) HP0.out.2.2) nn hnn).mono ?_
  clear hp
  rintro e w2 ⟨rfl, P', q2, hP2, k2⟩
  obtain ⟨nr, hnr⟩ : ∃ nr, plN (pureM (insL ts) ts.length) vs nn a = nr := ⟨_, rfl⟩
  obtain ⟨er, her⟩ : ∃ er, plE (pureM (insL ts) ts.length) vs nn a = er := ⟨_, rfl⟩
  have HNR : Hid (plN (pureM (insL ts) ts.length) vs nn a = nr ∧ plE (pureM (insL ts) ts.length) vs nn a = er) := ⟨hnr, her⟩
  rw [hnr, her]
  have H2 : Hid (Q4 w2.drew G H P' Q B bb b1 b2 tv R r1 r2 hb qb rb sb a0 (plI (pureM (insL ts) ts.length) vs nn a) a ∧ (∀ y, P' y → P y ∨ w1.heap.size ≤ y) ∧ Keeps (U4 G H P Q) (opW w 3 wh tg nn (.slice pa vs.length pc) (.slice ma mn mc)) w2 ∧ OwG pkC 110 3 w2 (w.heap.size + 1) (.slice va vs.length vc) vs) := ⟨q2.still (Keeps.refl _ _).drew, hP2, (HQ.out.2.1.mono (fun _ e => e.elim)).trans k2, owK HQ.out.2.2 k2 (fun g hg e => by have := HP0.out.1.q.lt g e; have := (World.ownsRow.lt HQ.out.2.2 g hg).1; omega)⟩
  have hs2 := HS.out w2 _ H2.out.2.2.1 (fun y e => .inl e)
  clear hnr her q2 hP2 k2
  (refine hK.out _ _ ⟨hs2.1.1, hs2.2.2.2.1⟩ (fun hHeld => ?_); clear hK K; try simp only [Act.put, List.setIfInBounds_toArray, List.set_cons_zero, List.set_cons_succ])
  refine rgT 8 (h := ?_)
  refine rgT 9 (h := ?_)
  refine rgT 10 (h := ?_)
  refine rgT 11 (h := ?_)
  refine rgT 12 (h := ?_)
  refine wpAnyH_done (by kernel_rfl) ?_ _
  go_wp2_with fail
  (refine wp_region_held_drew (S := (fun W => W.cell? ⟨sd, 2, none⟩ = some (.pointer (some ⟨rb, 0, none⟩)) ∧ W.cell? ⟨w.heap.size, 3, none⟩ = some (.int .i64 nn) ∧ W.cell? ⟨w.heap.size, 4, none⟩ = some (.slice pa vs.length pc))) (by kernel_rfl) ⟨hs2.1.2.2.1, hs2.2.2.2.1, hs2.2.2.2.2.1⟩ (fun hHeld => ?_); simp only [List.size_toArray, List.length_cons, List.length_nil, Nat.reduceAdd, Array.replicate_succ, Array.replicate_zero, List.push_toArray, List.append_toArray, List.nil_append, List.cons_append])
  clear hs2
  refine rgT 0 (h := ?_)
  refine rgT 1 (h := ?_)
  refine rgT 2 (h := ?_)
  refine rgT 3 (h := ?_)
  refine rgT 4 (h := ?_)
  refine rgT 5 (h := ?_)
  refine rgT 6 (h := ?_)
  refine rgT 7 (h := ?_)
  (refine rgS 8 (h := fun K hK => ?_); go_simp)
  have hp := HQ.out.1
  refine (q4_rplay H2.out.1 hp.ok hp.iw (by omega) vs _ (PkR.in (HI.out w2.drew _ H2.out.2.2.1.drew (fun y e => HP0.out.2.1 y e)) (by have := H2.out.2.2.1.size; rw [sz] at this; show C ≤ w2.heap.size; omega) (fun b hb e => by
    have : U4 G H P Q b := e.elim (fun e => .inr (.inr (.inr e))) (fun e => .inr (.inl (hp.q.r.fr b (.inl e))))
    have := HP0.out.2.1 b this
    omega) (by omega) HP0.out.2.2) nn hnn).mono ?_
  clear hp
  rintro e w3 ⟨rfl, Q', q3, hQ3, k3⟩
  rw [HNR.out.1, HNR.out.2]
  have kc : Keeps (fun y => U4 G H P Q y ∨ w1.heap.size ≤ y) (opW w 3 wh tg nn (.slice pa vs.length pc) (.slice ma mn mc)) w3 := (H2.out.2.2.1.drew.mono (fun _ e => .inl e)).trans (k3.mono (fun y e => by
    rcases e with e | e | e | e
    · exact .inl (.inl e)
    · exact .inl (.inr (.inl e))
    · exact (H2.out.2.1 y e).imp (fun e => .inr (.inr (.inl e))) id
    · exact .inl (.inr (.inr (.inr e)))))
  have hs3 := HS.out w3 _ kc (fun y e => e.imp id (fun e => by omega))
  have HSP : Hid (∀ _ : Unit, _) := fun _ => samePicks_any (.slice va vs.length vc) (.slice pa vs.length pc) vs vs w3.heap.size w3 (Nat.le_refl _)
    (((owK H2.out.2.2.2 ((Keeps.refl (fun _ => False) _).drew.mono (fun _ e => e.elim) |>.trans k3) (fun g hg e => by
      have h1 := World.ownsRow.lt H2.out.2.2.2 g hg
      have h2 := World.ownsRow.lt HQ.out.2.2 g hg
      have h3 : g < w1.heap.size := h2.2
      rcases e with e | e | e | e
      · have := HP0.out.1.q.lt g (.inl e); omega
      · have := HP0.out.1.q.lt g (.inr (.inl e)); omega
      · rcases H2.out.2.1 g e with e | e
        · have := HP0.out.1.q.lt g (.inr (.inr (.inl e))); omega
        · omega
      · have := HP0.out.1.q.lt g (.inr (.inr (.inr e))); omega)).in).sees (by omega))
    (((HI.out w3 _ kc (fun y e => e.elim (HP0.out.2.1 y) (fun e => by omega))).up (by have := kc.size; rw [sz] at this; omega)).sees (by omega))
  have H3 : Hid (MvP w G H P Q B bb b1 b2 tv R r1 r2 hb qb rb sb sd a0 ts wd c nw w3) := by
    have st := plI_iw (M := pureM (insL ts) ts.length) vs nn a HP0.out.1.iw HP0.out.1.nq
    have hz : (opW w 3 wh tg nn (.slice pa vs.length pc) (.slice ma mn mc)).heap.size ≤ w2.heap.size := H2.out.2.2.1.size
    exact HP0.out.1.both (w1 := w2.drew) (P' := P') (Q' := Q') q3 (fun y hy => (H2.out.2.1 y hy).imp id (fun e => by omega)) hQ3 ((((Keeps.refl _ _).alloc _).trans H2.out.2.2.1).drew) k3 (st.1.up (by omega)) st.2
  clear q3 hQ3 k3 kc H2
  (refine hK.out _ _ ⟨hs3.1.2.2.1, hs3.2.2.2.1, hs3.2.2.2.2.1⟩ (fun hHeld => ?_); clear hK K; try simp only [Act.put, List.setIfInBounds_toArray, List.set_cons_zero, List.set_cons_succ])
  refine rgT 9 (h := ?_)
  refine rgT 10 (h := ?_)
  refine rgT 11 (h := ?_)
  refine rgT 12 (h := ?_)
  refine rgT 13 (h := ?_)
  refine wpAnyH_done (by kernel_rfl) ?_ _
  have cq4 := hs3.2.2.2.2.1
  clear hs3
  go_wp2_with fail
  refine (HSP.out ()).mono ?_
  rintro e w4 ⟨rfl, b4⟩
  have H4 : Hid (MvP w G H P Q B bb b1 b2 tv R r1 r2 hb qb rb sb sd a0 ts wd c nw w4) := by
    obtain ⟨P1, Q1, a1, p1, x1, x2, x3⟩ := H3.out
    have k4 : Keeps (fun _ => False) w3 w4 := Below.keeps b4 _
    exact ⟨P1, Q1, a1, p1.still k4, x1, x2, x3.trans (k4.mono (fun _ e => e.elim))⟩
  simp only [decide_true]
  clear b4 H3 HSP cq4
  go_wp2
  go_ret
  exact ⟨rfl, H4.out⟩
end Go.Proofs.YtdpebhdjcgiboaaGreat

namespace Go.Proofs.YtdpebhdjcgiboaaGreat
set_option linter.unusedSimpArgs false
open Go.ChangeShapes Go.WideShapes Go.ChangeAt Go.RowKit Go.MuLone Go.RwLone
set_option linter.unusedVariables false
set_option maxRecDepth 100000
set_option maxHeartbeats 6400000
theorem PkR.lit {w : World} {Fb : Nat → Prop} {g : Nat} (h : w.heap[g]? = some (.cells #[.int .i64 6, .int .i64 0, .int .i64 0] 110)) (hg : ¬ Fb g) : PkR w Fb (.slice (some ⟨g, 0, none⟩) 1 1) [(6, 0, 0)] :=
  ⟨some ⟨g, 0, none⟩, 1, rfl, by simp, by simp, fun i hi => by
    have : i = 0 := by simpa using hi
    subst this
    exact ⟨g, 0, rfl, hg, (Array.getElem?_eq_some_iff.1 h).1, (cell?_heap h 0).trans rfl, (cell?_heap h 1).trans rfl, (cell?_heap h 2).trans rfl⟩⟩
/-- The program's Drain under no budget. -/
theorem hdrain_neg (w : World) (hb : Nat) (bd : Int) (h : bd < 0) :
    Calls Tryz.prog 15 #[.pointer (some ⟨hb, 0, none⟩), .int .i64 bd] w fun e w' => e = .returned (.tuple #[.int .i64 0, .int .i64 34]) ∧ Keeps (fun _ => False) w w' := by
  have HN : Hid (∀ W v, _) := fun W v => hplay_neg W (fun _ => False) id hb 0 bd h v
  have HK : Hid (Keeps (fun _ => False) w (w.alloc (.cells #[.int .i64 6, .int .i64 0, .int .i64 0] 110))) := (Keeps.refl _ _).alloc _
  go_enter Tryz.func15, Tryz.ntmps15
  go_wp2_with fail
  refine (HN.out _ _).mono ?_
  rintro e w1 ⟨rfl, rfl⟩
  go_wp2
  go_ret2
  exact ⟨rfl, HK.out⟩
/-- The program's Drain, of the four. -/
theorem q4_drain {w : World} {G H P Q : Nat → Prop} {B : Bd} {bb b1 b2 : Nat} {tv : Value} {R : Rd} {r1 r2 hb qb rb sb : Nat} {a0 : Hp} {a ra : Hp × Ls} {ts : List (List I8)} {wd c : Nat} (q : Q4 w G H P Q B bb b1 b2 tv R r1 r2 hb qb rb sb a0 a ra) (ok : PairOk B R ts wd) (iw : Iw ts.length c a.1) (hc : c ≤ 2000000000) (bd : Int) (hbd : bd ≤ 9223372036854775807) :
    Calls Tryz.prog 15 #[.pointer (some ⟨hb, 0, none⟩), .int .i64 bd] w fun e w' => e = .returned (.tuple #[.int .i64 (plN (pureM (insL ts) ts.length) [(6, 0, 0)] bd a), .int .i64 (plE (pureM (insL ts) ts.length) [(6, 0, 0)] bd a)]) ∧ ∃ P', Q4 w' G H P' Q B bb b1 b2 tv R r1 r2 hb qb rb sb a0 (plI (pureM (insL ts) ts.length) [(6, 0, 0)] bd a) ra ∧ (∀ y, P' y → P y ∨ w.heap.size ≤ y) ∧ Keeps (U4 G H P Q) w w' := by
  by_cases h0 : bd < 0
  · obtain ⟨e1, e2, e3⟩ := pl_neg (M := pureM (insL ts) ts.length) (vs := [(6, 0, 0)]) (a := a) h0
    rw [e2, e3]
    refine (hdrain_neg w hb bd h0).mono ?_
    rintro e w' ⟨he, k⟩
    exact ⟨he, P, by rw [e1]; exact q.still k, fun y hy => .inl hy, k.mono (fun _ e => e.elim)⟩
  · obtain ⟨n, rfl⟩ : ∃ n : Nat, bd = (n : Int) := ⟨bd.toNat, by omega⟩
    obtain ⟨e1, e2, e3⟩ := pl_pos (M := pureM (insL ts) ts.length) (vs := [(6, 0, 0)]) (n := n) (a := a)
    rw [e2, e3]
    obtain ⟨qv, ev, en, m⟩ := q.m
    refine (hdrain_any (mcB B ok.hB) w P hb qb qv ev en a m q.b.o q.far (by show Iv B.n _; rw [ok.n1]; exact iw.iv (by omega)) n (by omega)).mono ?_
    rintro e w' ⟨he, _, P', qv', ev', en', md⟩
    obtain ⟨q1, hP1, k1⟩ := q.prog md
    obtain ⟨u1, u2, u3⟩ := mcB_one ok.hB ok.i1 ok.n1 [(6, 0, 0)] n a
    rw [retP_E, u1, u2] at he
    exact ⟨he, P', by rw [e1, ← u3]; exact q1, hP1, k1⟩
/-- A drain, on both sides. -/
theorem mv_drain (w : World) (G H P Q : Nat → Prop) (B : Bd) (bb b1 b2 : Nat) (tv : Value) (R : Rd) (r1 r2 hb qb rb sb sd : Nat) (a0 : Hp) (a : Hp × Ls) (ts : List (List I8)) (wd c nw : Nat) (p : PSt w G H P Q B bb b1 b2 tv R r1 r2 hb qb rb sb sd a0 a ts wd c nw) (hc : c ≤ 1000000000) (wh tg nn : Int) (hnn : nn ≤ 9223372036854775807) (pa : Option Addr) (pn pc : Nat) (ma : Option Addr) (mn mc : Nat) :
    Calls Tryz.prog 35 #[.pointer (some ⟨sd, 0, none⟩), .agg (opC 4 wh tg nn (.slice pa pn pc) (.slice ma mn mc))] w fun e w' => e = .returned (.bool true) ∧ MvP w G H P Q B bb b1 b2 tv R r1 r2 hb qb rb sb sd a0 ts wd c nw w' := by
  have k0 : Keeps (fun _ => False) w (opW w 4 wh tg nn (.slice pa pn pc) (.slice ma mn mc)) := (Keeps.refl _ _).alloc _
  have sz : (opW w 4 wh tg nn (.slice pa pn pc) (.slice ma mn mc)).heap.size = w.heap.size + 1 := szAl _ _
  have HP0 : Hid (PSt w G H P Q B bb b1 b2 tv R r1 r2 hb qb rb sb sd a0 a ts wd c nw) := p
  have HS : Hid (∀ W D, Keeps D (opW w 4 wh tg nn (.slice pa pn pc) (.slice ma mn mc)) W → (∀ y, D y → U4 G H P Q y ∨ w.heap.size < y) → _) := fun W D k hD => p.cells 4 wh tg nn (.slice pa pn pc) (.slice ma mn mc) W D k hD
  have HQ : Hid (PSt (opW w 4 wh tg nn (.slice pa pn pc) (.slice ma mn mc)).drew G H P Q B bb b1 b2 tv R r1 r2 hb qb rb sb sd a0 a ts wd c nw) := p.still k0.drew
  have hk1 := HS.out (opW w 4 wh tg nn (.slice pa pn pc) (.slice ma mn mc)).drew (fun _ => False) (Keeps.refl _ _).drew (fun _ e => e.elim)
  clear p
  go_enter Tryz.func35, Tryz.ntmps35
  go_wp2_with fail
  (refine wp_region_held_drew (S := (fun W => W.cell? ⟨sd, 0, none⟩ = some (.pointer (some ⟨hb, 0, none⟩)) ∧ W.cell? ⟨w.heap.size, 3, none⟩ = some (.int .i64 nn))) (by kernel_rfl) ⟨hk1.1.1, hk1.2.2.2.1⟩ (fun hHeld => ?_); simp only [List.size_toArray, List.length_cons, List.length_nil, Nat.reduceAdd, Array.replicate_succ, Array.replicate_zero, List.push_toArray, List.append_toArray, List.nil_append, List.cons_append])
  clear hk1
  refine rgT 0 (h := ?_)
  refine rgT 1 (h := ?_)
  refine rgT 2 (h := ?_)
  refine rgT 3 (h := ?_)
  refine rgT 4 (h := ?_)
  refine rgT 5 (h := ?_)
  (refine rgS 6 (h := fun K hK => ?_); go_simp)
  have hp := HQ.out
  refine (q4_drain hp.q hp.ok hp.iw (by omega) nn hnn).mono ?_
  clear hp
  rintro e w2 ⟨rfl, P', q2, hP2, k2⟩
  obtain ⟨nr, hnr⟩ : ∃ nr, plN (pureM (insL ts) ts.length) [(6, 0, 0)] nn a = nr := ⟨_, rfl⟩
  obtain ⟨er, her⟩ : ∃ er, plE (pureM (insL ts) ts.length) [(6, 0, 0)] nn a = er := ⟨_, rfl⟩
  have HNR : Hid (plN (pureM (insL ts) ts.length) [(6, 0, 0)] nn a = nr ∧ plE (pureM (insL ts) ts.length) [(6, 0, 0)] nn a = er) := ⟨hnr, her⟩
  rw [hnr, her]
  have H2 : Hid (Q4 w2 G H P' Q B bb b1 b2 tv R r1 r2 hb qb rb sb a0 (plI (pureM (insL ts) ts.length) [(6, 0, 0)] nn a) a ∧ (∀ y, P' y → P y ∨ w.heap.size + 1 ≤ y) ∧ Keeps (U4 G H P Q) (opW w 4 wh tg nn (.slice pa pn pc) (.slice ma mn mc)) w2) := ⟨q2, fun y hy => (hP2 y hy).imp id (fun e => by rw [← sz]; exact e), (Keeps.refl _ _).drew.trans k2⟩
  have hs2 := HS.out w2 _ H2.out.2.2 (fun y e => .inl e)
  clear hnr her q2 hP2 k2
  (refine hK.out _ _ ⟨hs2.1.1, hs2.2.2.2.1⟩ (fun hHeld => ?_); clear hK K; try simp only [Act.put, List.setIfInBounds_toArray, List.set_cons_zero, List.set_cons_succ])
  refine rgT 7 (h := ?_)
  refine rgT 8 (h := ?_)
  refine rgT 9 (h := ?_)
  refine rgT 10 (h := ?_)
  refine rgT 11 (h := ?_)
  refine wpAnyH_done (by kernel_rfl) ?_ _
  go_wp2_with fail
  have hs3 := HS.out (w2.drew.alloc (.cells #[.int .i64 6, .int .i64 0, .int .i64 0] 110)) _ (H2.out.2.2.drew.alloc _) (fun y e => .inl e)
  (refine wp_region_held_drew (S := (fun W => W.cell? ⟨sd, 2, none⟩ = some (.pointer (some ⟨rb, 0, none⟩)) ∧ W.cell? ⟨w.heap.size, 3, none⟩ = some (.int .i64 nn))) (by kernel_rfl) ⟨hs2.1.2.2.1, hs2.2.2.2.1⟩ (fun hHeld => ?_); simp only [List.size_toArray, List.length_cons, List.length_nil, Nat.reduceAdd, Array.replicate_succ, Array.replicate_zero, List.push_toArray, List.append_toArray, List.nil_append, List.cons_append])
  clear hs2
  refine rgT 0 (h := ?_)
  refine rgT 1 (h := ?_)
  refine rgT 2 (h := ?_)
  refine rgT 3 (h := ?_)
  refine rgT 4 (h := ?_)
  refine rgT 5 (h := ?_)
  refine rgT 6 (h := ?_)
  (refine rgS 7 (h := fun K hK => ?_); go_simp)
  (refine hK.out _ _ ⟨hs3.1.2.2.1, hs3.2.2.2.1⟩ (fun hHeld => ?_); clear hK K; try simp only [Act.put, List.setIfInBounds_toArray, List.set_cons_zero, List.set_cons_succ])
  clear hs3
  (refine rgS 8 (h := fun K hK => ?_); go_simp)
  have hp := HQ.out
  have eg : (w2.drew.alloc (.cells #[.int .i64 6, .int .i64 0, .int .i64 0] 110)).heap[w2.heap.size]? = some (.cells #[.int .i64 6, .int .i64 0, .int .i64 0] 110) := heap_alloc_last _ _ _ rfl
  have K3 : Keeps (fun _ => False) w2 (w2.drew.alloc (.cells #[.int .i64 6, .int .i64 0, .int .i64 0] 110)) := (Keeps.refl _ _).drew.alloc _
  refine (q4_rplay (H2.out.1.still K3) hp.ok hp.iw (by omega) [(6, 0, 0)] _ (PkR.lit eg (fun e => by
    have : U4 G H P' Q w2.heap.size := e.elim (fun e => .inr (.inr (.inr e))) (fun e => .inr (.inl (H2.out.1.r.fr _ (.inl e))))
    have := H2.out.1.lt _ this
    omega)) nn hnn).mono ?_
  clear hp eg
  rintro e w3 ⟨rfl, Q', q3, hQ3, k3⟩
  rw [HNR.out.1, HNR.out.2]
  have kc : Keeps (fun y => U4 G H P Q y ∨ w.heap.size + 1 ≤ y) (opW w 4 wh tg nn (.slice pa pn pc) (.slice ma mn mc)) w3 := ((H2.out.2.2.trans (K3.mono (fun _ e => e.elim))).mono (fun _ e => .inl e)).trans (k3.mono (fun y e => by
    rcases e with e | e | e | e
    · exact .inl (.inl e)
    · exact .inl (.inr (.inl e))
    · exact (H2.out.2.1 y e).imp (fun e => .inr (.inr (.inl e))) id
    · exact .inl (.inr (.inr (.inr e)))))
  have hs4 := HS.out w3 _ kc (fun y e => e.imp id (fun e => by omega))
  have H3 : Hid (MvP w G H P Q B bb b1 b2 tv R r1 r2 hb qb rb sb sd a0 ts wd c nw w3) := by
    have st := plI_iw (M := pureM (insL ts) ts.length) [(6, 0, 0)] nn a HP0.out.iw HP0.out.nq
    exact HP0.out.both (w1 := w2.drew.alloc (.cells #[.int .i64 6, .int .i64 0, .int .i64 0] 110)) (P' := P') (Q' := Q') q3 (fun y hy => (H2.out.2.1 y hy).imp id (fun e => by omega)) hQ3 ((((Keeps.refl _ _).alloc _).trans H2.out.2.2).trans (K3.mono (fun _ e => e.elim))) k3 (st.1.up (by omega)) st.2
  clear q3 hQ3 k3 kc H2 K3
  (refine hK.out _ _ ⟨hs4.1.2.2.1, hs4.2.2.2.1⟩ (fun hHeld => ?_); clear hK K; try simp only [Act.put, List.setIfInBounds_toArray, List.set_cons_zero, List.set_cons_succ])
  clear hs4
  refine rgT 9 (h := ?_)
  refine rgT 10 (h := ?_)
  refine rgT 11 (h := ?_)
  refine rgT 12 (h := ?_)
  refine rgT 13 (h := ?_)
  refine wpAnyH_done (by kernel_rfl) ?_ _
  go_wp2
  go_ret
  exact ⟨rfl, H3.out⟩
end Go.Proofs.YtdpebhdjcgiboaaGreat
