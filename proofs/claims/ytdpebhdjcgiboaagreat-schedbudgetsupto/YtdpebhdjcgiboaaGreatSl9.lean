import Derived.Test.YtdpebhdjcgiboaaGreatSl6
namespace Go.Proofs.YtdpebhdjcgiboaaGreat
set_option linter.unusedSimpArgs false
open Go.ChangeShapes Go.WideShapes Go.ChangeAt Go.RowKit Go.MuLone Go.RwLone
set_option linter.unusedVariables false
set_option maxRecDepth 100000
set_option maxHeartbeats 6400000
/-- What a script of SchedPlays holds. -/
structure PSt (w : World) (G H P Q : Nat → Prop) (B : Bd) (bb b1 b2 : Nat) (tv : Value) (R : Rd) (r1 r2 hb qb rb sb sd : Nat) (a0 : Hp) (a : Hp × Ls) (ts : List (List I8)) (wd c nw : Nat) : Prop where
  ok : PairOk B R ts wd
  q : Q4 w G H P Q B bb b1 b2 tv R r1 r2 hb qb rb sb a0 a a
  bs : w.heap[sd]? = some (.cells (sdC hb bb rb R.bk) 90)
  ns : ¬ U4 G H P Q sd
  iw : Iw ts.length c a.1
  nq : a.1.q.length = nw
/-- What an operation leaves. -/
def MvP (w : World) (G H P Q : Nat → Prop) (B : Bd) (bb b1 b2 : Nat) (tv : Value) (R : Rd) (r1 r2 hb qb rb sb sd : Nat) (a0 : Hp) (ts : List (List I8)) (wd c nw : Nat) (w' : World) : Prop :=
  ∃ P' Q' a', PSt w' G H P' Q' B bb b1 b2 tv R r1 r2 hb qb rb sb sd a0 a' ts wd (c + 128) nw ∧ (∀ y, P' y → P y ∨ w.heap.size ≤ y) ∧ (∀ y, Q' y → Q y ∨ w.heap.size ≤ y) ∧ Keeps (U4 G H P Q) w w'
section
variable {w w' : World} {G H P Q : Nat → Prop} {B : Bd} {bb b1 b2 : Nat} {tv : Value} {R : Rd} {r1 r2 hb qb rb sb sd : Nat} {a0 : Hp} {a : Hp × Ls} {pa ra : Hp × Ls} {ts : List (List I8)} {wd c nw : Nat}
theorem PSt.keeps {D : Nat → Prop} (p : PSt w G H P Q B bb b1 b2 tv R r1 r2 hb qb rb sb sd a0 a ts wd c nw) (k : Keeps D w w') (hD : ∀ y, D y → ¬ U4 G H P Q y ∧ y ≠ sd) : PSt w' G H P Q B bb b1 b2 tv R r1 r2 hb qb rb sb sd a0 a ts wd c nw :=
  ⟨p.ok, p.q.keeps k (fun y e => (hD y e).1), (k.block _ (Array.getElem?_eq_some_iff.1 p.bs).1 (fun e => (hD _ e).2 rfl)).trans p.bs, p.ns, p.iw, p.nq⟩
theorem PSt.still (p : PSt w G H P Q B bb b1 b2 tv R r1 r2 hb qb rb sb sd a0 a ts wd c nw) (k : Keeps (fun _ => False) w w') : PSt w' G H P Q B bb b1 b2 tv R r1 r2 hb qb rb sb sd a0 a ts wd c nw := p.keeps k (fun _ e => e.elim)
/-- Nothing was moved. -/
theorem PSt.mv (p : PSt w' G H P Q B bb b1 b2 tv R r1 r2 hb qb rb sb sd a0 a ts wd c nw) (k : Keeps (fun _ => False) w w') : MvP w G H P Q B bb b1 b2 tv R r1 r2 hb qb rb sb sd a0 ts wd c nw w' :=
  ⟨P, Q, a, ⟨p.ok, p.q, p.bs, p.ns, p.iw.up (by omega), p.nq⟩, fun y hy => .inl hy, fun y hy => .inl hy, k.mono (fun _ e => e.elim)⟩
theorem Q4.pr (q : Q4 w G H P Q B bb b1 b2 tv R r1 r2 hb qb rb sb a0 pa ra) (iv : Iv R.n ra.1) : Pr R w w Q rb sb ra := by
  obtain ⟨qv, ev, en, n⟩ := q.n
  exact ⟨⟨Q, qv, ev, en, n, fun y hy => .inl hy, fun y hy e => q.hq y (q.r.fr y e) hy⟩, q.r.o, Keeps.refl _ _, iv⟩
theorem Q4.far (q : Q4 w G H P Q B bb b1 b2 tv R r1 r2 hb qb rb sb a0 pa ra) (y : Nat) (hy : P y) : ¬ fB B y := fun e => q.gp y (q.b.lo y e) hy
/-- Both halves have moved, one behind the other. -/
theorem PSt.both {w1 w2 : World} {P' Q' : Nat → Prop} {a' : Hp × Ls} (p : PSt w G H P Q B bb b1 b2 tv R r1 r2 hb qb rb sb sd a0 a ts wd c nw) (q2 : Q4 w2 G H P' Q' B bb b1 b2 tv R r1 r2 hb qb rb sb a0 a' a') (hP : ∀ y, P' y → P y ∨ w.heap.size ≤ y) (hQ : ∀ y, Q' y → Q y ∨ w1.heap.size ≤ y) (k1 : Keeps (U4 G H P Q) w w1) (k2 : Keeps (U4 G H P' Q) w1 w2) (iw : Iw ts.length (c + 128) a'.1) (nq : a'.1.q.length = nw) : MvP w G H P Q B bb b1 b2 tv R r1 r2 hb qb rb sb sd a0 ts wd c nw w2 := by
  have ls := (Array.getElem?_eq_some_iff.1 p.bs).1
  have s1 := k1.size
  have hk : Keeps (fun x => U4 G H P Q x ∨ w.heap.size ≤ x) w w2 := (k1.mono (fun _ e => .inl e)).trans (k2.mono (fun y e => by
    rcases e with e | e | e | e
    · exact .inl (.inl e)
    · exact .inl (.inr (.inl e))
    · exact (hP y e).imp (fun e => .inr (.inr (.inl e))) id
    · exact .inl (.inr (.inr (.inr e)))))
  refine ⟨P', Q', a', ⟨p.ok, q2, (hk.thin.block sd ls p.ns).trans p.bs, fun e => ?_, iw, nq⟩, hP, fun y hy => (hQ y hy).imp id (fun e => by omega), hk.thin⟩
  rcases e with e | e | e | e
  · exact p.ns (.inl e)
  · exact p.ns (.inr (.inl e))
  · rcases hP sd e with h | h
    · exact p.ns (.inr (.inr (.inl h)))
    · omega
  · rcases hQ sd e with h | h
    · exact p.ns (.inr (.inr (.inr h)))
    · omega
end
theorem stX_B {B : Bd} (hB : BdOk B) {ins : Nat → List I8} {n : Nat} (hi : B.ins = ins) (hn : B.n = n) (a : Hp × Ls) (x : Int) : stX (mcB B hB) a x = stX (pureM ins n) a x := by
  subst hi hn
  rfl
theorem stX_R {R : Rd} {ins : Nat → List I8} {n : Nat} (hi : R.ins = ins) (hn : R.n = n) (a : Hp × Ls) (x : Int) : stX (PM R) a x = stX (pureM ins n) a x := by
  subst hi hn
  rfl
theorem stX_iw {M : Mc} {c n : Nat} (a : Hp × M.σ) (x : Int) (v : Iw M.N c a.1) (hn : a.1.q.length = n) : Iw M.N c (stX M a x).1 ∧ (stX M a x).1.q.length = n := by
  unfold stX
  split
  · exact ⟨v, hn⟩
  · exact Iw.step a x.toNat ⟨v, hn⟩
/-- An operation's cells. -/
abbrev opC (kd wh tg nn : Int) (pv mv : Value) : Array Value := #[.int .i64 kd, .int .i64 wh, .int .i64 tg, .int .i64 nn, pv, mv]
abbrev opW (w : World) (kd wh tg nn : Int) (pv mv : Value) : World := w.alloc (.cells (opC kd wh tg nn pv mv) 93)
/-- A step of a worker, on both sides. -/
theorem mv_step (w : World) (G H P Q : Nat → Prop) (B : Bd) (bb b1 b2 : Nat) (tv : Value) (R : Rd) (r1 r2 hb qb rb sb sd : Nat) (a0 : Hp) (a : Hp × Ls) (ts : List (List I8)) (wd c nw : Nat) (p : PSt w G H P Q B bb b1 b2 tv R r1 r2 hb qb rb sb sd a0 a ts wd c nw) (hc : c ≤ 1000000000) (wh tg nn : Int) (pa : Option Addr) (pn pc : Nat) (ma : Option Addr) (mn mc : Nat) :
    Calls Tryz.prog 35 #[.pointer (some ⟨sd, 0, none⟩), .agg (opC 2 wh tg nn (.slice pa pn pc) (.slice ma mn mc))] w fun e w' => e = .returned (.bool true) ∧ MvP w G H P Q B bb b1 b2 tv R r1 r2 hb qb rb sb sd a0 ts wd c nw w' := by
  have k0 : Keeps (fun _ => False) w (opW w 2 wh tg nn (.slice pa pn pc) (.slice ma mn mc)) := (Keeps.refl _ _).alloc _
  have sz : (opW w 2 wh tg nn (.slice pa pn pc) (.slice ma mn mc)).heap.size = w.heap.size + 1 := szAl _ _
  have eb : (opW w 2 wh tg nn (.slice pa pn pc) (.slice ma mn mc)).heap[w.heap.size]? = some (.cells (opC 2 wh tg nn (.slice pa pn pc) (.slice ma mn mc)) 93) := heap_alloc_last _ _ _ rfl
  have HP : Hid (PSt (opW w 2 wh tg nn (.slice pa pn pc) (.slice ma mn mc)).drew G H P Q B bb b1 b2 tv R r1 r2 hb qb rb sb sd a0 a ts wd c nw) := p.still k0.drew
  have HP0 : Hid (PSt w G H P Q B bb b1 b2 tv R r1 r2 hb qb rb sb sd a0 a ts wd c nw) := p
  have HS : Hid (∀ W D, Keeps D (opW w 2 wh tg nn (.slice pa pn pc) (.slice ma mn mc)).drew W → (∀ y, D y → U4 G H P Q y ∨ w.heap.size < y) → W.cell? ⟨sd, 0, none⟩ = some (.pointer (some ⟨hb, 0, none⟩)) ∧ W.cell? ⟨sd, 2, none⟩ = some (.pointer (some ⟨rb, 0, none⟩)) ∧ W.cell? ⟨w.heap.size, 1, none⟩ = some (.int .i64 wh)) := fun W D k hD => by
    have ls := (Array.getElem?_eq_some_iff.1 p.bs).1
    have e1 : W.heap[sd]? = some (.cells (sdC hb bb rb R.bk) 90) := (k.block sd (by show sd < (opW w 2 wh tg nn (.slice pa pn pc) (.slice ma mn mc)).heap.size; omega) (fun e => (hD _ e).elim p.ns (fun e => by omega))).trans HP.out.bs
    have e2 : W.heap[w.heap.size]? = some (.cells (opC 2 wh tg nn (.slice pa pn pc) (.slice ma mn mc)) 93) := (k.block _ (by show w.heap.size < (opW w 2 wh tg nn (.slice pa pn pc) (.slice ma mn mc)).heap.size; omega) (fun e => (hD _ e).elim (fun e => by have := p.q.lt _ e; omega) (fun e => by omega))).trans eb
    exact ⟨(cell?_heap e1 0).trans rfl, (cell?_heap e1 2).trans rfl, (cell?_heap e2 1).trans rfl⟩
  clear p eb k0
  go_enter Tryz.func35, Tryz.ntmps35
  go_wp2_with fail
  (refine wp_region_held_drew (S := (fun W => W.cell? ⟨sd, 0, none⟩ = some (.pointer (some ⟨hb, 0, none⟩)) ∧ W.cell? ⟨sd, 2, none⟩ = some (.pointer (some ⟨rb, 0, none⟩)) ∧ W.cell? ⟨w.heap.size, 1, none⟩ = some (.int .i64 wh))) (by kernel_rfl) (HS.out _ _ (Keeps.refl (fun _ => False) _) (fun _ e => e.elim)) (fun hHeld => ?_); simp only [List.size_toArray, List.length_cons, List.length_nil, Nat.reduceAdd, Array.replicate_succ, Array.replicate_zero, List.push_toArray, List.append_toArray, List.nil_append, List.cons_append])
  refine rgT 0 (h := ?_)
  refine rgT 1 (h := ?_)
  refine rgT 2 (h := ?_)
  refine rgT 3 (h := ?_)
  refine rgT 4 (h := ?_)
  refine rgT 5 (h := ?_)
  refine rgT 7 (h := ?_)
  refine rgT 8 (h := ?_)
  refine rgT 9 (h := ?_)
  refine rgT 10 (h := ?_)
  refine rgT 11 (h := ?_)
  refine rgT 12 (h := ?_)
  (refine rgS 6 (h := fun K hK => ?_); go_simp)
  obtain ⟨qv, ev, en, m⟩ := HP.out.q.m
  have hok := HP.out.ok
  have iv : Iv ts.length a.1 := HP.out.iw.iv (by omega)
  refine (hStep_any (mcB B hok.hB) _ P hb qb qv ev en a m HP.out.q.b.o HP.out.q.far (by show Iv B.n _; rw [hok.n1]; exact iv) wh).mono ?_
  rintro e w1 ⟨rfl, P', qv', ev', en', md⟩
  obtain ⟨q1, hP1, k1⟩ := HP.out.q.prog md
  have e1 := stX_B hok.hB hok.i1 hok.n1 a wh
  have H1 : Hid (Q4 w1 G H P' Q B bb b1 b2 tv R r1 r2 hb qb rb sb a0 (stX (pureM (insL ts) ts.length) a wh) a ∧ (∀ y, P' y → P y ∨ w.heap.size + 1 ≤ y) ∧ Keeps (U4 G H P Q) (opW w 2 wh tg nn (.slice pa pn pc) (.slice ma mn mc)).drew w1) := ⟨by rw [← e1]; exact q1, fun y hy => (hP1 y hy).imp id (fun e => by rw [← sz]; exact e), k1⟩
  obtain ⟨bq, hbq⟩ : ∃ bq, (!decide (pendP a.1 wh = 0)) = bq := ⟨_, rfl⟩
  have HBQ : Hid ((!decide (pendP a.1 wh = 0)) = bq) := hbq
  rw [hbq]
  clear hbq q1 hP1 k1 e1 md m iv
  (refine hK.out _ _ (HS.out w1 _ H1.out.2.2 (fun y e => .inl e)) (fun hHeld => ?_); clear hK K; try simp only [Act.put, List.setIfInBounds_toArray, List.set_cons_zero, List.set_cons_succ])
  (refine rgS 13 (h := fun K hK => ?_); go_simp)
  refine (rStep_any hok.hR (H1.out.1.pr (by rw [hok.n2]; exact HP.out.iw.iv (by omega))) wh).mono ?_
  rintro e w2 ⟨rfl, pr2⟩
  rw [HBQ.out]
  obtain ⟨Q', q2, hQ2, k2⟩ := H1.out.1.doc hok.hR pr2
  have hs2 := HS.out w2 (fun y => U4 G H P Q y ∨ w.heap.size + 1 ≤ y) ((H1.out.2.2.mono (fun y e => .inl e)).trans (k2.mono (fun y e => by
    rcases e with e | e | e | e
    · exact .inl (.inl e)
    · exact .inl (.inr (.inl e))
    · exact (H1.out.2.1 y e).imp (fun e => .inr (.inr (.inl e))) id
    · exact .inl (.inr (.inr (.inr e)))))) (fun y e => e.imp id (fun e => by omega))
  have H2 : Hid (MvP w G H P Q B bb b1 b2 tv R r1 r2 hb qb rb sb sd a0 ts wd c nw w2) := by
    have e2 := stX_R hok.i2 hok.n2 a wh
    have st := stX_iw (M := pureM (insL ts) ts.length) a wh HP0.out.iw HP0.out.nq
    refine HP0.out.both (w1 := w1) (P' := P') (Q' := Q') (a' := stX (pureM (insL ts) ts.length) a wh) (by rw [← e2]; rw [← e2] at q2; exact q2) (fun y hy => (H1.out.2.1 y hy).imp id (fun e => by omega)) hQ2 (((Keeps.refl _ _).alloc _).drew.trans H1.out.2.2) k2 (st.1.up (by omega)) st.2
  clear q2 hQ2 k2 pr2 H1
  (refine hK.out _ _ hs2 (fun hHeld => ?_); clear hK K; try simp only [Act.put, List.setIfInBounds_toArray, List.set_cons_zero, List.set_cons_succ])
  refine rgT 14 (h := ?_)
  refine rgT 15 (h := ?_)
  refine wpAnyH_done (by kernel_rfl) ?_ _
  clear hs2
  go_wp2
  go_ret
  exact ⟨rfl, H2.out⟩
end Go.Proofs.YtdpebhdjcgiboaaGreat

namespace Go.Proofs.YtdpebhdjcgiboaaGreat
set_option linter.unusedSimpArgs false
open Go.ChangeShapes Go.WideShapes Go.ChangeAt Go.RowKit Go.MuLone Go.RwLone
set_option linter.unusedVariables false
set_option maxRecDepth 100000
set_option maxHeartbeats 3200000
section
variable {M : Mc}
/-- A play that the budget does not bear leaves none of it. -/
theorem nil_runP (x : Int) : ∀ (l : Nat) (n : Int) (a : Hp × M.σ), (runP M x l n a).1 = false → (runP M x l n a).2.1 = 0
  | 0, n, a => by unfold runP; split <;> simp
  | l + 1, n, a => by
    unfold runP
    split
    · simp
    · exact nil_runP x l _ _
theorem nil_finP (i : Nat) : ∀ (l : Nat) (a : Hp × M.σ), (finP M i l a).1 = false → (finP M i l a).2.1 = 0
  | 0, a => fun _ => rfl
  | l + 1, a => by
    unfold finP
    split
    · simp
    · exact nil_finP i l _
theorem nil_roundN : ∀ (k t l : Nat) (a : Hp × M.σ), (roundN M k t l a).1 = false → (roundN M k t l a).2.1 = 0
  | 0, t, l, a => by unfold roundN; simp
  | k + 1, t, l, a => by
    unfold roundN
    split
    · exact nil_roundN k _ _ _
    · exact nil_runP (t : Int) l 1 a
theorem nil_roundsF : ∀ (k : Nat) (n : Int) (l : Nat) (a : Hp × M.σ), (roundsF M k n l a).1 = false → (roundsF M k n l a).2.1 = 0
  | 0, n, l, a => by unfold roundsF; simp
  | k + 1, n, l, a => by
    unfold roundsF
    split
    · simp
    · split
      · exact nil_roundsF k _ _ _
      · exact nil_roundN a.1.q.length 0 l a
theorem nil_pick (p : Int × Int × Int) (l : Nat) (a : Hp × M.σ) : (pickP M p l a).1 = false → (pickP M p l a).2.1 = 0 := by
  unfold pickP
  split
  · exact nil_runP _ _ _ _
  · split
    · exact nil_runP _ _ _ _
    · split
      · unfold finA
        split
        · simp
        · exact nil_finP _ _ _
      · split
        · exact nil_roundsF _ _ _ _
        · split
          · exact nil_roundsF _ _ _ _
          · simp
theorem nil_play : ∀ (vs : List (Int × Int × Int)) (l : Nat) (a : Hp × M.σ), (playP M vs l a).1 = false → (playP M vs l a).2.1 = 0
  | [], l, a => by unfold playP; simp
  | p :: ps, l, a => by
    unfold playP
    split
    · exact nil_play ps _ _
    · exact nil_pick p l a
/-- As many rounds as there are steps to make, or more: it is all one. -/
theorem rounds_same {J : Hp × M.σ → Prop} {Φ : Hp × M.σ → Nat} (W : Bud M J Φ) : ∀ (k : Nat) (n n' : Int) (l : Nat) (a : Hp × M.σ), J a → Φ a ≤ l → (Φ a : Int) < n → (Φ a : Int) < n' → roundsF M k n l a = roundsF M k n' l a
  | 0, n, n', l, a, _, _, _, _ => rfl
  | k + 1, n, n', l, a, j, hl, h1, h2 => by
    by_cases hi : idleP a.1 = true
    · unfold roundsF
      rw [if_pos (.inr hi), if_pos (.inr hi)]
    · obtain ⟨d, a2, j2, p2, hf⟩ := fine_roundN W a.1.q.length 0 a j
      have e := hf l hl
      dsimp only at e
      have hs := roundN_some (M := M) a.1.q.length 0 l a (idle_some hi) (by rw [e])
      rw [e] at hs
      dsimp only at hs
      have hA : ¬ (n ≤ 0 ∨ idleP a.1 = true) := fun h => h.elim (fun h => by omega) hi
      have hB : ¬ (n' ≤ 0 ∨ idleP a.1 = true) := fun h => h.elim (fun h => by omega) hi
      simp only [roundsF, if_neg hA, if_neg hB, e, if_true]
      exact rounds_same W k (n - 1) (n' - 1) (l - d) a2 j2 (by omega) (by omega) (by omega)
end
/-- How many steps there can be. -/
def phG (ins : Nat → List I8) (n : Nat) (a : Hp × Ls) : Nat := szq a.1.q + ((List.range n).map (fun m => (ins m).length - a.2.pl m)).sum
theorem sum_le' (f f' : Nat → Nat) (h : ∀ j, f' j ≤ f j) : ∀ n, ((List.range n).map f').sum ≤ ((List.range n).map f).sum
  | 0 => Nat.le_refl _
  | n + 1 => by
    have ih := sum_le' f f' h n
    have := h n
    rw [List.range_succ, List.map_append, List.map_append, List.sum_append, List.sum_append]
    simp only [List.map_cons, List.map_nil, List.sum_cons, List.sum_nil]
    omega
theorem budG (ins : Nat → List I8) (n c : Nat) : Bud (pureM ins n) (fun a => Iw n c a.1) (phG ins n) := ⟨fun a i x l j hq => by
  have hj := Iw.step (M := pureM ins n) a i ⟨j, rfl⟩
  refine ⟨hj.1, ?_⟩
  have hx : x.1 < n := (j.a i _ hq).2 x (List.mem_cons_self ..)
  obtain ⟨hlt, hge⟩ := List.getElem?_eq_some_iff.1 hq
  have hpl := pl_next a.2.wo (a.2.rg x.1) (ins x.1) (a.2.pl x.1)
  obtain ⟨st', ev', en', h⟩ := stepP_two (M := pureM ins n) hq
  have hs2 : (pureM ins n).st a.2 x.1 = stI ins a.2 x.1 := rfl
  have hpl2 : ∀ k, (stI ins a.2 x.1).pl k = upd a.2.pl x.1 (tsP a.2.wo (a.2.rg x.1) (ins x.1) (a.2.pl x.1)).2.2 k := fun _ => rfl
  generalize (tsP a.2.wo (a.2.rg x.1) (ins x.1) (a.2.pl x.1)).2.2 = p' at *
  have hother : ∀ k, k ≠ x.1 → (ins k).length - (stI ins a.2 x.1).pl k = (ins k).length - a.2.pl k := fun k hk => by rw [hpl2, upd_other _ _ hk]
  have hsame : (stI ins a.2 x.1).pl x.1 = p' := by rw [hpl2, upd_same]
  rcases h with ⟨hd, e⟩ | ⟨hd, e⟩
  · rw [e]
    unfold phG
    dsimp only
    rw [hs2]
    have s1 := sum_set List.length a.1.q i hlt l
    rw [hge] at s1
    have hle := sum_le' (fun m => (ins m).length - a.2.pl m) (fun m => (ins m).length - (stI ins a.2 x.1).pl m) (fun k => by
      by_cases hk : k = x.1
      · subst hk
        show (ins x.1).length - (stI ins a.2 x.1).pl x.1 ≤ (ins x.1).length - a.2.pl x.1
        rw [hsame]
        omega
      · exact Nat.le_of_eq (hother k hk)) n
    unfold szq
    simp only [List.length_cons] at s1
    omega
  · rw [e]
    unfold phG
    dsimp only
    rw [hs2]
    have s1 := sum_set List.length a.1.q i hlt ((x.1, x.2.1, true) :: l)
    rw [hge] at s1
    have hnd : ¬ (ins x.1).length ≤ p' := by
      have hd' : ¬ decide ((ins x.1).length ≤ (stI ins a.2 x.1).pl x.1) = true := hd
      rw [hsame] at hd'
      simpa using hd'
    have hfall := (sum_fall (fun m => (ins m).length - a.2.pl m) (fun m => (ins m).length - (stI ins a.2 x.1).pl m) x.1 hother (by show (ins x.1).length - (stI ins a.2 x.1).pl x.1 + 1 ≤ (ins x.1).length - a.2.pl x.1; rw [hsame]; omega) n).1 hx
    unfold szq
    simp only [List.length_cons] at s1
    omega⟩
theorem phG_le (ins : Nat → List I8) (n c : Nat) (a : Hp × Ls) (v : Iw n c a.1) (hn : n ≤ 4) (hl : ∀ m, m < n → (ins m).length ≤ 1000) : phG ins n a ≤ c + 4000 := by
  have h1 := v.c
  have : ∀ k, k ≤ n → ((List.range k).map (fun m => (ins m).length - a.2.pl m)).sum ≤ k * 1000 := fun k hk => by
    induction k with
    | zero => simp
    | succ k ih =>
      have := ih (by omega)
      have := hl k (by omega)
      rw [List.range_succ, List.map_append, List.sum_append]
      simp only [List.map_cons, List.map_nil, List.sum_cons, List.sum_nil]
      omega
  have := this n (Nat.le_refl _)
  unfold phG
  have : n * 1000 ≤ 4000 := by omega
  omega
/-- The document's drain under the greatest budget. -/
theorem drain_same (ins : Nat → List I8) (n c : Nat) (a : Hp × Ls) (v : Iw n c a.1) (hn : n ≤ 4) (hl : ∀ m, m < n → (ins m).length ≤ 1000) (hc : c ≤ 2000000000) (B : Nat) (hB : B = 9223372036854775807) : roundsA (pureM ins n) 9223372036854775808 B a = roundsA (pureM ins n) 9223372036854775807 B a := by
  have hp := phG_le ins n c a v hn hl
  exact rounds_same (budG ins n c) (B + 1) _ _ B a v (by omega) (by omega) (by omega)
end Go.Proofs.YtdpebhdjcgiboaaGreat

namespace Go.Proofs.YtdpebhdjcgiboaaGreat
set_option linter.unusedSimpArgs false
open Go.ChangeShapes Go.WideShapes Go.ChangeAt Go.RowKit Go.MuLone Go.RwLone
set_option linter.unusedVariables false
set_option maxRecDepth 100000
set_option maxHeartbeats 6400000
def pkC (p : Int × Int × Int) : List Value := [.int .i64 p.1, .int .i64 p.2.1, .int .i64 p.2.2]
theorem pkC_one (p : Int × Int × Int) : ∀ u ∈ pkC p, u.oneCell' = true := by
  intro u hu
  simp [pkC] at hu
  rcases hu with rfl | rfl | rfl <;> rfl
theorem infoPk : (Tryz.prog.info? 110).map (fun i => (i.zero, i.size, i.bytes)) = some (some (.agg #[.int .i64 0, .int .i64 0, .int .i64 0]), 3, 24) := by kernel_rfl
theorem InG.pk {w : World} {C : Nat} {v : Value} {vs : List (Int × Int × Int)} (h : InG pkC w C v vs) : ∃ ao cap, v = .slice ao vs.length cap ∧ vs.length ≤ cap ∧ ∀ i (hi : i < vs.length), ∃ b off, ao = some ⟨b, off, none⟩ ∧ b < C ∧ w.cell? ⟨b, off + i * 3, none⟩ = some (.int .i64 vs[i].1) ∧ w.cell? ⟨b, off + i * 3 + 1, none⟩ = some (.int .i64 vs[i].2.1) ∧ w.cell? ⟨b, off + i * 3 + 2, none⟩ = some (.int .i64 vs[i].2.2) := by
  have hh := h
  obtain ⟨ao, cap, rfl, h1, h2, h3⟩ := h
  refine ⟨ao, cap, rfl, h1, fun i hi => ?_⟩
  obtain ⟨b, off, e, hl, hc⟩ := InG.cell (cs := pkC) (n := 3) (fun _ => rfl) hh i hi (by decide)
  exact ⟨b, off, e, hl, hc 0 (by decide), hc 1 (by decide), hc 2 (by decide)⟩
theorem InG.sees {w : World} {C : Nat} {v : Value} {vs : List (Int × Int × Int)} (h : InG pkC w C v vs) (hl : vs.length ≤ 140737488355328) : SeesP w C v vs := by
  obtain ⟨ao, cap, rfl, h1, h3⟩ := h.pk
  exact ⟨ao, cap, rfl, h1, hl, h3⟩
theorem PkR.in {w : World} {Fb : Nat → Prop} {C : Nat} {v : Value} {vs : List (Int × Int × Int)} (h : InG pkC w C v vs) (hC : C ≤ w.heap.size) (hF : ∀ b, b < C → ¬ Fb b) (hl : vs.length ≤ 140737488355328) (hn : ∀ p ∈ vs, p.2.2 ≤ 9223372036854775807) : PkR w Fb v vs := by
  obtain ⟨ao, cap, rfl, h1, h3⟩ := h.pk
  refine ⟨ao, cap, rfl, hl, hn, fun i hi => ?_⟩
  obtain ⟨b, off, e, hb, c0, c1, c2⟩ := h3 i hi
  exact ⟨b, off, e, hF b hb, by omega, c0, c1, c2⟩
theorem PkR.own {w : World} {Fb : Nat → Prop} {B : Nat} {v : Value} {vs : List (Int × Int × Int)} (h : OwG pkC 110 3 w B v vs) (hF : ∀ b, Fb b → b < B) (hl : vs.length ≤ 140737488355328) (hn : ∀ p ∈ vs, p.2.2 ≤ 9223372036854775807) : PkR w Fb v vs := by
  obtain ⟨ao, cap, rfl, h1, h3⟩ := h.in.pk
  refine ⟨ao, cap, rfl, hl, hn, fun i hi => ?_⟩
  obtain ⟨b, off, e, hb, c0, c1, c2⟩ := h3 i hi
  obtain ⟨g, c', e', hg, _⟩ := owG_some h (by intro e0; rw [e0] at hi; simp at hi)
  injection e' with e' _ _
  rw [e] at e'
  injection e' with e'
  injection e' with e1 e2
  subst e1
  exact ⟨b, off, e, fun e => by have := hF b e; omega, hb, c0, c1, c2⟩
theorem retP_E (b : Bool) (l bd : Nat) : retP b l bd = .tuple #[.int .i64 (retI b l bd), .int .i64 (erC b)] := by
  cases b <;> rfl
theorem ret_d {b : Bool} {l bd d : Nat} (hd : d ≤ bd) (hl : l = bd - d) (h0 : b = false → l = 0) : retI b l bd = (d : Int) := by
  cases b with
  | true => unfold retI; rw [if_pos rfl]; omega
  | false => have := h0 rfl; unfold retI; rw [if_neg (by decide)]; omega
/-- The document's Play under no budget. -/
theorem rplay_neg (w : World) (hb : Nat) (bd : Int) (h : bd < 0) (v : Value) :
    Calls Tryz.prog 66 #[.pointer (some ⟨hb, 0, none⟩), .int .i64 bd, v] w fun e w' => e = .returned (.tuple #[.int .i64 0, .int .i64 34]) ∧ w' = w := by
  go_enter Tryz.func66, Tryz.ntmps66
  go_wp2
  go_ret2
  exact ⟨rfl, rfl⟩
/-- What a play does, under any budget. -/
def plI (M : Mc) (vs : List (Int × Int × Int)) (bd : Int) (a : Hp × M.σ) : Hp × M.σ := if bd < 0 then a else (playP M vs bd.toNat a).2.2
def plN (M : Mc) (vs : List (Int × Int × Int)) (bd : Int) (a : Hp × M.σ) : Int := if bd < 0 then 0 else retI (playP M vs bd.toNat a).1 (playP M vs bd.toNat a).2.1 bd.toNat
def plE (M : Mc) (vs : List (Int × Int × Int)) (bd : Int) (a : Hp × M.σ) : Int := if bd < 0 then 34 else erC (playP M vs bd.toNat a).1
theorem pl_neg {M : Mc} {vs : List (Int × Int × Int)} {bd : Int} {a : Hp × M.σ} (h : bd < 0) : plI M vs bd a = a ∧ plN M vs bd a = 0 ∧ plE M vs bd a = 34 := by
  unfold plI plN plE
  rw [if_pos h, if_pos h, if_pos h]
  exact ⟨rfl, rfl, rfl⟩
theorem pl_pos {M : Mc} {vs : List (Int × Int × Int)} {n : Nat} {a : Hp × M.σ} : plI M vs (n : Int) a = (playP M vs n a).2.2 ∧ plN M vs (n : Int) a = retI (playP M vs n a).1 (playP M vs n a).2.1 n ∧ plE M vs (n : Int) a = erC (playP M vs n a).1 := by
  unfold plI plN plE
  have h : ¬ (n : Int) < 0 := by omega
  rw [if_neg h, if_neg h, if_neg h, Int.toNat_natCast]
  exact ⟨rfl, rfl, rfl⟩
theorem plI_iw {M : Mc} {c n : Nat} (vs : List (Int × Int × Int)) (bd : Int) (a : Hp × M.σ) (v : Iw M.N c a.1) (hn : a.1.q.length = n) : Iw M.N c (plI M vs bd a).1 ∧ (plI M vs bd a).1.q.length = n := by
  unfold plI
  split
  · exact ⟨v, hn⟩
  · exact Iw.play vs _ a v hn
/-- The program's Play, of the four. -/
theorem q4_play {w : World} {G H P Q : Nat → Prop} {B : Bd} {bb b1 b2 : Nat} {tv : Value} {R : Rd} {r1 r2 hb qb rb sb : Nat} {a0 : Hp} {a ra : Hp × Ls} {ts : List (List I8)} {wd c : Nat} (q : Q4 w G H P Q B bb b1 b2 tv R r1 r2 hb qb rb sb a0 a ra) (ok : PairOk B R ts wd) (iw : Iw ts.length c a.1) (hc : c ≤ 2000000000) (vs : List (Int × Int × Int)) (v : Value) (hv : PkR w (fun x => P x ∨ fB B x) v vs) (bd : Int) (hbd : bd ≤ 9223372036854775807) :
    Calls Tryz.prog 11 #[.pointer (some ⟨hb, 0, none⟩), .int .i64 bd, v] w fun e w' => e = .returned (.tuple #[.int .i64 (plN (pureM (insL ts) ts.length) vs bd a), .int .i64 (plE (pureM (insL ts) ts.length) vs bd a)]) ∧ ∃ P', Q4 w' G H P' Q B bb b1 b2 tv R r1 r2 hb qb rb sb a0 (plI (pureM (insL ts) ts.length) vs bd a) ra ∧ (∀ y, P' y → P y ∨ w.heap.size ≤ y) ∧ Keeps (U4 G H P Q) w w' := by
  by_cases h0 : bd < 0
  · obtain ⟨e1, e2, e3⟩ := pl_neg (M := pureM (insL ts) ts.length) (vs := vs) (a := a) h0
    rw [e2, e3]
    refine (hplay_neg w P B.T hb qb bd h0 v).mono ?_
    rintro e w' ⟨he, rfl⟩
    exact ⟨he, P, by rw [e1]; exact q, fun y hy => .inl hy, Keeps.refl _ _⟩
  · obtain ⟨n, rfl⟩ : ∃ n : Nat, bd = (n : Int) := ⟨bd.toNat, by omega⟩
    obtain ⟨e1, e2, e3⟩ := pl_pos (M := pureM (insL ts) ts.length) (vs := vs) (n := n) (a := a)
    rw [e2, e3]
    obtain ⟨qv, ev, en, m⟩ := q.m
    refine (hplay_any (mcB B ok.hB) w P hb qb qv ev en a m q.b.o q.far (by show Iv B.n _; rw [ok.n1]; exact iw.iv (by omega)) n (by omega) v vs hv).mono ?_
    rintro e w' ⟨he, _, P', qv', ev', en', md⟩
    obtain ⟨q1, hP1, k1⟩ := q.prog md
    obtain ⟨u1, u2, u3⟩ := mcB_one ok.hB ok.i1 ok.n1 vs n a
    rw [retP_E, u1, u2] at he
    exact ⟨he, P', by rw [e1, ← u3]; exact q1, hP1, k1⟩
/-- The document's Play, of the four. -/
theorem q4_rplay {w : World} {G H P Q : Nat → Prop} {B : Bd} {bb b1 b2 : Nat} {tv : Value} {R : Rd} {r1 r2 hb qb rb sb : Nat} {a0 : Hp} {pa a : Hp × Ls} {ts : List (List I8)} {wd c : Nat} (q : Q4 w G H P Q B bb b1 b2 tv R r1 r2 hb qb rb sb a0 pa a) (ok : PairOk B R ts wd) (iw : Iw ts.length c a.1) (hc : c ≤ 2000000000) (vs : List (Int × Int × Int)) (v : Value) (hv : PkR w (fun x => Q x ∨ fRw R x) v vs) (bd : Int) (hbd : bd ≤ 9223372036854775807) :
    Calls Tryz.prog 66 #[.pointer (some ⟨rb, 0, none⟩), .int .i64 bd, v] w fun e w' => e = .returned (.tuple #[.int .i64 (plN (pureM (insL ts) ts.length) vs bd a), .int .i64 (plE (pureM (insL ts) ts.length) vs bd a)]) ∧ ∃ Q', Q4 w' G H P Q' B bb b1 b2 tv R r1 r2 hb qb rb sb a0 pa (plI (pureM (insL ts) ts.length) vs bd a) ∧ (∀ y, Q' y → Q y ∨ w.heap.size ≤ y) ∧ Keeps (U4 G H P Q) w w' := by
  by_cases h0 : bd < 0
  · obtain ⟨e1, e2, e3⟩ := pl_neg (M := pureM (insL ts) ts.length) (vs := vs) (a := a) h0
    rw [e2, e3]
    refine (rplay_neg w rb bd h0 v).mono ?_
    rintro e w' ⟨he, rfl⟩
    exact ⟨he, Q, by rw [e1]; exact q, fun y hy => .inl hy, Keeps.refl _ _⟩
  · obtain ⟨n, rfl⟩ : ∃ n : Nat, bd = (n : Int) := ⟨bd.toNat, by omega⟩
    obtain ⟨e1, e2, e3⟩ := pl_pos (M := pureM (insL ts) ts.length) (vs := vs) (n := n) (a := a)
    rw [e2, e3]
    have hnn : R.n = ts.length := ok.n2
    have hii : R.ins = insL ts := ok.i2
    have hln := ok.hR.ln
    refine (rplay_gen ok.hR (q.pr (by rw [hnn]; exact iw.iv (by omega))) n (by omega) (fun a => Iw R.n c a.1) (by rw [hnn]; exact iw) (fun a p l v => inv_pick (M := pureM R.ins R.n) (J := fun a => Iw R.n c a.1) (fun a i v => (Iw.step (M := pureM R.ins R.n) a i ⟨v, rfl⟩).1) p l a v) (fun a v hB => drain_same R.ins R.n c a v ok.hR.n4 hln hc n hB) v vs hv).mono ?_
    rintro e w' ⟨d, hd, hl, he, pr2⟩
    obtain ⟨Q', q2, hQ2, k2⟩ := q.doc ok.hR pr2
    obtain ⟨u1, u2, u3⟩ := PM_one hii hnn vs n a
    rw [u1] at he
    rw [u2] at hl
    have hr := ret_d hd hl (nil_play (M := pureM (insL ts) ts.length) vs n a)
    rw [hr]
    exact ⟨he, Q', by rw [e1, ← u3]; exact q2, hQ2, k2⟩
end Go.Proofs.YtdpebhdjcgiboaaGreat
