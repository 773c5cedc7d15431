import Derived.Test.YteekompojgbkhaaGreatKBmJ
namespace Go.Proofs.YteekompojgbkhaaGreat
open Go.ChangeShapes Go.WideShapes Go.ChangeAt Go.RowKit Go.MuLone Go.RwLone
set_option linter.unusedVariables false
set_option maxRecDepth 100000
set_option maxHeartbeats 3200000
section
variable {w w' : World} {B bb : Nat} {l : BkL} {s : BkS}
/-- A list of a machine has grown, and is stored. -/
theorem BkM.setL {g m cap : Nat} (h : BkM w B bb l s) (hv : s.av = .slice (some ⟨g, 0, none⟩) m cap) (i : Nat) (q q' : OL) (hi : s.all[i]? = some q) (t0 : Nat) (ht0 : t0 = 9 + 4 * i ∨ t0 = 10 + 4 * i) (k : Keeps (fun x => s.T x = t0) w w') (j : Nat) (hj : j < 12) (u : Value) (he : olC q' = (olC q).set j u)
    (hm : q'.mb = q.mb ∧ q'.o.kd = q.o.kd ∧ q'.o.mi = q.o.mi ∧ q'.o.mr = q.o.mr ∧ q'.o.mw = q.o.mw) (hd : OwI w' B q'.dv q'.o.t.due) (ht : OwI w' B q'.mv q'.o.t.met) (T' : Nat → Nat) (hT : ∀ x, s.T x ≠ 0 → T' x = s.T x) (hT0 : ∀ x, T' x ≠ 0 → B ≤ x ∧ x < w'.heap.size) (hd2 : ∀ x, q'.dv.ownBlock = some x → T' x = 9 + 4 * i) (ht2 : ∀ x, q'.mv.ownBlock = some x → T' x = 10 + 4 * i) :
    BkM (w'.setCell ⟨g, i * 12 + j, none⟩ u) B bb l { s with all := s.all.set i q', T := T' } := by
  have hlt := (List.getElem?_eq_some_iff.1 hi).1
  have hT7 : s.T g = 7 := h.t7 g (by rw [hv]; rfl)
  have o := h.but t0 k
  have kk := keepS (w := w') (D := fun x => s.T x = 7) g (i * 12 + j) u hT7
  have ha := o.a (by omega)
  rw [hv] at ha
  have ob := o.b (by omega)
  have t2 := h.t2
  have t3 := h.t3
  have t4 := h.t4
  have t5 := h.t5
  have t6 := h.t6
  have n7 : ∀ x t, T' x = t → t ≠ 0 → t ≠ 7 → s.T x ≠ 7 := fun x t hx h0 h7 e => by
    have := hT x (by rw [e]; decide)
    rw [hx, e] at this
    exact h7 this
  refine ⟨(o.ch (by omega)).keeps kk (fun x hx e => by have := h.t1 x hx; omega), (kk.block bb (Array.getElem?_eq_some_iff.1 ob).1 (by omega)).trans ob, (o.i (by omega)).keeps kk (by omega), (o.r (by omega)).keeps kk (by omega), (o.k (by omega)).keeps kk (by omega), (o.z (by omega)).keeps kk (by omega),
    fun j' hj' => ⟨owK (o.v j' hj' (by omega)).1 kk (fun x hx e => by have := h.t9 j' hj' x hx; omega), (h.v j' hj').2⟩, ?_, fun k' p hp => ?_, fun x hx => (hT x (by rw [h.t1 x hx]; decide)).trans (h.t1 x hx), (hT _ (by omega)).trans t2, (hT _ (by omega)).trans t3, (hT _ (by omega)).trans t4, (hT _ (by omega)).trans t5, (hT _ (by omega)).trans t6, fun x hx => (hT x (by rw [h.t7 x hx]; decide)).trans (h.t7 x hx), fun k' p hp => ?_, fun j' hj' x hx => (hT x (by rw [h.t9 j' hj' x hx]; omega)).trans (h.t9 j' hj' x hx), fun x hx => ⟨(hT0 x hx).1, by simpa using (hT0 x hx).2⟩, fun g c t e => (kk.block _ (Array.getElem?_eq_some_iff.1 (o.pp (by omega) g c t e)).1 (by have := h.tp g c t e; omega)).trans (o.pp (by omega) g c t e), fun g c t e => (hT _ (by rw [h.tp g c t e]; decide)).trans (h.tp g c t e)⟩
  · show OwG olC _ 12 _ B s.av _
    rw [hv]
    exact owG_put (n := 12) olC_len ha i q q' hi j hj u he
  · rcases set_at hlt hp with ⟨rfl, rfl⟩ | ⟨e, hp⟩
    · obtain ⟨m0, m1, m2, m3, m4⟩ := hm
      have hq := ((o.m k' q hi).1 (by omega)).keeps kk (by have := (h.t8 k' q hi).1; omega)
      refine ⟨?_, owK hd kk (fun x hx => n7 x _ (hd2 x hx) (by omega) (by omega)), owK ht kk (fun x hx => n7 x _ (ht2 x hx) (by omega) (by omega))⟩
      unfold OL.H
      rw [m0, m1, m2, m3, m4]
      exact hq
    · have tt := h.t8 k' p hp
      exact ⟨((o.m k' p hp).1 (by omega)).keeps kk (by omega), owK ((o.m k' p hp).2.1 (by omega)) kk (fun x hx e => by have := tt.2.1 x hx; omega), owK ((o.m k' p hp).2.2 (by omega)) kk (fun x hx e => by have := tt.2.2 x hx; omega)⟩
  · rcases set_at hlt hp with ⟨rfl, rfl⟩ | ⟨e, hp⟩
    · have := (h.t8 k' q hi).1
      exact ⟨by rw [hm.1]; exact (hT _ (by omega)).trans this, hd2, ht2⟩
    · have tt := h.t8 k' p hp
      exact ⟨(hT _ (by omega)).trans tt.1, fun x hx => (hT x (by rw [tt.2.1 x hx]; omega)).trans (tt.2.1 x hx), fun x hx => (hT x (by rw [tt.2.2 x hx]; omega)).trans (tt.2.2 x hx)⟩
/-- What a walk reads. -/
theorem BkM.rdw {g m cap : Nat} (h : BkM w B bb l s) (hv : s.av = .slice (some ⟨g, 0, none⟩) m cap) (i : Nat) (q : OL) (hi : s.all[i]? = some q) (p : Nat) (hp : i * 12 = p) (h2 : q.o.kd = 2) : RdW w l bb g p s.N s.nb q.mb q.o.dn q.o.t.rk q.dv q.mv q.o.t.due q.o.t.met s.rem s.rank := by
  have hc := h.cells hv i q hi p hp
  obtain ⟨g', cap', e1, e2, e3, e4, e5⟩ := h.ones i q hi
  have eg : g' = g := by
    rw [hv] at e1
    injection e1 with e1 _ _
    injection e1 with e1
    injection e1 with e1
    exact e1.symm
  subst eg
  exact ⟨(h.c 2).trans rfl, (h.c 5).trans rfl, (h.c 6).trans rfl, (hc 3 (by decide)).trans (by unfold olC; rw [h2]; rfl), (hc 5 (by decide)).trans rfl, (hc 9 (by decide)).trans rfl, (hc 10 (by decide)).trans rfl, (hc 11 (by decide)).trans rfl, fun j hj => h.r.c j (by omega), fun j hj => h.k.c j (by omega), (h.m i q hi).2.1.down (Nat.zero_le _), (h.m i q hi).2.2.down (Nat.zero_le _), e5⟩
end
def trS (s : BkS) (o : On) : TrP := if o.bg = true then o.t else { o.t with rk := s.ranks, due := s.rows o.t.k }
/-- What is left of the book when a walk steps. -/
def WlkNx (s : BkS) (i : Nat) (q : OL) (r : Bool × CS × MW) (s' : BkS) : Prop := ∃ dv' mv' T', s' = { s with S := r.2.1.S, x := r.2.1.x, all := s.all.set i ⟨{ q.o with mw := r.2.2, bg := true, t := { trS s q.o with met := met1 (trS s q.o) r.2.2 }, dn := r.2.2.ended }, q.mb, dv', mv'⟩, T := T' }
theorem bk_walked (w : World) (B bb : Nat) (l : BkL) (s : BkS) (g m cap i p : Nat) (q : OL) (h : BkM w B bb l s) (hv : s.av = .slice (some ⟨g, 0, none⟩) m cap) (hi : s.all[i]? = some q) (hp : i * 12 = p) (h0 : q.o.kd = 2) (N1 : s.N ≤ 24) (b0 : 1 ≤ s.nb) (b1 : s.nb ≤ 4) (t0 : 0 ≤ q.o.t.k) (t1 : q.o.t.k < (s.nb : Int)) (hlr : ∀ c, (s.rows c).length ≤ 4000) (hld : q.o.t.due.length ≤ 4000) (hlm : q.o.t.met.length ≤ 4000) (hw : WdOk s.S s.x) (hb : q.o.bg = false → q.o.t.due = [])
    (hcode : (wlkP s.S s.x q.o.mw).2.2.code = 0) (hen : (wlkP s.S s.x q.o.mw).1 = true ↔ ((wlkP s.S s.x q.o.mw).2.2.slot ≠ 0 ∨ (wlkP s.S s.x q.o.mw).2.2.ended = true)) (hdn : q.o.dn = true → (wlkP s.S s.x q.o.mw).2.2.slot = 0 ∧ (wlkP s.S s.x q.o.mw).2.2.ended = true)
    (hsl : (wlkP s.S s.x q.o.mw).2.2.slot ≠ 0 → (1 ≤ (wlkP s.S s.x q.o.mw).2.2.slot ∧ (wlkP s.S s.x q.o.mw).2.2.slot ≤ (s.N : Int)) ∧ (wlkP s.S s.x q.o.mw).2.2.slot ∈ (trS s q.o).due ∧ s.rank (wlkP s.S s.x q.o.mw).2.2.slot < (trS s q.o).rk ∧ ∀ u, u ∈ (trS s q.o).met → s.rank (wlkP s.S s.x q.o.mw).2.2.slot < s.rank u)
    (hin : ∀ u, u ∈ (trS s q.o).met ∨ u ∈ (trS s q.o).due → 1 ≤ u ∧ u ≤ (s.N : Int))
    (hend : q.o.dn = false → (wlkP s.S s.x q.o.mw).2.2.ended = true → ∀ u, u ∈ (trS s q.o).due → s.rem u = 2 ∨ u ∈ met1 (trS s q.o) (wlkP s.S s.x q.o.mw).2.2) :
    Calls Tryz.prog 43 #[.pointer (some ⟨bb, 0, none⟩), .pointer (some ⟨g, p, none⟩)] w fun e w' => e = .returned (.bool true) ∧ ∃ s', BkM w' B bb l s' ∧ Below B w w' ∧ WlkNx s i q (wlkP s.S s.x q.o.mw) s' := by
  have hlt := (List.getElem?_eq_some_iff.1 hi).1
  have hT7 : s.T g = 7 := h.t7 g (by rw [hv]; rfl)
  obtain ⟨r, hr⟩ : ∃ r, wlkP s.S s.x q.o.mw = r := ⟨_, rfl⟩
  obtain ⟨tr, htr⟩ : ∃ t, trS s q.o = t := ⟨_, rfl⟩
  obtain ⟨k, hk⟩ : ∃ k : Nat, q.o.t.k = (k : Int) := ⟨q.o.t.k.toNat, by omega⟩
  have hkl : k < s.nb := by omega
  obtain ⟨sl, hsn⟩ : ∃ n : Nat, r.2.2.slot = (n : Int) := by
    by_cases e : r.2.2.slot = 0
    · exact ⟨0, e⟩
    · have := (hsl (by rw [hr]; exact e)).1
      rw [hr] at this
      exact ⟨r.2.2.slot.toNat, by omega⟩
  unfold WlkNx
  rw [hr] at hcode hen hdn hsl hend ⊢
  rw [htr] at hsl hend hin ⊢
  have tk : tr.k = q.o.t.k := by
    rw [← htr]
    unfold trS
    split <;> rfl
  have tm : tr.met = q.o.t.met := by
    rw [← htr]
    unfold trS
    split <;> rfl
  have tld : tr.due.length ≤ 4000 := by
    rw [← htr]
    unfold trS
    split
    · exact hld
    · exact hlr _
  have m1l : (met1 tr r.2.2).length ≤ 4001 := by
    unfold met1
    rw [tm]
    split
    · omega
    · rw [List.length_append]
      simp
      omega
  -- the states
  have hmid : ∀ (W : World) (qx : OL) (T' : Nat → Nat), BkM W B bb l { s with all := s.all.set i qx, T := T' } → ({ s with all := s.all.set i qx, T := T' } : BkS).all[i]? = some qx := fun W qx T' _ => List.getElem?_set_self hlt
  obtain ⟨un, hun⟩ : ∃ n : Nat, ∀ ys0 u, q.o.t.met = ys0 ++ [u] → u = (n : Int) ∧ n ≤ s.N := by
    rcases List.eq_nil_or_concat q.o.t.met with e | ⟨ys0, u, e⟩
    · exact ⟨0, fun y u e2 => by rw [e] at e2; simp at e2⟩
    · have hu := hin u (.inl (by rw [tm, e]; simp))
      refine ⟨u.toNat, fun y v e2 => ?_⟩
      rw [e] at e2
      have e3 : u = v := by
        have := congrArg List.getLast? e2
        simpa using this
      rw [← e3]
      exact ⟨by omega, by omega⟩
  refine (bk_walk w l bb g p s.N s.nb q.mb k sl un s.ranks tr.rk q.o.bg q.o.dn r.2.2.ended r.1 (s.rv k) q.dv q.mv (s.rows (k : Int)) tr.due q.o.t.met (met1 tr r.2.2) s.rem s.rank
    (fun W => q.o.bg = false ∧ BkM W B bb l { s with all := s.all.set i { q with o := { q.o with bg := true, t := { q.o.t with rk := s.ranks } } } } ∧ Below B w W)
    (fun W => ∃ dv' T', BkM W B bb l { s with all := s.all.set i ⟨{ q.o with bg := true, t := tr }, q.mb, dv', q.mv⟩, T := T' } ∧ Below B w W)
    (fun W => ∃ dv' T', BkM W B bb l { s with S := r.2.1.S, x := r.2.1.x, all := s.all.set i ⟨{ q.o with mw := r.2.2, bg := true, t := tr }, q.mb, dv', q.mv⟩, T := T' } ∧ Below B w W)
    (fun W => ∃ dv' mv' T', BkM W B bb l { s with S := r.2.1.S, x := r.2.1.x, all := s.all.set i ⟨{ q.o with mw := r.2.2, bg := true, t := { tr with met := met1 tr r.2.2 } }, q.mb, dv', mv'⟩, T := T' } ∧ Below B w W)
    (fun W => r.2.2.ended = true ∧ ∃ dv' mv' T', BkM W B bb l { s with S := r.2.1.S, x := r.2.1.x, all := s.all.set i ⟨{ q.o with mw := r.2.2, bg := true, t := { tr with met := met1 tr r.2.2 }, dn := true }, q.mb, dv', mv'⟩, T := T' } ∧ Below B w W)
    (fun W => ∃ dv' mv' T', BkM W B bb l { s with S := r.2.1.S, x := r.2.1.x, all := s.all.set i ⟨{ q.o with mw := r.2.2, bg := true, t := { tr with met := met1 tr r.2.2 }, dn := r.2.2.ended }, q.mb, dv', mv'⟩, T := T' } ∧ Below B w W)
    hkl (by omega) (by have := hlr (k : Int); omega) (by omega) (by omega) (by omega) (by omega) ?hen ?hdn ?c8 ?F0 ?F1 ?F2 ?F3 ?F4 ?G1 ?F5 ?F5' ?F6 ?F7 ?G2).mono ?fin
  case hen =>
    rw [Bool.eq_iff_iff, hen, hsn]
    simp
  case hdn =>
    intro hd
    have := hdn hd
    rw [hsn] at this
    exact ⟨by omega, this.2⟩
  case c8 => exact (h.cells hv i q hi p hp 8 (by decide)).trans rfl
  case F0 =>
    intro hbg
    refine ⟨q.dv, s.T, ?_, Below.refl _ _⟩
    have e1 : (⟨{ q.o with bg := true, t := tr }, q.mb, q.dv, q.mv⟩ : OL) = q := by
      have : tr = q.o.t := by rw [← htr]; unfold trS; rw [if_pos hbg]
      rw [this]
      obtain ⟨o, mb, dv, mv⟩ := q
      obtain ⟨kd, sl, mi, mr, mw, dn, mq, bg, t⟩ := o
      cases hbg
      rfl
    rw [e1]
    have e2 : s.all.set i q = s.all := by
      obtain ⟨h1, h2⟩ := List.getElem?_eq_some_iff.1 hi
      rw [← h2]
      exact List.set_getElem_self h1
    rw [e2]
    exact h
  case F1 =>
    intro hbg
    obtain ⟨q1, hq1⟩ : ∃ x : OL, x = { q with o := { q.o with bg := true } } := ⟨_, rfl⟩
    have b1 : BkM (w.setCell ⟨g, p + 8, none⟩ (.bool true)) B bb l { s with all := s.all.set i q1 } := by
      rw [hq1]
      exact h.setQ hv i p q { q.o with bg := true } hi hp 8 (by decide) _ rfl ⟨rfl, rfl, rfl, rfl, rfl, rfl⟩
    have hi1 : ({ s with all := s.all.set i q1 } : BkS).all[i]? = some q1 := List.getElem?_set_self hlt
    have b2 := b1.setQ hv i p q1 { q1.o with t := { q1.o.t with rk := s.ranks } } hi1 hp 9 (by decide) (.int .i64 s.ranks) rfl ⟨rfl, rfl, rfl, rfl, rfl, rfl⟩
    obtain ⟨_, _, _, _, _, _, ef⟩ := h.ones i q hi
    have rr := h.rdw hv i q hi p hp h0
    refine ⟨(h.c 7).trans rfl, rr.fg _, rr.fg _, (b1.c 7).trans rfl, ⟨_, (b1.cells hv i q1 hi1 p hp 9 (by decide)).trans rfl⟩, hbg, ?_, ?_⟩
    · have e : (s.all.set i q1).set i { q1 with o := { q1.o with t := { q1.o.t with rk := s.ranks } } } = s.all.set i { q with o := { q.o with bg := true, t := { q.o.t with rk := s.ranks } } } := by
        rw [hq1]
        simp
      have b3 : BkM ((w.setCell ⟨g, p + 8, none⟩ (.bool true)).setCell ⟨g, p + 9, none⟩ (.int .i64 s.ranks)) B bb l { s with all := (s.all.set i q1).set i { q1 with o := { q1.o with t := { q1.o.t with rk := s.ranks } } } } := b2
      rw [e] at b3
      exact b3
    · exact b1.belS (h.belS (Below.refl B w) g _ _ (by rw [hT7]; decide)) g _ _ (by show s.T g ≠ 0; rw [hT7]; decide)
  case F2 =>
    rintro W ⟨hbg, hW, hbW⟩
    obtain ⟨qa, hqa⟩ : ∃ x : OL, x = { q with o := { q.o with bg := true, t := { q.o.t with rk := s.ranks } } } := ⟨_, rfl⟩
    rw [← hqa] at hW
    have hia : ({ s with all := s.all.set i qa } : BkS).all[i]? = some qa := List.getElem?_set_self hlt
    have hdue := hb hbg
    have etr : tr = { q.o.t with rk := s.ranks, due := s.rows q.o.t.k } := by rw [← htr]; unfold trS; rw [if_neg (by rw [hbg]; decide)]
    have c7 : W.cell? ⟨g, p + 7, none⟩ = some (.int .i64 (k : Int)) := (hW.cells hv i qa hia p hp 7 (by decide)).trans (by show some (Value.int .i64 qa.o.t.k) = _; rw [hqa, ← hk])
    have c8 : W.cell? ⟨bb, 8, none⟩ = some (.slice (some ⟨l.wb, 0, none⟩) s.nb l.wc) := (hW.c 8).trans rfl
    have cw : W.cell? ⟨l.wb, k, none⟩ = some (s.rv k) := hW.z.c k hkl
    have c10 : W.cell? ⟨g, p + 10, none⟩ = some q.dv := (hW.cells hv i qa hia p hp 10 (by decide)).trans (by show some qa.dv = _; rw [hqa])
    have od : OwI W B q.dv [] := by
      have := (hW.m i qa hia).2.1
      rw [hqa] at this
      have e : ({ q with o := { q.o with bg := true, t := { q.o.t with rk := s.ranks } } } : OL).o.t.due = [] := hdue
      rw [e] at this
      exact this
    have kd := (Keeps.refl (fun _ => False) W).drew
    refine ⟨⟨c8, c7, cw⟩, c10, (owK od kd (fun _ _ e => e)).down (Nat.zero_le _), (owK (hW.v k hkl).1 kd (fun _ _ e => e)).down (Nat.zero_le _), (hW.v k hkl).2, fun v' w7 ho7 kk hv7 => ?_⟩
    have k7 : Keeps (fun x => s.T x = 9 + 4 * i) W w7 := (kd.mono (fun _ e => e.elim)).trans (kk.mono (fun x e => (h.t8 i q hi).2.1 x e))
    have gs : g < W.heap.size := (hW.tl g (by show s.T g ≠ 0; rw [hT7]; decide)).2
    have ws : l.wb < W.heap.size := (hW.tl l.wb (by show s.T l.wb ≠ 0; rw [h.t6]; decide)).2
    have t2 := h.t2
    have t6 := h.t6
    have hvB : ∀ x, v'.ownBlock = some x → B ≤ x := fun x hx => by
      rcases hv7 x hx with e | e
      · exact (World.ownsRow.lt od x e).1
      · have := hW.hB
        have e : W.heap.size ≤ x := e
        omega
    have o := hW.but (9 + 4 * i) k7
    have b8 := hW.setL hv i qa ⟨{ q.o with bg := true, t := tr }, q.mb, v', q.mv⟩ hia (9 + 4 * i) (.inl rfl) k7 10 (by decide) v' (by rw [hqa, etr]; rfl) (by rw [hqa]; exact ⟨rfl, rfl, rfl, rfl, rfl⟩)
      (by show OwI w7 B v' tr.due; rw [etr]; show OwI w7 B v' (s.rows q.o.t.k); rw [hk]; exact owG_hi ho7 B hvB) (by have := (o.m i qa hia).2.2 (by omega); rw [hqa] at this; show OwI w7 B q.mv tr.met; rw [tm]; exact this)
      (fun x => if v'.ownBlock = some x then 9 + 4 * i else s.T x) (fun x hx => by
        by_cases e : v'.ownBlock = some x
        · rw [if_pos e]
          rcases hv7 x e with e2 | e2
          · exact ((h.t8 i q hi).2.1 x e2).symm
          · exact absurd (hW.new0 x e2) hx
        · rw [if_neg e]) (fun x hx => by
        by_cases e : v'.ownBlock = some x
        · exact ⟨hvB x e, (World.ownsRow.lt ho7 x e).2⟩
        · rw [if_neg e] at hx
          have := hW.tl x hx
          exact ⟨this.1, Nat.lt_of_lt_of_le this.2 k7.size⟩) (fun x hx => if_pos hx) (fun x hx => by
        have e1 : s.T x = 10 + 4 * i := (h.t8 i q hi).2.2 x hx
        by_cases e : v'.ownBlock = some x
        · rcases hv7 x e with e2 | e2
          · have := (h.t8 i q hi).2.1 x e2
            omega
          · have : s.T x = 0 := hW.new0 x e2
            omega
        · show (if v'.ownBlock = some x then 9 + 4 * i else s.T x) = _
          rw [if_neg e]
          exact e1)
    rw [hp] at b8
    have hib : ({ s with all := (s.all.set i qa).set i ⟨{ q.o with bg := true, t := tr }, q.mb, v', q.mv⟩, T := fun x => if v'.ownBlock = some x then 9 + 4 * i else s.T x } : BkS).all[i]? = some ⟨{ q.o with bg := true, t := tr }, q.mb, v', q.mv⟩ := List.getElem?_set_self (by rw [List.length_set]; exact hlt)
    refine ⟨⟨(k7.cell (p := ⟨bb, 8, none⟩) hW.lb (by show ¬ s.T bb = _; omega)).trans c8, (k7.cell (p := ⟨g, p + 7, none⟩) gs (by show ¬ s.T g = _; omega)).trans c7, (k7.cell (p := ⟨l.wb, k, none⟩) ws (by show ¬ s.T l.wb = _; omega)).trans cw⟩, (k7.cell (p := ⟨g, p + 10, none⟩) gs (by show ¬ s.T g = _; omega)).trans c10, ?_, ⟨(b8.c 8).trans rfl, (b8.cells hv i _ hib p hp 7 (by decide)).trans (by show some (Value.int .i64 tr.k) = _; rw [tk, ← hk]), b8.z.c k hkl⟩, ⟨v', (fun x => if v'.ownBlock = some x then 9 + 4 * i else s.T x), ?_, ?_⟩⟩
    · have rr := hW.rdw hv i qa hia p hp (by rw [hqa]; exact h0)
      exact (k7.frozen (p := ⟨g, p + 7 + 3, none⟩) gs (by show ¬ s.T g = _; omega)).trans (rr.fg _)
    · have e : (s.all.set i qa).set i ⟨{ q.o with bg := true, t := tr }, q.mb, v', q.mv⟩ = s.all.set i ⟨{ q.o with bg := true, t := tr }, q.mb, v', q.mv⟩ := by simp
      rw [← e]
      exact b8
    · exact (hbW.trans (k7.below hW.hB (fun x hx e => by have := (hW.tl x (by show s.T x ≠ 0; rw [e]; omega)).1; omega))).setCell (p := ⟨g, p + 7 + 3, none⟩) (hW.tl g (by show s.T g ≠ 0; rw [hT7]; decide)).1 _
  case F3 =>
    rintro W ⟨dv', T', hW, hbW⟩
    obtain ⟨qb, hqb⟩ : ∃ x : OL, x = ⟨{ q.o with bg := true, t := tr }, q.mb, dv', q.mv⟩ := ⟨_, rfl⟩
    rw [← hqb] at hW
    have hib : ({ s with all := s.all.set i qb, T := T' } : BkS).all[i]? = some qb := List.getElem?_set_self hlt
    have e0 : qb.o.kd = 2 ∧ qb.mb = q.mb ∧ qb.o.mw = q.o.mw := by rw [hqb]; exact ⟨h0, rfl, rfl⟩
    refine ⟨(hW.cells hv i qb hib p hp 3 (by decide)).trans (by unfold olC; rw [e0.1, e0.2.1]; rfl), ?_⟩
    have hmw := (hW.m i qb hib).1.2.2.1 e0.1
    have st := wlk_step W l.L l.Q s.S l.X s.x qb.mb qb.o.mw hW.ch hmw (hW.nch i qb hib) hw
    rw [e0.2.1, e0.2.2, hr] at st
    refine st.mono ?_
    rintro e W2 ⟨s1, s2, s3, s4⟩
    refine ⟨s1, dv', T', ?_, ?_⟩
    · have s5 : Keeps (fun g => chF l.L l.X g ∨ g = qb.mb) W W2 := by rw [e0.2.1]; exact s4
      have b := hW.mach i qb hib s2 s5 { qb.o with mw := r.2.2 } ⟨rfl, rfl, rfl, rfl, rfl, rfl⟩ ⟨fun e => by have e : qb.o.kd = 0 := e; omega, fun e => by have e : qb.o.kd = 1 := e; omega, fun _ => by show WlkH W2 qb.mb _ _; rw [e0.2.1]; exact s3, Nat.lt_of_lt_of_le (hW.m i qb hib).1.2.2.2 s4.size⟩
      have e : (s.all.set i qb).set i { qb with o := { qb.o with mw := r.2.2 } } = s.all.set i ⟨{ q.o with mw := r.2.2, bg := true, t := tr }, q.mb, dv', q.mv⟩ := by rw [hqb]; simp
      rw [← e]
      exact b
    · refine hbW.trans (hW.bel s4 (fun x hx => .inl ?_))
      rcases hx with hx | hx
      · rw [hW.t1 x hx]; decide
      · have := (hW.t8 i qb hib).1
        rw [hx, ← e0.2.1, this]
        omega
  case F4 =>
    rintro W ⟨dv', T', hW, hbW⟩
    obtain ⟨qc, hqc⟩ : ∃ x : OL, x = ⟨{ q.o with mw := r.2.2, bg := true, t := tr }, q.mb, dv', q.mv⟩ := ⟨_, rfl⟩
    have hW' := hW
    rw [← hqc] at hW
    have hic : ({ s with S := r.2.1.S, x := r.2.1.x, all := s.all.set i qc, T := T' } : BkS).all[i]? = some qc := List.getElem?_set_self hlt
    have e0 : qc.o.kd = 2 ∧ qc.mb = q.mb ∧ qc.o.mw = r.2.2 := by rw [hqc]; exact ⟨h0, rfl, rfl⟩
    have rr := hW.rdw hv i qc hic p hp e0.1
    have hmw := (hW.m i qc hic).1.2.2.1 e0.1
    rw [e0.2.1, e0.2.2] at hmw
    have z1 := wlk_Slot W q.mb l.X.x r.2.2 hmw
    have z2 := wlk_Code W q.mb l.X.x r.2.2 hmw
    rw [hsn] at z1
    rw [hcode] at z2
    refine ⟨dv', ?_, z1, wlk_Ended W q.mb l.X.x r.2.2 hmw, z2, dv', T', hW'.drew, hbW.drew⟩
    rw [hqc] at rr
    have e : ({ q.o with mw := r.2.2, bg := true, t := tr } : On).t.met = q.o.t.met := tm
    rw [e] at rr
    exact rr
  case G1 =>
    intro hs
    have := hsl (by rw [hsn]; omega)
    rw [hsn] at this
    refine ⟨by omega, this.2.1, this.2.2.1, fun ys0 u e => ?_⟩
    have a := hun ys0 u e
    exact ⟨a.1, a.2, this.2.2.2 u (by rw [tm, e]; simp)⟩
  case F5 =>
    rintro hs W ⟨dv', T', hW, hbW⟩ v' w7 ho7 kk hv7
    obtain ⟨qc, hqc⟩ : ∃ x : OL, x = ⟨{ q.o with mw := r.2.2, bg := true, t := tr }, q.mb, dv', q.mv⟩ := ⟨_, rfl⟩
    rw [← hqc] at hW
    have hic : ({ s with S := r.2.1.S, x := r.2.1.x, all := s.all.set i qc, T := T' } : BkS).all[i]? = some qc := List.getElem?_set_self hlt
    have e0 : qc.o.kd = 2 ∧ qc.mb = q.mb ∧ qc.mv = q.mv := by rw [hqc]; exact ⟨h0, rfl, rfl⟩
    have tq := hW.t8 i qc hic
    have hT7' : T' g = 7 := hW.t7 g (by show s.av.ownBlock = _; rw [hv]; rfl)
    have k7 : Keeps (fun x => T' x = 10 + 4 * i) W w7 := kk.mono (fun x e => tq.2.2 x (by rw [e0.2.2]; exact e))
    have om : OwI W B q.mv tr.met := by
      have := (hW.m i qc hic).2.2
      rw [hqc] at this
      exact this
    have gs : g < W.heap.size := (hW.tl g (by show T' g ≠ 0; rw [hT7']; decide)).2
    have c11 : W.cell? ⟨g, p + 11, none⟩ = some q.mv := (hW.cells hv i qc hic p hp 11 (by decide)).trans (by show some qc.mv = _; rw [e0.2.2])
    have hvB : ∀ x, v'.ownBlock = some x → B ≤ x := fun x hx => by
      rcases hv7 x hx with e | e
      · exact (World.ownsRow.lt om x e).1
      · have := hW.hB
        omega
    have em : met1 tr r.2.2 = q.o.t.met ++ [(sl : Int)] := by
      unfold met1
      rw [if_neg (by rw [hsn]; omega), tm, hsn]
    have o := hW.but (10 + 4 * i) k7
    have b8 := hW.setL hv i qc ⟨{ q.o with mw := r.2.2, bg := true, t := { tr with met := met1 tr r.2.2 } }, q.mb, dv', v'⟩ hic (10 + 4 * i) (.inr rfl) k7 11 (by decide) v' (by rw [hqc]; rfl) (by rw [hqc]; exact ⟨rfl, rfl, rfl, rfl, rfl⟩)
      (by have := (o.m i qc hic).2.1 (by omega); rw [hqc] at this; exact this) (by show OwI w7 B v' (met1 tr r.2.2); rw [em]; exact owG_hi ho7 B hvB)
      (fun x => if v'.ownBlock = some x then 10 + 4 * i else T' x) (fun x hx => by
        by_cases e : v'.ownBlock = some x
        · rw [if_pos e]
          rcases hv7 x e with e2 | e2
          · exact (tq.2.2 x (by rw [e0.2.2]; exact e2)).symm
          · exact absurd (hW.new0 x e2) hx
        · rw [if_neg e]) (fun x hx => by
        by_cases e : v'.ownBlock = some x
        · exact ⟨hvB x e, (World.ownsRow.lt ho7 x e).2⟩
        · rw [if_neg e] at hx
          have := hW.tl x hx
          exact ⟨this.1, Nat.lt_of_lt_of_le this.2 k7.size⟩) (fun x hx => by
        have e1 : T' x = 9 + 4 * i := tq.2.1 x (by rw [hqc]; exact hx)
        by_cases e : v'.ownBlock = some x
        · rcases hv7 x e with e2 | e2
          · have : T' x = 10 + 4 * i := tq.2.2 x (by rw [e0.2.2]; exact e2)
            omega
          · have : T' x = 0 := hW.new0 x e2
            omega
        · show (if v'.ownBlock = some x then 10 + 4 * i else T' x) = _
          rw [if_neg e]
          exact e1) (fun x hx => if_pos hx)
    rw [hp] at b8
    refine ⟨(k7.cell (p := ⟨g, p + 11, none⟩) gs (by show ¬ T' g = _; omega)).trans c11, ?_, dv', v', (fun x => if v'.ownBlock = some x then 10 + 4 * i else T' x), ?_, ?_⟩
    · have rr := hW.rdw hv i qc hic p hp e0.1
      exact (k7.frozen (p := ⟨g, p + 7 + 4, none⟩) gs (by show ¬ T' g = _; omega)).trans (rr.fg _)
    · have e : (s.all.set i qc).set i ⟨{ q.o with mw := r.2.2, bg := true, t := { tr with met := met1 tr r.2.2 } }, q.mb, dv', v'⟩ = s.all.set i ⟨{ q.o with mw := r.2.2, bg := true, t := { tr with met := met1 tr r.2.2 } }, q.mb, dv', v'⟩ := by simp
      rw [← e]
      exact b8
    · exact (hbW.trans (k7.below hW.hB (fun x hx e => by have := (hW.tl x (by show T' x ≠ 0; rw [e]; omega)).1; omega))).setCell (p := ⟨g, p + 7 + 4, none⟩) (hW.tl g (by show T' g ≠ 0; rw [hT7']; decide)).1 _
  case F5' =>
    rintro hs W ⟨dv', T', hW, hbW⟩
    refine ⟨dv', q.mv, T', ?_, hbW⟩
    have em : met1 tr r.2.2 = tr.met := by
      unfold met1
      rw [if_pos (by rw [hsn, hs]; rfl)]
    rw [em]
    exact hW
  case F6 =>
    rintro W ⟨dv', mv', T', hW, hbW⟩
    obtain ⟨qd, hqd⟩ : ∃ x : OL, x = ⟨{ q.o with mw := r.2.2, bg := true, t := { tr with met := met1 tr r.2.2 } }, q.mb, dv', mv'⟩ := ⟨_, rfl⟩
    have hW' := hW
    rw [← hqd] at hW
    have hid : ({ s with S := r.2.1.S, x := r.2.1.x, all := s.all.set i qd, T := T' } : BkS).all[i]? = some qd := List.getElem?_set_self hlt
    have rr := hW.rdw hv i qd hid p hp (by rw [hqd]; exact h0)
    have hT7' : T' g = 7 := hW.t7 g (by show s.av.ownBlock = _; rw [hv]; rfl)
    refine ⟨?_, rr.fg _, fun hor => ⟨dv', mv', T', ?_, hbW⟩, fun hd he => ⟨he, dv', mv', T', ?_, ?_⟩⟩
    · have := rr.g5
      rw [hqd] at this
      exact this
    · have e : r.2.2.ended = q.o.dn := by
        rcases hor with e | e
        · rw [e, (hdn e).2]
        · cases hq : q.o.dn
          · exact e
          · have := (hdn hq).2
            rw [e] at this
            cases this
      rw [e]
      exact hW'
    · have b := hW.setQ hv i p qd { qd.o with dn := true } hid hp 5 (by decide) (.bool true) rfl ⟨rfl, rfl, rfl, rfl, rfl, rfl⟩
      have e : (s.all.set i qd).set i { qd with o := { qd.o with dn := true } } = s.all.set i ⟨{ q.o with mw := r.2.2, bg := true, t := { tr with met := met1 tr r.2.2 }, dn := true }, q.mb, dv', mv'⟩ := by rw [hqd]; simp
      rw [← e]
      exact b
    · exact hW.belS hbW g _ _ (by show T' g ≠ 0; rw [hT7']; decide)
  case F7 =>
    rintro W ⟨he, dv', mv', T', hW, hbW⟩
    obtain ⟨qe, hqe⟩ : ∃ x : OL, x = ⟨{ q.o with mw := r.2.2, bg := true, t := { tr with met := met1 tr r.2.2 }, dn := true }, q.mb, dv', mv'⟩ := ⟨_, rfl⟩
    have hW' := hW
    rw [← hqe] at hW
    have hie : ({ s with S := r.2.1.S, x := r.2.1.x, all := s.all.set i qe, T := T' } : BkS).all[i]? = some qe := List.getElem?_set_self hlt
    have rr := hW.rdw hv i qe hie p hp (by rw [hqe]; exact h0)
    rw [hqe] at rr
    refine ⟨dv', mv', rr, ⟨he, dv', mv', T', hW'.drew, hbW.drew⟩, dv', mv', T', ?_, hbW⟩
    rw [he]
    exact hW'
  case G2 =>
    intro hd he u hu
    have h1 := hin u (.inr hu)
    exact ⟨⟨u.toNat, by omega, by omega⟩, hend hd he u hu⟩
  case fin =>
    rintro e W ⟨rfl, dv', mv', T', hW, hb⟩
    exact ⟨rfl, _, hW, hb, dv', mv', T', rfl⟩
end Go.Proofs.YteekompojgbkhaaGreat
