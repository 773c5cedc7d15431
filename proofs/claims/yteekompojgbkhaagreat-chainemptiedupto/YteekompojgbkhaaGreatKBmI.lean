import Derived.Test.YteekompojgbkhaaGreatKBmF
namespace Go.Proofs.YteekompojgbkhaaGreat
open Go.ChangeShapes Go.WideShapes Go.ChangeAt Go.RowKit Go.MuLone Go.RwLone
set_option linter.unusedVariables false
set_option maxRecDepth 100000
set_option maxHeartbeats 3200000
theorem owG_hi {α : Type} {cs : α → List Value} {e : TypeId} {n : Nat} {w : World} {v : Value} {xs : List α} (h : OwG cs e n w 0 v xs) (B : Nat) (hb : ∀ g, v.ownBlock = some g → B ≤ g) : OwG cs e n w B v xs := by
  refine ⟨h.1, ?_⟩
  rcases h.2 with h0 | ⟨g, cap, cur, rfl, _, r⟩
  · exact .inl h0
  · exact .inr ⟨g, cap, cur, rfl, hb g rfl, r⟩
section
variable {w w' : World} {B bb : Nat} {l : BkL} {s : BkS}
theorem BkM.belS (h : BkM w' B bb l s) (hb : Below B w w') (g j : Nat) (u : Value) (hT : s.T g ≠ 0) : Below B w (w'.setCell ⟨g, j, none⟩ u) := hb.setCell (p := ⟨g, j, none⟩) (h.tl g hT).1 _
theorem BkM.hB (h : BkM w B bb l s) : B ≤ w.heap.size := by
  have := h.tl bb (by rw [h.t2]; decide)
  omega
/-- A machine's own cell is stored, nothing else of it is changed. -/
theorem BkM.setQ {g m cap : Nat} (h : BkM w B bb l s) (hv : s.av = .slice (some ⟨g, 0, none⟩) m cap) (i p : Nat) (q : OL) (o' : On) (hi : s.all[i]? = some q) (hp : i * 12 = p) (j : Nat) (hj : j < 12) (u : Value) (he : olC { q with o := o' } = (olC q).set j u) (hm : o'.kd = q.o.kd ∧ o'.mi = q.o.mi ∧ o'.mr = q.o.mr ∧ o'.mw = q.o.mw ∧ o'.t.due = q.o.t.due ∧ o'.t.met = q.o.t.met) :
    BkM (w.setCell ⟨g, p + j, none⟩ u) B bb l { s with all := s.all.set i { q with o := o' } } := by
  subst hp
  have a := h.m i q hi
  have b := h.t8 i q hi
  exact h.setOne hv i q { q with o := o' } hi j hj u he ⟨rfl, hm.1, hm.2.1, hm.2.2.1, hm.2.2.2.1⟩ (by show OwI w B q.dv o'.t.due; rw [hm.2.2.2.2.1]; exact a.2.1) (by show OwI w B q.mv o'.t.met; rw [hm.2.2.2.2.2]; exact a.2.2) b.2.1 b.2.2
end
/-- What is left of the book when an Insert is linked. -/
def InsNx (s : BkS) (i : Nat) (q : OL) (r : Bool × CS × MI) (s' : BkS) : Prop := (r.1 = q.o.dn ∧ s' = { s with S := r.2.1.S, x := r.2.1.x, all := s.all.set i { q with o := { q.o with mi := r.2.2 } } }) ∨ (r.1 = true ∧ q.o.dn = false ∧ ∃ rv' T', s' = { s with S := r.2.1.S, x := r.2.1.x, all := s.all.set i { q with o := { q.o with mi := r.2.2, dn := true } }, ins := updI s.ins q.o.sl 2, rank := updI s.rank q.o.sl s.ranks, ranks := s.ranks + 1, rows := (fun c => if c = q.o.sl % (s.nb : Int) then q.o.sl :: s.rows (q.o.sl % (s.nb : Int)) else s.rows c), rv := rv', T := T' })
theorem bk_inserted (w : World) (B bb : Nat) (l : BkL) (s : BkS) (g m cap i p : Nat) (q : OL) (h : BkM w B bb l s) (hv : s.av = .slice (some ⟨g, 0, none⟩) m cap) (hi : s.all[i]? = some q) (hp : i * 12 = p) (h0 : q.o.kd = 0) (s0 : 1 ≤ q.o.sl) (sN : q.o.sl ≤ (s.N : Int)) (N1 : s.N ≤ 24) (b0 : 1 ≤ s.nb) (b1 : s.nb ≤ 4) (r0 : 0 ≤ s.ranks) (r1 : s.ranks ≤ 4096) (hlr : ∀ c, (s.rows c).length ≤ 4000) (ho : insOk s.x q.o.mi) (hc : (insP s.S s.x q.o.mi).1 = true → q.o.dn = false → (insP s.S s.x q.o.mi).2.2.code = 0) (hd : q.o.dn = true → (insP s.S s.x q.o.mi).1 = true) :
    Calls Tryz.prog 41 #[.pointer (some ⟨bb, 0, none⟩), .pointer (some ⟨g, p, none⟩)] w fun e w' => e = .returned (.bool true) ∧ ∃ s', BkM w' B bb l s' ∧ Below B w w' ∧ InsNx s i q (insP s.S s.x q.o.mi) s' := by
  have hlt := (List.getElem?_eq_some_iff.1 hi).1
  have hstep := ins_step w l.L l.Q s.S l.X s.x q.mb q.o.mi h.ch ((h.m i q hi).1.1 h0) (h.nch i q hi) ho
  have c2 : w.cell? ⟨g, p + 2, none⟩ = some (.pointer (some ⟨q.mb, 0, none⟩)) := (h.cells hv i q hi p hp 2 (by decide)).trans (by unfold olC; rw [h0]; rfl)
  have hT7 : s.T g = 7 := h.t7 g (by rw [hv]; rfl)
  obtain ⟨q1, hq1⟩ : ∃ q1 : OL, q1 = { q with o := { q.o with mi := (insP s.S s.x q.o.mi).2.2 } } := ⟨_, rfl⟩
  obtain ⟨S1, hs1⟩ : ∃ s1 : BkS, s1 = { s with S := (insP s.S s.x q.o.mi).2.1.S, x := (insP s.S s.x q.o.mi).2.1.x, all := s.all.set i { q with o := { q.o with mi := (insP s.S s.x q.o.mi).2.2 } } } := ⟨_, rfl⟩
  have hi1 : S1.all[i]? = some q1 := by rw [hs1, hq1]; exact List.getElem?_set_self hlt
  have hv1 : S1.av = .slice (some ⟨g, 0, none⟩) m cap := by rw [hs1]; exact hv
  by_cases hr : (insP s.S s.x q.o.mi).1 = q.o.dn
  · refine (bk_ins_w w bb g p q.mb (insP s.S s.x q.o.mi).1 q.o.dn hr (fun W => BkM W B bb l S1 ∧ Below B w W) c2 (hstep.mono ?_) (fun W hW => ?_)).mono ?_
    · intro e W hst
      exact ⟨hst.1, h.stepI i q hi h0 S1 hs1 e W hst⟩
    · refine (hW.1.cells hv1 i q1 hi1 p hp 5 (by decide)).trans ?_
      rw [hq1]
      rfl
    · rintro e W ⟨rfl, hW1, hW2⟩
      exact ⟨rfl, S1, hW1, hW2, .inl ⟨hr, hs1⟩⟩
  · have hdn : q.o.dn = false := by
      cases hq : q.o.dn
      · rfl
      · exact absurd ((hd hq).trans hq.symm) hr
    have hr1 : (insP s.S s.x q.o.mi).1 = true := by
      cases hq : (insP s.S s.x q.o.mi).1
      · exact absurd (hq.trans hdn.symm) hr
      · rfl
    have hcode := hc hr1 hdn
    obtain ⟨sn, hsn⟩ : ∃ sn : Nat, q.o.sl = (sn : Int) := ⟨q.o.sl.toNat, by omega⟩
    obtain ⟨k, hk⟩ : ∃ k : Nat, q.o.sl % (s.nb : Int) = (k : Int) := ⟨(q.o.sl % (s.nb : Int)).toNat, by have := Int.emod_nonneg q.o.sl (show (s.nb : Int) ≠ 0 by omega); omega⟩
    have hkl : k < s.nb := by have := Int.emod_lt_of_pos q.o.sl (show (0 : Int) < (s.nb : Int) by omega); omega
    have e1 : q1.o.kd = 0 ∧ q1.o.sl = (sn : Int) ∧ q1.mb = q.mb ∧ q1.o.dn = false ∧ q1.o.mi = (insP s.S s.x q.o.mi).2.2 := by rw [hq1]; exact ⟨h0, hsn, rfl, hdn, rfl⟩
    obtain ⟨q2, hq2⟩ : ∃ q2 : OL, q2 = { q1 with o := { q1.o with dn := true } } := ⟨_, rfl⟩
    have e2 : q2.o.kd = 0 ∧ q2.o.sl = (sn : Int) ∧ q2.mb = q.mb ∧ q2.o.mi = (insP s.S s.x q.o.mi).2.2 := by rw [hq2]; exact ⟨e1.1, e1.2.1, e1.2.2.1, e1.2.2.2.2⟩
    have oc1 : (olC q1)[2]? = some (.pointer (some ⟨q1.mb, 0, none⟩)) := by unfold olC; rw [e1.1]; rfl
    have oc2 : (olC q2)[2]? = some (.pointer (some ⟨q2.mb, 0, none⟩)) := by unfold olC; rw [e2.1]; rfl
    -- the states
    obtain ⟨S2, hs2⟩ : ∃ t : BkS, t = { S1 with all := S1.all.set i q2 } := ⟨_, rfl⟩
    obtain ⟨S3, hs3⟩ : ∃ t : BkS, t = { S2 with ins := updI S2.ins (sn : Int) 2 } := ⟨_, rfl⟩
    obtain ⟨S4, hs4⟩ : ∃ t : BkS, t = { S3 with rank := updI S3.rank (sn : Int) s.ranks } := ⟨_, rfl⟩
    obtain ⟨S5, hs5⟩ : ∃ t : BkS, t = { S4 with ranks := s.ranks + 1 } := ⟨_, rfl⟩
    have hlt1 : i < S1.all.length := (List.getElem?_eq_some_iff.1 hi1).1
    have hi2 : S2.all[i]? = some q2 := by rw [hs2]; exact List.getElem?_set_self hlt1
    have hi3 : S3.all[i]? = some q2 := by rw [hs3]; exact hi2
    have hi4 : S4.all[i]? = some q2 := by rw [hs4]; exact hi3
    have hi5 : S5.all[i]? = some q2 := by rw [hs5]; exact hi4
    have f1 : S1.N = s.N ∧ S1.nb = s.nb ∧ S1.ranks = s.ranks ∧ S1.T = s.T ∧ S1.rows = s.rows ∧ S1.rv = s.rv := by rw [hs1]; exact ⟨rfl, rfl, rfl, rfl, rfl, rfl⟩
    have f2 : S2.N = s.N ∧ S2.nb = s.nb ∧ S2.ranks = s.ranks ∧ S2.T = s.T ∧ S2.av = S1.av ∧ S2.rows = s.rows ∧ S2.rv = s.rv := by rw [hs2]; exact ⟨f1.1, f1.2.1, f1.2.2.1, f1.2.2.2.1, rfl, f1.2.2.2.2.1, f1.2.2.2.2.2⟩
    have f3 : S3.N = s.N ∧ S3.nb = s.nb ∧ S3.ranks = s.ranks ∧ S3.T = s.T ∧ S3.av = S1.av ∧ S3.rows = s.rows ∧ S3.rv = s.rv := by rw [hs3]; exact f2
    have f4 : S4.N = s.N ∧ S4.nb = s.nb ∧ S4.ranks = s.ranks ∧ S4.T = s.T ∧ S4.av = S1.av ∧ S4.rows = s.rows ∧ S4.rv = s.rv := by rw [hs4]; exact f3
    have f5 : S5.N = s.N ∧ S5.nb = s.nb ∧ S5.ranks = s.ranks + 1 ∧ S5.T = s.T ∧ S5.av = S1.av ∧ S5.rows = s.rows ∧ S5.rv = s.rv := by rw [hs5]; exact ⟨f4.1, f4.2.1, rfl, f4.2.2.2⟩
    have T2 : s.T bb = 2 := h.t2
    have T3 : s.T l.ib = 3 := h.t3
    have T5 : s.T l.kb = 5 := h.t5
    have T6 : s.T l.wb = 6 := h.t6
    have rdS : ∀ (W : World) (t : BkS) (q' : OL), BkM W B bb l t → t.av = .slice (some ⟨g, 0, none⟩) m cap → t.all[i]? = some q' → q'.o.sl = (sn : Int) → q'.mb = q.mb → (olC q')[2]? = some (.pointer (some ⟨q'.mb, 0, none⟩)) → t.N = s.N → t.nb = s.nb → RdI W l bb g p s.N s.nb q.mb sn t.ranks 2 := fun W t q' hW a1 a2 a3 a4 a5 a6 a7 => by
      have := hW.rd a1 i q' a2 p hp sn a3 (by rw [a6]; omega) 2 (by decide) a5
      rw [a4, a6, a7] at this
      exact this
    refine (bk_ins_e w l bb g p s.N s.nb q.mb sn k s.ranks (s.rv k) (s.rows (k : Int)) (fun W => BkM W B bb l S1 ∧ Below B w W) (fun W => BkM W B bb l S2 ∧ Below B w W) (fun W => BkM W B bb l S3 ∧ Below B w W) (fun W => BkM W B bb l S4 ∧ Below B w W) (fun W => BkM W B bb l S5 ∧ Below B w W ∧ ∀ G, G + 1 = W.heap.size → s.T G = 0 ∧ B ≤ G) (fun W => ∃ rv' T', BkM W B bb l { S5 with rows := (fun c => if c = (k : Int) then (sn : Int) :: s.rows (k : Int) else s.rows c), rv := rv', T := T' } ∧ Below B w W)
      (by rw [← hsn]; exact hk) hkl (by omega) (by omega) (by omega) r0 r1 (by have := hlr (k : Int); omega) c2 (hstep.mono ?_) ?_ ?_ ?_ ?_ ?_ ?_).mono ?_
    · intro e W hst
      exact ⟨hst.1.trans (by rw [hr1]), h.stepI i q hi h0 S1 hs1 e W hst⟩
    · intro W hW
      refine ⟨?_, ?_, ?_, hW.1.belS hW.2 g _ _ (by rw [f1.2.2.2.1, hT7]; decide)⟩
      · have := rdS W S1 q1 hW.1 hv1 hi1 e1.2.1 e1.2.2.1 oc1 f1.1 f1.2.1
        rw [f1.2.2.1] at this
        exact this
      · refine (hW.1.cells hv1 i q1 hi1 p hp 5 (by decide)).trans ?_
        show some (Value.bool q1.o.dn) = _
        rw [e1.2.2.2.1]
      · rw [hs2, hq2]
        exact hW.1.setQ hv1 i p q1 { q1.o with dn := true } hi1 hp 5 (by decide) _ rfl ⟨rfl, rfl, rfl, rfl, rfl, rfl⟩
    · intro W hW
      refine ⟨?_, ?_, ?_⟩
      · have := rdS W S2 q2 hW.1 (by rw [f2.2.2.2.2.1]; exact hv1) hi2 e2.2.1 e2.2.2.1 oc2 f2.1 f2.2.1
        rw [f2.2.2.1] at this
        exact this
      · rw [hs3]
        exact (hW.1.setI sn (by rw [f2.1]; omega) 2).drew
      · exact (hW.1.belS hW.2 l.ib _ _ (by rw [f2.2.2.2.1, T3]; decide)).drew
    · intro W hW
      refine ⟨?_, ?_, ?_⟩
      · have := rdS W S3 q2 hW.1 (by rw [f3.2.2.2.2.1]; exact hv1) hi3 e2.2.1 e2.2.2.1 oc2 f3.1 f3.2.1
        rw [f3.2.2.1] at this
        exact this
      · rw [hs4]
        exact (hW.1.setK sn (by rw [f3.1]; omega) s.ranks).drew
      · exact (hW.1.belS hW.2 l.kb _ _ (by rw [f3.2.2.2.1, T5]; decide)).drew
    · intro W hW
      have b5 : BkM (W.setCell ⟨bb, 7, none⟩ (.int .i64 (s.ranks + 1))) B bb l S5 := by
        rw [hs5]
        exact hW.1.setN (s.ranks + 1)
      have hsz : (W.setCell ⟨bb, 7, none⟩ (.int .i64 (s.ranks + 1))).heap.size = W.heap.size := by simp
      have ka : Keeps (fun _ => False) (W.setCell ⟨bb, 7, none⟩ (.int .i64 (s.ranks + 1))) ((W.setCell ⟨bb, 7, none⟩ (.int .i64 (s.ranks + 1))).alloc (.cells #[.int .i64 (sn : Int)] 3)) := (Keeps.refl _ _).alloc _
      have b6 := b5.noC ka
      have hs6 : ((W.setCell ⟨bb, 7, none⟩ (.int .i64 (s.ranks + 1))).alloc (.cells #[.int .i64 (sn : Int)] 3)).heap.size = W.heap.size + 1 := by simp
      refine ⟨?_, ⟨b6, ?_, fun G hG => ?_⟩, ?_⟩
      · have := rdS W S4 q2 hW.1 (by rw [f4.2.2.2.2.1]; exact hv1) hi4 e2.2.1 e2.2.2.1 oc2 f4.1 f4.2.1
        rw [f4.2.2.1] at this
        exact this
      · exact (hW.1.belS hW.2 bb _ _ (by rw [f4.2.2.2.1, T2]; decide)).alloc (by have := hW.1.hB; omega) _
      · have e : G = W.heap.size := by omega
        rw [e]
        have := hW.1.new0 W.heap.size (Nat.le_refl _)
        rw [f4.2.2.2.1] at this
        exact ⟨this, hW.1.hB⟩
      · have hg := heap_alloc_new (W.setCell ⟨bb, 7, none⟩ (.int .i64 (s.ranks + 1))) (.cells #[.int .i64 (sn : Int)] 3)
        rw [hsz] at hg
        have := World.ownsRow_lit (base := 0) (e := 3) (size := 1) (W.setCell ⟨bb, 7, none⟩ (.int .i64 (s.ranks + 1))) #[.int .i64 (sn : Int)] 1 (Nat.zero_le _) (by unfold maxLen; omega) (by simp)
        rw [hsz] at this
        exact this
    · rintro W G ⟨hW, hb, hG⟩ hGs
      obtain ⟨hTG, hBG⟩ := hG G hGs
      have hvv := hW.v k (by rw [f5.2.1]; exact hkl)
      rw [f5.2.2.2.2.2.2, f5.2.2.2.2.2.1] at hvv
      have hz := hW.z.c k (by rw [f5.2.1]; exact hkl)
      rw [f5.2.2.2.2.2.2] at hz
      have hv5 : S5.av = .slice (some ⟨g, 0, none⟩) m cap := by rw [f5.2.2.2.2.1]; exact hv1
      refine ⟨?_, hz, (owK hvv.1 (Keeps.refl (fun _ => False) _).drew (fun _ _ e => e)).down (Nat.zero_le _), hvv.2, fun v' w7 ho kk hg => ?_⟩
      · have := rdS W S5 q2 hW hv5 hi5 e2.2.1 e2.2.2.1 oc2 f5.1 f5.2.1
        rw [f5.2.2.1] at this
        exact this
      · have kd : Keeps (fun x => x = G) W w7 := ((Keeps.refl _ _).drew).trans kk
        have b7 : BkM w7 B bb l S5 := hW.keeps kd (fun x hx e => by
          rw [e, f5.2.2.2.1, hTG] at hx
          exact hx rfl)
        obtain ⟨b, cb, eb, _, lb⟩ := owG_some ho (by simp)
        have hob : v'.ownBlock = some b := by rw [eb]; rfl
        have tb : s.T b = 0 ∧ B ≤ b := by
          rcases hg b hob with e | e
          · rw [e]
            exact ⟨hTG, hBG⟩
          · have := hW.new0 b e
            rw [f5.2.2.2.1] at this
            exact ⟨this, by have := hW.hB; omega⟩
        have b8 := b7.tag b (11 + 4 * k) (by rw [f5.2.2.2.1]; exact tb.1) tb.2 lb
        have hB7 : Below B w w7 := hb.trans (kd.below hW.hB (fun x hx e => by rw [e] at hx; omega))
        have hz7 := b7.z.c k (by rw [f5.2.1]; exact hkl)
        rw [f5.2.2.2.2.2.2] at hz7
        have b9 := b8.setW k (by show k < S5.nb; rw [f5.2.1]; exact hkl) v' ((sn : Int) :: s.rows (k : Int)) (owG_hi ho B (fun x hx => by rw [hob] at hx; have := Option.some.inj hx; omega)) (fun e => by cases e) (fun x hx => by rw [hob] at hx; have e := Option.some.inj hx; rw [← e]; exact updN_at _ _ _)
        refine ⟨?_, hz7, ⟨(fun j => if j = k then v' else S5.rv j), updN S5.T b (11 + 4 * k), ?_, b7.belS hB7 l.wb _ _ (by rw [f5.2.2.2.1, T6]; decide)⟩⟩
        · have := rdS w7 S5 q2 b7 hv5 hi5 e2.2.1 e2.2.2.1 oc2 f5.1 f5.2.1
          rw [f5.2.2.1] at this
          exact this
        · have er : S5.rows = s.rows := f5.2.2.2.2.2.1
          rw [← er] at b9 ⊢
          exact b9
    · rintro W ⟨rv', T', hW, hb⟩
      refine ⟨?_, ?_⟩
      · have := rdS W { S5 with rows := (fun c => if c = (k : Int) then (sn : Int) :: s.rows (k : Int) else s.rows c), rv := rv', T := T' } q2 hW (by show S5.av = _; rw [f5.2.2.2.2.1]; exact hv1) hi5 e2.2.1 e2.2.2.1 oc2 f5.1 f5.2.1
        have e : ({ S5 with rows := (fun c => if c = (k : Int) then (sn : Int) :: s.rows (k : Int) else s.rows c), rv := rv', T := T' } : BkS).ranks = s.ranks + 1 := f5.2.2.1
        rw [e] at this
        exact this
      · have hm := (hW.m i q2 hi5).1.1 e2.1
        rw [e2.2.2.1] at hm
        have := ins_Code W q.mb l.X.x q2.o.mi hm
        rw [e2.2.2.2, hcode] at this
        exact this
    · rintro e W ⟨rfl, rv', T', hW, hb⟩
      refine ⟨rfl, _, hW, hb, .inr ⟨hr1, hdn, rv', T', ?_⟩⟩
      rw [hs5, hs4, hs3, hs2, hs1, hq2, hq1, hk, hsn]
      simp
end Go.Proofs.YteekompojgbkhaaGreat

namespace Go.Proofs.YteekompojgbkhaaGreat
set_option linter.unusedSimpArgs false
open Go.ChangeShapes Go.WideShapes Go.ChangeAt Go.RowKit Go.MuLone Go.RwLone
set_option linter.unusedVariables false
set_option maxRecDepth 100000
set_option maxHeartbeats 6400000
/-- A step that marks its slot is not the end. -/
theorem rem_mark (S : AS) (x : XS) (m : MR) (h0 : m.ma = false) (h1 : (remP S x m).2.2.ma = true) : (remP S x m).1 = false := by
  obtain ⟨st, co, bu, sl, wd, ah, pr, be, ma, he⟩ := m
  simp only at h0
  subst h0
  have own : (ownR S x ⟨st, co, bu, sl, wd, ah, pr, be, false, he⟩).2.2.ma = false := by
    unfold ownR
    split
    · split
      · rfl
      · split <;> rfl
    · rfl
  have mv : ∀ (m : MR) n, (mvR m n).2.ma = m.ma := fun m n => by
    unfold mvR
    split <;> rfl
  match st with
  | 0 =>
    have e : (remP S x ⟨0, co, bu, sl, wd, ah, pr, be, false, he⟩).2.2.ma = false := by
      show (if inB x bu then ownR S x _ else _ : Bool × CS × MR).2.2.ma = false
      split
      · exact own
      · rfl
    rw [e] at h1
    cases h1
  | 1 =>
    have e : (remP S x ⟨1, co, bu, sl, wd, ah, pr, be, false, he⟩).2.2.ma = false := own
    rw [e] at h1
    cases h1
  | 2 =>
    have e : remP S x ⟨2, co, bu, sl, wd, ah, pr, be, false, he⟩ = (if liv S sl then (if S.word (atC S sl x.cell) = wd then (false, ⟨put1 S (atC S sl x.cell) (2 * (wd / 2) + 1), x⟩, ⟨3, co, bu, sl, wd, ah, pr, be, true, he⟩) else (false, ⟨acc1 S, x⟩, ⟨1, co, bu, sl, wd, ah, pr, be, false, he⟩)) else (true, ⟨mis1 S, x⟩, ⟨6, 22, bu, sl, wd, ah, pr, be, false, he⟩)) := rfl
    rw [e] at h1 ⊢
    split at h1
    · rename_i hl
      rw [if_pos hl]
      split <;> rfl
    · cases h1
  | 3 =>
    have e : (remP S x ⟨3, co, bu, sl, wd, ah, pr, be, false, he⟩).2.2.ma = false := mv _ _
    rw [e] at h1
    cases h1
  | 4 =>
    have e : (remP S x ⟨4, co, bu, sl, wd, ah, pr, be, false, he⟩).2.2.ma = false := by
      show (if liv S pr then (if S.word (atC S pr x.cell) / 2 = 0 then _ else if S.word (atC S pr x.cell) % 2 == 1 then _ else _) else _ : Bool × CS × MR).2.2.ma = false
      split
      · split
        · rfl
        · split
          · rfl
          · exact mv _ _
      · rfl
    rw [e] at h1
    cases h1
  | 5 =>
    have e : (remP S x ⟨5, co, bu, sl, wd, ah, pr, be, false, he⟩).2.2.ma = false := by
      show (unlR _ _).2.2.ma = false
      unfold unlR
      split
      · split
        · split
          · rfl
          · exact mv _ _
        · rfl
      · rfl
    rw [e] at h1
    cases h1
  | n + 6 =>
    cases h1
/-- What a Remove's step leaves. -/
theorem BkM.stepR {w : World} {B bb : Nat} {l : BkL} {s : BkS} (h : BkM w B bb l s) (i : Nat) (q : OL) (hi : s.all[i]? = some q) (h0 : q.o.kd = 1) (s1 : BkS) (hs1 : s1 = { s with S := (remP s.S s.x q.o.mr).2.1.S, x := (remP s.S s.x q.o.mr).2.1.x, all := s.all.set i { q with o := { q.o with mr := (remP s.S s.x q.o.mr).2.2 } } }) (e : Ending) (w' : World) (hst : StpR w l.L l.Q l.X q.mb (remP s.S s.x q.o.mr) e w') : BkM w' B bb l s1 ∧ Below B w w' := by
  obtain ⟨_, k1, k2, k3⟩ := hst
  rw [hs1]
  refine ⟨h.mach i q hi k1 k3 { q.o with mr := (remP s.S s.x q.o.mr).2.2 } ⟨rfl, rfl, rfl, rfl, rfl, rfl⟩ ⟨fun e => by have e : q.o.kd = 0 := e; omega, fun _ => k2, fun e => by have e : q.o.kd = 2 := e; omega, Nat.lt_of_lt_of_le (h.m i q hi).1.2.2.2 k3.size⟩, h.bel k3 (fun g hg => .inl ?_)⟩
  rcases hg with e | e
  · rw [h.t1 g e]; decide
  · rw [e, (h.t8 i q hi).1]; omega
/-- A Remove's step that is no end and marks nothing. -/
theorem bk_rem_n (w : World) (bb g p mb : Nat) (b : Bool) (R : World → Prop) (c4 : w.cell? ⟨g, p + 4, none⟩ = some (.pointer (some ⟨mb, 0, none⟩))) (HC : Calls Tryz.prog 75 #[.pointer (some ⟨mb, 0, none⟩)] w fun e w' => e = .returned (.bool false) ∧ R w')
    (F1 : ∀ W, R W → W.cell? ⟨g, p + 4, none⟩ = some (.pointer (some ⟨mb, 0, none⟩)) ∧ W.cell? ⟨g, p + 5, none⟩ = some (.bool false) ∧ W.cell? ⟨g, p + 6, none⟩ = some (.bool b) ∧ Calls Tryz.prog 76 #[.pointer (some ⟨mb, 0, none⟩)] W fun e w' => e = .returned (.bool b) ∧ w' = W) :
    Calls Tryz.prog 42 #[.pointer (some ⟨bb, 0, none⟩), .pointer (some ⟨g, p, none⟩)] w fun e w' => e = .returned (.bool true) ∧ R w' := by
  have HCC : Hid (∀ _ : Unit, _) := fun _ => HC
  have HF1 : Hid (∀ _ : Unit, _) := fun _ => F1
  clear HC F1
  cases b with
  | false =>
    go_enter Tryz.func42, Tryz.ntmps42
    go_wp2_with fail
    refine (HCC.out ()).mono ?_
    rintro e w1 ⟨rfl, h1⟩
    obtain ⟨d4, d5, d6, HM⟩ := HF1.out () w1 h1
    have H1 : Hid (R w1) := h1
    have HMM : Hid (∀ _ : Unit, _) := fun _ => HM
    clear h1 c4 HCC HF1 HM
    go_wp2_with fail
    refine (HMM.out ()).mono ?_
    rintro e w2 ⟨rfl, hw2⟩
    rw [hw2]
    clear hw2 w2 HMM
    go_wp2
    go_ret
    exact ⟨rfl, H1.out⟩
  | true =>
    go_enter Tryz.func42, Tryz.ntmps42
    go_wp2_with fail
    refine (HCC.out ()).mono ?_
    rintro e w1 ⟨rfl, h1⟩
    obtain ⟨d4, d5, d6, HM⟩ := HF1.out () w1 h1
    have H1 : Hid (R w1) := h1
    have HMM : Hid (∀ _ : Unit, _) := fun _ => HM
    clear h1 c4 HCC HF1 HM
    go_wp2_with fail
    refine (HMM.out ()).mono ?_
    rintro e w2 ⟨rfl, hw2⟩
    rw [hw2]
    clear hw2 w2 HMM
    go_wp2
    go_ret
    exact ⟨rfl, H1.out⟩
/-- A Remove's step that is its end, or comes behind it. -/
theorem bk_rem_e (w : World) (bb g p mb : Nat) (dn : Bool) (R R2 : World → Prop) (c4 : w.cell? ⟨g, p + 4, none⟩ = some (.pointer (some ⟨mb, 0, none⟩))) (HC : Calls Tryz.prog 75 #[.pointer (some ⟨mb, 0, none⟩)] w fun e w' => e = .returned (.bool true) ∧ R w')
    (F1 : ∀ W, R W → (W.cell? ⟨g, p + 4, none⟩ = some (.pointer (some ⟨mb, 0, none⟩)) ∧ W.cell? ⟨g, p + 5, none⟩ = some (.bool dn) ∧ W.frozen? ⟨g, p + 5, none⟩ = false ∧ W.cell? ⟨g, p + 6, none⟩ = some (.bool true)) ∧ (Calls Tryz.prog 76 #[.pointer (some ⟨mb, 0, none⟩)] W fun e w' => e = .returned (.bool true) ∧ w' = W) ∧ R2 (W.setCell ⟨g, p + 5, none⟩ (.bool true)))
    (F2 : ∀ W, R2 W → (W.cell? ⟨g, p + 4, none⟩ = some (.pointer (some ⟨mb, 0, none⟩)) ∧ W.cell? ⟨g, p + 6, none⟩ = some (.bool true)) ∧ Calls Tryz.prog 78 #[.pointer (some ⟨mb, 0, none⟩)] W fun e w' => e = .returned (.int .i64 0) ∧ w' = W) :
    Calls Tryz.prog 42 #[.pointer (some ⟨bb, 0, none⟩), .pointer (some ⟨g, p, none⟩)] w fun e w' => e = .returned (.bool true) ∧ R2 w' := by
  have HCC : Hid (∀ _ : Unit, _) := fun _ => HC
  have HF1 : Hid (∀ _ : Unit, _) := fun _ => F1
  have HF2 : Hid (∀ _ : Unit, _) := fun _ => F2
  clear HC F1 F2
  go_enter Tryz.func42, Tryz.ntmps42
  go_wp2_with fail
  refine (HCC.out ()).mono ?_
  rintro e w1 ⟨rfl, h1⟩
  obtain ⟨⟨d4, d5, f5, d6⟩, HM, h2⟩ := HF1.out () w1 h1
  have H2 : Hid (R2 (w1.setCell ⟨g, p + 5, none⟩ (.bool true))) := h2
  obtain ⟨⟨e4, e6⟩, HCo⟩ := HF2.out () _ h2
  have HMM : Hid (∀ _ : Unit, _) := fun _ => HM
  have HCoo : Hid (∀ _ : Unit, _) := fun _ => HCo
  clear h1 h2 c4 HCC HF1 HM HCo HF2
  go_wp2_with fail
  refine (HMM.out ()).mono ?_
  rintro e w2 ⟨rfl, hw2⟩
  rw [hw2]
  clear hw2 w2 HMM
  go_wp2_with fail
  refine (HCoo.out ()).mono ?_
  rintro e w9 ⟨rfl, hw9⟩
  rw [hw9]
  clear hw9 w9 HCoo
  go_wp2_with fail
  refine (bk_num 0 _).mono ?_
  rintro e w9 ⟨rfl, hw9⟩
  rw [hw9]
  clear hw9 w9
  go_wp2
  go_ret
  exact ⟨rfl, H2.out⟩
/-- A Remove's step that marks its slot. -/
theorem bk_rem_a (w : World) (l : BkL) (bb g p N nb mb sn k : Nat) (ranks : Int) (v : Value) (xs : List Int) (R1 R2 R3 R4 : World → Prop) (hk : ((sn : Int) % (nb : Int)) = (k : Int)) (k1 : k < nb) (n1 : nb ≤ 4096) (s1 : sn ≤ N) (N1 : N ≤ 4096) (hl : xs.length ≤ 4096)
    (c4 : w.cell? ⟨g, p + 4, none⟩ = some (.pointer (some ⟨mb, 0, none⟩))) (HC : Calls Tryz.prog 75 #[.pointer (some ⟨mb, 0, none⟩)] w fun e w' => e = .returned (.bool false) ∧ R1 w')
    (F1 : ∀ W, R1 W → RdI W l bb g p N nb mb sn ranks 4 ∧ W.cell? ⟨g, p + 6, none⟩ = some (.bool false) ∧ (Calls Tryz.prog 76 #[.pointer (some ⟨mb, 0, none⟩)] W fun e w' => e = .returned (.bool true) ∧ w' = W) ∧ R2 (W.setCell ⟨g, p + 6, none⟩ (.bool true)))
    (F2 : ∀ W, R2 W → RdI W l bb g p N nb mb sn ranks 4 ∧ R3 (W.setCell ⟨l.rb, sn, none⟩ (.int .i64 2)).drew)
    (F3 : ∀ W, R3 W → RdI W l bb g p N nb mb sn ranks 4 ∧ W.cell? ⟨l.wb, k, none⟩ = some v ∧ OwI W.drew 0 v xs ∧ ∀ v' w7, OwI w7 W.heap.size v' (xs.filter (fun u => !(u == (sn : Int)))) → (xs.filter (fun u => !(u == (sn : Int))) = [] → v' = .slice none 0 0) → Below W.heap.size W.drew w7 → RdI w7 l bb g p N nb mb sn ranks 4 ∧ w7.cell? ⟨l.wb, k, none⟩ = some v ∧ R4 (w7.setCell ⟨l.wb, k, none⟩ v'))
    (F4 : ∀ W, R4 W → RdI W l bb g p N nb mb sn ranks 4 ∧ W.cell? ⟨g, p + 5, none⟩ = some (.bool false)) :
    Calls Tryz.prog 42 #[.pointer (some ⟨bb, 0, none⟩), .pointer (some ⟨g, p, none⟩)] w fun e w' => e = .returned (.bool true) ∧ R4 w' := by
  have HCC : Hid (∀ _ : Unit, _) := fun _ => HC
  have HF1 : Hid (∀ _ : Unit, _) := fun _ => F1
  have HF2 : Hid (∀ _ : Unit, _) := fun _ => F2
  have HF3 : Hid (∀ _ : Unit, _) := fun _ => F3
  have HF4 : Hid (∀ _ : Unit, _) := fun _ => F4
  have HK : Hid (∀ _ : Unit, _) := fun _ => hk
  have q0 : (0 : Int) ≤ (sn : Int) := Int.natCast_nonneg _
  have q1 : (sn : Int) < ((N + 1 : Nat) : Int) := by omega
  have q2 : (0 : Int) ≤ (k : Int) := Int.natCast_nonneg _
  have q3 : (k : Int) < (nb : Int) := by omega
  clear HC F1 F2 F3 F4 hk
  go_enter Tryz.func42, Tryz.ntmps42
  go_wp2_with fail
  refine (HCC.out ()).mono ?_
  rintro e w1 ⟨rfl, h1⟩
  obtain ⟨r, d6, HM, h2⟩ := HF1.out () w1 h1
  have f6 := r.fg (p + 6)
  have d4 := r.g2
  have HMM : Hid (∀ _ : Unit, _) := fun _ => HM
  have hr2 := HF2.out () _ h2
  have e1 := hr2.1.g1
  have e3 := hr2.1.b3
  have HB : Hid (∀ _ : Unit, _) := fun _ => bk_bucketOf (w1.setCell ⟨g, p + 6, none⟩ (.bool true)) bb nb (sn : Int) e3 q0 (by omega) (by omega) n1
  rw [HK.out ()] at HB
  have H2 : Hid (R2 (w1.setCell ⟨g, p + 6, none⟩ (.bool true))) := h2
  clear h1 h2 r hr2 HCC HF1 c4 HM
  go_wp2_with fail
  refine (HMM.out ()).mono ?_
  rintro e w2 ⟨rfl, hw2⟩
  rw [hw2]
  clear hw2 w2 HMM
  go_wp2_with fail
  refine (HB.out ()).mono ?_
  rintro e w2 ⟨rfl, hw2⟩
  rw [hw2]
  clear hw2 w2 HB e1 e3 d6 f6 d4
  generalize w1.setCell ⟨g, p + 6, none⟩ (.bool true) = w2 at *
  obtain ⟨r2, h3⟩ := HF2.out () w2 H2.out
  have sx : w2.drew.cell? ⟨bb, 5, none⟩ = some (.slice (some ⟨l.rb, 0, none⟩) (N + 1) l.rc) ∧ w2.drew.cell? ⟨g, p + 1, none⟩ = some (.int .i64 (sn : Int)) := ⟨r2.b5, r2.g1⟩
  obtain ⟨y, hy⟩ := r2.cr
  have hy2 : w2.drew.cell? ⟨l.rb, sn, none⟩ = some (.int .i64 y) := hy
  have hyf : w2.drew.frozen? ⟨l.rb, sn, none⟩ = false := r2.fr sn
  have H3 : Hid (R3 (w2.setCell ⟨l.rb, sn, none⟩ (.int .i64 2)).drew) := h3
  obtain ⟨r3, h4⟩ := HF3.out () _ h3
  have s3 : (w2.setCell ⟨l.rb, sn, none⟩ (.int .i64 2)).drew.cell? ⟨bb, 5, none⟩ = some (.slice (some ⟨l.rb, 0, none⟩) (N + 1) l.rc) ∧ (w2.setCell ⟨l.rb, sn, none⟩ (.int .i64 2)).drew.cell? ⟨g, p + 1, none⟩ = some (.int .i64 (sn : Int)) := ⟨r3.b5, r3.g1⟩
  clear h3 h4 r2 r3 hy H2 HF2
  go_wp2_with fail
  (refine wp_region_held_drew (S := (fun Z => Z.cell? ⟨bb, 5, none⟩ = some (.slice (some ⟨l.rb, 0, none⟩) (N + 1) l.rc) ∧ Z.cell? ⟨g, p + 1, none⟩ = some (.int .i64 (sn : Int)))) (by kernel_rfl) sx (fun hHeld => ?_); simp only [List.size_toArray, List.length_cons, List.length_nil, Nat.reduceAdd, Array.replicate_succ, Array.replicate_zero, List.push_toArray, List.append_toArray, List.nil_append, List.cons_append])
  clear sx
  refine rgT 0 (h := ?_)
  refine rgT 1 (h := ?_)
  refine rgT 2 (h := ?_)
  refine rgT 3 (h := ?_)
  refine rgT 4 (h := ?_)
  refine rgT 5 (h := ?_)
  refine rgT 6 (h := ?_)
  refine rgT 7 (h := ?_)
  refine rgT 8 (h := ?_)
  (refine rgS 9 (h := fun K hK => ?_); go_simp)
  (refine hK.out _ _ s3 (fun hHeld => ?_); clear hK K; try simp only [Act.put, List.setIfInBounds_toArray, List.set_cons_zero, List.set_cons_succ])
  refine wpAnyH_done (by kernel_rfl) ?_ _
  clear hHeld s3 hy2 hyf
  generalize (w2.setCell ⟨l.rb, sn, none⟩ (.int .i64 2)).drew = w3 at *
  obtain ⟨r3, d3, o3, F9⟩ := HF3.out () w3 H3.out
  have sx : w3.drew.cell? ⟨bb, 8, none⟩ = some (.slice (some ⟨l.wb, 0, none⟩) nb l.wc) ∧ w3.drew.cell? ⟨g, p + 1, none⟩ = some (.int .i64 (sn : Int)) := ⟨r3.b8, r3.g1⟩
  have dx : w3.drew.cell? ⟨l.wb, k, none⟩ = some v := d3
  obtain ⟨va, vc, hvf⟩ := OwG.form o3
  obtain ⟨vn, hvn⟩ : ∃ n, xs.length = n := ⟨_, rfl⟩
  rw [hvn] at hvf
  have HW : Hid (∀ _ : Unit, _) := fun _ => bk_without w3.drew v 0 xs (sn : Int) o3 hl
  have H9 : Hid (∀ _ : Unit, _) := fun _ => F9
  clear r3 d3 o3 F9 HF3 H3 hvn
  subst hvf
  go_wp2_with fail
  (refine wp_region_held_drew (S := (fun Z => Z.cell? ⟨bb, 8, none⟩ = some (.slice (some ⟨l.wb, 0, none⟩) nb l.wc) ∧ Z.cell? ⟨g, p + 1, none⟩ = some (.int .i64 (sn : Int)))) (by kernel_rfl) sx (fun hHeld => ?_); simp only [List.size_toArray, List.length_cons, List.length_nil, Nat.reduceAdd, Array.replicate_succ, Array.replicate_zero, List.push_toArray, List.append_toArray, List.nil_append, List.cons_append])
  clear sx
  refine rgT 0 (h := ?_)
  refine rgT 1 (h := ?_)
  refine rgT 2 (h := ?_)
  refine rgT 3 (h := ?_)
  refine rgT 4 (h := ?_)
  refine rgT 5 (h := ?_)
  refine rgT 6 (h := ?_)
  refine rgT 7 (h := ?_)
  refine rgT 8 (h := ?_)
  refine rgT 9 (h := ?_)
  refine rgT 10 (h := ?_)
  refine rgT 12 (h := ?_)
  refine rgT 13 (h := ?_)
  refine rgT 14 (h := ?_)
  refine rgT 15 (h := ?_)
  (refine rgS 11 (h := fun K hK => ?_); go_simp)
  (refine hK.out _ _ hHeld (fun hHeld => ?_); clear hK K; try simp only [Act.put, List.setIfInBounds_toArray, List.set_cons_zero, List.set_cons_succ])
  (refine rgS 16 (h := fun K hK => ?_); go_simp)
  refine (HW.out ()).mono ?_
  rintro e w7 ⟨v', rfl, ho7, hn7, hb7⟩
  obtain ⟨r7, d7, h8⟩ := H9.out () v' w7 ho7 hn7 hb7
  obtain ⟨a7, c7, e7⟩ := OwG.form ho7
  obtain ⟨n7, hn7b⟩ : ∃ n, (xs.filter (fun u => !(u == (sn : Int)))).length = n := ⟨_, rfl⟩
  rw [hn7b] at e7
  clear hn7b
  subst e7
  have s7 : w7.cell? ⟨bb, 8, none⟩ = some (.slice (some ⟨l.wb, 0, none⟩) nb l.wc) ∧ w7.cell? ⟨g, p + 1, none⟩ = some (.int .i64 (sn : Int)) := ⟨r7.b8, r7.g1⟩
  have f7 := r7.fw k
  obtain ⟨r8, d5⟩ := HF4.out () _ h8
  have s8 : (w7.setCell ⟨l.wb, k, none⟩ (.slice a7 n7 c7)).cell? ⟨bb, 8, none⟩ = some (.slice (some ⟨l.wb, 0, none⟩) nb l.wc) ∧ (w7.setCell ⟨l.wb, k, none⟩ (.slice a7 n7 c7)).cell? ⟨g, p + 1, none⟩ = some (.int .i64 (sn : Int)) := ⟨r8.b8, r8.g1⟩
  have H8 : Hid (R4 (w7.setCell ⟨l.wb, k, none⟩ (.slice a7 n7 c7))) := h8
  clear r7 r8 h8 ho7 hn7 hb7 H9 HF4 HW dx
  (refine hK.out _ _ s7 (fun hHeld => ?_); clear hK K; try simp only [Act.put, List.setIfInBounds_toArray, List.set_cons_zero, List.set_cons_succ])
  refine rgT 17 (h := ?_)
  (refine rgS 18 (h := fun K hK => ?_); go_simp)
  (refine hK.out _ _ s8 (fun hHeld => ?_); clear hK K; try simp only [Act.put, List.setIfInBounds_toArray, List.set_cons_zero, List.set_cons_succ])
  refine wpAnyH_done (by kernel_rfl) ?_ _
  clear hHeld s7 s8 d7 f7
  generalize w7.setCell ⟨l.wb, k, none⟩ (.slice a7 n7 c7) = w8 at *
  go_wp2
  go_ret
  exact ⟨rfl, H8.out⟩
end Go.Proofs.YteekompojgbkhaaGreat

namespace Go.Proofs.YteekompojgbkhaaGreat
open Go.ChangeShapes Go.WideShapes Go.ChangeAt Go.RowKit Go.MuLone Go.RwLone
set_option linter.unusedVariables false
set_option maxRecDepth 100000
set_option maxHeartbeats 3200000
/-- What is left of the book when a Remove steps. -/
def RemNx (s : BkS) (i : Nat) (q : OL) (r : Bool × CS × MR) (s' : BkS) : Prop := (r.2.2.ma = q.o.mq ∧ s' = { s with S := r.2.1.S, x := r.2.1.x, all := s.all.set i { q with o := { q.o with mr := r.2.2, dn := r.1 } } }) ∨ (q.o.mq = false ∧ r.2.2.ma = true ∧ r.1 = false ∧ q.o.dn = false ∧ ∃ rv' T', s' = { s with S := r.2.1.S, x := r.2.1.x, all := s.all.set i { q with o := { q.o with mr := r.2.2, mq := true } }, rem := updI s.rem q.o.sl 2, rows := (fun c => if c = q.o.sl % (s.nb : Int) then (s.rows (q.o.sl % (s.nb : Int))).filter (fun u => !(u == q.o.sl)) else s.rows c), rv := rv', T := T' })
theorem bk_removed (w : World) (B bb : Nat) (l : BkL) (s : BkS) (g m cap i p : Nat) (q : OL) (h : BkM w B bb l s) (hv : s.av = .slice (some ⟨g, 0, none⟩) m cap) (hi : s.all[i]? = some q) (hp : i * 12 = p) (h0 : q.o.kd = 1) (s0 : 1 ≤ q.o.sl) (sN : q.o.sl ≤ (s.N : Int)) (N1 : s.N ≤ 24) (b0 : 1 ≤ s.nb) (b1 : s.nb ≤ 4) (hlr : ∀ c, (s.rows c).length ≤ 4000) (hw : WdOk s.S s.x) (ho : remOk s.x q.o.mr) (ma0 : q.o.mq = q.o.mr.ma) (hfin : (remP s.S s.x q.o.mr).1 = true → (remP s.S s.x q.o.mr).2.2.ma = true ∧ (remP s.S s.x q.o.mr).2.2.co = 0) (hd : q.o.dn = true → (remP s.S s.x q.o.mr).1 = true) (hma : (remP s.S s.x q.o.mr).2.2.ma = q.o.mq ∨ (q.o.mq = false ∧ (remP s.S s.x q.o.mr).2.2.ma = true)) :
    Calls Tryz.prog 42 #[.pointer (some ⟨bb, 0, none⟩), .pointer (some ⟨g, p, none⟩)] w fun e w' => e = .returned (.bool true) ∧ ∃ s', BkM w' B bb l s' ∧ Below B w w' ∧ RemNx s i q (remP s.S s.x q.o.mr) s' := by
  have hlt := (List.getElem?_eq_some_iff.1 hi).1
  have hstep := rem_step w l.L l.Q s.S l.X s.x q.mb q.o.mr h.ch ((h.m i q hi).1.2.1 h0) (h.nch i q hi) hw ho
  have c4 : w.cell? ⟨g, p + 4, none⟩ = some (.pointer (some ⟨q.mb, 0, none⟩)) := (h.cells hv i q hi p hp 4 (by decide)).trans (by unfold olC; rw [h0]; rfl)
  have hT7 : s.T g = 7 := h.t7 g (by rw [hv]; rfl)
  obtain ⟨q1, hq1⟩ : ∃ q1 : OL, q1 = { q with o := { q.o with mr := (remP s.S s.x q.o.mr).2.2 } } := ⟨_, rfl⟩
  obtain ⟨S1, hs1⟩ : ∃ s1 : BkS, s1 = { s with S := (remP s.S s.x q.o.mr).2.1.S, x := (remP s.S s.x q.o.mr).2.1.x, all := s.all.set i { q with o := { q.o with mr := (remP s.S s.x q.o.mr).2.2 } } } := ⟨_, rfl⟩
  have hi1 : S1.all[i]? = some q1 := by rw [hs1, hq1]; exact List.getElem?_set_self hlt
  have hv1 : S1.av = .slice (some ⟨g, 0, none⟩) m cap := by rw [hs1]; exact hv
  have e1 : q1.o.kd = 1 ∧ q1.o.sl = q.o.sl ∧ q1.mb = q.mb ∧ q1.o.dn = q.o.dn ∧ q1.o.mq = q.o.mq ∧ q1.o.mr = (remP s.S s.x q.o.mr).2.2 := by rw [hq1]; exact ⟨h0, rfl, rfl, rfl, rfl, rfl⟩
  have oc1 : (olC q1)[4]? = some (.pointer (some ⟨q.mb, 0, none⟩)) := by unfold olC; rw [e1.1, e1.2.2.1]; rfl
  have mk : ∀ W, BkM W B bb l S1 → Calls Tryz.prog 76 #[.pointer (some ⟨q.mb, 0, none⟩)] W fun e w' => e = .returned (.bool (remP s.S s.x q.o.mr).2.2.ma) ∧ w' = W := fun W hW => by
    have hm := (hW.m i q1 hi1).1.2.1 e1.1
    rw [e1.2.2.1] at hm
    have := rem_Marked W q.mb l.X.x q1.o.mr hm
    rw [e1.2.2.2.2.2] at this
    exact this
  rcases hma with hma | ⟨mq0, ma1⟩
  · cases hr : (remP s.S s.x q.o.mr).1 with
    | false =>
      have hdn : q.o.dn = false := by
        cases hq : q.o.dn
        · rfl
        · have := hd hq
          rw [hr] at this
          cases this
      refine (bk_rem_n w bb g p q.mb q.o.mq (fun W => BkM W B bb l S1 ∧ Below B w W) c4 (hstep.mono ?_) (fun W hW => ?_)).mono ?_
      · intro e W hst
        exact ⟨hst.1.trans (by rw [hr]), h.stepR i q hi h0 S1 hs1 e W hst⟩
      · refine ⟨(hW.1.cells hv1 i q1 hi1 p hp 4 (by decide)).trans oc1, (hW.1.cells hv1 i q1 hi1 p hp 5 (by decide)).trans ?_, (hW.1.cells hv1 i q1 hi1 p hp 6 (by decide)).trans ?_, ?_⟩
        · show some (Value.bool q1.o.dn) = _
          rw [e1.2.2.2.1, hdn]
        · show some (Value.bool q1.o.mq) = _
          rw [e1.2.2.2.2.1]
        · have := mk W hW.1
          rw [hma] at this
          exact this
      · rintro e W ⟨rfl, hW1, hW2⟩
        refine ⟨rfl, S1, hW1, hW2, .inl ⟨hma, ?_⟩⟩
        rw [hs1, hr, ← hdn]
    | true =>
      have hf := hfin hr
      have hmq : q.o.mq = true := hma.symm.trans hf.1
      obtain ⟨q2, hq2⟩ : ∃ q2 : OL, q2 = { q1 with o := { q1.o with dn := true } } := ⟨_, rfl⟩
      obtain ⟨S2, hs2⟩ : ∃ t : BkS, t = { S1 with all := S1.all.set i q2 } := ⟨_, rfl⟩
      have hlt1 : i < S1.all.length := (List.getElem?_eq_some_iff.1 hi1).1
      have hi2 : S2.all[i]? = some q2 := by rw [hs2]; exact List.getElem?_set_self hlt1
      have e2 : q2.o.kd = 1 ∧ q2.mb = q.mb ∧ q2.o.mq = true ∧ q2.o.mr = (remP s.S s.x q.o.mr).2.2 := by rw [hq2]; exact ⟨e1.1, e1.2.2.1, e1.2.2.2.2.1.trans hmq, e1.2.2.2.2.2⟩
      have hv2 : S2.av = .slice (some ⟨g, 0, none⟩) m cap := by rw [hs2]; exact hv1
      have T1 : S1.T = s.T := by rw [hs1]
      refine (bk_rem_e w bb g p q.mb q.o.dn (fun W => BkM W B bb l S1 ∧ Below B w W) (fun W => BkM W B bb l S2 ∧ Below B w W) c4 (hstep.mono ?_) (fun W hW => ?_) (fun W hW => ?_)).mono ?_
      · intro e W hst
        exact ⟨hst.1.trans (by rw [hr]), h.stepR i q hi h0 S1 hs1 e W hst⟩
      · obtain ⟨g', cap', a1, a2, a3, a4, a5⟩ := hW.1.ones i q1 hi1
        have eg : g' = g := by
          rw [hv1] at a1
          injection a1 with a1 _ _
          injection a1 with a1
          injection a1 with a1
          exact a1.symm
        subst eg
        refine ⟨⟨(hW.1.cells hv1 i q1 hi1 p hp 4 (by decide)).trans oc1, (hW.1.cells hv1 i q1 hi1 p hp 5 (by decide)).trans ?_, a5 _, (hW.1.cells hv1 i q1 hi1 p hp 6 (by decide)).trans ?_⟩, ?_, ?_, hW.1.belS hW.2 g' _ _ (by rw [T1, hT7]; decide)⟩
        · show some (Value.bool q1.o.dn) = _
          rw [e1.2.2.2.1]
        · show some (Value.bool q1.o.mq) = _
          rw [e1.2.2.2.2.1, hmq]
        · have := mk W hW.1
          rw [hf.1] at this
          exact this
        · rw [hs2, hq2]
          exact hW.1.setQ hv1 i p q1 { q1.o with dn := true } hi1 hp 5 (by decide) _ rfl ⟨rfl, rfl, rfl, rfl, rfl, rfl⟩
      · refine ⟨⟨(hW.1.cells hv2 i q2 hi2 p hp 4 (by decide)).trans ?_, (hW.1.cells hv2 i q2 hi2 p hp 6 (by decide)).trans ?_⟩, ?_⟩
        · unfold olC
          rw [e2.1, e2.2.1]
          rfl
        · show some (Value.bool q2.o.mq) = _
          rw [e2.2.2.1]
        · have hm := (hW.1.m i q2 hi2).1.2.1 e2.1
          rw [e2.2.1] at hm
          have := rem_Code W q.mb l.X.x q2.o.mr hm
          rw [e2.2.2.2, hf.2] at this
          exact this
      · rintro e W ⟨rfl, hW1, hW2⟩
        refine ⟨rfl, S2, hW1, hW2, .inl ⟨hma, ?_⟩⟩
        rw [hs2, hs1, hq2, hq1, hr]
        simp
  · have hr := rem_mark s.S s.x q.o.mr (by rw [← ma0]; exact mq0) ma1
    have hdn : q.o.dn = false := by
      cases hq : q.o.dn
      · rfl
      · have := hd hq
        rw [hr] at this
        cases this
    obtain ⟨sn, hsn⟩ : ∃ sn : Nat, q.o.sl = (sn : Int) := ⟨q.o.sl.toNat, by omega⟩
    obtain ⟨k, hk⟩ : ∃ k : Nat, q.o.sl % (s.nb : Int) = (k : Int) := ⟨(q.o.sl % (s.nb : Int)).toNat, by have := Int.emod_nonneg q.o.sl (show (s.nb : Int) ≠ 0 by omega); omega⟩
    have hkl : k < s.nb := by have := Int.emod_lt_of_pos q.o.sl (show (0 : Int) < (s.nb : Int) by omega); omega
    obtain ⟨q2, hq2⟩ : ∃ q2 : OL, q2 = { q1 with o := { q1.o with mq := true } } := ⟨_, rfl⟩
    have e2 : q2.o.kd = 1 ∧ q2.o.sl = (sn : Int) ∧ q2.mb = q.mb ∧ q2.o.dn = false := by rw [hq2]; exact ⟨e1.1, e1.2.1.trans hsn, e1.2.2.1, e1.2.2.2.1.trans hdn⟩
    have oc2 : (olC q2)[4]? = some (.pointer (some ⟨q2.mb, 0, none⟩)) := by unfold olC; rw [e2.1]; rfl
    have oc1' : (olC q1)[4]? = some (.pointer (some ⟨q1.mb, 0, none⟩)) := by rw [e1.2.2.1]; exact oc1
    obtain ⟨S2, hs2⟩ : ∃ t : BkS, t = { S1 with all := S1.all.set i q2 } := ⟨_, rfl⟩
    obtain ⟨S3, hs3⟩ : ∃ t : BkS, t = { S2 with rem := updI S2.rem (sn : Int) 2 } := ⟨_, rfl⟩
    have hlt1 : i < S1.all.length := (List.getElem?_eq_some_iff.1 hi1).1
    have hi2 : S2.all[i]? = some q2 := by rw [hs2]; exact List.getElem?_set_self hlt1
    have hi3 : S3.all[i]? = some q2 := by rw [hs3]; exact hi2
    have f1 : S1.N = s.N ∧ S1.nb = s.nb ∧ S1.ranks = s.ranks ∧ S1.T = s.T ∧ S1.rows = s.rows ∧ S1.rv = s.rv := by rw [hs1]; exact ⟨rfl, rfl, rfl, rfl, rfl, rfl⟩
    have f2 : S2.N = s.N ∧ S2.nb = s.nb ∧ S2.ranks = s.ranks ∧ S2.T = s.T ∧ S2.av = S1.av ∧ S2.rows = s.rows ∧ S2.rv = s.rv := by rw [hs2]; exact ⟨f1.1, f1.2.1, f1.2.2.1, f1.2.2.2.1, rfl, f1.2.2.2.2.1, f1.2.2.2.2.2⟩
    have f3 : S3.N = s.N ∧ S3.nb = s.nb ∧ S3.ranks = s.ranks ∧ S3.T = s.T ∧ S3.av = S1.av ∧ S3.rows = s.rows ∧ S3.rv = s.rv := by rw [hs3]; exact f2
    have T4 : s.T l.rb = 4 := h.t4
    have T6 : s.T l.wb = 6 := h.t6
    have rdS : ∀ (W : World) (t : BkS) (q' : OL), BkM W B bb l t → t.av = .slice (some ⟨g, 0, none⟩) m cap → t.all[i]? = some q' → q'.o.sl = (sn : Int) → q'.mb = q.mb → (olC q')[4]? = some (.pointer (some ⟨q'.mb, 0, none⟩)) → t.N = s.N → t.nb = s.nb → t.ranks = s.ranks → RdI W l bb g p s.N s.nb q.mb sn s.ranks 4 := fun W t q' hW a1 a2 a3 a4 a5 a6 a7 a8 => by
      have := hW.rd a1 i q' a2 p hp sn a3 (by rw [a6]; omega) 4 (by decide) a5
      rw [a4, a6, a7, a8] at this
      exact this
    refine (bk_rem_a w l bb g p s.N s.nb q.mb sn k s.ranks (s.rv k) (s.rows (k : Int)) (fun W => BkM W B bb l S1 ∧ Below B w W) (fun W => BkM W B bb l S2 ∧ Below B w W) (fun W => BkM W B bb l S3 ∧ Below B w W) (fun W => ∃ rv' T', BkM W B bb l { S3 with rows := (fun c => if c = (k : Int) then (s.rows (k : Int)).filter (fun u => !(u == (sn : Int))) else s.rows c), rv := rv', T := T' } ∧ Below B w W)
      (by rw [← hsn]; exact hk) hkl (by omega) (by omega) (by omega) (by have := hlr (k : Int); omega) c4 (hstep.mono ?_) ?_ ?_ ?_ ?_).mono ?_
    · intro e W hst
      exact ⟨hst.1.trans (by rw [hr]), h.stepR i q hi h0 S1 hs1 e W hst⟩
    · intro W hW
      refine ⟨rdS W S1 q1 hW.1 hv1 hi1 (e1.2.1.trans hsn) e1.2.2.1 oc1' f1.1 f1.2.1 f1.2.2.1, (hW.1.cells hv1 i q1 hi1 p hp 6 (by decide)).trans ?_, ?_, ?_, hW.1.belS hW.2 g _ _ (by rw [f1.2.2.2.1, hT7]; decide)⟩
      · show some (Value.bool q1.o.mq) = _
        rw [e1.2.2.2.2.1, mq0]
      · have := mk W hW.1
        rw [ma1] at this
        exact this
      · rw [hs2, hq2]
        exact hW.1.setQ hv1 i p q1 { q1.o with mq := true } hi1 hp 6 (by decide) _ rfl ⟨rfl, rfl, rfl, rfl, rfl, rfl⟩
    · intro W hW
      refine ⟨rdS W S2 q2 hW.1 (by rw [f2.2.2.2.2.1]; exact hv1) hi2 e2.2.1 e2.2.2.1 oc2 f2.1 f2.2.1 f2.2.2.1, ?_, ?_⟩
      · rw [hs3]
        exact (hW.1.setR sn (by rw [f2.1]; omega) 2).drew
      · exact (hW.1.belS hW.2 l.rb _ _ (by rw [f2.2.2.2.1, T4]; decide)).drew
    · intro W hW
      have hv3 : S3.av = .slice (some ⟨g, 0, none⟩) m cap := by rw [f3.2.2.2.2.1]; exact hv1
      have hvv := hW.1.v k (by rw [f3.2.1]; exact hkl)
      rw [f3.2.2.2.2.2.2, f3.2.2.2.2.2.1] at hvv
      have hz := hW.1.z.c k (by rw [f3.2.1]; exact hkl)
      rw [f3.2.2.2.2.2.2] at hz
      refine ⟨rdS W S3 q2 hW.1 hv3 hi3 e2.2.1 e2.2.2.1 oc2 f3.1 f3.2.1 f3.2.2.1, hz, (owK hvv.1 (Keeps.refl (fun _ => False) _).drew (fun _ _ e => e)).down (Nat.zero_le _), fun v' w7 ho7 hn7 hb7 => ?_⟩
      have kd : Keeps (fun x => False) W w7 := ((Keeps.refl (fun _ => False) W).drew).trans (Below.keeps hb7 (fun _ => False))
      have b7 := hW.1.noC kd
      have hB7 : Below B w w7 := hW.2.trans (kd.below hW.1.hB (fun x hx e => e))
      have hz7 := b7.z.c k (by rw [f3.2.1]; exact hkl)
      rw [f3.2.2.2.2.2.2] at hz7
      have fin : ∃ rv' T', BkM (w7.setCell ⟨l.wb, k, none⟩ v') B bb l { S3 with rows := (fun c => if c = (k : Int) then (s.rows (k : Int)).filter (fun u => !(u == (sn : Int))) else s.rows c), rv := rv', T := T' } := by
        have er : S3.rows = s.rows := f3.2.2.2.2.2.1
        by_cases hne : (s.rows (k : Int)).filter (fun u => !(u == (sn : Int))) = []
        · have ev := hn7 hne
          have b9 := b7.setW k (by rw [f3.2.1]; exact hkl) v' _ (ho7.down hW.1.hB) (fun _ => ev) (fun x hx => by rw [ev] at hx; cases hx)
          rw [← er] at b9 ⊢
          exact ⟨_, _, b9⟩
        · obtain ⟨b, cb, eb, gb, lb⟩ := owG_some ho7 hne
          have hob : v'.ownBlock = some b := by rw [eb]; rfl
          have b8 := b7.tag b (11 + 4 * k) (by have := hW.1.new0 b gb; exact this) (by have := hW.1.hB; omega) lb
          have b9 := b8.setW k (by show k < S3.nb; rw [f3.2.1]; exact hkl) v' _ (ho7.down hW.1.hB) hn7 (fun x hx => by rw [hob] at hx; have e := Option.some.inj hx; rw [← e]; exact updN_at _ _ _)
          rw [← er] at b9 ⊢
          exact ⟨_, _, b9⟩
      obtain ⟨rv', T', fin⟩ := fin
      exact ⟨rdS w7 S3 q2 b7 hv3 hi3 e2.2.1 e2.2.2.1 oc2 f3.1 f3.2.1 f3.2.2.1, hz7, rv', T', fin, b7.belS hB7 l.wb _ _ (by rw [f3.2.2.2.1, T6]; decide)⟩
    · rintro W ⟨rv', T', hW, hb⟩
      have hv4 : ({ S3 with rows := (fun c => if c = (k : Int) then (s.rows (k : Int)).filter (fun u => !(u == (sn : Int))) else s.rows c), rv := rv', T := T' } : BkS).av = .slice (some ⟨g, 0, none⟩) m cap := by show S3.av = _; rw [f3.2.2.2.2.1]; exact hv1
      refine ⟨rdS W _ q2 hW hv4 hi3 e2.2.1 e2.2.2.1 oc2 f3.1 f3.2.1 f3.2.2.1, (hW.cells hv4 i q2 hi3 p hp 5 (by decide)).trans ?_⟩
      show some (Value.bool q2.o.dn) = _
      rw [e2.2.2.2]
    · rintro e W ⟨rfl, rv', T', hW, hb⟩
      refine ⟨rfl, _, hW, hb, .inr ⟨mq0, ma1, hr, hdn, rv', T', ?_⟩⟩
      rw [hs3, hs2, hs1, hq2, hq1, hk, hsn]
      simp
end Go.Proofs.YteekompojgbkhaaGreat
