import Derived.Test.YtdpebhdjcgiboaaGreatSn7
namespace Go.Proofs.YtdpebhdjcgiboaaGreat
open Go.ChangeShapes Go.WideShapes Go.ChangeAt Go.RowKit Go.MuLone Go.RwLone
set_option linter.unusedVariables false
set_option maxRecDepth 100000
set_option maxHeartbeats 6400000
theorem PkR.sub {w : World} {F G : Nat → Prop} {v : Value} {vs : List (Int × Int × Int)} (h : PkR w F v vs) (hG : ∀ y, G y → F y) : PkR w G v vs := by
  obtain ⟨ao, cap, e, l1, l2, l3⟩ := h
  refine ⟨ao, cap, e, l1, l2, fun i hi => ?_⟩
  obtain ⟨b, off, e1, e2, e3⟩ := l3 i hi
  exact ⟨b, off, e1, fun e => e2 (hG b e), e3⟩
theorem budgets_walk (w : World) (ja : Option Addr) (jc : Nat) (js : List (Int × Int × Int)) (hj : InG pkC w w.heap.size (.slice ja js.length jc) js) (hjt : ∀ x ∈ js, -9223372036854775808 ≤ x.2.1 ∧ x.2.1 ≤ 9223372036854775807) (hjl : js.length ≤ 1048576) (x : Int) (s : ByteArray) (hs : s.size ≤ 1048576) (bg : Int) (hbg : -9223372036854775808 ≤ bg ∧ bg ≤ 9223372036854775807) :
    Calls Tryz.prog 3 #[.int .i64 x, .slice ja js.length jc, .string s, .int .i64 bg] w fun e w' => e = .returned (.bool true) ∧ Below w.heap.size w w' := by
  by_cases hx : 1 ≤ x ∧ x ≤ 16 ∧ js.length ≤ 40
  · obtain ⟨x1, x2, hK⟩ := hx
    obtain ⟨W, rfl⟩ : ∃ W : Nat, x = (W : Int) := ⟨x.toNat, by omega⟩
    have hW1 : 1 ≤ W := by omega
    have hW : W ≤ 16 := by omega
    have n1 : ¬ (W : Int) < 1 := by omega
    have n2 : ¬ (W : Int) > 16 := by omega
    have HLA : Hid (∀ X, Keeps (fun _ => False) w X → _) := fun X k => laidL X w.heap.size k.size W hW1 hW ja jc js (hj.later (k.below (Nat.le_refl _) (fun y hy e => e))) hK hjt
    have HD : Hid (∀ W, Calls Tryz.prog 10 #[.string s] W fun e w' => ∃ v, e = .returned v ∧ ownP w' W.heap.size v (dL s.data.toList) ∧ Below W.heap.size W w') := fun W => decode_any s W (by omega)
    have HLV : Hid ((dL s.data.toList).length ≤ 1048576 ∧ ∀ p ∈ dL s.data.toList, p.2.2 ≤ 300) := ⟨by have := (dL_len _ s.data.toList (Nat.le_refl _)).1; rw [len_list] at this; omega, dL_small _ _ (Nat.le_refl _)⟩
    generalize dL s.data.toList = vs at *
    obtain ⟨K, hKK⟩ : ∃ K, js.length = K := ⟨_, rfl⟩
    have HL : Hid (js.length = K) := hKK
    have n3 : ¬ (K : Int) > 40 := by omega
    have hK40 : K ≤ 40 := by omega
    rw [hKK]
    rw [hKK] at HLA
    clear hj hjt hjl hs hKK hK
    go_enter Tryz.func3, Tryz.ntmps3
    go_wp2_with fail
    refine (HLA.out w (Keeps.refl _ _)).mono ?_
    rintro e w1 ⟨hb, qb, M, ln, pl, a, rfl, ld⟩
    obtain ⟨T, hT⟩ : ∃ T, totJ (lenJ js) K = T := ⟨_, rfl⟩
    have HTE : Hid (totJ (lenJ js) K = T) := hT
    rw [hT] at ld ⊢
    clear hT
    have hT4 := ld.t
    have HLD : Hid (Ld w w1 W js hb qb T M ln pl a) := ld
    clear ld
    go_wp2_with fail
    refine (HLA.out w1 HLD.out.k).mono ?_
    rintro e w2 ⟨gb, rb, M', ln', pl', a', rfl, ld⟩
    rw [HTE.out] at ld ⊢
    have HLE : Hid (Ld w1 w2 W js gb rb T M' ln' pl' a') := ld
    clear ld HTE HLA
    have HZ : Hid (w.heap.size ≤ w1.heap.size ∧ w1.heap.size ≤ w2.heap.size) := ⟨HLD.out.k.size, HLE.out.k.size⟩
    go_wp2_with fail
    refine (HD.out w2).mono ?_
    rintro e w3 ⟨v, rfl, ho, hb3⟩
    have k3 : Keeps (fun _ => False) w2 w3 := Below.keeps hb3 _
    have H3 : Hid (Hj w3 (fun y => w.heap.size ≤ y ∧ y < w1.heap.size) M hb qb a ∧ Hj w3 (fun y => w1.heap.size ≤ y ∧ y < w2.heap.size) M' gb rb a' ∧ PkR w3 (fun y => w.heap.size ≤ y ∧ y < w2.heap.size) v vs ∧ Keeps (fun _ => False) w w3 ∧ w2.heap.size ≤ w3.heap.size) :=
      ⟨(HLD.out.h.keeps HLE.out.k (fun _ e => e.elim)).keeps k3 (fun _ e => e.elim), HLE.out.h.keeps k3 (fun _ e => e.elim), PkR.of ho (fun y hy => hy.2) (by have := HLV.out.1; omega) HLV.out.2, (HLD.out.k.trans HLE.out.k).trans k3, k3.size⟩
    clear ho hb3 k3 HD HLV
    have HCP : Hid (∀ b, _) := fun b => cut_play (M := M) vs a b T HLD.out.s HLD.out.e (by omega) (HLD.out.g.cuts HLD.out.j (by omega) HLD.out.s vs)
    have HWH : Hid ((playP M vs T a).1 = true) := HLD.out.g.cuts HLD.out.j (by omega) HLD.out.s vs
    have HTW : Hid (∀ b, _) := fun b => two_alike HLD.out.j (by rw [show ln = ln' from funext (fun k => (HLD.out.l k).trans (HLE.out.l k).symm)]; exact HLE.out.j) a a' (HLE.out.q.trans HLD.out.q.symm) (HLE.out.p.trans HLD.out.p.symm) vs b
    have HBL : Hid (∀ b, (playP M vs T a).2.2.1.ev.length ≤ 1000 ∧ (playP M' vs b a').2.2.1.ev.length ≤ 1000) := fun b => by
      refine ⟨?_, ?_⟩
      · obtain ⟨q, _, gq⟩ := mk_play vs T a
        have := (gq.keep (fun a i x l j h => (j.step HLD.out.j (by omega) h).1) HLD.out.g).x
        have := HL.out
        omega
      · obtain ⟨q, _, gq⟩ := mk_play vs b a'
        have := (gq.keep (fun a i x l j h => (j.step HLE.out.j (by omega) h).1) HLE.out.g).x
        have := HL.out
        omega
    have HEV : Hid (a'.1.st = 0 ∧ a'.1.ev = []) := ⟨HLE.out.s, HLE.out.e⟩
    clear HLD HLE
    go_wp2_with fail
    refine (hj_play w3 _ M hb qb a H3.out.1 T (by omega) v vs (H3.out.2.2.1.sub (fun y hy => ⟨hy.1, by have := HZ.out; omega⟩))).mono ?_
    rintro e w4 ⟨rfl, h4, k4⟩
    have hr1 : retP (playP M vs T a).1 (playP M vs T a).2.1 T = .tuple #[.int .i64 ((T : Int) - ((playP M vs T a).2.1 : Int)), .int .i64 0] := by unfold retP; rw [if_pos HWH.out]
    rw [hr1]
    clear hr1
    have H4 : Hid ((∃ U, Hj w4 U M hb qb (playP M vs T a).2.2 ∧ ∀ y, U y → w.heap.size ≤ y ∧ ¬ (w1.heap.size ≤ y ∧ y < w2.heap.size)) ∧ Hj w4 (fun y => w1.heap.size ≤ y ∧ y < w2.heap.size) M' gb rb a' ∧ PkR w4 (fun y => w1.heap.size ≤ y ∧ y < w2.heap.size) v vs ∧ Keeps (fun y => w.heap.size ≤ y) w w4) := by
      have hz := HZ.out
      have z3 := H3.out.2.2.2.2
      have z4 := H3.out.2.2.2.1.size
      refine ⟨⟨_, h4, fun y hy => ?_⟩, H3.out.2.1.keeps k4 (fun y e e' => by omega), (H3.out.2.2.1.keeps k4 (fun y e => .inl ⟨e.1, by omega⟩)).sub (fun y hy => ⟨by omega, hy.2⟩), (H3.out.2.2.2.1.mono (fun _ e => e.elim)).trans (k4.mono (fun y e => e.1))⟩
      rcases hy with hy | hy
      · exact ⟨hy.1, fun e => by omega⟩
      · exact ⟨by omega, fun e => by omega⟩
    clear h4 k4 H3
    by_cases hb0 : bg < 0
    · obtain ⟨c1, c2, -⟩ := HCP.out 0
      obtain ⟨n, hn⟩ : ∃ n, (T : Int) - ((playP M vs T a).2.1 : Int) = n := ⟨_, rfl⟩
      rw [hn] at c1 ⊢
      have HN : Hid ((playP M vs T a).2.2.1.st = n) := c1
      clear hn c1 c2 HCP HTW HWH HBL
      go_wp2_with fail
      refine (hplay_neg w4 (fun y => w1.heap.size ≤ y ∧ y < w2.heap.size) M'.pt gb rb bg hb0 v).mono ?_
      rintro e w5 ⟨rfl, hws⟩
      have hws := hws.symm
      subst hws
      go_wp2_with fail
      obtain ⟨P, qv, ev, en, m, -, -⟩ := H4.out.1.choose_spec.1.m
      refine (hsteps w4 P M.pt hb qb qv ev en _ m).mono ?_
      rintro e w5 ⟨rfl, hws⟩
      have hws := hws.symm
      subst hws
      rw [HN.out]
      clear m
      go_wp2_with fail
      obtain ⟨P, qv, ev, en, m, -, -⟩ := H4.out.2.1.m
      have HM2 : Hid (Hm w4 P M'.pt gb rb qv ev en a'.1) := m
      refine (hsteps w4 P M'.pt gb rb qv ev en _ m).mono ?_
      rintro e w5 ⟨rfl, hws⟩
      have hws := hws.symm
      subst hws
      rw [HEV.out.1]
      clear m
      go_wp2_with fail
      refine (hev_two w4 P M'.pt gb rb qv ev en a'.1 HM2.out (by rw [HEV.out.2]; simp)).mono ?_
      rintro e w6 ⟨v6, rfl, ho6, k6⟩
      rw [HEV.out.2] at ho6
      obtain ⟨va, vc, rfl⟩ := ho6.form
      have HK6 : Hid (Keeps (fun y => w.heap.size ≤ y) w w6) := H4.out.2.2.2.trans (k6.mono (fun _ e => e.elim))
      clear ho6 k6
      go_wp2
      go_ret
      exact ⟨rfl, HK6.out.below (Nat.le_refl _) (fun y hy e => by omega)⟩
    · obtain ⟨b, rfl⟩ : ∃ b : Nat, bg = (b : Int) := ⟨bg.toNat, by omega⟩
      obtain ⟨c1, c2, c3, c4, c5, c6, c7, c8⟩ := HCP.out b
      obtain ⟨t1, t2, t3⟩ := HTW.out b
      obtain ⟨n, hn⟩ : ∃ n : Nat, (T : Int) - ((playP M vs T a).2.1 : Int) = (n : Int) := ⟨T - (playP M vs T a).2.1, by omega⟩
      rw [hn] at c1 ⊢
      rw [c1] at c6 c7
      have HB : Hid (∃ (z f : Int), retP (playP M' vs b a').1 (playP M' vs b a').2.1 b = .tuple #[.int .i64 z, .int .i64 f] ∧ ((f = 34 ∧ b < n ∧ (b : Int) = z) ∨ (f = 0 ∧ ¬ b < n ∧ (n : Int) = z)) ∧ (playP M' vs b a').2.2.1.st = z ∧ (playP M vs T a).2.2.1.ev.filter (upK z) = (playP M' vs b a').2.2.1.ev) := by
        rw [t1, t2, t3]
        cases hq : (playP M vs b a).1 with
        | false =>
          have q1 := c6.1 hq
          have q2 : (playP M vs b a).2.2.1.st = (b : Int) := by omega
          exact ⟨(b : Int), 34, by unfold retP; rw [if_neg (by simp)], .inl ⟨rfl, by omega, rfl⟩, q2, by rw [← q2]; exact c8⟩
        | true =>
          have q1 : ¬ (b : Int) < (n : Int) := fun e => by have := c6.2 e; rw [hq] at this; cases this
          have q2 : (playP M vs b a).2.2.1.st = (n : Int) := by omega
          refine ⟨(n : Int), 0, ?_, .inr ⟨rfl, by omega, rfl⟩, q2, by rw [← q2]; exact c8⟩
          unfold retP
          rw [if_pos rfl, show (b : Int) - ((playP M vs b a).2.1 : Int) = (n : Int) by omega]
      have HN : Hid ((playP M vs T a).2.2.1.st = (n : Int)) := c1
      have hnT : n ≤ T := by omega
      have HEL : Hid ((playP M vs T a).2.2.1.ev.length ≤ 1000 ∧ (playP M' vs b a').2.2.1.ev.length ≤ 1000) := HBL.out b
      clear hn c1 c2 c3 c4 c5 c6 c7 c8 t1 t2 t3 HCP HTW HWH HBL
      go_wp2_with fail
      refine (hj_play w4 _ M' gb rb a' H4.out.2.1 b (by omega) v vs H4.out.2.2.1).mono ?_
      rintro e w5 ⟨rfl, h5, k5⟩
      obtain ⟨z, f, e1, e2, e3, e4⟩ := HB.out
      rw [e1]
      have H5 : Hid ((∃ U, Hj w5 U M hb qb (playP M vs T a).2.2) ∧ (∃ U, Hj w5 U M' gb rb (playP M' vs b a').2.2) ∧ Keeps (fun y => w.heap.size ≤ y) w w5) := by
        obtain ⟨U, h4, hU⟩ := H4.out.1
        exact ⟨⟨U, h4.keeps k5 (fun y e e' => (hU y e').2 e)⟩, ⟨_, h5⟩, H4.out.2.2.2.trans (k5.mono (fun y e => by have := HZ.out; omega))⟩
      have HF : Hid ((playP M' vs b a').2.2.1.st = z ∧ (playP M vs T a).2.2.1.ev.filter (upK z) = (playP M' vs b a').2.2.1.ev) := ⟨e3, e4⟩
      clear e1 e3 e4 HB h5 k5 H4 HZ HEV
      generalize (playP M vs T a).2.2 = s1 at *
      generalize (playP M' vs b a').2.2 = s2 at *
      go_wp2_with fail
      obtain ⟨U, h5⟩ := H5.out.1
      obtain ⟨P, qv, ev, en, m, -, -⟩ := h5.m
      refine (hsteps w5 P M.pt hb qb qv ev en _ m).mono ?_
      rintro e w6 ⟨rfl, hws⟩
      have hws := hws.symm
      subst hws
      rw [HN.out]
      clear m h5
      go_wp2_with fail
      obtain ⟨U, h5⟩ := H5.out.2.1
      obtain ⟨P, qv, ev, en, m, -, -⟩ := h5.m
      refine (hsteps w5 P M'.pt gb rb qv ev en _ m).mono ?_
      rintro e w6 ⟨rfl, hws⟩
      have hws := hws.symm
      subst hws
      rw [HF.out.1]
      clear m h5
      have hmv : (f = 34 ∧ (b : Int) = z ∧ z < (n : Int)) ∨ (f = 0 ∧ (n : Int) = z ∧ (b : Int) = z) ∨ (f = 0 ∧ (n : Int) = z ∧ z < (b : Int)) := by omega
      clear e2
      rcases hmv with ⟨rfl, hz, g1⟩ | ⟨rfl, hz, g1⟩ | ⟨rfl, hz, g1⟩
      all_goals
        go_wp2_with fail
        obtain ⟨U, h5⟩ := H5.out.1
        obtain ⟨P, qv, ev, en, m, -, -⟩ := h5.m
        refine (hev_two w5 P M.pt hb qb qv ev en s1.1 m (by have := HEL.out.1; omega)).mono ?_
        rintro e w6 ⟨v6, rfl, ho6, k6⟩
        obtain ⟨xa, xc, rfl⟩ := ho6.form
        have H6 : Hid (InG evC w6 w6.heap.size (.slice xa s1.1.ev.length xc) s1.1.ev ∧ (∃ U, Hj w6 U M' gb rb s2) ∧ Keeps (fun y => w.heap.size ≤ y) w w6) := ⟨ho6.in, by obtain ⟨U, h⟩ := H5.out.2.1; exact ⟨U, h.keeps k6 (fun _ e => e.elim)⟩, H5.out.2.2.trans (k6.mono (fun _ e => e.elim))⟩
        clear ho6 k6 m h5 H5 g1 hz
        obtain ⟨es, hes⟩ : ∃ es, s1.1.ev = es := ⟨_, rfl⟩
        rw [hes] at H6 HF HEL ⊢
        clear hes
        obtain ⟨E, hE⟩ : ∃ E, es.length = E := ⟨_, rfl⟩
        have HE : Hid (es.length = E) := hE
        have hE1 : E ≤ 1000 := by rw [← hE]; exact HEL.out.1
        rw [hE]
        clear hE
        go_wp2_with fail
        go_loopw [20, 22] (fun v d wq => ∃ (i : Nat) (ov : Value), v = ov ∧ d = .int .i64 i ∧ i ≤ E ∧ OwG evC 36 4 wq w6.heap.size ov ((es.take i).filter (upK z)) ∧ Below w6.heap.size w6 wq) (fun _ d _ => E - (intOf d).toNat)
        case atStart => exact ⟨0, _, rfl, rfl, by omega, OwG.nil _ _ _ _ _, Below.refl _ _⟩
        case round =>
          rename World => wq
          obtain ⟨i, ov, rfl, rfl, hi, hov, hbl⟩ := hrel
          obtain ⟨va, vc, rfl⟩ := hov.form
          have i0 : (0 : Int) ≤ (i : Int) := Int.natCast_nonneg _
          have HQ : Hid (OwG evC 36 4 wq w6.heap.size (.slice va ((es.take i).filter (upK z)).length vc) ((es.take i).filter (upK z)) ∧ Below w6.heap.size w6 wq) := ⟨hov, hbl⟩
          have hln : ((es.take i).filter (upK z)).length ≤ 1000 := by
            have := List.length_filter_le (upK z) (es.take i)
            rw [List.length_take] at this
            omega
          clear hov hbl
          by_cases h7 : i < E
          · have i2 : (i : Int) < (E : Int) := by omega
            have hil : i < es.length := by have := HE.out; omega
            have hin := H6.out.1.later HQ.out.2
            rw [HE.out] at hin
            obtain ⟨c1, o1, rfl, -, q1⟩ := InG.cell (cs := evC) (n := 4) (fun _ => rfl) hin i hil (by decide)
            have HS : Hid ((es.take (i + 1)).filter (upK z) = (es.take i).filter (upK z) ++ if upK z es[i] then [es[i]] else []) := filter_take_succ (upK z) es i es[i] (List.getElem?_eq_getElem hil)
            generalize es[i] = x at *
            obtain ⟨x0, x1, x2, x3⟩ := x
            have p0 : wq.cell? ⟨c1, o1 + i * 4, none⟩ = some (.int .i64 x0) := q1 0 (by decide)
            have p1 : wq.cell? ⟨c1, o1 + i * 4 + 1, none⟩ = some (.int .i64 x1) := q1 1 (by decide)
            have p2 : wq.cell? ⟨c1, o1 + i * 4 + 2, none⟩ = some (.int .i64 x2) := q1 2 (by decide)
            have p3 : wq.cell? ⟨c1, o1 + i * 4 + 3, none⟩ = some (.int .i64 x3) := q1 3 (by decide)
            have HWs : Hid (w6.heap.size ≤ wq.heap.size) := HQ.out.2.size
            clear q1 hin
            by_cases y1 : x3 < z
            · have HS2 : Hid ((es.take (i + 1)).filter (upK z) = (es.take i).filter (upK z) ++ [(x0, x1, x2, x3)]) := by
                show _ = _
                rw [HS.out, if_pos (by unfold upK; simp; try omega)]
              clear HS
              generalize (es.take i).filter (upK z) = xs at *
              go_wp2_with (at_builtin; refine hideG ?_)
              change wpList _ _ _ _ _ _
              refine app_one (cs := evC) (wr := wq) (by rfl) _ _ 33 36 (by rfl) Tryz.underlying33 infoEv4 rfl (by decide) (fun _ => rfl) w6.heap.size _ xs (x0, x1, x2, x3) HQ.out.1 (by rfl) wq.heap.size rfl (by rfl) (ev_one _) _ rfl (by unfold maxLen; omega) (by omega) HWs.out ?_
              intro v' w9 ho3 hb3 hk3
              rw [← HS2.out] at ho3
              have HN9 : Hid (OwG evC 36 4 w9 w6.heap.size v' ((es.take (i + 1)).filter (upK z)) ∧ Below w6.heap.size w6 w9) := ⟨ho3, HQ.out.2.trans hb3⟩
              clear ho3 hb3 hk3 HQ HS2 p0 p1 p2 p3
              go_wp2
              go_roundw
              case rel => exact ⟨i + 1, _, rfl, by go_num, by omega, HN9.out.1, HN9.out.2⟩
              case measure => simp [intOf]; omega
            · by_cases y2 : x3 = z
              · have y3 := y2.symm
                subst y3
                clear y2
                by_cases y4 : x0 = 2
                · subst y4
                  have HS2 : Hid ((es.take (i + 1)).filter (upK z) = (es.take i).filter (upK z) ++ [(2, x1, x2, z)]) := by
                    show _ = _
                    rw [HS.out, if_pos (by unfold upK; simp; try omega)]
                  clear HS
                  generalize (es.take i).filter (upK z) = xs at *
                  go_wp2_with (at_builtin; refine hideG ?_)
                  change wpList _ _ _ _ _ _
                  refine app_one (cs := evC) (wr := wq) (by rfl) _ _ 33 36 (by rfl) Tryz.underlying33 infoEv4 rfl (by decide) (fun _ => rfl) w6.heap.size _ xs (2, x1, x2, z) HQ.out.1 (by rfl) wq.heap.size rfl (by rfl) (ev_one _) _ rfl (by unfold maxLen; omega) (by omega) HWs.out ?_
                  intro v' w9 ho3 hb3 hk3
                  rw [← HS2.out] at ho3
                  have HN9 : Hid (OwG evC 36 4 w9 w6.heap.size v' ((es.take (i + 1)).filter (upK z)) ∧ Below w6.heap.size w6 w9) := ⟨ho3, HQ.out.2.trans hb3⟩
                  clear ho3 hb3 hk3 HQ HS2 p0 p1 p2 p3
                  go_wp2
                  go_roundw
                  case rel => exact ⟨i + 1, _, rfl, by go_num, by omega, HN9.out.1, HN9.out.2⟩
                  case measure => simp [intOf]; omega
                · have HS2 : Hid ((es.take (i + 1)).filter (upK z) = (es.take i).filter (upK z)) := by
                    show _ = _
                    rw [HS.out, if_neg (by unfold upK; simp; try omega), List.append_nil]
                  clear HS
                  go_wp2
                  go_roundw
                  case rel => exact ⟨i + 1, _, rfl, by go_num, by omega, by rw [HS2.out]; exact HQ.out.1, HQ.out.2⟩
                  case measure => simp [intOf]; omega
              · have HS2 : Hid ((es.take (i + 1)).filter (upK z) = (es.take i).filter (upK z)) := by
                  show _ = _
                  rw [HS.out, if_neg (by unfold upK; simp; try omega), List.append_nil]
                clear HS
                go_wp2
                go_roundw
                case rel => exact ⟨i + 1, _, rfl, by go_num, by omega, by rw [HS2.out]; exact HQ.out.1, HQ.out.2⟩
                case measure => simp [intOf]; omega
          · have i2 : ¬ (i : Int) < (E : Int) := by omega
            obtain ⟨U, h6⟩ := H6.out.2.1
            have kq : Keeps (fun _ => False) w6 wq := Below.keeps HQ.out.2 _
            obtain ⟨P, qv, ev, en, m, -, -⟩ := (h6.keeps kq (fun _ e => e.elim)).m
            have HO : Hid (OwG evC 36 4 wq w6.heap.size (.slice va ((es.take i).filter (upK z)).length vc) s2.1.ev ∧ ((es.take i).filter (upK z)).length = s2.1.ev.length ∧ Keeps (fun y => w.heap.size ≤ y) w wq ∧ Hm wq P M'.pt gb rb qv ev en s2.1) := by
              have e1 : es.take i = es := List.take_of_length_le (by have := HE.out; omega)
              have e2 := HQ.out.1
              rw [e1, HF.out.2] at e2 ⊢
              exact ⟨e2, rfl, H6.out.2.2.trans (kq.mono (fun _ e => e.elim)), m⟩
            have hn8 : ((es.take i).filter (upK z)).length = s2.1.ev.length := HO.out.2.1
            rw [hn8]
            rw [hn8] at HO
            clear h6 kq m HQ hln hn8
            go_wp2_with fail
            refine (hev_two wq P M'.pt gb rb qv ev en s2.1 HO.out.2.2.2 (by have := HEL.out.2; omega)).mono ?_
            rintro e w8 ⟨v8, rfl, ho8, k8⟩
            obtain ⟨ya, yc, rfl⟩ := ho8.form
            have HK8 : Hid (Keeps (fun y => w.heap.size ≤ y) w w8) := HO.out.2.2.1.trans (k8.mono (fun _ e => e.elim))
            have HSM : Hid (∀ _ : Unit, _) := fun _ => sameE w8 w8.heap.size (Nat.le_refl _) ya yc va vc s2.1.ev ho8.in (owK HO.out.1 k8 (fun _ _ e => e)).in (by have := HEL.out.2; omega)
            clear ho8 k8 HO
            go_wp2_with fail
            refine (HSM.out ()).mono ?_
            rintro e w9 ⟨rfl, k9⟩
            have HK9 : Hid (Keeps (fun y => w.heap.size ≤ y) w w9) := HK8.out.trans (k9.mono (fun _ e => e.elim))
            clear k9 HSM
            go_wp2
            go_ret
            exact ⟨rfl, HK9.out.below (Nat.le_refl _) (fun y hy e => by omega)⟩
  · have hx' : x < 1 ∨ (¬ x < 1 ∧ x > 16) ∨ (¬ x < 1 ∧ ¬ x > 16 ∧ (js.length : Int) > 40) := by omega
    clear hj hjt
    generalize js.length = K at *
    rcases hx' with h1 | ⟨h1, h2⟩ | ⟨h1, h2, h3⟩
    all_goals
      go_enter Tryz.func3, Tryz.ntmps3
      go_wp2
      go_ret
      exact ⟨rfl, Below.refl _ _⟩
end Go.Proofs.YtdpebhdjcgiboaaGreat
