import Derived.Test.YtdpebhdjcgiboaaGreatSr9
namespace Go.Proofs.YtdpebhdjcgiboaaGreat
open Go.ChangeShapes Go.WideShapes Go.ChangeAt Go.RowKit Go.MuLone Go.RwLone
set_option linter.unusedVariables false
set_option maxRecDepth 100000
set_option maxHeartbeats 3200000
theorem rpend_any {w : World} {F : Nat → Prop} {pt : Nat} {hb qb : Nat} {qv : Nat → Value} {ev en : Value} {h : Hp} (m : Rh w F pt hb qb qv ev en h) (x : Int) : Calls Tryz.prog 70 #[.pointer (some ⟨hb, 0, none⟩), .int .i64 x] w fun e w' => e = .returned (.int .i64 ((pendP h x : Nat) : Int)) ∧ w' = w := by
  by_cases hx : 0 ≤ x ∧ x < (h.q.length : Int)
  · obtain ⟨i, rfl⟩ : ∃ i : Nat, x = (i : Int) := ⟨x.toNat, by omega⟩
    have hi : i < h.q.length := by omega
    have e : pendP h (i : Int) = h.q[i].length := by
      unfold pendP
      rw [if_neg (by omega)]
      simp [hi]
    rw [e]
    exact rpend_in m i hi
  · have e : pendP h x = 0 := by
      unfold pendP
      split
      · rfl
      · rw [List.getElem?_eq_none (by omega)]; rfl
    rw [e]
    exact rpend_out m x hx
/-- The document's machines without memory. -/
abbrev PM (R : Rd) : Mc := pureM R.ins R.n
/-- The document's harness and its program, since w. -/
structure Pr (R : Rd) (w wr : World) (F : Nat → Prop) (hb qb : Nat) (a : Hp × Ls) : Prop where
  mid : ∃ F' qv ev en, Rh wr F' R.bk hb qb qv ev en a.1 ∧ (∀ y, F' y → F y ∨ w.heap.size ≤ y) ∧ (∀ y, F' y → ¬ fR R y)
  o : RP R wr a.2
  k : Keeps (fun x => F x ∨ fRw R x) w wr
  iv : Iv R.n a.1
theorem Pr.still {R : Rd} {w wr wy : World} {F : Nat → Prop} {hb qb : Nat} {a : Hp × Ls} (p : Pr R w wr F hb qb a) (k : Keeps (fun _ => False) wr wy) : Pr R w wy F hb qb a := by
  obtain ⟨F', qv, ev, en, m, f, d⟩ := p.mid
  exact ⟨⟨F', qv, ev, en, m.still k, f, d⟩, p.o.still k, p.k.trans (k.mono (fun _ e => e.elim)), p.iv⟩
theorem rpstep_any {R : Rd} (hR : RdOk R) {w wr : World} {F : Nat → Prop} {hb qb : Nat} {a : Hp × Ls} (p : Pr R w wr F hb qb a) (i : Nat) (x : Pq) (l : List Pq) (hq : a.1.q[i]? = some (x :: l)) :
    Calls Tryz.prog 65 #[.pointer (some ⟨hb, 0, none⟩), .int .i64 (i : Int)] wr fun e w' => e = .returned (.bool true) ∧ Pr R w w' F hb qb (stepP (PM R) a i).1 := by
  obtain ⟨F', qv, ev, en, m, f, d⟩ := p.mid
  obtain ⟨hlt, hge⟩ := List.getElem?_eq_some_iff.1 hq
  have ha := p.iv.a i _ hq
  have hb1 := p.iv.b
  have hc1 := p.iv.c
  refine (rhstep_any R hR wr F' hb qb qv ev en a.1 a.2 i x l m p.o d hlt hge (ha.2 x (List.mem_cons_self ..)) (by have := ha.1; simp at this; omega) (by omega) (by omega)).mono ?_
  rintro e w' ⟨rfl, F2, qv2, ev2, en2, md⟩
  have es : stepP (PM R) a i = (((stepQ (PM R) a.1 a.2 i x l).1, (stepQ (PM R) a.1 a.2 i x l).2.1), (stepQ (PM R) a.1 a.2 i x l).2.2) := by unfold stepP; rw [hq]
  have hw := p.k.size
  rw [es]
  refine ⟨rfl, ⟨F2, qv2, ev2, en2, md.m, fun y hy => ?_, md.d⟩, md.o, ?_, stepQ_iv (M := PM R) p.iv hq⟩
  · rcases md.f y hy with e | e
    · exact f y e
    · right; omega
  · refine ⟨md.k.os.trans p.k.os, md.k.tape.trans p.k.tape, md.k.output.trans p.k.output, Nat.le_trans hw md.k.size, fun g hg hn => (md.k.block g (by omega) (fun e => e.elim (fun e => (f g e).elim (fun e => hn (.inl e)) (fun e => by omega)) (fun e => hn (.inr e)))).trans (p.k.block g hg hn)⟩
theorem rmany_any {R : Rd} (hR : RdOk R) {w wr : World} {F : Nat → Prop} {hb qb : Nat} {a : Hp × Ls} (p : Pr R w wr F hb qb a) (x n : Int) (B : Nat) (hB : B ≤ 9223372036854775807) :
    Calls Tryz.prog 153 #[.pointer (some ⟨hb, 0, none⟩), .int .i64 x, .int .i64 n, .int .i64 (B : Int)] wr fun e w' => ∃ d : Nat, d ≤ B ∧ (runP (PM R) x B n a).2.1 = B - d ∧ e = .returned (.tuple #[.int .i64 (d : Int), .bool (!(runP (PM R) x B n a).1)]) ∧ Pr R w w' F hb qb (runP (PM R) x B n a).2.2 := by
  obtain ⟨r, hr⟩ : ∃ r, runP (PM R) x B n a = r := ⟨_, rfl⟩
  rw [hr]
  have HP : Hid (Pr R w wr F hb qb a ∧ runP (PM R) x B n a = r) := ⟨p, hr⟩
  clear p hr
  go_enter Tryz.func153, Tryz.ntmps153
  go_wp2_with fail
  go_loopw [10] (fun c wq => ∃ (d : Nat) (a' : Hp × Ls), c = .int .i64 (d : Int) ∧ d ≤ B ∧ Pr R w wq F hb qb a' ∧ runP (PM R) x (B - d) (n - d) a' = r) (fun c _ => (n - intOf c).toNat)
  case atStart => exact ⟨0, a, rfl, Nat.zero_le _, HP.out.1, by simpa using HP.out.2⟩
  case round =>
    obtain ⟨d, a', rfl, hd, hp, hr⟩ := hrel
    have HQ : Hid (Pr R w wr F hb qb a' ∧ runP (PM R) x (B - d) (n - d) a' = r) := ⟨hp, hr⟩
    obtain ⟨F', qv, ev, en, m, -, -⟩ := hp.mid
    have HH : Hid (Rh wr F' R.bk hb qb qv ev en a'.1) := m
    clear hp hr m HP
    by_cases hy0 : (d : Int) < n
    · go_wp2_with fail
      refine (rpend_any HH.out x).mono ?_
      rintro e w1 ⟨rfl, rfl⟩
      by_cases hp0 : pendP a'.1 x = 0
      · have HE : Hid (runP (PM R) x (B - d) (n - d) a' = (true, B - d, a')) := runP_end (.inr hp0)
        rw [hp0]
        clear hp0
        go_wp2
        go_ret2
        rw [← HQ.out.2, HE.out]
        exact ⟨d, hd, rfl, rfl, HQ.out.1⟩
      · obtain ⟨x0, hxl, z, lz, hz⟩ := pend_head hp0
        obtain ⟨pp, hpp⟩ : ∃ pp, pendP a'.1 x = pp := ⟨_, rfl⟩
        have hnn : ¬ (n - (d : Int) ≤ 0 ∨ pendP a'.1 x = 0) := fun e => e.elim (fun e => by omega) hp0
        rw [hpp]
        have hp1 : (0 : Int) < (pp : Int) := by omega
        by_cases hdB : d = B
        · subst hdB
          have HE : Hid (runP (PM R) x (d - d) (n - d) a' = (false, 0, a')) := by show _ = _; rw [Nat.sub_self]; simp only [runP, if_neg hnn]; rfl
          clear hnn hp0 hpp hz
          go_wp2
          go_ret2
          rw [← HQ.out.2, HE.out]
          exact ⟨d, Nat.le_refl _, (Nat.sub_self _).symm, rfl, HQ.out.1⟩
        · have HE : Hid (runP (PM R) x (B - d) (n - d) a' = runP (PM R) x (B - (d + 1)) (n - ((d + 1 : Nat) : Int)) (stepP (PM R) a' x.toNat).1) := by
            show _ = _
            have e1 : B - d = (B - (d + 1)) + 1 := by omega
            have e2 : n - ((d + 1 : Nat) : Int) = n - (d : Int) - 1 := by omega
            rw [e1, e2]
            simp only [runP, if_neg hnn]
          have hdB' : ¬ (d : Int) = (B : Int) := by omega
          have hdl : d + 1 ≤ B := by omega
          have HZ : Hid (a'.1.q[x.toNat]? = some (z :: lz)) := hz
          clear hnn hp0 hpp hz hdB
          go_wp2_with fail
          obtain ⟨xi, hxi⟩ : ∃ xi : Nat, x = (xi : Int) := ⟨x.toNat, by omega⟩
          subst hxi
          have HZ2 : Hid (a'.1.q[xi]? = some (z :: lz)) := HZ.out
          refine (rpstep_any hR HQ.out.1 xi z lz HZ2.out).mono ?_
          rintro e w3 ⟨rfl, p3⟩
          have H3 : Hid (Pr R w w3 F hb qb (stepP (PM R) a' xi).1 ∧ runP (PM R) (xi : Int) (B - (d + 1)) (n - ((d + 1 : Nat) : Int)) (stepP (PM R) a' xi).1 = r) := ⟨p3, HE.out.symm.trans HQ.out.2⟩
          clear p3 HH HQ HE HZ HZ2
          go_wp2
          go_roundw
          case rel => exact ⟨d + 1, _, by go_num, hdl, H3.out.1, H3.out.2⟩
          case measure => simp only [intOf]; omega
    · have HE : Hid (runP (PM R) x (B - d) (n - d) a' = (true, B - d, a')) := runP_end (.inl (by omega))
      go_wp2
      go_ret2
      rw [← HQ.out.2, HE.out]
      exact ⟨d, hd, rfl, rfl, HQ.out.1⟩
end Go.Proofs.YtdpebhdjcgiboaaGreat

namespace Go.Proofs.YtdpebhdjcgiboaaGreat
open Go.ChangeShapes Go.WideShapes Go.ChangeAt Go.RowKit Go.MuLone Go.RwLone
set_option linter.unusedVariables false
set_option maxRecDepth 100000
set_option maxHeartbeats 3200000
theorem pendP_at {h : Hp} {i : Nat} {l : List Pq} (e : h.q[i]? = some l) : pendP h (i : Int) = l.length := by
  unfold pendP
  rw [if_neg (by omega), show ((i : Int)).toNat = i from by omega, e]
  rfl
theorem stepP_gone {M : Mc} {a : Hp × M.σ} {i : Nat} {z : Pq} {lz : List Pq} (h : a.1.q[i]? = some (z :: lz)) (hd : (stepP M a i).2 = true) : (stepP M a i).1.1.q[i]? = some lz := by
  have hlt := (List.getElem?_eq_some_iff.1 h).1
  have es : stepP M a i = (((stepQ M a.1 a.2 i z lz).1, (stepQ M a.1 a.2 i z lz).2.1), (stepQ M a.1 a.2 i z lz).2.2) := by unfold stepP; rw [h]
  rw [es] at hd ⊢
  unfold stepQ at hd ⊢
  by_cases e : M.dn (M.st a.2 z.1) z.1 = true
  · rw [if_pos e]
    exact List.getElem?_set_self hlt
  · rw [if_neg e] at hd; cases hd
theorem rfin_any {R : Rd} (hR : RdOk R) {w wr : World} {F : Nat → Prop} {hb qb : Nat} {a : Hp × Ls} (p : Pr R w wr F hb qb a) (x : Int) (B : Nat) (hB : B ≤ 9223372036854775807) :
    Calls Tryz.prog 154 #[.pointer (some ⟨hb, 0, none⟩), .int .i64 x, .int .i64 (B : Int)] wr fun e w' => ∃ d : Nat, d ≤ B ∧ (finA (PM R) x B a).2.1 = B - d ∧ e = .returned (.tuple #[.int .i64 (d : Int), .bool (!(finA (PM R) x B a).1)]) ∧ Pr R w w' F hb qb (finA (PM R) x B a).2.2 := by
  have HP : Hid (Pr R w wr F hb qb a) := p
  obtain ⟨F', qv, ev, en, m, -, -⟩ := p.mid
  have HH : Hid (Rh wr F' R.bk hb qb qv ev en a.1) := m
  clear p m
  by_cases hp0 : pendP a.1 x = 0
  · have HE : Hid (finA (PM R) x B a = (true, B, a)) := by show _ = _; unfold finA; rw [if_pos hp0]; rfl
    go_enter Tryz.func154, Tryz.ntmps154
    go_wp2_with fail
    refine (rpend_any HH.out x).mono ?_
    rintro e w1 ⟨rfl, rfl⟩
    rw [hp0]
    clear hp0
    go_wp2_with fail
    go_loopw [8] (fun c wq => c = .int .i64 0 ∧ wq = w1) (fun _ _ => 0)
    case atStart => exact ⟨rfl, rfl⟩
    case round =>
      obtain ⟨rfl, rfl⟩ := hrel
      go_wp2
      go_ret2
      rw [HE.out]
      exact ⟨0, Nat.zero_le _, rfl, rfl, HP.out⟩
  · have he : finA (PM R) x B a = finP (PM R) x.toNat B a := by unfold finA; rw [if_neg hp0]
    rw [he]
    obtain ⟨x0, hxl, z, lz, hz⟩ := pend_head hp0
    obtain ⟨i, rfl⟩ : ∃ i : Nat, x = (i : Int) := ⟨x.toNat, by omega⟩
    have ei : ((i : Int)).toNat = i := by omega
    rw [ei] at hz hxl ⊢
    obtain ⟨r, hr⟩ : ∃ r, finP (PM R) i B a = r := ⟨_, rfl⟩
    rw [hr]
    obtain ⟨pp, hpp⟩ : ∃ pp, pendP a.1 (i : Int) = pp := ⟨_, rfl⟩
    have hp1 : (0 : Int) < (pp : Int) := by omega
    have HZ : Hid (a.1.q[i]? = some (z :: lz) ∧ pendP a.1 (i : Int) = pp ∧ finP (PM R) i B a = r) := ⟨hz, hpp, hr⟩
    have HPP : Hid (pendP a.1 (i : Int) = pp) := hpp
    clear hz hr he ei hp0 hpp
    go_enter Tryz.func154, Tryz.ntmps154
    go_wp2_with fail
    refine (rpend_any HH.out i).mono ?_
    rintro e w1 ⟨rfl, rfl⟩
    rw [HPP.out]
    clear HPP HH
    go_wp2_with fail
    go_loopw [8] (fun c wq => ∃ (d : Nat) (a' : Hp × Ls), c = .int .i64 (d : Int) ∧ d ≤ B ∧ Pr R w wq F hb qb a' ∧ ((∃ z lz, a'.1.q[i]? = some (z :: lz) ∧ pendP a'.1 (i : Int) = pp ∧ finP (PM R) i (B - d) a' = r) ∨ (¬ pendP a'.1 (i : Int) = pp ∧ r = (true, B - d, a')))) (fun c _ => ((B : Int) - intOf c).toNat)
    case atStart => exact ⟨0, a, rfl, Nat.zero_le _, HP.out, .inl ⟨z, lz, HZ.out.1, HZ.out.2.1, HZ.out.2.2⟩⟩
    case round =>
      obtain ⟨d, a', rfl, hd, hp, hor⟩ := hrel
      have HQ : Hid (Pr R w wr F hb qb a') := hp
      obtain ⟨F', qv, ev, en, m, -, -⟩ := hp.mid
      have HH : Hid (Rh wr F' R.bk hb qb qv ev en a'.1) := m
      clear hp m HZ HP
      rcases hor with ⟨z', lz', hz', hpp, hr'⟩ | ⟨hne, hr'⟩
      · have HR : Hid (a'.1.q[i]? = some (z' :: lz') ∧ finP (PM R) i (B - d) a' = r ∧ pp = lz'.length + 1) := ⟨hz', hr', by rw [← hpp, pendP_at hz']; rfl⟩
        have HPP : Hid (pendP a'.1 (i : Int) = pp) := hpp
        clear hz' hpp hr'
        go_wp2_with fail
        refine (rpend_any HH.out i).mono ?_
        rintro e w1 ⟨rfl, rfl⟩
        rw [HPP.out]
        by_cases hdB : d = B
        · subst hdB
          have HE : Hid (finP (PM R) i (d - d) a' = (false, 0, a')) := by show _ = _; rw [Nat.sub_self]; rfl
          go_wp2
          go_ret2
          rw [← HR.out.2.1, HE.out]
          exact ⟨d, Nat.le_refl _, (Nat.sub_self _).symm, rfl, HQ.out⟩
        · have hdB' : ¬ (d : Int) = (B : Int) := by omega
          have hdl : d + 1 ≤ B := by omega
          have he1 : B - d = (B - (d + 1)) + 1 := by omega
          have HE1 : Hid (B - d = (B - (d + 1)) + 1) := he1
          clear hdB he1
          go_wp2_with fail
          refine (rpstep_any hR HQ.out i z' lz' HR.out.1).mono ?_
          rintro e w3 ⟨rfl, p3⟩
          by_cases hs : (stepP (PM R) a' i).2 = true
          · have HE : Hid (finP (PM R) i (B - d) a' = (true, B - (d + 1), (stepP (PM R) a' i).1)) := by show _ = _; rw [HE1.out]; simp only [finP, if_pos hs]
            have H3 : Hid (Pr R w w3 F hb qb (stepP (PM R) a' i).1 ∧ (¬ pendP (stepP (PM R) a' i).1.1 (i : Int) = pp)) := ⟨p3, by rw [pendP_at (stepP_gone HR.out.1 hs), HR.out.2.2]; omega⟩
            clear p3 hs
            go_wp2
            go_roundw
            case rel => exact ⟨d + 1, _, by go_num, hdl, H3.out.1, .inr ⟨H3.out.2, by rw [← HR.out.2.1, HE.out]; rfl⟩⟩
            case measure => simp only [intOf]; omega
          · have hs' : (stepP (PM R) a' i).2 = false := by simpa using hs
            have HE : Hid (finP (PM R) i (B - d) a' = finP (PM R) i (B - (d + 1)) (stepP (PM R) a' i).1) := by show _ = _; rw [HE1.out]; simp only [finP, if_neg hs]
            have H3 : Hid (Pr R w w3 F hb qb (stepP (PM R) a' i).1 ∧ (stepP (PM R) a' i).1.1.q[i]? = some ((z'.1, z'.2.1, true) :: lz')) := ⟨p3, stepP_head HR.out.1 hs'⟩
            clear p3 hs hs'
            go_wp2
            go_roundw
            case rel => exact ⟨d + 1, _, by go_num, hdl, H3.out.1, .inl ⟨_, _, H3.out.2, by rw [pendP_at H3.out.2, HR.out.2.2]; rfl, by rw [← HE.out]; exact HR.out.2.1⟩⟩
            case measure => simp only [intOf]; omega
      · have HR : Hid (r = (true, B - d, a')) := hr'
        obtain ⟨p2, hp2⟩ : ∃ p2, pendP a'.1 (i : Int) = p2 := ⟨_, rfl⟩
        have HP2 : Hid (pendP a'.1 (i : Int) = p2) := hp2
        rw [hp2] at hne
        have hne' : ¬ (p2 : Int) = (pp : Int) := by omega
        clear hr' hp2
        go_wp2_with fail
        refine (rpend_any HH.out i).mono ?_
        rintro e w1 ⟨rfl, rfl⟩
        rw [HP2.out]
        go_wp2
        go_ret2
        rw [HR.out]
        exact ⟨d, hd, rfl, rfl, HQ.out⟩
end Go.Proofs.YtdpebhdjcgiboaaGreat

namespace Go.Proofs.YtdpebhdjcgiboaaGreat
open Go.ChangeShapes Go.WideShapes Go.ChangeAt Go.RowKit Go.MuLone Go.RwLone
set_option linter.unusedVariables false
set_option maxRecDepth 100000
set_option maxHeartbeats 3200000
theorem roundN_skip {M : Mc} {kk t left : Nat} {a : Hp × M.σ} (h : pendP a.1 (t : Int) = 0) : roundN M (kk + 1) t left a = roundN M kk (t + 1) left a := by
  conv => lhs; unfold roundN
  rw [runP_end (.inr h), if_pos rfl]
theorem roundN_stop {M : Mc} {kk t : Nat} {a : Hp × M.σ} (h : ¬ pendP a.1 (t : Int) = 0) : roundN M (kk + 1) t 0 a = (false, 0, a) := by
  conv => lhs; unfold roundN
  rw [runP_one, if_neg h]
  rfl
theorem roundN_step {M : Mc} {kk t l : Nat} {a : Hp × M.σ} (h : ¬ pendP a.1 (t : Int) = 0) : roundN M (kk + 1) t (l + 1) a = roundN M kk (t + 1) l (stepP M a t).1 := by
  conv => lhs; unfold roundN
  rw [runP_one, if_neg h]
  rfl
theorem rounds_stop {M : Mc} {n : Int} {left N : Nat} {a a2 : Hp × M.σ} (h : ¬ (n ≤ 0 ∨ idleP a.1 = true)) (hN : a.1.q.length = N) (hr : roundN M N 0 left a = (false, 0, a2)) : roundsA M n left a = (false, 0, a2) := by
  rw [roundsA_no h (by rw [hN, hr]; simp), hN, hr]
theorem rounds_next {M : Mc} {n : Int} {left N l2 : Nat} {a a2 : Hp × M.σ} (h : ¬ (n ≤ 0 ∨ idleP a.1 = true)) (hN : a.1.q.length = N) (hr : roundN M N 0 left a = (true, l2, a2)) : roundsA M n left a = roundsA M (n - 1) l2 a2 := by
  rw [roundsA_on h (by rw [hN, hr]), hN, hr]
theorem rounds_less {M : Mc} {left N l2 : Nat} {a a2 : Hp × M.σ} (hs : ∃ j, 0 ≤ j ∧ j < 0 + a.1.q.length ∧ ¬ pendP a.1 (j : Int) = 0) (hN : a.1.q.length = N) (hr : roundN M N 0 left a = (true, l2, a2)) : l2 < left := by
  have q := roundN_some (M := M) N 0 left a (by rw [← hN]; exact hs) (by rw [hr])
  rw [hr] at q
  exact q
theorem rrounds_any {R : Rd} (hR : RdOk R) {w wr : World} {F : Nat → Prop} {hb qb : Nat} {a : Hp × Ls} (p : Pr R w wr F hb qb a) (n Y : Int) (B : Nat) (hB : B ≤ 9223372036854775807) (hY : (n < 0 ∧ (B : Int) < Y) ∨ (0 ≤ n ∧ Y = n)) :
    Calls Tryz.prog 155 #[.pointer (some ⟨hb, 0, none⟩), .int .i64 n, .int .i64 (B : Int)] wr fun e w' => ∃ d : Nat, d ≤ B ∧ (roundsA (PM R) Y B a).2.1 = B - d ∧ e = .returned (.tuple #[.int .i64 (d : Int), .bool (!(roundsA (PM R) Y B a).1)]) ∧ Pr R w w' F hb qb (roundsA (PM R) Y B a).2.2 := by
  obtain ⟨r, hr⟩ : ∃ r, roundsA (PM R) Y B a = r := ⟨_, rfl⟩
  rw [hr]
  have HP : Hid (Pr R w wr F hb qb a ∧ roundsA (PM R) Y B a = r) := ⟨p, hr⟩
  have HY : Hid ((n < 0 ∧ (B : Int) < Y) ∨ (0 ≤ n ∧ Y = n)) := hY
  clear p hr hY
  go_enter Tryz.func155, Tryz.ntmps155
  go_wp2_with fail
  go_loopw [8, 9] (fun c8 c9 wq => ∃ (d k : Nat) (y : Int) (a' : Hp × Ls), c8 = .int .i64 (d : Int) ∧ c9 = .int .i64 (k : Int) ∧ d ≤ B ∧ k ≤ d ∧ Pr R w wq F hb qb a' ∧ roundsA (PM R) y (B - d) a' = r ∧ ((n < 0 ∧ ((B - d : Nat) : Int) < y) ∨ (0 ≤ n ∧ y = n - k))) (fun c8 _ _ => ((B : Int) - intOf c8).toNat)
  case atStart =>
    refine ⟨0, 0, Y, a, rfl, rfl, Nat.zero_le _, Nat.le_refl _, HP.out.1, HP.out.2, ?_⟩
    rcases HY.out with ⟨h1, h2⟩ | ⟨h1, h2⟩
    · exact .inl ⟨h1, by omega⟩
    · exact .inr ⟨h1, by omega⟩
  case round =>
    obtain ⟨d, k, y, a', rfl, rfl, hd, hk, hp, hr, hy⟩ := hrel
    have HQ : Hid (Pr R w wr F hb qb a' ∧ roundsA (PM R) y (B - d) a' = r) := ⟨hp, hr⟩
    have HYY : Hid ((n < 0 ∧ ((B - d : Nat) : Int) < y) ∨ (0 ≤ n ∧ y = n - k)) := hy
    obtain ⟨F', qv, ev, en, m, -, -⟩ := hp.mid
    have HH : Hid (Rh wr F' R.bk hb qb qv ev en a'.1) := m
    have n16 := m.n16
    clear hp hr m HP hy
    by_cases hgo : n < 0 ∨ (k : Int) < n
    · have hy0 : 0 < y := by
        rcases HYY.out with ⟨h1, h2⟩ | ⟨h1, h2⟩
        · omega
        · rcases hgo with h | h <;> omega
      have hgo' : n < 0 ∨ (¬ n < 0 ∧ (k : Int) < n) := by omega
      clear hgo
      rcases hgo' with g1 | ⟨g1, g2⟩
      all_goals
        go_wp2_with fail
        refine (ridle_any HH.out).mono ?_
        rintro e w1 ⟨rfl, rfl⟩
        by_cases hid : idleP a'.1 = true
        · have HE : Hid (roundsA (PM R) y (B - d) a' = (true, B - d, a')) := roundsA_end (.inr hid)
          rw [hid]
          clear hid
          go_wp2
          go_ret2
          rw [← HQ.out.2, HE.out]
          exact ⟨d, hd, rfl, rfl, HQ.out.1⟩
        · have hid' : idleP a'.1 = false := by simpa using hid
          have HN : Hid (¬ (y ≤ 0 ∨ idleP a'.1 = true)) := fun e => e.elim (fun e => by omega) hid
          have HSM : Hid (∃ j, 0 ≤ j ∧ j < 0 + a'.1.q.length ∧ ¬ pendP a'.1 (j : Int) = 0) := idle_some hid
          rw [hid']
          clear hid hid' HH
          obtain ⟨N, hN⟩ : ∃ N, a'.1.q.length = N := ⟨_, rfl⟩
          have HNN : Hid (a'.1.q.length = N) := hN
          rw [hN] at n16
          clear hN
          go_wp2_with fail
          go_loopw [8, 10] (fun c8 c10 wq => ∃ (t d2 : Nat) (a2 : Hp × Ls), c8 = .int .i64 (d2 : Int) ∧ c10 = .int .i64 (t : Int) ∧ t ≤ N ∧ d2 ≤ B ∧ a2.1.q.length = N ∧ Pr R w wq F hb qb a2 ∧ roundN (PM R) (N - t) t (B - d2) a2 = roundN (PM R) N 0 (B - d) a') (fun _ c10 _ => N - (intOf c10).toNat)
          case atStart => exact ⟨0, d, a', rfl, rfl, by omega, hd, HNN.out, HQ.out.1, rfl⟩
          case round =>
            obtain ⟨t, d2, a2, rfl, rfl, ht, hd2, hlen, hp2, hr2⟩ := hrel
            have H2 : Hid (Pr R w wr F hb qb a2 ∧ roundN (PM R) (N - t) t (B - d2) a2 = roundN (PM R) N 0 (B - d) a' ∧ a2.1.q.length = N) := ⟨hp2, hr2, hlen⟩
            obtain ⟨F2, qv2, ev2, en2, m2, -, -⟩ := hp2.mid
            have HH2 : Hid (Rh wr F2 R.bk hb qb qv2 ev2 en2 a2.1) := m2
            have cq : wr.cell? ⟨hb, 1, none⟩ = some (.slice (some ⟨qb, 0, none⟩) N N) := by rw [← hlen]; exact (cell?_heap m2.hc 1).trans rfl
            clear hp2 hr2 m2 hlen
            by_cases h4 : t < N
            · have t1 : (t : Int) < (N : Int) := by omega
              obtain ⟨kk, hkk⟩ : ∃ kk, N - t = kk + 1 := ⟨N - t - 1, by omega⟩
              have HK : Hid (N - t = kk + 1) := hkk
              clear hkk
              go_wp2_with fail
              refine (rpend_any HH2.out t).mono ?_
              rintro e w3 ⟨rfl, rfl⟩
              by_cases hp0 : pendP a2.1 (t : Int) = 0
              · have H3 : Hid (roundN (PM R) (N - (t + 1)) (t + 1) (B - d2) a2 = roundN (PM R) N 0 (B - d) a') := by
                  have q := H2.out.2.1
                  rw [HK.out] at q
                  have ek : N - (t + 1) = kk := by have := HK.out; omega
                  rw [show N - (t + 1) = kk from ek]
                  exact (roundN_skip (M := PM R) (a := a2) hp0).symm.trans q
                rw [hp0]
                clear hp0 cq
                go_wp2
                go_roundw
                case rel => exact ⟨t + 1, d2, a2, rfl, by go_num, by omega, hd2, H2.out.2.2, H2.out.1, H3.out⟩
                case measure => simp only [intOf]; omega
              · obtain ⟨x0, hxl, z, lz, hz⟩ := pend_head hp0
                have et : ((t : Int)).toNat = t := by omega
                rw [et] at hz
                obtain ⟨pp, hpp⟩ : ∃ pp, pendP a2.1 (t : Int) = pp := ⟨_, rfl⟩
                have hp1 : ¬ (pp : Int) = 0 := by omega
                have HZ : Hid (a2.1.q[t]? = some (z :: lz)) := hz
                have HPN : Hid (¬ pendP a2.1 (t : Int) = 0) := hp0
                rw [hpp]
                clear hp0 hz hpp et hxl
                by_cases hdB : d2 = B
                · subst hdB
                  have hrn : roundN (PM R) N 0 (d2 - d) a' = (false, 0, a2) := by
                    have q := H2.out.2.1
                    rw [HK.out, Nat.sub_self] at q
                    exact q.symm.trans (roundN_stop (M := PM R) (a := a2) HPN.out)
                  have H3 : Hid (r = (false, 0, a2)) := HQ.out.2.symm.trans (rounds_stop (M := PM R) (a := a') (a2 := a2) HN.out HNN.out hrn)
                  clear hrn cq
                  go_wp2
                  go_ret2
                  rw [H3.out]
                  exact ⟨d2, Nat.le_refl _, (Nat.sub_self _).symm, rfl, H2.out.1⟩
                · have hdB' : ¬ (d2 : Int) = (B : Int) := by omega
                  have hdl : d2 + 1 ≤ B := by omega
                  have he1 : B - d2 = (B - (d2 + 1)) + 1 := by omega
                  have H3 : Hid (roundN (PM R) (N - (t + 1)) (t + 1) (B - (d2 + 1)) (stepP (PM R) a2 t).1 = roundN (PM R) N 0 (B - d) a') := by
                    have q := H2.out.2.1
                    rw [HK.out, he1] at q
                    have ek : N - (t + 1) = kk := by have := HK.out; omega
                    rw [show N - (t + 1) = kk from ek]
                    exact (roundN_step (M := PM R) (a := a2) HPN.out).symm.trans q
                  clear hdB he1 cq
                  go_wp2_with fail
                  refine (rpstep_any hR H2.out.1 t z lz HZ.out).mono ?_
                  rintro e w4 ⟨rfl, p4⟩
                  have H4 : Hid (Pr R w w4 F hb qb (stepP (PM R) a2 t).1 ∧ (stepP (PM R) a2 t).1.1.q.length = N) := ⟨p4, stepP_len.trans H2.out.2.2⟩
                  clear p4
                  go_wp2
                  go_roundw
                  case rel => exact ⟨t + 1, d2 + 1, _, by go_num, by go_num, by omega, hdl, H4.out.2, H4.out.1, H3.out⟩
                  case measure => simp only [intOf]; omega
            · have hk0 : N - t = 0 := by omega
              have hrn : roundN (PM R) N 0 (B - d) a' = (true, B - d2, a2) := by
                have q := H2.out.2.1
                rw [hk0] at q
                exact q.symm
              have hless : B - d2 < B - d := rounds_less (M := PM R) (a := a') (a2 := a2) HSM.out HNN.out hrn
              have H3 : Hid (Pr R w wr F hb qb a2 ∧ roundsA (PM R) (y - 1) (B - d2) a2 = r) := ⟨H2.out.1, (rounds_next (M := PM R) (a := a') (a2 := a2) HN.out HNN.out hrn).symm.trans HQ.out.2⟩
              have HLS : Hid (B - d2 < B - d) := hless
              clear hrn H2 hless
              go_wp2
              go_roundw
              case rel =>
                have hl := HLS.out
                have hk1 : (k : Int) + 1 ≤ 9223372036854775807 := by omega
                refine ⟨d2, k + 1, y - 1, a2, rfl, by (have e : wrap64 ((k : Int) + 1) = ((k + 1 : Nat) : Int) := by unfold wrap64; omega); rw [e], hd2, by omega, H3.out.1, H3.out.2, ?_⟩
                rcases HYY.out with ⟨h1, h2⟩ | ⟨h1, h2⟩
                · exact .inl ⟨h1, by omega⟩
                · exact .inr ⟨h1, by omega⟩
              case measure => have hl := HLS.out; simp only [intOf]; omega
    · have HE : Hid (roundsA (PM R) y (B - d) a' = (true, B - d, a')) := roundsA_end (.inl (by
        rcases HYY.out with ⟨h1, h2⟩ | ⟨h1, h2⟩ <;> omega))
      have g1 : ¬ n < 0 := fun e => hgo (.inl e)
      have g2 : ¬ (k : Int) < n := fun e => hgo (.inr e)
      clear hgo
      go_wp2
      go_ret2
      rw [← HQ.out.2, HE.out]
      exact ⟨d, hd, rfl, rfl, HQ.out.1⟩
end Go.Proofs.YtdpebhdjcgiboaaGreat

namespace Go.Proofs.YtdpebhdjcgiboaaGreat
open Go.ChangeShapes Go.WideShapes Go.ChangeAt Go.RowKit Go.MuLone Go.RwLone
set_option linter.unusedVariables false
set_option maxRecDepth 100000
set_option maxHeartbeats 3200000
theorem rone_any {R : Rd} (hR : RdOk R) {w wr : World} {F : Nat → Prop} {hb qb : Nat} {a : Hp × Ls} (p : Pr R w wr F hb qb a) (k x nn : Int) (B : Nat) (hB : B ≤ 9223372036854775807) (hD : B = 9223372036854775807 → roundsA (PM R) 9223372036854775808 B a = roundsA (PM R) 9223372036854775807 B a) :
    Calls Tryz.prog 114 #[.pointer (some ⟨hb, 0, none⟩), .agg #[.int .i64 k, .int .i64 x, .int .i64 nn], .int .i64 (B : Int)] wr fun e w' => ∃ d : Nat, d ≤ B ∧ (pickP (PM R) (k, x, nn) B a).2.1 = B - d ∧ e = .returned (.tuple #[.int .i64 (d : Int), .bool (!(pickP (PM R) (k, x, nn) B a).1)]) ∧ Pr R w w' F hb qb (pickP (PM R) (k, x, nn) B a).2.2 := by
  obtain ⟨r, hr⟩ : ∃ r, pickP (PM R) (k, x, nn) B a = r := ⟨_, rfl⟩
  rw [hr]
  have HP : Hid (Pr R w (wr.alloc (.cells #[.int .i64 k, .int .i64 x, .int .i64 nn] 110)) F hb qb a) := p.still ((Keeps.refl _ _).alloc _)
  clear p
  by_cases k1 : k = 1
  · subst k1
    have HR : Hid (runP (PM R) x B 1 a = r) := hr
    clear hr
    go_enter Tryz.func114, Tryz.ntmps114
    go_wp2_with fail
    refine (rmany_any hR HP.out x 1 B hB).mono ?_
    rintro e w1 ⟨d, hd, hl, rfl, hw⟩
    rw [HR.out] at hl hw ⊢
    obtain ⟨b, hbb⟩ : ∃ b, (!r.1) = b := ⟨_, rfl⟩
    rw [hbb]
    have HW : Hid (d ≤ B ∧ r.2.1 = B - d ∧ (!r.1) = b ∧ Pr R w w1 F hb qb r.2.2) := ⟨hd, hl, hbb, hw⟩
    clear hd hl hbb hw HR HP
    go_wp2
    go_ret2
    exact ⟨d, HW.out.1, HW.out.2.1, by rw [HW.out.2.2.1]; rfl, HW.out.2.2.2⟩
  by_cases k2 : k = 2
  · subst k2
    have HR : Hid (runP (PM R) x B nn a = r) := hr
    clear hr
    go_enter Tryz.func114, Tryz.ntmps114
    go_wp2_with fail
    refine (rmany_any hR HP.out x nn B hB).mono ?_
    rintro e w1 ⟨d, hd, hl, rfl, hw⟩
    rw [HR.out] at hl hw ⊢
    obtain ⟨b, hbb⟩ : ∃ b, (!r.1) = b := ⟨_, rfl⟩
    rw [hbb]
    have HW : Hid (d ≤ B ∧ r.2.1 = B - d ∧ (!r.1) = b ∧ Pr R w w1 F hb qb r.2.2) := ⟨hd, hl, hbb, hw⟩
    clear hd hl hbb hw HR HP
    go_wp2
    go_ret2
    exact ⟨d, HW.out.1, HW.out.2.1, by rw [HW.out.2.2.1]; rfl, HW.out.2.2.2⟩
  by_cases k5 : k = 5
  · subst k5
    have HR : Hid (finA (PM R) x B a = r) := hr
    clear hr
    go_enter Tryz.func114, Tryz.ntmps114
    go_wp2_with fail
    refine (rfin_any hR HP.out x B hB).mono ?_
    rintro e w1 ⟨d, hd, hl, rfl, hw⟩
    rw [HR.out] at hl hw ⊢
    obtain ⟨b, hbb⟩ : ∃ b, (!r.1) = b := ⟨_, rfl⟩
    rw [hbb]
    have HW : Hid (d ≤ B ∧ r.2.1 = B - d ∧ (!r.1) = b ∧ Pr R w w1 F hb qb r.2.2) := ⟨hd, hl, hbb, hw⟩
    clear hd hl hbb hw HR HP
    go_wp2
    go_ret2
    exact ⟨d, HW.out.1, HW.out.2.1, by rw [HW.out.2.2.1]; rfl, HW.out.2.2.2⟩
  by_cases k4 : k = 4
  · subst k4
    by_cases h0 : 0 < nn
    · have e0 : 0 ≤ nn := by omega
      have HR : Hid (roundsA (PM R) nn B a = r) := hr
      clear hr
      go_enter Tryz.func114, Tryz.ntmps114
      go_wp2_with fail
      refine (rrounds_any hR HP.out nn nn B hB (.inr ⟨e0, rfl⟩)).mono ?_
      rintro e w1 ⟨d, hd, hl, rfl, hw⟩
      rw [HR.out] at hl hw ⊢
      obtain ⟨b, hbb⟩ : ∃ b, (!r.1) = b := ⟨_, rfl⟩
      rw [hbb]
      have HW : Hid (d ≤ B ∧ r.2.1 = B - d ∧ (!r.1) = b ∧ Pr R w w1 F hb qb r.2.2) := ⟨hd, hl, hbb, hw⟩
      clear hd hl hbb hw HR HP
      go_wp2
      go_ret2
      exact ⟨d, HW.out.1, HW.out.2.1, by rw [HW.out.2.2.1]; rfl, HW.out.2.2.2⟩
    · have e0 : nn ≤ 0 := by omega
      have hr2 : roundsA (PM R) 0 B a = r := (roundsA_end (M := PM R) (a := a) (.inl (Int.le_refl 0))).trans ((roundsA_end (M := PM R) (a := a) (.inl e0)).symm.trans hr)
      have HR : Hid (roundsA (PM R) 0 B a = r) := hr2
      clear hr
      go_enter Tryz.func114, Tryz.ntmps114
      go_wp2_with fail
      refine (rrounds_any hR HP.out 0 0 B hB (.inr ⟨Int.le_refl 0, rfl⟩)).mono ?_
      rintro e w1 ⟨d, hd, hl, rfl, hw⟩
      rw [HR.out] at hl hw ⊢
      obtain ⟨b, hbb⟩ : ∃ b, (!r.1) = b := ⟨_, rfl⟩
      rw [hbb]
      have HW : Hid (d ≤ B ∧ r.2.1 = B - d ∧ (!r.1) = b ∧ Pr R w w1 F hb qb r.2.2) := ⟨hd, hl, hbb, hw⟩
      clear hd hl hbb hw HR HP
      go_wp2
      go_ret2
      exact ⟨d, HW.out.1, HW.out.2.1, by rw [HW.out.2.2.1]; rfl, HW.out.2.2.2⟩
  by_cases k6 : k = 6
  · subst k6
    obtain ⟨Y, hYB, hYr⟩ : ∃ Y : Int, (B : Int) < Y ∧ roundsA (PM R) Y B a = roundsA (PM R) 9223372036854775807 B a := by
      by_cases hm : B = 9223372036854775807
      · exact ⟨9223372036854775808, by omega, hD hm⟩
      · exact ⟨9223372036854775807, by omega, rfl⟩
    have HR : Hid (roundsA (PM R) Y B a = r) := hYr.trans hr
    clear hr hYr hD
    go_enter Tryz.func114, Tryz.ntmps114
    go_wp2_with fail
    refine (rrounds_any hR HP.out (-1) Y B hB (.inl ⟨by omega, hYB⟩)).mono ?_
    rintro e w1 ⟨d, hd, hl, rfl, hw⟩
    rw [HR.out] at hl hw ⊢
    obtain ⟨b, hbb⟩ : ∃ b, (!r.1) = b := ⟨_, rfl⟩
    rw [hbb]
    have HW : Hid (d ≤ B ∧ r.2.1 = B - d ∧ (!r.1) = b ∧ Pr R w w1 F hb qb r.2.2) := ⟨hd, hl, hbb, hw⟩
    clear hd hl hbb hw HR HP
    go_wp2
    go_ret2
    exact ⟨d, HW.out.1, HW.out.2.1, by rw [HW.out.2.2.1]; rfl, HW.out.2.2.2⟩
  have hr' : pickP (PM R) (k, x, nn) B a = (true, B, a) := by
    unfold pickP
    dsimp only
    rw [if_neg k1, if_neg k2, if_neg k5, if_neg k4, if_neg k6]
    rfl
  rw [hr'] at hr
  subst hr
  clear hr'
  go_enter Tryz.func114, Tryz.ntmps114
  go_wp2
  go_ret2
  exact ⟨0, Nat.zero_le _, rfl, rfl, HP.out⟩
end Go.Proofs.YtdpebhdjcgiboaaGreat

namespace Go.Proofs.YtdpebhdjcgiboaaGreat
open Go.ChangeShapes Go.WideShapes Go.ChangeAt Go.RowKit Go.MuLone Go.RwLone
set_option linter.unusedVariables false
set_option maxRecDepth 100000
set_option maxHeartbeats 3200000
theorem playP_ok {M : Mc} {vs : List (Int × Int × Int)} {t l : Nat} {a : Hp × M.σ} {k x nn : Int} (h4 : t < vs.length) (hp : vs[t] = (k, x, nn)) (hok : (pickP M (k, x, nn) l a).1 = true) : playP M (vs.drop t) l a = playP M (vs.drop (t + 1)) (pickP M (k, x, nn) l a).2.1 (pickP M (k, x, nn) l a).2.2 := by
  rw [List.drop_eq_getElem_cons h4, hp]
  conv => lhs; unfold playP
  rw [if_pos hok]
theorem playP_no {M : Mc} {vs : List (Int × Int × Int)} {t l : Nat} {a : Hp × M.σ} {k x nn : Int} (h4 : t < vs.length) (hp : vs[t] = (k, x, nn)) (hok : (pickP M (k, x, nn) l a).1 = false) : playP M (vs.drop t) l a = pickP M (k, x, nn) l a := by
  rw [List.drop_eq_getElem_cons h4, hp]
  conv => lhs; unfold playP
  rw [if_neg (by rw [hok]; decide)]
theorem playP_end {M : Mc} {vs : List (Int × Int × Int)} {t l : Nat} {a : Hp × M.σ} (h4 : ¬ t < vs.length) : playP M (vs.drop t) l a = (true, l, a) := by
  rw [List.drop_of_length_le (by omega)]
  rfl
/-- The code of a play that bore, or did not. -/
def erC (b : Bool) : Int := if b then 0 else 34
theorem rplay_gen {R : Rd} (hR : RdOk R) {w : World} {F : Nat → Prop} {hb qb : Nat} {a : Hp × Ls} (p : Pr R w w F hb qb a) (B : Nat) (hB : B ≤ 9223372036854775807) (J : Hp × Ls → Prop) (j0 : J a) (j1 : ∀ (a : Hp × Ls) (p : Int × Int × Int) (l : Nat), J a → J (pickP (PM R) p l a).2.2) (j2 : ∀ a : Hp × Ls, J a → B = 9223372036854775807 → roundsA (PM R) 9223372036854775808 B a = roundsA (PM R) 9223372036854775807 B a) (v : Value) (vs : List (Int × Int × Int)) (hv : PkR w (fun x => F x ∨ fRw R x) v vs) :
    Calls Tryz.prog 66 #[.pointer (some ⟨hb, 0, none⟩), .int .i64 (B : Int), v] w fun e w' => ∃ d : Nat, d ≤ B ∧ (playP (PM R) vs B a).2.1 = B - d ∧ e = .returned (.tuple #[.int .i64 (d : Int), .int .i64 (erC (playP (PM R) vs B a).1)]) ∧ Pr R w w' F hb qb (playP (PM R) vs B a).2.2 := by
  obtain ⟨r, hr⟩ : ∃ r, playP (PM R) vs B a = r := ⟨_, rfl⟩
  rw [hr]
  have HP : Hid (Pr R w w F hb qb a ∧ playP (PM R) vs B a = r ∧ J a) := ⟨p, hr, j0⟩
  have HJ : Hid ((∀ (a : Hp × Ls) (p : Int × Int × Int) (l : Nat), J a → J (pickP (PM R) p l a).2.2) ∧ ∀ a : Hp × Ls, J a → B = 9223372036854775807 → roundsA (PM R) 9223372036854775808 B a = roundsA (PM R) 9223372036854775807 B a) := ⟨j1, j2⟩
  have HV : Hid (PkR w (fun x => F x ∨ fRw R x) v vs) := hv
  obtain ⟨ao, cap, rfl, hlen, -, -⟩ := hv
  have hb0 : ¬ (B : Int) < 0 := by omega
  clear p hr j0 j1 j2
  go_enter Tryz.func66, Tryz.ntmps66
  go_wp2_with fail
  go_loopw [8, 9] (fun c8 c9 wq => ∃ (t d : Nat) (a' : Hp × Ls), c8 = .int .i64 (d : Int) ∧ c9 = .int .i64 (t : Int) ∧ t ≤ vs.length ∧ d ≤ B ∧ Pr R w wq F hb qb a' ∧ playP (PM R) (vs.drop t) (B - d) a' = r ∧ J a') (fun _ c9 _ => vs.length - (intOf c9).toNat)
  case atStart => exact ⟨0, 0, a, rfl, rfl, by omega, Nat.zero_le _, HP.out.1, HP.out.2.1, HP.out.2.2⟩
  case round =>
    obtain ⟨t, d, a', rfl, rfl, ht, hd, hp, hr, hj⟩ := hrel
    have HJA : Hid (J a') := hj
    clear hj
    have HQ : Hid (Pr R w wr F hb qb a' ∧ playP (PM R) (vs.drop t) (B - d) a' = r) := ⟨hp, hr⟩
    clear hr HP
    by_cases h4 : t < vs.length
    · obtain ⟨ao', cap', e1, -, -, h3⟩ := HV.out.keeps hp.k (fun x e => .inl e)
      injection e1 with e1 e2 e3
      subst e1 e3
      obtain ⟨b, off, rfl, -, -, q0, q1, q2⟩ := h3 t h4
      have t0 : (0 : Int) ≤ (t : Int) := Int.natCast_nonneg _
      have t1 : (t : Int) < (vs.length : Int) := by omega
      clear h3 e2 hp
      obtain ⟨⟨k, x, nn⟩, hp⟩ : ∃ p, vs[t] = p := ⟨_, rfl⟩
      rw [hp] at q0 q1 q2
      dsimp only at q0 q1 q2
      have HPK : Hid (vs[t] = (k, x, nn)) := hp
      have HB4 : Hid (t < vs.length) := h4
      clear hp
      have hw : IntKind.i64.wrap ((B : Int) - (d : Int)) = ((B - d : Nat) : Int) := by rw [IntKind.wrap_i64]; omega
      go_wp2_with fail
      refine (rone_any hR HQ.out.1 k x nn (B - d) (by omega) (fun e => by
        have hd0 : d = 0 := by omega
        subst hd0
        exact HJ.out.2 a' HJA.out (by omega))).mono ?_
      rintro e w5 ⟨d5, hd5, hl5, rfl, p5⟩
      have hw5 : IntKind.i64.wrap ((d : Int) + (d5 : Int)) = ((d + d5 : Nat) : Int) := by rw [IntKind.wrap_i64]; omega
      by_cases hok : (pickP (PM R) (k, x, nn) (B - d) a').1 = true
      · have H5 : Hid (Pr R w w5 F hb qb (pickP (PM R) (k, x, nn) (B - d) a').2.2 ∧ playP (PM R) (vs.drop (t + 1)) (B - (d + d5)) (pickP (PM R) (k, x, nn) (B - d) a').2.2 = r ∧ J (pickP (PM R) (k, x, nn) (B - d) a').2.2) := ⟨p5, by
          have q := (playP_ok (M := PM R) (a := a') HB4.out HPK.out hok).symm.trans HQ.out.2
          rw [hl5, show B - d - d5 = B - (d + d5) from by omega] at q
          exact q, HJ.out.1 a' _ _ HJA.out⟩
        rw [hok]
        have hdd : d + d5 ≤ B := by omega
        clear p5 HQ q0 q1 q2 hok hl5 hw
        go_wp2
        go_roundw
        case rel => exact ⟨t + 1, d + d5, _, by first | rfl | go_num, by go_num, by omega, hdd, H5.out.1, H5.out.2.1, H5.out.2.2⟩
        case measure => simp only [intOf]; omega
      · have hok' : (pickP (PM R) (k, x, nn) (B - d) a').1 = false := by simpa using hok
        have H5 : Hid (Pr R w w5 F hb qb (pickP (PM R) (k, x, nn) (B - d) a').2.2 ∧ r = pickP (PM R) (k, x, nn) (B - d) a' ∧ (pickP (PM R) (k, x, nn) (B - d) a').2.1 = B - (d + d5) ∧ (pickP (PM R) (k, x, nn) (B - d) a').1 = false) := ⟨p5, HQ.out.2.symm.trans (playP_no (M := PM R) (a := a') HB4.out HPK.out hok'), by omega, hok'⟩
        rw [hok']
        have hdd : d + d5 ≤ B := by omega
        clear p5 HQ q0 q1 q2 hok hok' hl5 hw
        go_wp2
        go_ret2
        rw [H5.out.2.1]
        exact ⟨d + d5, hdd, H5.out.2.2.1, by rw [H5.out.2.2.2]; rfl, H5.out.1⟩
    · have HR : Hid (r = (true, B - d, a')) := HQ.out.2.symm.trans (playP_end (M := PM R) (a := a') h4)
      clear hp
      go_wp2
      go_ret2
      rw [HR.out]
      exact ⟨d, hd, rfl, rfl, HQ.out.1⟩
theorem rplay_any {R : Rd} (hR : RdOk R) {w : World} {F : Nat → Prop} {hb qb : Nat} {a : Hp × Ls} (p : Pr R w w F hb qb a) (B : Nat) (hB : B ≤ 4611686018427387904) (v : Value) (vs : List (Int × Int × Int)) (hv : PkR w (fun x => F x ∨ fRw R x) v vs) :
    Calls Tryz.prog 66 #[.pointer (some ⟨hb, 0, none⟩), .int .i64 (B : Int), v] w fun e w' => ∃ d : Nat, d ≤ B ∧ (playP (PM R) vs B a).2.1 = B - d ∧ e = .returned (.tuple #[.int .i64 (d : Int), .int .i64 (erC (playP (PM R) vs B a).1)]) ∧ Pr R w w' F hb qb (playP (PM R) vs B a).2.2 :=
  rplay_gen hR p B (by omega) (fun _ => True) trivial (fun _ _ _ _ => trivial) (fun _ _ e => by omega) v vs hv
end Go.Proofs.YtdpebhdjcgiboaaGreat

namespace Go.Proofs.YtdpebhdjcgiboaaGreat
open Go.ChangeShapes Go.WideShapes Go.ChangeAt Go.RowKit Go.MuLone Go.RwLone
set_option linter.unusedVariables false
set_option maxRecDepth 100000
set_option maxHeartbeats 3200000
theorem infoQ1 : (Tryz.prog.info? 217).map (fun i => (i.zero, i.size, i.bytes)) = some (some (.slice none 0 0), 1, 24) := by kernel_rfl
/-- The document's New. -/
theorem rnew_any (w : World) (n bk : Nat) (h1 : 1 ≤ n) (h2 : n ≤ 16) :
    Calls Tryz.prog 34 #[.int .i64 (n : Int), .pointer (some ⟨bk, 0, none⟩)] w fun e w' => e = .returned (.tuple #[.pointer (some ⟨w.heap.size + 1, 0, none⟩), .int .i64 0]) ∧ w' = (w.alloc (.cells (madeCells #[.slice none 0 0] n) 217)).alloc (.cells (haR bk w.heap.size n 0 (.slice none 0 0) (.slice none 0 0)) 158) := by
  have i1 : ¬ (n : Int) < 1 := by omega
  have i2 : ¬ (n : Int) > 16 := by omega
  have hm := run_make_any (P := Tryz.prog) 156 217 _ 1 24 Tryz.underlying156 infoQ1 n (by omega) (by omega)
  go_enter Tryz.func34, Tryz.ntmps34
  go_wp2
  go_ret2
  exact ⟨by simp, rfl⟩
end Go.Proofs.YtdpebhdjcgiboaaGreat
