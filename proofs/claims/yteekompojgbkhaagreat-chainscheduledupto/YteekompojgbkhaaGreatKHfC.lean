import Derived.Test.YteekompojgbkhaaGreatKHfB
import Derived.Handy
import Derived.Deep.DeepCutAuto
namespace Go.Proofs.YteekompojgbkhaaGreat
set_option linter.unusedSimpArgs false
open Go.ChangeShapes Go.WideShapes Go.ChangeAt Go.RowKit Go.MuLone Go.RwLone
set_option linter.unusedVariables false
set_option maxRecDepth 100000
set_option maxHeartbeats 3200000
/-- Machines: what they are in, which blocks they have, their pointers, their step. -/
structure Mc where
  σ : Type
  ok : World → σ → Prop
  F : Nat → Prop
  pt : Nat → Nat
  N : Nat
  st : σ → Nat → σ
  dn : σ → Nat → Bool
  far : ∀ {w w' : World} {s : σ} {D : Nat → Prop}, ok w s → Keeps D w w' → (∀ x, D x → ¬ F x) → ok w' s
  lt : ∀ {w : World} {s : σ} {x : Nat}, ok w s → F x → x < w.heap.size
  call : ∀ (w : World) (s : σ) (m : Nat), m < N → ok w s → Calls Tryz.prog 73 #[.pointer (some ⟨pt m, 0, none⟩)] w fun e w' => e = .returned (.bool (dn (st s m) m)) ∧ ok w' (st s m) ∧ Keeps F w w'
theorem Mc.still (M : Mc) {w w' : World} {s : M.σ} (h : M.ok w s) (k : Keeps (fun _ => False) w w') : M.ok w' s := M.far h k (fun _ e => e.elim)
/-- The events behind the call of a place. -/
def callE (h : Hp) (i : Nat) (x : Pq) : List (Int × Int × Int × Int) := if x.2.2 then h.ev else h.ev ++ [(1, (i : Int), x.2.1, h.st)]
/-- A step of worker i, at whose queue's head x stands, l behind it. -/
def stepQ (M : Mc) (h : Hp) (s : M.σ) (i : Nat) (x : Pq) (l : List Pq) : Hp × M.σ × Bool :=
  if M.dn (M.st s x.1) x.1 then (⟨h.q.set i l, wrap64 (h.st + 1), callE h i x ++ [(2, (i : Int), x.2.1, wrap64 (h.st + 1))], h.en ++ [x.1]⟩, M.st s x.1, true)
  else (⟨h.q.set i ((x.1, x.2.1, true) :: l), wrap64 (h.st + 1), callE h i x, h.en⟩, M.st s x.1, false)
theorem Hm.inrow {w w1 : World} {F : Nat → Prop} {pt : Nat → Nat} {hb qb : Nat} {qv : Nat → Value} {ev en : Value} {h : Hp} {P i : Nat} {l : List Pq} (m : Hm w F pt hb qb qv ev en h) (hi : i < h.q.length) (hP : (qv i).ownBlock = some P) (k : Keeps (fun g => g = P) w w1) (ho : OwP pt w1 (qv i) l) :
    Hm w1 F pt hb qb qv ev en { h with q := h.q.set i l } := by
  have hq := m.lt _ m.fq
  have hh := m.lt _ m.fh
  have r := m.rows i hi P hP
  obtain ⟨c, hc⟩ := m.qt
  refine ⟨?_, ⟨_, (k.block qb hq (fun e => r.2.1 e.symm)).trans hc⟩, fun j hj => ?_, fun j hj => ?_, fun j j' g hj hj' hn h1 h2 => ?_, owK m.oe k (fun g hg e => r.2.2.1 (e ▸ hg)), owK m.ot k (fun g hg e => r.2.2.2 (e ▸ hg)), m.fh, m.fq, fun j g hj hg => ?_, m.fe, m.fn, fun x hx => Nat.lt_of_lt_of_le (m.lt x hx) k.size, by simpa using m.n16⟩
  · rw [List.length_set]
    exact (k.block hb hh (fun e => r.1 e.symm)).trans m.hc
  · rw [List.length_set] at hj
    exact (k.cell (p := ⟨qb, j, none⟩) hq (fun e => r.2.1 e.symm)).trans (m.qc j hj)
  · have hj2 : j < h.q.length := by simpa using hj
    by_cases e : j = i
    · subst e
      simp only [List.getElem_set_self]
      exact ho
    · simp only [List.getElem_set_ne (fun e' => e e'.symm)]
      exact owK (m.ql j hj2) k (fun g hg e' => m.qa j i g hj2 hi e hg (e' ▸ hP))
  · rw [List.length_set] at hj hj'
    exact m.qa j j' g hj hj' hn h1 h2
  · rw [List.length_set] at hj
    exact m.fr j g hj hg
theorem Hm.mark {w : World} {F : Nat → Prop} {pt : Nat → Nat} {hb qb : Nat} {qv : Nat → Value} {ev en : Value} {h : Hp} {P i cap : Nat} {x : Pq} {l : List Pq} (m : Hm w F pt hb qb qv ev en h) (hi : i < h.q.length) (hv : qv i = .slice (some ⟨P, 0, none⟩) (x :: l).length cap) (ho : OwP pt w (.slice (some ⟨P, 0, none⟩) (x :: l).length cap) (x :: l)) :
    Hm (w.setCell ⟨P, 2, none⟩ (.bool true)) F pt hb qb qv ev en { h with q := h.q.set i ((x.1, x.2.1, true) :: l) } := by
  have hP : (qv i).ownBlock = some P := by rw [hv]; rfl
  refine m.inrow hi hP (Keeps.setCell (B := fun g => g = P) (Keeps.refl _ _) rfl _) ?_
  rw [hv]
  have h2 := (World.ownsRow.stored ho 2 (.bool true)).1
  exact h2
/-- In the midst of a step: what has come of the harness and the machines since w. -/
structure Mid (M : Mc) (w wx : World) (F : Nat → Prop) (hb qb : Nat) (F' : Nat → Prop) (qv : Nat → Value) (ev en : Value) (h : Hp) (s : M.σ) : Prop where
  m : Hm wx F' M.pt hb qb qv ev en h
  o : M.ok wx s
  k : Keeps (fun x => F x ∨ M.F x) w wx
  f : ∀ y, F' y → F y ∨ w.heap.size ≤ y
  d : ∀ y, F' y → ¬ M.F y
theorem Mid.next {M : Mc} {w wx wy : World} {F : Nat → Prop} {hb qb : Nat} {F' F'' : Nat → Prop} {qv qv' : Nat → Value} {ev en ev' en' : Value} {h h' : Hp} {s : M.σ} (a : Mid M w wx F hb qb F' qv ev en h s) (m : Hm wy F'' M.pt hb qb qv' ev' en' h') (k : Keeps F' wx wy) (f : ∀ y, F'' y → F' y ∨ wx.heap.size ≤ y) : Mid M w wy F hb qb F'' qv' ev' en' h' s := by
  have hs := a.k.size
  refine ⟨m, M.far a.o k a.d, ⟨k.os.trans a.k.os, k.tape.trans a.k.tape, k.output.trans a.k.output, Nat.le_trans hs k.size, fun g hg hn => (k.block g (by omega) (fun e => (a.f g e).elim (fun e => hn (.inl e)) (fun e => by omega))).trans (a.k.block g hg hn)⟩, fun y hy => ?_, fun y hy hM => ?_⟩
  · rcases f y hy with e | e
    · exact a.f y e
    · right; omega
  · rcases f y hy with e | e
    · exact a.d y e hM
    · have := M.lt a.o hM
      omega
theorem Mid.go {M : Mc} {w wx wy : World} {F : Nat → Prop} {hb qb : Nat} {F' : Nat → Prop} {qv : Nat → Value} {ev en : Value} {h : Hp} {s s' : M.σ} (a : Mid M w wx F hb qb F' qv ev en h s) (o : M.ok wy s') (k : Keeps M.F wx wy) : Mid M w wy F hb qb F' qv ev en h s' :=
  ⟨a.m.keeps k (fun y hM hy => a.d y hy hM), o, a.k.trans (k.mono (fun _ e => .inr e)), a.f, a.d⟩
theorem Mid.start {M : Mc} {w : World} {F : Nat → Prop} {hb qb : Nat} {qv : Nat → Value} {ev en : Value} {h : Hp} {s : M.σ} (m : Hm w F M.pt hb qb qv ev en h) (o : M.ok w s) (d : ∀ y, F y → ¬ M.F y) : Mid M w w F hb qb F qv ev en h s := ⟨m, o, Keeps.refl _ _, fun _ e => .inl e, d⟩
theorem Mid.still {M : Mc} {w wx wy : World} {F : Nat → Prop} {hb qb : Nat} {F' : Nat → Prop} {qv : Nat → Value} {ev en : Value} {h : Hp} {s : M.σ} (a : Mid M w wx F hb qb F' qv ev en h s) (k : Keeps (fun _ => False) wx wy) : Mid M w wy F hb qb F' qv ev en h s := a.go (M.still a.o k) (k.mono (fun _ e => e.elim))
theorem hstep_any (M : Mc) (w : World) (F : Nat → Prop) (hb qb : Nat) (qv : Nat → Value) (ev en : Value) (h : Hp) (s : M.σ) (i : Nat) (x : Pq) (l : List Pq) (m : Hm w F M.pt hb qb qv ev en h) (hM : M.ok w s) (hd : ∀ y, F y → ¬ M.F y) (hi : i < h.q.length) (hq : h.q[i] = x :: l) (hx : x.1 < M.N) (hll : l.length ≤ 100) (hle : h.ev.length ≤ 68719476000) (hln : h.en.length ≤ 68719476000) :
    Calls Tryz.prog 139 #[.pointer (some ⟨hb, 0, none⟩), .int .i64 (i : Int)] w fun e w' => e = .returned (.bool (stepQ M h s i x l).2.2) ∧ ∃ F' qv' ev' en', Mid M w w' F hb qb F' qv' ev' en' (stepQ M h s i x l).1 (stepQ M h s i x l).2.1 := by
  obtain ⟨q, st, es, nn⟩ := h
  obtain ⟨mx, tg, cl⟩ := x
  dsimp only at hi hq hx hle hln
  obtain ⟨P, cap, eqv, oP, oR, cp0, cp1, cp2, fp2⟩ := m.head hi hq
  dsimp only at eqv cp0 cp1 cp2
  have HM : Hid (Mid M w w F hb qb F qv ev en ⟨q, st, es, nn⟩ s) := Mid.start m hM hd
  have H : Hid (Hm w F M.pt hb qb qv ev en ⟨q, st, es, nn⟩ ∧ qv i = .slice (some ⟨P, 0, none⟩) ((mx, tg, cl) :: l).length cap ∧ OwP M.pt w (.slice (some ⟨P, 0, none⟩) ((mx, tg, cl) :: l).length cap) ((mx, tg, cl) :: l)) := ⟨m, eqv, oR⟩
  have HV : Hid (qv i = .slice (some ⟨P, 0, none⟩) (l.length + 1) cap) := eqv
  have cr := m.qc i hi
  rw [eqv] at cr
  have ch : w.cell? ⟨hb, 0, none⟩ = some (.slice (some ⟨qb, 0, none⟩) q.length q.length) := (cell?_heap m.hc 0).trans rfl
  have h0 : (0 : Int) ≤ (i : Int) := Int.natCast_nonneg _
  have h1 : (i : Int) < (q.length : Int) := by omega
  have hl1 : ((mx, tg, cl) :: l).length = l.length + 1 := rfl
  rw [hl1] at cr
  have l1 : (0 : Int) < ((l.length + 1 : Nat) : Int) := by omega
  have HQ : Hid (q[i] = (mx, tg, cl) :: l) := hq
  have HI : Hid (i < q.length) := hi
  clear m hM eqv oR hq hl1 cp0 cp1
  go_enter Tryz.func139, Tryz.ntmps139
  go_upto_if 18 with fail
  go_cut [] (fun wx => ∃ F1 ev1, Mid M w wx F hb qb F1 qv ev1 en ⟨q.set i ((mx, tg, true) :: l), st, callE ⟨q, st, es, nn⟩ i (mx, tg, cl), nn⟩ s)
  case first =>
    cases cl with
    | true =>
      go_wp2_with fail
      go_meet
      case rel =>
        refine ⟨F, ev, ?_⟩
        have e : q.set i ((mx, tg, true) :: l) = q := by rw [← HQ.out]; exact List.set_getElem_self _
        rw [e]
        exact HM.out
    | false =>
      have H1 : Hid (Hm (w.setCell ⟨P, 2, none⟩ (.bool true)) F M.pt hb qb qv ev en ⟨q.set i ((mx, tg, true) :: l), st, es, nn⟩) := H.out.1.mark HI.out H.out.2.1 H.out.2.2
      have hset : i < (q.set i ((mx, tg, true) :: l)).length := by rw [List.length_set]; exact HI.out
      have K1 : Hid (Keeps F w (w.setCell ⟨P, 2, none⟩ (.bool true))) := Keeps.setCell (B := F) (Keeps.refl _ _) (H.out.1.fr i P HI.out oP) _
      go_wp2_with fail
      clear cp2 fp2 cr ch
      have hsz : w.heap.size = (w.setCell ⟨P, 2, none⟩ (.bool true)).heap.size := by simp
      generalize w.setCell ⟨P, 2, none⟩ (.bool true) = W1 at *
      have HM1 : Hid (Mid M w W1 F hb qb F qv ev en ⟨q.set i ((mx, tg, true) :: l), st, es, nn⟩ s) := HM.out.next H1.out K1.out (fun _ e => .inl e)
      refine (hrec_any W1 F M.pt hb qb qv ev en ⟨q.set i ((mx, tg, true) :: l), st, es, nn⟩ i 1 (mx, tg, true) l hset H1.out (by simp) (by show es.length ≤ _; omega)).mono ?_
      rintro e W2 ⟨rfl, F2, ev2, m2, k2, f2⟩
      have HM2 : Hid (Mid M w W2 F hb qb F2 qv ev2 en ⟨q.set i ((mx, tg, true) :: l), st, es ++ [(1, (i : Int), tg, st)], nn⟩ s) := HM1.out.next m2 k2 f2
      clear m2 k2 f2
      go_wp2_with fail
      go_meet
      case rel => exact ⟨F2, ev2, HM2.out⟩
  case rest =>
    obtain ⟨F1, ev1, hmid⟩ := hcut
    obtain ⟨es1, hes1⟩ : ∃ es1, callE ⟨q, st, es, nn⟩ i (mx, tg, cl) = es1 := ⟨_, rfl⟩
    have HES : Hid (callE ⟨q, st, es, nn⟩ i (mx, tg, cl) = es1) := hes1
    rw [hes1] at hmid
    have hlen1 : es1.length ≤ 68719476001 := by
      rw [← hes1]; unfold callE; split
      · show es.length ≤ _; omega
      · simp; omega
    have HM1 : Hid (Mid M w wc F hb qb F1 qv ev1 en ⟨q.set i ((mx, tg, true) :: l), st, es1, nn⟩ s) := hmid
    clear hes1 hmid cp2 fp2 cr ch HM H
    have hset : i < (q.set i ((mx, tg, true) :: l)).length := by rw [List.length_set]; exact HI.out
    have cs : wc.cell? ⟨hb, 1, none⟩ = some (.int .i64 st) := (cell?_heap HM1.out.m.hc 1).trans rfl
    have fs : wc.frozen? ⟨hb, 1, none⟩ = false := frozen?_heap HM1.out.m.hc 1
    have hws : IntKind.i64.wrap (st + 1) = wrap64 (st + 1) := by rw [IntKind.wrap_i64]; unfold wrap64; omega
    have HM2 : Hid (Mid M w (wc.setCell ⟨hb, 1, none⟩ (.int .i64 (wrap64 (st + 1)))) F hb qb F1 qv ev1 en ⟨q.set i ((mx, tg, true) :: l), wrap64 (st + 1), es1, nn⟩ s) := HM1.out.next (HM1.out.m.setSt _) (Keeps.setCell (B := F1) (Keeps.refl _ _) HM1.out.m.fh _) (fun _ e => .inl e)
    clear HM1
    obtain ⟨P', cap', eqv', oP', -, cp0, -, -, -⟩ := HM2.out.m.head (x := (mx, tg, true)) (l := l) hset (by simp)
    have hPP : P' = P := by
      have := HV.out
      rw [eqv'] at this
      injection this with e
      injection e with e
      injection e with e
    subst hPP
    dsimp only at cp0
    go_wp2_with fail
    clear cs fs hws cp0
    generalize wc.setCell ⟨hb, 1, none⟩ (.int .i64 (wrap64 (st + 1))) = W3 at *
    refine (M.call W3 s mx hx HM2.out.o).mono ?_
    rintro e W4 ⟨rfl, o4, k4⟩
    have HM4 : Hid (Mid M w W4 F hb qb F1 qv ev1 en ⟨q.set i ((mx, tg, true) :: l), wrap64 (st + 1), es1, nn⟩ (M.st s mx)) := HM2.out.go o4 k4
    clear o4 k4 HM2
    by_cases hdn : M.dn (M.st s mx) mx = true
    · have HST : Hid (stepQ M ⟨q, st, es, nn⟩ s i (mx, tg, cl) l = (⟨q.set i l, wrap64 (st + 1), es1 ++ [(2, (i : Int), tg, wrap64 (st + 1))], nn ++ [mx]⟩, M.st s mx, true)) := by
        show _ = _
        unfold stepQ
        dsimp only
        rw [if_pos hdn, HES.out]
      rw [hdn]
      go_wp2_with fail
      refine (hrec_any W4 F1 M.pt hb qb qv ev1 en ⟨q.set i ((mx, tg, true) :: l), wrap64 (st + 1), es1, nn⟩ i 2 (mx, tg, true) l hset HM4.out.m (by simp) (by show es1.length ≤ _; omega)).mono ?_
      rintro e W5 ⟨rfl, F5, ev5, m5, k5, f5⟩
      have HM5 : Hid (Mid M w W5 F hb qb F5 qv ev5 en ⟨q.set i ((mx, tg, true) :: l), wrap64 (st + 1), es1 ++ [(2, (i : Int), tg, wrap64 (st + 1))], nn⟩ (M.st s mx)) := HM4.out.next m5 k5 f5
      clear m5 k5 f5 HM4
      generalize es1 ++ [(2, (i : Int), tg, wrap64 (st + 1))] = es5 at *
      obtain ⟨ta, tc, hen⟩ := HM5.out.m.ot.form
      rw [List.length_map] at hen
      have HEN : Hid (en = .slice ta nn.length tc) := hen
      obtain ⟨P5, cap5, e5, oP5, -, cp5, -, -, -⟩ := HM5.out.m.head (x := (mx, tg, true)) (l := l) hset (by simp)
      have hPP : P5 = P' := Option.some.inj (oP5.symm.trans oP')
      subst hPP
      dsimp only at cp5
      have lh := HM5.out.m.lt _ HM5.out.m.fh
      have lP := HM5.out.m.lt _ (HM5.out.m.fr i P5 hset oP5)
      have cT : W5.drew.cell? ⟨hb, 3, none⟩ = some (.slice ta nn.length tc) := by rw [← hen]; exact (cell?_heap HM5.out.m.hc 3).trans rfl
      have cT2 : (W5.alloc (.cells #[.pointer (some ⟨M.pt mx, 0, none⟩)] 42)).cell? ⟨hb, 3, none⟩ = some (.slice ta nn.length tc) := (World.cell?_of_block (w := W5) (Below.heap_alloc W5 _ hb lh)).trans cT
      have HO : Hid (OwT W5.drew 0 (.slice ta nn.length tc) (nn.map M.pt)) := by rw [← hen]; exact HM5.out.m.ot.later (Below.refl _ _).drew
      have HP5 : Hid (W5.drew.cell? ⟨P5, 0, none⟩ = some (.pointer (some ⟨M.pt mx, 0, none⟩))) := cp5
      have HP : Hid (∀ o : Obj, (W5.drew.alloc o).cell? ⟨P5, 0, none⟩ = some (.pointer (some ⟨M.pt mx, 0, none⟩))) := fun o => (World.cell?_of_block (w := W5) (Below.heap_alloc W5.drew o P5 lP)).trans cp5
      clear hen e5 cp5
      go_wp2_with fail
      (refine wp_region_held_drew (S := (fun W => W.cell? ⟨P5, 0, none⟩ = some (.pointer (some ⟨M.pt mx, 0, none⟩)))) (by kernel_rfl) HP5.out (fun hHeld => ?_); simp only [List.size_toArray, List.length_cons, List.length_nil, Nat.reduceAdd, Array.replicate_succ, Array.replicate_zero, List.push_toArray, List.append_toArray, List.nil_append, List.cons_append])
      refine rgT 0 (h := ?_)
      refine rgT 1 (h := ?_)
      refine rgT 2 (h := ?_)
      refine rgT 3 (h := ?_)
      refine rgT 5 (h := ?_)
      refine rgT 6 (h := ?_)
      refine rgT 7 (h := ?_)
      refine rgT 8 (h := ?_)
      (refine wpAnyH_ready (rs := [4, 9]) (by kernel_rfl) (by simp) ?_; refine rgA 4 (by rfl) (fun K hK => ?_) (rgA 9 (by rfl) (fun K hK => ?_) AllReadyH.nil) <;> go_simp)
      (refine hK.out _ _ HP5.out (fun hHeld => ?_); clear hK K; try simp only [Act.put, List.setIfInBounds_toArray, List.set_cons_zero, List.set_cons_succ])
      (refine rgS 9 (h := fun K hK => ?_); go_simp)
      (refine hK.out _ _ (HP.out _) (fun hHeld => ?_); clear hK K; try simp only [Act.put, List.setIfInBounds_toArray, List.set_cons_zero, List.set_cons_succ])
      rotate_left 1
      (refine hK.out _ _ (HP.out _) (fun hHeld => ?_); clear hK K; try simp only [Act.put, List.setIfInBounds_toArray, List.set_cons_zero, List.set_cons_succ])
      (refine rgS 4 (h := fun K hK => ?_); go_simp)
      (refine hK.out _ _ (HP.out _) (fun hHeld => ?_); clear hK K; try simp only [Act.put, List.setIfInBounds_toArray, List.set_cons_zero, List.set_cons_succ])
      all_goals
        clear cT cT2
        (refine rgS 10 (h := fun K hK => ?_); rw [if_pos (by rfl)])
        refine app_lies_wp (cs := thC) (wr := W5.drew) (.tmp 46) (.tmp 51) 96 42 (by rfl) Tryz.underlying96 infoTh rfl (by decide) (fun _ => rfl) _ (nn.map M.pt) (M.pt mx) HO.out (by rfl) W5.heap.size rfl (by rfl) (by intro u hu; simp [thC] at hu; subst hu; rfl) _ rfl (by unfold maxLen; rw [List.length_map]; omega) (by rw [List.length_map]; omega) ?_
        intro b c6 W6 ho k6 hb6 hl6
        rw [List.length_map] at ho ⊢
        have k6' : Keeps (fun g => en.ownBlock = some g) W5 W6 := by rw [HEN.out]; exact (Keeps.refl _ _).drew.trans k6
        have hb6' : en.ownBlock = some b ∨ W5.heap.size ≤ b := by rw [HEN.out]; exact hb6
        have hmp : nn.map M.pt ++ [M.pt mx] = (nn ++ [mx]).map M.pt := by simp
        rw [hmp] at ho
        have m6 := HM5.out.m.ended k6' ho hb6' hl6
        have nh : en.ownBlock ≠ some hb := fun e => (HM5.out.m.ens hb e).1 rfl
        have nP : en.ownBlock ≠ some P5 := fun e => (HM5.out.m.rows i hset P5 oP5).2.2.2 e
        have c6P : W6.cell? ⟨P5, 0, none⟩ = some (.pointer (some ⟨M.pt mx, 0, none⟩)) := (k6'.cell (p := ⟨P5, 0, none⟩) lP nP).trans HP5.out
        have d6 : W6.cell? ⟨hb, 3, none⟩ = some en := (k6'.cell (p := ⟨hb, 3, none⟩) lh nh).trans ((cell?_heap HM5.out.m.hc 3).trans rfl)
        have f6 : W6.frozen? ⟨hb, 3, none⟩ = false := (k6'.frozen (p := ⟨hb, 3, none⟩) lh nh).trans (frozen?_heap HM5.out.m.hc 3)
        have HM6 : Hid (Mid M w (W6.setCell ⟨hb, 3, none⟩ (.slice (some ⟨b, 0, none⟩) (nn.length + 1) c6)) F hb qb (fun y => F5 y ∨ y = b) qv ev5 (.slice (some ⟨b, 0, none⟩) (nn.length + 1) c6) ⟨q.set i ((mx, tg, true) :: l), wrap64 (st + 1), es5, nn ++ [mx]⟩ (M.st s mx)) := HM5.out.next m6 ((k6'.mono (fun g e => HM5.out.m.fn g e)).setCell (p := ⟨hb, 3, none⟩) HM5.out.m.fh _) (fun y hy => hy.elim .inl (fun e => by rw [e]; exact hb6'.elim (fun e => .inl (HM5.out.m.fn b e)) .inr))
        have c7P : (W6.setCell ⟨hb, 3, none⟩ (.slice (some ⟨b, 0, none⟩) (nn.length + 1) c6)).cell? ⟨P5, 0, none⟩ = some (.pointer (some ⟨M.pt mx, 0, none⟩)) := (World.cell?_setCell_other _ _ _ _ (fun e => (HM5.out.m.rows i hset P5 oP5).1 (congrArg Addr.block e).symm)).trans c6P
        clear ho k6 k6' hb6 hb6' hl6 m6 nh nP HO HP hmp HM5 HEN
        (refine hK.out _ _ c6P (fun hHeld => ?_); clear hK K; try simp only [Act.put, List.setIfInBounds_toArray, List.set_cons_zero, List.set_cons_succ])
        refine rgT 11 (h := ?_)
        refine rgT 12 (h := ?_)
        (refine rgS 13 (h := fun K hK => ?_); go_simp)
        (refine hK.out _ _ c7P (fun hHeld => ?_); clear hK K; try simp only [Act.put, List.setIfInBounds_toArray, List.set_cons_zero, List.set_cons_succ])
        refine wpAnyH_done (by kernel_rfl) ?_ _
        clear c6P d6 f6 c7P
        generalize W6.setCell ⟨hb, 3, none⟩ (.slice (some ⟨b, 0, none⟩) (nn.length + 1) c6) = W7 at *
        generalize (.slice (some ⟨b, 0, none⟩) (nn.length + 1) c6 : Value) = en7 at *
        generalize (fun y => F5 y ∨ y = b) = F7 at *
        obtain ⟨P7, cap7, e7, oP7, oR7, -, -, -, -⟩ := HM6.out.m.head (x := (mx, tg, true)) (l := l) hset (by simp)
        have hPP7 : P7 = P5 := Option.some.inj (oP7.symm.trans oP')
        subst hPP7
        have hh7 : W7.cell? ⟨hb, 0, none⟩ = some (.slice (some ⟨qb, 0, none⟩) (q.set i ((mx, tg, true) :: l)).length (q.set i ((mx, tg, true) :: l)).length) := (cell?_heap HM6.out.m.hc 0).trans rfl
        rw [List.length_set] at hh7
        have HH7 : Hid (W7.drew.cell? ⟨hb, 0, none⟩ = some (.slice (some ⟨qb, 0, none⟩) q.length q.length)) := hh7
        have cr7 : W7.drew.cell? ⟨qb, i, none⟩ = some (.slice (some ⟨P7, 0, none⟩) ((mx, tg, true) :: l).length cap7) := by rw [← e7]; exact HM6.out.m.qc i hset
        have HR7 : Hid (OwP M.pt W7.drew (.slice (some ⟨P7, 0, none⟩) ((mx, tg, true) :: l).length cap7) ((mx, tg, true) :: l)) := oR7.later (Below.refl _ _).drew
        clear hh7 oR7 e7
        go_wp2_with fail
        (refine wp_region_held_drew (S := (fun W => W.cell? ⟨hb, 0, none⟩ = some (.slice (some ⟨qb, 0, none⟩) q.length q.length))) (by kernel_rfl) HH7.out (fun hHeld => ?_); simp only [List.size_toArray, List.length_cons, List.length_nil, Nat.reduceAdd, Array.replicate_succ, Array.replicate_zero, List.push_toArray, List.append_toArray, List.nil_append, List.cons_append])
        refine rgT 0 (h := ?_)
        refine rgT 1 (h := ?_)
        refine rgT 2 (h := ?_)
        refine rgT 3 (h := ?_)
        refine rgT 4 (h := ?_)
        refine rgT 5 (h := ?_)
        refine rgT 6 (h := ?_)
        refine rgT 7 (h := ?_)
        refine rgT 8 (h := ?_)
        refine rgT 9 (h := ?_)
        refine rgT 10 (h := ?_)
        (refine rgS 11 (h := fun K hK => ?_); go_simp)
        (refine hK.out _ _ HH7.out (fun hHeld => ?_); clear hK K; try simp only [Act.put, List.setIfInBounds_toArray, List.set_cons_zero, List.set_cons_succ])
        clear cr7
        (refine rgS 12 (h := fun K hK => ?_); go_simp)
        refine (del_any M.pt W7.drew P7 cap7 (mx, tg, true) l HR7.out hll).mono ?_
        rintro e W8 ⟨rfl, o8, k8⟩
        have k8' : Keeps (fun g => g = P7) W7 W8 := (Keeps.refl _ _).drew.trans k8
        have m8 := HM6.out.m.row hset oP7 k8' o8 rfl
        have r8 := HM6.out.m.rows i hset P7 oP7
        have lh7 := HM6.out.m.lt _ HM6.out.m.fh
        have lq7 := HM6.out.m.lt _ HM6.out.m.fq
        have hh8 : W8.cell? ⟨hb, 0, none⟩ = some (.slice (some ⟨qb, 0, none⟩) q.length q.length) := (k8'.cell (p := ⟨hb, 0, none⟩) lh7 (fun e => r8.1 e.symm)).trans HH7.out
        have cr8 : W8.cell? ⟨qb, i, none⟩ = some (qv i) := (k8'.cell (p := ⟨qb, i, none⟩) lq7 (fun e => r8.2.1 e.symm)).trans (HM6.out.m.qc i hset)
        obtain ⟨cq, hcq⟩ := HM6.out.m.qt
        have fr8 : W8.frozen? ⟨qb, i, none⟩ = false := (k8'.frozen (p := ⟨qb, i, none⟩) lq7 (fun e => r8.2.1 e.symm)).trans (frozen?_heap hcq i)
        have hh9 : (W8.setCell ⟨qb, i, none⟩ (.slice (some ⟨P7, 0, none⟩) l.length cap7)).cell? ⟨hb, 0, none⟩ = some (.slice (some ⟨qb, 0, none⟩) q.length q.length) := (World.cell?_setCell_other _ _ _ _ (fun e => HM6.out.m.hq (congrArg Addr.block e).symm)).trans hh8
        dsimp only at m8
        rw [List.set_set] at m8
        have HM9 : Hid (Mid M w (W8.setCell ⟨qb, i, none⟩ (.slice (some ⟨P7, 0, none⟩) l.length cap7)) F hb qb F7 (upd qv i (.slice (some ⟨P7, 0, none⟩) l.length cap7)) ev5 en7 ⟨q.set i l, wrap64 (st + 1), es5, nn ++ [mx]⟩ (M.st s mx)) := HM6.out.next m8 ((k8'.mono (fun g e => by rw [e]; exact HM6.out.m.fr i P7 hset oP7)).setCell (p := ⟨qb, i, none⟩) HM6.out.m.fq _) (fun _ e => .inl e)
        clear o8 k8 k8' m8 r8 HM6 HR7 hcq
        (refine hK.out _ _ hh8 (fun hHeld => ?_); clear hK K; try simp only [Act.put, List.setIfInBounds_toArray, List.set_cons_zero, List.set_cons_succ])
        refine rgT 13 (h := ?_)
        (refine rgS 14 (h := fun K hK => ?_); go_simp)
        (refine hK.out _ _ hh9 (fun hHeld => ?_); clear hK K; try simp only [Act.put, List.setIfInBounds_toArray, List.set_cons_zero, List.set_cons_succ])
        refine wpAnyH_done (by kernel_rfl) ?_ _
        clear hh8 cr8 fr8 hh9
        go_wp2
        go_ret
        rw [HST.out]
        exact ⟨rfl, _, _, _, _, HM9.out⟩
    · have hdn' : M.dn (M.st s mx) mx = false := by simpa using hdn
      have HST : Hid (stepQ M ⟨q, st, es, nn⟩ s i (mx, tg, cl) l = (⟨q.set i ((mx, tg, true) :: l), wrap64 (st + 1), es1, nn⟩, M.st s mx, false)) := by
        show _ = _
        unfold stepQ
        dsimp only
        rw [if_neg hdn, HES.out]
      rw [hdn']
      go_wp2
      go_ret
      rw [HST.out]
      exact ⟨rfl, _, _, _, _, HM4.out⟩
end Go.Proofs.YteekompojgbkhaaGreat
