import Derived.Test.YtdpebhdjcgiboaaGreatSr8
namespace Go.Proofs.YtdpebhdjcgiboaaGreat
set_option linter.unusedSimpArgs false
open Go.ChangeShapes Go.WideShapes Go.ChangeAt Go.RowKit Go.MuLone Go.RwLone
set_option linter.unusedVariables false
set_option maxRecDepth 100000
set_option maxHeartbeats 3200000
theorem infoPl1 : (Tryz.prog.info? 219).map (fun i => (i.zero, i.size, i.bytes)) = some (some (.agg #[.int .i64 0, .int .i64 0, .bool false]), 3, 24) := by kernel_rfl
/-- A row lies in a new block from now on. -/
theorem Rh.moved {w w1 : World} {F : Nat → Prop} {pt hb qb : Nat} {qv : Nat → Value} {ev en : Value} {h : Hp} {b i : Nat} {l : List Pq} {v : Value} (m : Rh w F pt hb qb qv ev en h) (hi : i < h.q.length) (k : Keeps (fun _ => False) w w1) (ho : OwR w1 v l) (hv : v.ownBlock = some b) (hb' : w.heap.size ≤ b) (hl : b < w1.heap.size) :
    Rh (w1.setCell ⟨qb, i, none⟩ v) (fun x => F x ∨ x = b) pt hb qb (upd qv i v) ev en { h with q := h.q.set i l } := by
  have hq := m.lt _ m.fq
  have hh := m.lt _ m.fh
  obtain ⟨c, hc⟩ := m.qt
  have k2 : Keeps (fun g => g = qb) w1 (w1.setCell ⟨qb, i, none⟩ v) := Keeps.setCell (B := fun g => g = qb) (Keeps.refl _ _) rfl _
  have kk : Keeps (fun g => g = qb) w (w1.setCell ⟨qb, i, none⟩ v) := (k.mono (fun _ e => e.elim)).trans k2
  have e1 : w1.heap[qb]? = _ := (k.block qb hq (fun e => e)).trans hc
  have ec : ∀ j, w1.cell? ⟨qb, j, none⟩ = w.cell? ⟨qb, j, none⟩ := fun j => k.cell (p := ⟨qb, j, none⟩) hq (fun e => e)
  have lo : ∀ j g, j < h.q.length → (qv j).ownBlock = some g → g < w.heap.size := fun j g hj hg => m.lt _ (m.fr j g hj hg)
  refine ⟨?_, ⟨_, heapSet e1 _⟩, fun j hj => ?_, fun j hj => ?_, fun j j' g hj hj' hn h1 h2 => ?_, owK m.oe kk (fun g hg e => (m.evs g hg).2.1 e), owK m.ot kk (fun g hg e => (m.ens g hg).2 e), .inl m.fh, .inl m.fq, fun j g hj hg => ?_, fun g hg => .inl (m.fe g hg), fun g hg => .inl (m.fn g hg), fun x hx => ?_, by simpa using m.n16⟩
  · rw [List.length_set]
    exact (kk.block hb hh (fun e => m.hq e)).trans m.hc
  · rw [List.length_set] at hj
    by_cases e : j = i
    · subst e; rw [upd_same]
      exact World.cell?_setCell_same _ _ _ ((ec j).trans (m.qc j hj))
    · rw [upd_other _ _ e, World.cell?_setCell_other _ _ _ _ (fun e' => e (congrArg Addr.off e').symm), ec]
      exact m.qc j hj
  · have hj2 : j < h.q.length := by simpa using hj
    by_cases e : j = i
    · subst e
      simp only [List.getElem_set_self]
      rw [upd_same]
      refine owK ho k2 (fun g hg e => ?_)
      rw [hv] at hg
      have := Option.some.inj hg
      omega
    · simp only [List.getElem_set_ne (fun e' => e e'.symm)]
      rw [upd_other _ _ e]
      exact owK (m.ql j hj2) kk (fun g hg e' => (m.rows j hj2 g hg).2.1 e')
  · rw [List.length_set] at hj hj'
    by_cases e : j = i
    · subst e
      rw [upd_same, hv] at h1
      rw [upd_other _ _ (fun e => hn e.symm)] at h2
      have := lo j' g hj' h2
      have := Option.some.inj h1
      omega
    · rw [upd_other _ _ e] at h1
      by_cases e' : j' = i
      · subst e'
        rw [upd_same, hv] at h2
        have := lo j g hj h1
        have := Option.some.inj h2
        omega
      · rw [upd_other _ _ e'] at h2
        exact m.qa j j' g hj hj' hn h1 h2
  · rw [List.length_set] at hj
    by_cases e : j = i
    · subst e
      rw [upd_same, hv] at hg
      exact .inr (Option.some.inj hg).symm
    · rw [upd_other _ _ e] at hg
      exact .inl (m.fr j g hj hg)
  · rcases hx with hx | hx
    · have := m.lt x hx
      have := kk.size
      omega
    · rw [hx]; simpa using hl
/-- The rest of a row, copied into a new block. -/
theorem pop_wp {o : Oper} {a : Act} {K : Act → World → Prop} {Q : Exit → Act → World → Prop} (W7 : World) (P cap : Nat) (x : Pq) (l : List Pq) (h : OwR W7 (.slice (some ⟨P, 0, none⟩) (x :: l).length cap) (x :: l)) (hll : l.length ≤ 100) (s y : Operand)
    (ho : o.op = .call { callee := .builtin .append, args := #[s, y], argTypes := #[217, 217] })
    (hs : a.eval s = .slice (some ⟨W7.heap.size, 0, none⟩) 0 0) (hx : a.eval y = .slice (if cap = 1 then some ⟨P, 0, none⟩ else some ⟨P, 3, none⟩) l.length (cap - 1))
    (hK : ∀ b c w', OwR w' (.slice (some ⟨b, 0, none⟩) l.length c) l → Keeps (fun _ => False) W7 w' → W7.heap.size ≤ b → b < w'.heap.size → K (a.put o.dst (.slice (some ⟨b, 0, none⟩) l.length c)) w') :
    o.wp Tryz.prog a (W7.alloc (.cells #[] 219)).drew K Q := by
  obtain ⟨-, hcap, -, -, -, -⟩ := owG_cap h
  have hcap' : l.length + 1 ≤ cap := hcap
  obtain ⟨i0, hi, hz0, hz1, hz2⟩ := info_parts infoPl1
  obtain ⟨ad, had⟩ : ∃ ad, (if cap = 1 then some (⟨P, 0, none⟩ : Addr) else some ⟨P, 3, none⟩) = some ad := by split <;> exact ⟨_, rfl⟩
  have hlP : P < W7.heap.size := (World.ownsRow.lt h P rfl).2
  have hown : (W7.alloc (.cells #[] 219)).drew.ownsRow 0 219 3 (.slice (some ⟨W7.heap.size, 0, none⟩) 0 0) 0 [] := (World.ownsRow_made W7 #[] 0 (Nat.zero_le _) (by decide) rfl).drew
  have hfl : (l.flatMap plR).length = l.length * 3 := flat_len plR 3 (fun _ => rfl) l
  obtain ⟨v', w', hr, h2, h3, -, h5⟩ := run_append_own_at (P := Tryz.prog) (W7.alloc (.cells #[] 219)).drew 0 217 o.type 219 i0 _ 3 24 Tryz.underlying217 hi hz0 hz1 hz2 rfl (by decide) _ 0 [] hown ad l.length (cap - 1) (l.flatMap plR) hfl (fun j u hj => by
      have hlt := (List.getElem?_eq_some_iff.1 hj).1
      rw [hfl] at hlt
      have hc1 : ¬ cap = 1 := by omega
      rw [if_neg hc1] at had
      obtain rfl := Option.some.inj had
      rw [addr_add]
      show (W7.alloc (.cells #[] 219)).cell? ⟨P, 3 + j, none⟩ = some u
      rw [World.cell?_of_block (w := W7) (Below.heap_alloc W7 _ P hlP), World.ownsRow.cellAt h (3 + j) (by rw [List.length_cons]; omega), List.flatMap_cons, List.getElem?_append_right (by show 3 ≤ 3 + j; omega), show 3 + j - (plR x).length = j from by show 3 + j - 3 = j; omega]
      exact hj) (fun u hu => by
      obtain ⟨z, _, hz⟩ := List.mem_flatMap.1 hu
      exact plR_one z u hz) (by unfold maxLen; omega) (by omega) (Nat.zero_le _)
  have hob : ∃ b, v'.ownBlock = some b ∧ W7.heap.size ≤ b := by
    rcases h5 with e | e
    · exact ⟨W7.heap.size, e, Nat.le_refl _⟩
    · refine ⟨_, e, ?_⟩
      show W7.heap.size ≤ (W7.alloc _).heap.size
      rw [szAl]; omega
  obtain ⟨b, hb1, hb2⟩ := hob
  have hlt := (h2.lt b hb1).2
  rw [Nat.zero_add, List.nil_append] at h2
  have h22 := h2
  rcases h2.2 with ⟨rfl, _⟩ | ⟨g, c, cur, rfl, _⟩
  · cases hb1
  · obtain rfl : g = b := Option.some.inj hb1
    have kk : Keeps (fun _ => False) W7 w' := ⟨h3.os, h3.tape, h3.output, by have := h3.size; have e : (W7.alloc (.cells #[] 219)).drew.heap.size = W7.heap.size + 1 := szAl _ _; omega, fun k hk _ => (h3.block k (by have e : (W7.alloc (.cells #[] 219)).drew.heap.size = W7.heap.size + 1 := szAl _ _; omega) (fun e => by have e2 : k = W7.heap.size := Option.some.inj e; omega)).trans (Below.heap_alloc W7 _ k hk)⟩
    have hk := hK g c w' h22 kk hb2 hlt
    rw [had] at hx
    unfold Oper.wp execOp
    simp only [ho, resolve, invoke, builtin, Sem.run_bind, Sem.run_pure, Result.andThen_ok, List.map_toArray, List.map_cons, List.map_nil, hs, hx, hr]
    exact hk
theorem infoInt1 : (Tryz.prog.info? 3).map (fun i => (i.zero, i.size, i.bytes)) = some (some (.int .i64 0), 1, 8) := by kernel_rfl
theorem rhstep_any (R : Rd) (hR : RdOk R) (w : World) (F : Nat → Prop) (hb qb : Nat) (qv : Nat → Value) (ev en : Value) (h : Hp) (s : Ls) (i : Nat) (x : Pq) (l : List Pq) (m : Rh w F R.bk hb qb qv ev en h) (hM : RP R w s) (hd : ∀ y, F y → ¬ fR R y) (hi : i < h.q.length) (hq : h.q[i] = x :: l) (hx : x.1 < R.n) (hll : l.length ≤ 100) (hle : h.ev.length ≤ 68719476000) (hln : h.en.length ≤ 68719476000) :
    Calls Tryz.prog 65 #[.pointer (some ⟨hb, 0, none⟩), .int .i64 (i : Int)] w fun e w' => e = .returned (.bool true) ∧ ∃ F' qv' ev' en', Mr R w w' F hb qb F' qv' ev' en' (stepQ (pureM R.ins R.n) h s i x l).1 (stepQ (pureM R.ins R.n) h s i x l).2.1 := by
  obtain ⟨q, st, es, nn⟩ := h
  obtain ⟨mx, tg, cl⟩ := x
  dsimp only at hi hq hx hle hln
  obtain ⟨P, cap, eqv, oP, oR, cp0, cp1, cp2, fp2⟩ := m.head hi hq
  dsimp only at eqv cp0 cp1 cp2
  have HM : Hid (Mr R w w F hb qb F qv ev en ⟨q, st, es, nn⟩ s) := Mr.start m hM hd
  have H : Hid (Rh w F R.bk hb qb qv ev en ⟨q, st, es, nn⟩ ∧ qv i = .slice (some ⟨P, 0, none⟩) ((mx, tg, cl) :: l).length cap ∧ OwR w (.slice (some ⟨P, 0, none⟩) ((mx, tg, cl) :: l).length cap) ((mx, tg, cl) :: l)) := ⟨m, eqv, oR⟩
  have HV0 : Hid (qv i = .slice (some ⟨P, 0, none⟩) (l.length + 1) cap) := eqv
  have cr := m.qc i hi
  rw [eqv] at cr
  have ch : w.cell? ⟨hb, 1, none⟩ = some (.slice (some ⟨qb, 0, none⟩) q.length q.length) := (cell?_heap m.hc 1).trans rfl
  have h0 : (0 : Int) ≤ (i : Int) := Int.natCast_nonneg _
  have h1 : (i : Int) < (q.length : Int) := by omega
  have hl1 : ((mx, tg, cl) :: l).length = l.length + 1 := rfl
  rw [hl1] at cr
  have l1 : (0 : Int) < ((l.length + 1 : Nat) : Int) := by omega
  have hl2 : ¬ ((l.length + 1 : Nat) : Int) = 0 := by omega
  have HQ : Hid (q[i] = (mx, tg, cl) :: l) := hq
  have HI : Hid (i < q.length) := hi
  have hdw : decide (0 ≤ (i : Int) ∧ (i : Int) < (q.length : Int)) = true := by simp [h0, h1]
  have HCH : Hid (w.cell? ⟨hb, 1, none⟩ = some (.slice (some ⟨qb, 0, none⟩) q.length q.length)) := ch
  clear m hM eqv oR hq hl1 cp0 cp1
  go_enter Tryz.func65, Tryz.ntmps65
  go_wp2_with fail
  refine (rhas_any w hb q.length _ _ i HCH.out).mono ?_
  rintro e w' ⟨rfl, rfl⟩
  rw [hdw]
  clear hdw
  go_upto_if 34 with fail
  go_cut [] (fun wx => ∃ F1 ev1, Mr R w' wx F hb qb F1 qv ev1 en ⟨q.set i ((mx, tg, true) :: l), st, callE ⟨q, st, es, nn⟩ i (mx, tg, cl), nn⟩ s)
  case first =>
    cases cl with
    | true =>
      go_wp2_with fail
      go_meet
      case rel =>
        refine ⟨F, ev, ?_⟩
        have e : q.set i ((mx, tg, true) :: l) = q := by rw [← HQ.out]; exact List.set_getElem_self _
        rw [e]
        exact HM.out
    | false =>
      clear cp2 fp2 cr ch
      obtain ⟨ea, ec, hev⟩ := HM.out.m.oe.form
      have HV : Hid (ev = .slice ea es.length ec) := hev
      obtain ⟨P5, cap5, e5, oP5, -, cp0, cp1, -, -⟩ := HM.out.m.head (x := (mx, tg, false)) (l := l) HI.out (by exact HQ.out)
      have hPP : P5 = P := Option.some.inj (oP5.symm.trans oP)
      subst hPP
      dsimp only at cp0 cp1
      have lh := HM.out.m.lt _ HM.out.m.fh
      have lP := HM.out.m.lt _ (HM.out.m.fr i P5 HI.out oP5)
      have cE : w'.drew.cell? ⟨hb, 3, none⟩ = some (.slice ea es.length ec) := by rw [← hev]; exact (cell?_heap HM.out.m.hc 3).trans rfl
      have HS : Hid (w'.drew.cell? ⟨hb, 2, none⟩ = some (.int .i64 (st)) ∧ w'.drew.cell? ⟨P5, 1, none⟩ = some (.int .i64 tg)) := ⟨(cell?_heap HM.out.m.hc 2).trans rfl, cp1⟩
      have HA : Hid (∀ o : Obj, (w'.drew.alloc o).cell? ⟨hb, 2, none⟩ = some (.int .i64 (st)) ∧ (w'.drew.alloc o).cell? ⟨P5, 1, none⟩ = some (.int .i64 tg)) := fun o =>
        have e : ∀ g j, g < w'.heap.size → (w'.drew.alloc o).cell? ⟨g, j, none⟩ = w'.cell? ⟨g, j, none⟩ := fun g j hg => World.cell?_of_block (w := w') (Below.heap_alloc w'.drew o g hg)
        ⟨(e _ _ lh).trans HS.out.1, (e _ _ lP).trans HS.out.2⟩
      have cE2 : (w'.alloc (.cells #[.int .i64 1, .int .i64 (i : Int), .int .i64 tg, .int .i64 (st)] 36)).cell? ⟨hb, 3, none⟩ = some (.slice ea es.length ec) := (World.cell?_of_block (w := w') (Below.heap_alloc w' _ hb lh)).trans cE
      have HO : Hid (OwE w'.drew 0 (.slice ea es.length ec) es) := by rw [← hev]; exact HM.out.m.oe.later (Below.refl _ _).drew
      clear hev e5 cp0 cp1
      go_wp2_with fail
      (refine wp_region_held_drew (S := (fun W => W.cell? ⟨hb, 2, none⟩ = some (.int .i64 (st)) ∧ W.cell? ⟨P5, 1, none⟩ = some (.int .i64 tg))) (by kernel_rfl) HS.out (fun hHeld => ?_); simp only [List.size_toArray, List.length_cons, List.length_nil, Nat.reduceAdd, Array.replicate_succ, Array.replicate_zero, List.push_toArray, List.append_toArray, List.nil_append, List.cons_append])
      refine rgT 0 (h := ?_)
      refine rgT 1 (h := ?_)
      refine rgT 2 (h := ?_)
      refine rgT 3 (h := ?_)
      refine rgT 5 (h := ?_)
      refine rgT 6 (h := ?_)
      refine rgT 7 (h := ?_)
      refine rgT 8 (h := ?_)
      refine rgT 9 (h := ?_)
      refine rgT 10 (h := ?_)
      refine rgT 11 (h := ?_)
      refine rgT 12 (h := ?_)
      refine rgT 13 (h := ?_)
      refine rgT 14 (h := ?_)
      (refine wpAnyH_ready (rs := [4, 15]) (by kernel_rfl) (by simp) ?_; refine rgA 4 (by rfl) (fun K hK => ?_) (rgA 15 (by rfl) (fun K hK => ?_) AllReadyH.nil) <;> go_simp)
      (refine hK.out _ _ HS.out (fun hHeld => ?_); clear hK K; try simp only [Act.put, List.setIfInBounds_toArray, List.set_cons_zero, List.set_cons_succ])
      (refine rgS 15 (h := fun K hK => ?_); go_simp)
      (refine hK.out _ _ (HA.out _) (fun hHeld => ?_); clear hK K; try simp only [Act.put, List.setIfInBounds_toArray, List.set_cons_zero, List.set_cons_succ])
      rotate_left 1
      (refine hK.out _ _ (HA.out _) (fun hHeld => ?_); clear hK K; try simp only [Act.put, List.setIfInBounds_toArray, List.set_cons_zero, List.set_cons_succ])
      (refine rgS 4 (h := fun K hK => ?_); go_simp)
      (refine hK.out _ _ (HA.out _) (fun hHeld => ?_); clear hK K; try simp only [Act.put, List.setIfInBounds_toArray, List.set_cons_zero, List.set_cons_succ])
      all_goals
        clear cE cE2
        (refine rgS 16 (h := fun K hK => ?_); rw [if_pos (by rfl)])
        refine app_lies_wp (cs := evC) (wr := w'.drew) (.tmp 39) (.tmp 50) 33 36 (by rfl) Tryz.underlying33 infoEv rfl (by decide) (fun _ => rfl) _ es (1, (i : Int), tg, st) HO.out (by rfl) w'.heap.size rfl (by rfl) (by intro u hu; simp [evC] at hu; rcases hu with rfl | rfl | rfl | rfl <;> rfl) _ rfl (by unfold maxLen; omega) (by omega) ?_
        intro b c5 w5 ho k5 hb5 hl5
        have k5' : Keeps (fun g => ev.ownBlock = some g) w' w5 := by rw [HV.out]; exact (Keeps.refl _ _).drew.trans k5
        have hb5' : ev.ownBlock = some b ∨ w'.heap.size ≤ b := by rw [HV.out]; exact hb5
        have H6 := HM.out.m.event k5' ho hb5' hl5
        have ce : ∀ g j, g < w'.heap.size → ev.ownBlock ≠ some g → w5.cell? ⟨g, j, none⟩ = w'.cell? ⟨g, j, none⟩ := fun g j hg hn => k5'.cell (p := ⟨g, j, none⟩) hg hn
        have nh : ev.ownBlock ≠ some hb := fun e => (HM.out.m.evs hb e).1 rfl
        have nP : ev.ownBlock ≠ some P5 := fun e => (HM.out.m.rows i HI.out P5 oP).2.2.1 e
        have HB : Hid (w5.cell? ⟨hb, 2, none⟩ = some (.int .i64 (st)) ∧ w5.cell? ⟨P5, 1, none⟩ = some (.int .i64 tg)) := ⟨(ce _ _ lh nh).trans HS.out.1, (ce _ _ lP nP).trans HS.out.2⟩
        have cE5 : w5.cell? ⟨hb, 3, none⟩ = some ev := (ce _ _ lh nh).trans ((cell?_heap HM.out.m.hc 3).trans rfl)
        have fE5 : w5.frozen? ⟨hb, 3, none⟩ = false := (k5'.frozen (p := ⟨hb, 3, none⟩) lh nh).trans (frozen?_heap HM.out.m.hc 3)
        have HC : Hid ((w5.setCell ⟨hb, 3, none⟩ (.slice (some ⟨b, 0, none⟩) (es.length + 1) c5)).cell? ⟨hb, 2, none⟩ = some (.int .i64 (st)) ∧ (w5.setCell ⟨hb, 3, none⟩ (.slice (some ⟨b, 0, none⟩) (es.length + 1) c5)).cell? ⟨P5, 1, none⟩ = some (.int .i64 tg)) :=
          have e2 : ∀ g j, (g ≠ hb ∨ j ≠ 3) → (w5.setCell ⟨hb, 3, none⟩ (.slice (some ⟨b, 0, none⟩) (es.length + 1) c5)).cell? ⟨g, j, none⟩ = w5.cell? ⟨g, j, none⟩ := fun g j hn => World.cell?_setCell_other _ _ _ _ (fun e => hn.elim (fun hn => hn (congrArg Addr.block e).symm) (fun hn => hn (congrArg Addr.off e).symm))
          ⟨(e2 _ _ (.inr (by decide))).trans HB.out.1, (e2 _ _ (.inl (HM.out.m.rows i HI.out P5 oP).1)).trans HB.out.2⟩
        have HMx : Hid (∃ F2 ev2, Mr R w' (w5.setCell ⟨hb, 3, none⟩ (.slice (some ⟨b, 0, none⟩) (es.length + 1) c5)) F hb qb F2 qv ev2 en ⟨q, st, es ++ [(1, (i : Int), tg, st)], nn⟩ s) := ⟨_, _, HM.out.next H6 ((k5'.mono (fun g e => HM.out.m.fe g e)).setCell (p := ⟨hb, 3, none⟩) HM.out.m.fh _) (fun y hy => hy.elim .inl (fun e => by rw [e]; exact hb5'.elim (fun e => .inl (HM.out.m.fe b e)) .inr))⟩
        clear ho k5 k5' hb5 hb5' hl5 H6 ce nh nP HO HA HV
        (refine hK.out _ _ HB.out (fun hHeld => ?_); clear hK K; try simp only [Act.put, List.setIfInBounds_toArray, List.set_cons_zero, List.set_cons_succ])
        refine rgT 17 (h := ?_)
        refine rgT 18 (h := ?_)
        (refine rgS 19 (h := fun K hK => ?_); go_simp)
        (refine hK.out _ _ HC.out (fun hHeld => ?_); clear hK K; try simp only [Act.put, List.setIfInBounds_toArray, List.set_cons_zero, List.set_cons_succ])
        refine wpAnyH_done (by kernel_rfl) ?_ _
        clear cE5 fE5 HB HC HS lh lP
        generalize w5.setCell ⟨hb, 3, none⟩ (.slice (some ⟨b, 0, none⟩) (es.length + 1) c5) = W2 at *
        obtain ⟨F2, ev2, hm2⟩ := HMx.out
        have HM2 : Hid (Mr R w' W2 F hb qb F2 qv ev2 en ⟨q, st, es ++ [(1, (i : Int), tg, st)], nn⟩ s) := hm2
        obtain ⟨P6, cap6, e6, oP6, oR6, -, -, cp6, fp6⟩ := HM2.out.m.head (x := (mx, tg, false)) (l := l) HI.out HQ.out
        have hP6 : P6 = P5 := Option.some.inj (oP6.symm.trans oP)
        subst hP6
        have HM3 : Hid (Mr R w' (W2.setCell ⟨P6, 2, none⟩ (.bool true)) F hb qb F2 qv ev2 en ⟨q.set i ((mx, tg, true) :: l), st, es ++ [(1, (i : Int), tg, st)], nn⟩ s) := HM2.out.next (HM2.out.m.mark HI.out e6 oR6) (Keeps.setCell (B := F2) (Keeps.refl _ _) (HM2.out.m.fr i P6 HI.out oP6) _) (fun _ e => .inl e)
        clear hm2 HMx HM2 e6 oR6
        dsimp only at cp6
        go_wp2_with fail
        go_meet
        case rel => exact ⟨F2, ev2, HM3.out⟩
  case rest =>
    obtain ⟨F1, ev1, hmid⟩ := hcut
    obtain ⟨es1, hes1⟩ : ∃ es1, callE ⟨q, st, es, nn⟩ i (mx, tg, cl) = es1 := ⟨_, rfl⟩
    have HES : Hid (callE ⟨q, st, es, nn⟩ i (mx, tg, cl) = es1) := hes1
    rw [hes1] at hmid
    have hlen1 : es1.length ≤ 68719476001 := by
      rw [← hes1]; unfold callE; split
      · show es.length ≤ _; omega
      · simp; omega
    have HM1 : Hid (Mr R w' wc F hb qb F1 qv ev1 en ⟨q.set i ((mx, tg, true) :: l), st, es1, nn⟩ s) := hmid
    clear hes1 hmid cp2 fp2 cr ch HM H HCH
    have hset : i < (q.set i ((mx, tg, true) :: l)).length := by rw [List.length_set]; exact HI.out
    have cs : wc.cell? ⟨hb, 2, none⟩ = some (.int .i64 st) := (cell?_heap HM1.out.m.hc 2).trans rfl
    have fs : wc.frozen? ⟨hb, 2, none⟩ = false := frozen?_heap HM1.out.m.hc 2
    have hws : IntKind.i64.wrap (st + 1) = wrap64 (st + 1) := by rw [IntKind.wrap_i64]; unfold wrap64; omega
    have HM2 : Hid (Mr R w' (wc.setCell ⟨hb, 2, none⟩ (.int .i64 (wrap64 (st + 1)))) F hb qb F1 qv ev1 en ⟨q.set i ((mx, tg, true) :: l), wrap64 (st + 1), es1, nn⟩ s) := HM1.out.next (HM1.out.m.setSt _) (Keeps.setCell (B := F1) (Keeps.refl _ _) HM1.out.m.fh _) (fun _ e => .inl e)
    clear HM1
    go_wp2_with fail
    clear cs fs hws
    generalize wc.setCell ⟨hb, 2, none⟩ (.int .i64 (wrap64 (st + 1))) = W3 at *
    obtain ⟨P4, cap4, e4, oP4, -, cp4, -, -, -⟩ := HM2.out.m.head (x := (mx, tg, true)) (l := l) hset (by simp)
    have hP4 : P4 = P := Option.some.inj (oP4.symm.trans oP)
    subst hP4
    dsimp only at cp4
    have HB8 : Hid (W3.cell? ⟨hb, 0, none⟩ = some (.pointer (some ⟨R.bk, 0, none⟩)) ∧ W3.cell? ⟨P4, 0, none⟩ = some (.int .i64 (mx : Int))) := ⟨(cell?_heap HM2.out.m.hc 0).trans rfl, cp4⟩
    clear cp4 e4
    (refine wp_region_held_drew (S := (fun W => W.cell? ⟨hb, 0, none⟩ = some (.pointer (some ⟨R.bk, 0, none⟩)) ∧ W.cell? ⟨P4, 0, none⟩ = some (.int .i64 (mx : Int)))) (by kernel_rfl) HB8.out (fun hHeld => ?_); simp only [List.size_toArray, List.length_cons, List.length_nil, Nat.reduceAdd, Array.replicate_succ, Array.replicate_zero, List.push_toArray, List.append_toArray, List.nil_append, List.cons_append])
    refine rgT 0 (h := ?_)
    refine rgT 1 (h := ?_)
    refine rgT 2 (h := ?_)
    refine rgT 3 (h := ?_)
    refine rgT 4 (h := ?_)
    refine rgT 5 (h := ?_)
    refine rgT 6 (h := ?_)
    refine rgT 7 (h := ?_)
    (refine rgS 8 (h := fun K hK => ?_); go_simp)
    refine (rstep_any R hR W3.drew s (HM2.out.o.still (Keeps.refl _ _).drew) mx hx).mono ?_
    rintro e W4 ⟨rfl, o4, k4⟩
    have HM4 : Hid (Mr R w' W4 F hb qb F1 qv ev1 en ⟨q.set i ((mx, tg, true) :: l), wrap64 (st + 1), es1, nn⟩ (stI R.ins s mx)) := (HM2.out.still (Keeps.refl _ _).drew).go o4 k4
    clear o4 k4 HM2
    obtain ⟨P6, cap6, e6, oP6, -, cp6, -, -, -⟩ := HM4.out.m.head (x := (mx, tg, true)) (l := l) hset (by simp)
    have hP6 : P6 = P4 := Option.some.inj (oP6.symm.trans oP)
    subst hP6
    dsimp only at cp6
    (refine hK.out _ _ ⟨(cell?_heap HM4.out.m.hc 0).trans rfl, cp6⟩ (fun hHeld => ?_); clear hK K; try simp only [Act.put, List.setIfInBounds_toArray, List.set_cons_zero, List.set_cons_succ])
    refine rgT 9 (h := ?_)
    refine wpAnyH_done (by kernel_rfl) ?_ _
    clear e6 cp6 HB8
    obtain ⟨dn, hdn⟩ : ∃ dn, decide ((R.ins mx).length ≤ (stI R.ins s mx).pl mx) = dn := ⟨_, rfl⟩
    rw [hdn]
    have HDN : Hid ((pureM R.ins R.n).dn ((pureM R.ins R.n).st s mx) mx = dn) := hdn
    clear hdn
    cases dn with
    | false =>
      have HST : Hid (stepQ (pureM R.ins R.n) ⟨q, st, es, nn⟩ s i (mx, tg, cl) l = (⟨q.set i ((mx, tg, true) :: l), wrap64 (st + 1), es1, nn⟩, stI R.ins s mx, false)) := by
        show _ = _
        unfold stepQ
        dsimp only
        rw [if_neg (by rw [HDN.out]; decide), HES.out]
        rfl
      go_wp2
      go_ret
      rw [HST.out]
      exact ⟨rfl, _, _, _, _, HM4.out⟩
    | true =>
      have HST : Hid (stepQ (pureM R.ins R.n) ⟨q, st, es, nn⟩ s i (mx, tg, cl) l = (⟨q.set i l, wrap64 (st + 1), es1 ++ [(2, (i : Int), tg, wrap64 (st + 1))], nn ++ [mx]⟩, stI R.ins s mx, true)) := by
        show _ = _
        unfold stepQ
        dsimp only
        rw [if_pos HDN.out, HES.out]
        rfl
      go_wp2_with fail
      have oP : (qv i).ownBlock = some P6 := oP6
      obtain ⟨ea, ec, hev⟩ := HM4.out.m.oe.form
      have HV : Hid (ev1 = .slice ea es1.length ec) := hev
      obtain ⟨P5, cap5, e5, oP5, -, cp0, cp1, -, -⟩ := HM4.out.m.head (x := (mx, tg, true)) (l := l) hset (by simp)
      have hPP : P5 = P6 := Option.some.inj (oP5.symm.trans oP)
      subst hPP
      dsimp only at cp0 cp1
      have lh := HM4.out.m.lt _ HM4.out.m.fh
      have lP := HM4.out.m.lt _ (HM4.out.m.fr i P5 hset oP5)
      have cE : W4.drew.cell? ⟨hb, 3, none⟩ = some (.slice ea es1.length ec) := by rw [← hev]; exact (cell?_heap HM4.out.m.hc 3).trans rfl
      have HS : Hid (W4.drew.cell? ⟨hb, 2, none⟩ = some (.int .i64 (wrap64 (st + 1))) ∧ W4.drew.cell? ⟨P5, 1, none⟩ = some (.int .i64 tg)) := ⟨(cell?_heap HM4.out.m.hc 2).trans rfl, cp1⟩
      have HA : Hid (∀ o : Obj, (W4.drew.alloc o).cell? ⟨hb, 2, none⟩ = some (.int .i64 (wrap64 (st + 1))) ∧ (W4.drew.alloc o).cell? ⟨P5, 1, none⟩ = some (.int .i64 tg)) := fun o =>
        have e : ∀ g j, g < W4.heap.size → (W4.drew.alloc o).cell? ⟨g, j, none⟩ = W4.cell? ⟨g, j, none⟩ := fun g j hg => World.cell?_of_block (w := W4) (Below.heap_alloc W4.drew o g hg)
        ⟨(e _ _ lh).trans HS.out.1, (e _ _ lP).trans HS.out.2⟩
      have cE2 : (W4.alloc (.cells #[.int .i64 2, .int .i64 (i : Int), .int .i64 tg, .int .i64 (wrap64 (st + 1))] 36)).cell? ⟨hb, 3, none⟩ = some (.slice ea es1.length ec) := (World.cell?_of_block (w := W4) (Below.heap_alloc W4 _ hb lh)).trans cE
      have HO : Hid (OwE W4.drew 0 (.slice ea es1.length ec) es1) := by rw [← hev]; exact HM4.out.m.oe.later (Below.refl _ _).drew
      clear hev e5 cp0 cp1
      go_wp2_with fail
      (refine wp_region_held_drew (S := (fun W => W.cell? ⟨hb, 2, none⟩ = some (.int .i64 (wrap64 (st + 1))) ∧ W.cell? ⟨P5, 1, none⟩ = some (.int .i64 tg))) (by kernel_rfl) HS.out (fun hHeld => ?_); simp only [List.size_toArray, List.length_cons, List.length_nil, Nat.reduceAdd, Array.replicate_succ, Array.replicate_zero, List.push_toArray, List.append_toArray, List.nil_append, List.cons_append])
      refine rgT 0 (h := ?_)
      refine rgT 1 (h := ?_)
      refine rgT 2 (h := ?_)
      refine rgT 3 (h := ?_)
      refine rgT 5 (h := ?_)
      refine rgT 6 (h := ?_)
      refine rgT 7 (h := ?_)
      refine rgT 8 (h := ?_)
      refine rgT 9 (h := ?_)
      refine rgT 10 (h := ?_)
      refine rgT 11 (h := ?_)
      refine rgT 12 (h := ?_)
      refine rgT 13 (h := ?_)
      refine rgT 14 (h := ?_)
      (refine wpAnyH_ready (rs := [4, 15]) (by kernel_rfl) (by simp) ?_; refine rgA 4 (by rfl) (fun K hK => ?_) (rgA 15 (by rfl) (fun K hK => ?_) AllReadyH.nil) <;> go_simp)
      (refine hK.out _ _ HS.out (fun hHeld => ?_); clear hK K; try simp only [Act.put, List.setIfInBounds_toArray, List.set_cons_zero, List.set_cons_succ])
      (refine rgS 15 (h := fun K hK => ?_); go_simp)
      (refine hK.out _ _ (HA.out _) (fun hHeld => ?_); clear hK K; try simp only [Act.put, List.setIfInBounds_toArray, List.set_cons_zero, List.set_cons_succ])
      rotate_left 1
      (refine hK.out _ _ (HA.out _) (fun hHeld => ?_); clear hK K; try simp only [Act.put, List.setIfInBounds_toArray, List.set_cons_zero, List.set_cons_succ])
      (refine rgS 4 (h := fun K hK => ?_); go_simp)
      (refine hK.out _ _ (HA.out _) (fun hHeld => ?_); clear hK K; try simp only [Act.put, List.setIfInBounds_toArray, List.set_cons_zero, List.set_cons_succ])
      all_goals
        clear cE cE2
        (refine rgS 16 (h := fun K hK => ?_); rw [if_pos (by rfl)])
        refine app_lies_wp (cs := evC) (wr := W4.drew) (.tmp 78) (.tmp 89) 33 36 (by rfl) Tryz.underlying33 infoEv rfl (by decide) (fun _ => rfl) _ es1 (2, (i : Int), tg, wrap64 (st + 1)) HO.out (by rfl) W4.heap.size rfl (by rfl) (by intro u hu; simp [evC] at hu; rcases hu with rfl | rfl | rfl | rfl <;> rfl) _ rfl (by unfold maxLen; omega) (by omega) ?_
        intro b c5 w5 ho k5 hb5 hl5
        have k5' : Keeps (fun g => ev1.ownBlock = some g) W4 w5 := by rw [HV.out]; exact (Keeps.refl _ _).drew.trans k5
        have hb5' : ev1.ownBlock = some b ∨ W4.heap.size ≤ b := by rw [HV.out]; exact hb5
        have H6 := HM4.out.m.event k5' ho hb5' hl5
        have ce : ∀ g j, g < W4.heap.size → ev1.ownBlock ≠ some g → w5.cell? ⟨g, j, none⟩ = W4.cell? ⟨g, j, none⟩ := fun g j hg hn => k5'.cell (p := ⟨g, j, none⟩) hg hn
        have nh : ev1.ownBlock ≠ some hb := fun e => (HM4.out.m.evs hb e).1 rfl
        have nP : ev1.ownBlock ≠ some P5 := fun e => (HM4.out.m.rows i hset P5 oP).2.2.1 e
        have HB : Hid (w5.cell? ⟨hb, 2, none⟩ = some (.int .i64 (wrap64 (st + 1))) ∧ w5.cell? ⟨P5, 1, none⟩ = some (.int .i64 tg)) := ⟨(ce _ _ lh nh).trans HS.out.1, (ce _ _ lP nP).trans HS.out.2⟩
        have cE5 : w5.cell? ⟨hb, 3, none⟩ = some ev1 := (ce _ _ lh nh).trans ((cell?_heap HM4.out.m.hc 3).trans rfl)
        have fE5 : w5.frozen? ⟨hb, 3, none⟩ = false := (k5'.frozen (p := ⟨hb, 3, none⟩) lh nh).trans (frozen?_heap HM4.out.m.hc 3)
        have HC : Hid ((w5.setCell ⟨hb, 3, none⟩ (.slice (some ⟨b, 0, none⟩) (es1.length + 1) c5)).cell? ⟨hb, 2, none⟩ = some (.int .i64 (wrap64 (st + 1))) ∧ (w5.setCell ⟨hb, 3, none⟩ (.slice (some ⟨b, 0, none⟩) (es1.length + 1) c5)).cell? ⟨P5, 1, none⟩ = some (.int .i64 tg)) :=
          have e2 : ∀ g j, (g ≠ hb ∨ j ≠ 3) → (w5.setCell ⟨hb, 3, none⟩ (.slice (some ⟨b, 0, none⟩) (es1.length + 1) c5)).cell? ⟨g, j, none⟩ = w5.cell? ⟨g, j, none⟩ := fun g j hn => World.cell?_setCell_other _ _ _ _ (fun e => hn.elim (fun hn => hn (congrArg Addr.block e).symm) (fun hn => hn (congrArg Addr.off e).symm))
          ⟨(e2 _ _ (.inr (by decide))).trans HB.out.1, (e2 _ _ (.inl (HM4.out.m.rows i hset P5 oP).1)).trans HB.out.2⟩
        have HMx : Hid (∃ F2 ev2, Mr R w' (w5.setCell ⟨hb, 3, none⟩ (.slice (some ⟨b, 0, none⟩) (es1.length + 1) c5)) F hb qb F2 qv ev2 en ⟨q.set i ((mx, tg, true) :: l), wrap64 (st + 1), es1 ++ [(2, (i : Int), tg, wrap64 (st + 1))], nn⟩ (stI R.ins s mx)) := ⟨_, _, HM4.out.next H6 ((k5'.mono (fun g e => HM4.out.m.fe g e)).setCell (p := ⟨hb, 3, none⟩) HM4.out.m.fh _) (fun y hy => hy.elim .inl (fun e => by rw [e]; exact hb5'.elim (fun e => .inl (HM4.out.m.fe b e)) .inr))⟩
        clear ho k5 k5' hb5 hb5' hl5 H6 ce nh nP HO HA HV
        (refine hK.out _ _ HB.out (fun hHeld => ?_); clear hK K; try simp only [Act.put, List.setIfInBounds_toArray, List.set_cons_zero, List.set_cons_succ])
        refine rgT 17 (h := ?_)
        refine rgT 18 (h := ?_)
        (refine rgS 19 (h := fun K hK => ?_); go_simp)
        (refine hK.out _ _ HC.out (fun hHeld => ?_); clear hK K; try simp only [Act.put, List.setIfInBounds_toArray, List.set_cons_zero, List.set_cons_succ])
        refine wpAnyH_done (by kernel_rfl) ?_ _
        clear cE5 fE5 HB HC HS lh lP
        generalize w5.setCell ⟨hb, 3, none⟩ (.slice (some ⟨b, 0, none⟩) (es1.length + 1) c5) = W5 at *
        obtain ⟨F5, ev5, hm5⟩ := HMx.out
        have HM5 : Hid (Mr R w' W5 F hb qb F5 qv ev5 en ⟨q.set i ((mx, tg, true) :: l), wrap64 (st + 1), es1 ++ [(2, (i : Int), tg, wrap64 (st + 1))], nn⟩ (stI R.ins s mx)) := hm5
        clear hm5 HMx HM4
        generalize es1 ++ [(2, (i : Int), tg, wrap64 (st + 1))] = es5 at *
        obtain ⟨ta, tc, hen⟩ := HM5.out.m.ot.form
        have HEN : Hid (en = .slice ta nn.length tc) := hen
        obtain ⟨P7, cap7, e7, oP7, -, cp7, -, -, -⟩ := HM5.out.m.head (x := (mx, tg, true)) (l := l) hset (by simp)
        have hP7 : P7 = P5 := Option.some.inj (oP7.symm.trans oP)
        subst hP7
        dsimp only at cp7
        have lh := HM5.out.m.lt _ HM5.out.m.fh
        have lP := HM5.out.m.lt _ (HM5.out.m.fr i P7 hset oP7)
        have cT : W5.drew.cell? ⟨hb, 4, none⟩ = some (.slice ta nn.length tc) := by rw [← hen]; exact (cell?_heap HM5.out.m.hc 4).trans rfl
        have cT2 : (W5.alloc (.cells #[.int .i64 (mx : Int)] 3)).cell? ⟨hb, 4, none⟩ = some (.slice ta nn.length tc) := (World.cell?_of_block (w := W5) (Below.heap_alloc W5 _ hb lh)).trans cT
        have HO : Hid (OwI W5.drew 0 (.slice ta nn.length tc) nn) := by rw [← hen]; exact HM5.out.m.ot.later (Below.refl _ _).drew
        have HP5 : Hid (W5.drew.cell? ⟨P7, 0, none⟩ = some (.int .i64 (mx : Int))) := cp7
        have HP : Hid (∀ o : Obj, (W5.drew.alloc o).cell? ⟨P7, 0, none⟩ = some (.int .i64 (mx : Int))) := fun o => (World.cell?_of_block (w := W5) (Below.heap_alloc W5.drew o P7 lP)).trans cp7
        clear hen e7 cp7
        go_wp2_with fail
        (refine wp_region_held_drew (S := (fun W => W.cell? ⟨P7, 0, none⟩ = some (.int .i64 (mx : Int)))) (by kernel_rfl) HP5.out (fun hHeld => ?_); simp only [List.size_toArray, List.length_cons, List.length_nil, Nat.reduceAdd, Array.replicate_succ, Array.replicate_zero, List.push_toArray, List.append_toArray, List.nil_append, List.cons_append])
        refine rgT 0 (h := ?_)
        refine rgT 1 (h := ?_)
        refine rgT 2 (h := ?_)
        refine rgT 3 (h := ?_)
        refine rgT 5 (h := ?_)
        refine rgT 6 (h := ?_)
        refine rgT 7 (h := ?_)
        refine rgT 8 (h := ?_)
        (refine wpAnyH_ready (rs := [4, 9]) (by kernel_rfl) (by simp) ?_; refine rgA 4 (by rfl) (fun K hK => ?_) (rgA 9 (by rfl) (fun K hK => ?_) AllReadyH.nil) <;> go_simp)
        (refine hK.out _ _ HP5.out (fun hHeld => ?_); clear hK K; try simp only [Act.put, List.setIfInBounds_toArray, List.set_cons_zero, List.set_cons_succ])
        (refine rgS 9 (h := fun K hK => ?_); go_simp)
        (refine hK.out _ _ (HP.out _) (fun hHeld => ?_); clear hK K; try simp only [Act.put, List.setIfInBounds_toArray, List.set_cons_zero, List.set_cons_succ])
        rotate_left 1
        (refine hK.out _ _ (HP.out _) (fun hHeld => ?_); clear hK K; try simp only [Act.put, List.setIfInBounds_toArray, List.set_cons_zero, List.set_cons_succ])
        (refine rgS 4 (h := fun K hK => ?_); go_simp)
        (refine hK.out _ _ (HP.out _) (fun hHeld => ?_); clear hK K; try simp only [Act.put, List.setIfInBounds_toArray, List.set_cons_zero, List.set_cons_succ])
        all_goals
          clear cT cT2
          (refine rgS 10 (h := fun K hK => ?_); rw [if_pos (by rfl)])
          refine app_lies_wp (cs := inR) (wr := W5.drew) (.tmp 97) (.tmp 102) 91 3 (by rfl) Tryz.underlying91 infoInt1 rfl (by decide) (fun _ => rfl) _ nn mx HO.out (by rfl) W5.heap.size rfl (by rfl) (by intro u hu; simp [inR] at hu; subst hu; rfl) _ rfl (by unfold maxLen; omega) (by omega) ?_
          intro b6 c6 W6 ho k6 hb6 hl6
          have k6' : Keeps (fun g => en.ownBlock = some g) W5 W6 := by rw [HEN.out]; exact (Keeps.refl _ _).drew.trans k6
          have hb6' : en.ownBlock = some b6 ∨ W5.heap.size ≤ b6 := by rw [HEN.out]; exact hb6
          have m6 := HM5.out.m.ended k6' ho hb6' hl6
          have nh : en.ownBlock ≠ some hb := fun e => (HM5.out.m.ens hb e).1 rfl
          have nP : en.ownBlock ≠ some P7 := fun e => (HM5.out.m.rows i hset P7 oP7).2.2.2 e
          have c6P : W6.cell? ⟨P7, 0, none⟩ = some (.int .i64 (mx : Int)) := (k6'.cell (p := ⟨P7, 0, none⟩) lP nP).trans HP5.out
          have d6 : W6.cell? ⟨hb, 4, none⟩ = some en := (k6'.cell (p := ⟨hb, 4, none⟩) lh nh).trans ((cell?_heap HM5.out.m.hc 4).trans rfl)
          have f6 : W6.frozen? ⟨hb, 4, none⟩ = false := (k6'.frozen (p := ⟨hb, 4, none⟩) lh nh).trans (frozen?_heap HM5.out.m.hc 4)
          have HM6x : Hid (∃ F6 en6, Mr R w' (W6.setCell ⟨hb, 4, none⟩ (.slice (some ⟨b6, 0, none⟩) (nn.length + 1) c6)) F hb qb F6 qv ev5 en6 ⟨q.set i ((mx, tg, true) :: l), wrap64 (st + 1), es5, nn ++ [mx]⟩ (stI R.ins s mx)) := ⟨_, _, HM5.out.next m6 ((k6'.mono (fun g e => HM5.out.m.fn g e)).setCell (p := ⟨hb, 4, none⟩) HM5.out.m.fh _) (fun y hy => hy.elim .inl (fun e => by rw [e]; exact hb6'.elim (fun e => .inl (HM5.out.m.fn b6 e)) .inr))⟩
          have c7P : (W6.setCell ⟨hb, 4, none⟩ (.slice (some ⟨b6, 0, none⟩) (nn.length + 1) c6)).cell? ⟨P7, 0, none⟩ = some (.int .i64 (mx : Int)) := (World.cell?_setCell_other _ _ _ _ (fun e => (HM5.out.m.rows i hset P7 oP7).1 (congrArg Addr.block e).symm)).trans c6P
          clear ho k6 k6' hb6 hb6' hl6 m6 nh nP HO HP HM5 HEN
          (refine hK.out _ _ c6P (fun hHeld => ?_); clear hK K; try simp only [Act.put, List.setIfInBounds_toArray, List.set_cons_zero, List.set_cons_succ])
          refine rgT 11 (h := ?_)
          refine rgT 12 (h := ?_)
          (refine rgS 13 (h := fun K hK => ?_); go_simp)
          (refine hK.out _ _ c7P (fun hHeld => ?_); clear hK K; try simp only [Act.put, List.setIfInBounds_toArray, List.set_cons_zero, List.set_cons_succ])
          refine wpAnyH_done (by kernel_rfl) ?_ _
          clear c6P d6 f6 c7P HP5 lh lP
          generalize W6.setCell ⟨hb, 4, none⟩ (.slice (some ⟨b6, 0, none⟩) (nn.length + 1) c6) = W7 at *
          obtain ⟨F6, en6, hm6⟩ := HM6x.out
          have HM6 : Hid (Mr R w' W7 F hb qb F6 qv ev5 en6 ⟨q.set i ((mx, tg, true) :: l), wrap64 (st + 1), es5, nn ++ [mx]⟩ (stI R.ins s mx)) := hm6
          clear hm6 HM6x
          have HS9 : Hid (W7.cell? ⟨hb, 1, none⟩ = some (.slice (some ⟨qb, 0, none⟩) q.length q.length)) := by
            have := HM6.out.m.hc
            dsimp only at this
            rw [List.length_set] at this
            exact (cell?_heap this 1).trans rfl
          obtain ⟨P8, cap8, e8, oP8, oR8, -, -, -, -⟩ := HM6.out.m.head (x := (mx, tg, true)) (l := l) hset (by simp)
          have hP8 : P8 = P7 := Option.some.inj (oP8.symm.trans oP)
          subst hP8
          have cr := HM6.out.m.qc i hset
          rw [e8] at cr
          obtain ⟨-, hcap, -, -, -, -⟩ := owG_cap oR8
          have hcap' : l.length + 1 ≤ cap8 := hcap
          have i1 : (1 : Int) ≤ ((l.length + 1 : Nat) : Int) := by omega
          have i2 : ((l.length + 1 : Nat) : Int) ≤ (cap8 : Int) := by omega
          have hl9 : ((mx, tg, true) :: l).length = l.length + 1 := rfl
          rw [hl9] at cr
          have HR8 : Hid (OwR W7 (.slice (some ⟨P8, 0, none⟩) ((mx, tg, true) :: l).length cap8) ((mx, tg, true) :: l)) := oR8
          have lh := HM6.out.m.lt _ HM6.out.m.fh
          have lq := HM6.out.m.lt _ HM6.out.m.fq
          have cr2 : (W7.alloc (.cells #[] 219)).drew.cell? ⟨qb, i, none⟩ = some (.slice (some ⟨P8, 0, none⟩) (l.length + 1) cap8) := (World.cell?_of_block (w := W7) (Below.heap_alloc W7 _ qb lq)).trans cr
          have HS9a : Hid ((W7.alloc (.cells #[] 219)).drew.cell? ⟨hb, 1, none⟩ = some (.slice (some ⟨qb, 0, none⟩) q.length q.length)) := (World.cell?_of_block (w := W7) (Below.heap_alloc W7 _ hb lh)).trans HS9.out
          clear oR8 hcap hcap' hl9 e8
          go_wp2_with fail
          (refine wp_region_held_drew (S := (fun W => W.cell? ⟨hb, 1, none⟩ = some (.slice (some ⟨qb, 0, none⟩) q.length q.length))) (by kernel_rfl) HS9.out (fun hHeld => ?_); simp only [List.size_toArray, List.length_cons, List.length_nil, Nat.reduceAdd, Array.replicate_succ, Array.replicate_zero, List.push_toArray, List.append_toArray, List.nil_append, List.cons_append])
          refine rgT 0 (h := ?_)
          refine rgT 1 (h := ?_)
          refine rgT 2 (h := ?_)
          refine rgT 3 (h := ?_)
          refine rgT 4 (h := ?_)
          refine rgT 6 (h := ?_)
          refine rgT 7 (h := ?_)
          refine rgT 8 (h := ?_)
          refine rgT 9 (h := ?_)
          refine rgT 10 (h := ?_)
          refine rgT 11 (h := ?_)
          (refine wpAnyH_ready (rs := [5, 12]) (by kernel_rfl) (by simp) ?_; refine rgA 5 (by rfl) (fun K hK => ?_) (rgA 12 (by rfl) (fun K hK => ?_) AllReadyH.nil) <;> go_simp)
          (refine hK.out _ _ HS9a.out (fun hHeld => ?_); clear hK K; try simp only [Act.put, List.setIfInBounds_toArray, List.set_cons_zero, List.set_cons_succ])
          (refine rgS 12 (h := fun K hK => ?_); go_simp)
          (refine hK.out _ _ HS9a.out (fun hHeld => ?_); clear hK K; try simp only [Act.put, List.setIfInBounds_toArray, List.set_cons_zero, List.set_cons_succ])
          refine rgT 13 (h := ?_)
          rotate_left 1
          (refine hK.out _ _ HS9.out (fun hHeld => ?_); clear hK K; try simp only [Act.put, List.setIfInBounds_toArray, List.set_cons_zero, List.set_cons_succ])
          refine rgT 13 (h := ?_)
          (refine rgS 5 (h := fun K hK => ?_); go_simp)
          (refine hK.out _ _ HS9a.out (fun hHeld => ?_); clear hK K; try simp only [Act.put, List.setIfInBounds_toArray, List.set_cons_zero, List.set_cons_succ])
          all_goals
            clear cr cr2
            (refine rgS 14 (h := fun K hK => ?_); rw [if_pos (by rfl)])
            refine pop_wp W7 P8 cap8 (mx, tg, true) l HR8.out hll (.tmp 111) (.tmp 119) (by rfl) (by rfl) (by rfl) ?_
            intro b8 c8 W8 o8 k8 hb8 hl8
            have m8 := HM6.out.m.moved hset k8 o8 rfl hb8 hl8
            dsimp only at m8
            rw [List.set_set] at m8
            have hh8 : W8.cell? ⟨hb, 1, none⟩ = some (.slice (some ⟨qb, 0, none⟩) q.length q.length) := (k8.cell (p := ⟨hb, 1, none⟩) lh (fun e => e)).trans HS9.out
            have cr8 : W8.cell? ⟨qb, i, none⟩ = some (qv i) := (k8.cell (p := ⟨qb, i, none⟩) lq (fun e => e)).trans (HM6.out.m.qc i hset)
            obtain ⟨cq, hcq⟩ := HM6.out.m.qt
            have fr8 : W8.frozen? ⟨qb, i, none⟩ = false := (k8.frozen (p := ⟨qb, i, none⟩) lq (fun e => e)).trans (frozen?_heap hcq i)
            have hh9 : (W8.setCell ⟨qb, i, none⟩ (.slice (some ⟨b8, 0, none⟩) l.length c8)).cell? ⟨hb, 1, none⟩ = some (.slice (some ⟨qb, 0, none⟩) q.length q.length) := (World.cell?_setCell_other _ _ _ _ (fun e => HM6.out.m.hq (congrArg Addr.block e).symm)).trans hh8
            have HM9 : Hid (∃ F' qv' ev' en', Mr R w' (W8.setCell ⟨qb, i, none⟩ (.slice (some ⟨b8, 0, none⟩) l.length c8)) F hb qb F' qv' ev' en' ⟨q.set i l, wrap64 (st + 1), es5, nn ++ [mx]⟩ (stI R.ins s mx)) := ⟨_, _, _, _, HM6.out.next m8 ((k8.mono (fun g e => e.elim)).setCell (p := ⟨qb, i, none⟩) HM6.out.m.fq _) (fun y hy => hy.elim .inl (fun e => .inr (by rw [e]; exact hb8)))⟩
            clear o8 k8 m8 hcq HM6 HR8 HS9a lh lq hb8 hl8
            (refine hK.out _ _ hh8 (fun hHeld => ?_); clear hK K; try simp only [Act.put, List.setIfInBounds_toArray, List.set_cons_zero, List.set_cons_succ])
            refine rgT 15 (h := ?_)
            (refine rgS 16 (h := fun K hK => ?_); go_simp)
            (refine hK.out _ _ hh9 (fun hHeld => ?_); clear hK K; try simp only [Act.put, List.setIfInBounds_toArray, List.set_cons_zero, List.set_cons_succ])
            refine wpAnyH_done (by kernel_rfl) ?_ _
            clear hh8 cr8 fr8 hh9 HS9
            generalize (if cap8 = 1 then some (⟨P8, 0, none⟩ : Addr) else some ⟨P8, 3, none⟩) = yy at *
            generalize W8.setCell ⟨qb, i, none⟩ (.slice (some ⟨b8, 0, none⟩) l.length c8) = W9 at *
            go_wp2
            go_ret
            rw [HST.out]
            exact ⟨rfl, HM9.out⟩
end Go.Proofs.YtdpebhdjcgiboaaGreat
