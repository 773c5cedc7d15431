import Derived.Test.YtdpebhdjcgiboaaGreatSrI
namespace Go.Proofs.YtdpebhdjcgiboaaGreat
set_option linter.unusedSimpArgs false
open Go.ChangeShapes Go.WideShapes Go.ChangeAt Go.RowKit Go.MuLone Go.RwLone
set_option linter.unusedVariables false
set_option maxRecDepth 100000
set_option maxHeartbeats 3200000
theorem infoPl2 : (Tryz.prog.info? 219).map (fun i => (i.zero, i.size, i.bytes)) = some (some (.agg #[.int .i64 0, .int .i64 0, .bool false]), 3, 24) := by kernel_rfl
/-- The document's Submit, of one machine, to a worker that has none. -/
theorem rsubmit_one (w : World) (F : Nat → Prop) (pt hb qb : Nat) (qv : Nat → Value) (ev en : Value) (h : Hp) (m : Rh w F pt hb qb qv ev en h) (i : Nat) (hi : i < h.q.length) (hv : qv i = .slice none 0 0) (g mach : Nat) (hg : w.cell? ⟨g, 0, none⟩ = some (.int .i64 (mach : Int))) (hF : ¬ F g) (hi64 : i ≤ 100) :
    Calls Tryz.prog 62 #[.pointer (some ⟨hb, 0, none⟩), .int .i64 (i : Int), .int .i64 (i : Int), .slice (some ⟨g, 0, none⟩) 1 1] w fun e w' => e = .returned (.int .i64 0) ∧ ∃ b c, Rh w' (fun x => F x ∨ x = b) pt hb qb (upd qv i (.slice (some ⟨b, 0, none⟩) 1 c)) ev en { h with q := h.q.set i [(mach, (i : Int), false)] } ∧ Keeps (fun x => x = qb) w w' ∧ w.heap.size ≤ b := by
  have HM : Hid (Rh w F pt hb qb qv ev en h) := m
  have ch : w.cell? ⟨hb, 1, none⟩ = some (.slice (some ⟨qb, 0, none⟩) h.q.length h.q.length) := (cell?_heap m.hc 1).trans rfl
  have cr : w.cell? ⟨qb, i, none⟩ = some (.slice none 0 0) := by rw [← hv]; exact m.qc i hi
  have lh := m.lt _ m.fh
  have lq := m.lt _ m.fq
  have lg : g < w.heap.size := cell_lt hg
  have hwk := rhas_any w hb h.q.length (some ⟨qb, 0, none⟩) h.q.length (i : Int) ch
  have hdec : decide (0 ≤ (i : Int) ∧ (i : Int) < (h.q.length : Int)) = true := by simp; omega
  rw [hdec] at hwk
  have HWK : Hid (∀ _ : Unit, _) := fun _ => hwk
  have i0 : (0 : Int) ≤ (i : Int) := Int.natCast_nonneg _
  have i1 : (i : Int) < (h.q.length : Int) := by omega
  obtain ⟨cq, hcq⟩ := m.qt
  have HQT : Hid (w.heap[qb]? = some (.cells cq 217) ∧ hb ≠ qb ∧ F hb ∧ F qb ∧ ¬ F g) := ⟨hcq, m.hq, m.fh, m.fq, hF⟩
  obtain ⟨n, hn⟩ : ∃ n, h.q.length = n := ⟨_, rfl⟩
  rw [hn] at ch i1
  clear m hwk hdec hv hcq hF
  go_enter Tryz.func62, Tryz.ntmps62
  go_wp2_with fail
  refine (HWK.out ()).mono ?_
  rintro e w' ⟨rfl, rfl⟩
  go_wp2_with fail
  have HC : Hid (w'.cell? ⟨hb, 1, none⟩ = some (.slice (some ⟨qb, 0, none⟩) n n) ∧ w'.cell? ⟨qb, i, none⟩ = some (.slice none 0 0) ∧ w'.cell? ⟨g, 0, none⟩ = some (.int .i64 (mach : Int))) := ⟨ch, cr, hg⟩
  clear ch cr hg
  go_loopw [9] (fun c wr => (c = .int .i64 0 ∧ w' = wr) ∨ (c = .int .i64 1 ∧ ∃ b c, Rh wr (fun x => F x ∨ x = b) pt hb qb (upd qv i (.slice (some ⟨b, 0, none⟩) 1 c)) ev en { h with q := h.q.set i [(mach, (i : Int), false)] } ∧ Keeps (fun x => x = qb) w' wr ∧ w'.heap.size ≤ b)) (fun c _ => 1 - (intOf c).toNat)
  case atStart => exact .inl ⟨rfl, rfl⟩
  case round =>
    rcases hrel with ⟨rfl, rfl⟩ | ⟨rfl, hP⟩
    · obtain ⟨ch, cr, hg⟩ := HC.out
      have HS : Hid (w'.drew.cell? ⟨hb, 1, none⟩ = some (.slice (some ⟨qb, 0, none⟩) n n) ∧ w'.drew.cell? ⟨g, 0, none⟩ = some (.int .i64 (mach : Int))) := ⟨ch, hg⟩
      have HA : Hid (∀ o : Obj, (w'.drew.alloc o).cell? ⟨hb, 1, none⟩ = some (.slice (some ⟨qb, 0, none⟩) n n) ∧ (w'.drew.alloc o).cell? ⟨g, 0, none⟩ = some (.int .i64 (mach : Int))) := fun o =>
        have e : ∀ g j, g < w'.heap.size → (w'.drew.alloc o).cell? ⟨g, j, none⟩ = w'.cell? ⟨g, j, none⟩ := fun g j hg => World.cell?_of_block (w := w') (Below.heap_alloc w'.drew o g hg)
        ⟨(e _ _ lh).trans ch, (e _ _ lg).trans hg⟩
      have cE : w'.drew.cell? ⟨qb, i, none⟩ = some (.slice none 0 0) := cr
      have cE2 : (w'.alloc (.cells #[.int .i64 (mach : Int), .int .i64 (i : Int), .bool false] 219)).cell? ⟨qb, i, none⟩ = some (.slice none 0 0) := (World.cell?_of_block (w := w') (Below.heap_alloc w' _ qb lq)).trans cr
      have hwi : IntKind.i64.wrap (i : Int) = (i : Int) := by rw [IntKind.wrap_i64]; omega
      clear ch cr hg
      go_wp2_with fail
      (refine wp_region_held_drew (S := (fun W => W.cell? ⟨hb, 1, none⟩ = some (.slice (some ⟨qb, 0, none⟩) n n) ∧ W.cell? ⟨g, 0, none⟩ = some (.int .i64 (mach : Int)))) (by kernel_rfl) HS.out (fun hHeld => ?_); simp only [List.size_toArray, List.length_cons, List.length_nil, Nat.reduceAdd, Array.replicate_succ, Array.replicate_zero, List.push_toArray, List.append_toArray, List.nil_append, List.cons_append])
      refine rgT 0 (h := ?_)
      refine rgT 1 (h := ?_)
      refine rgT 2 (h := ?_)
      refine rgT 3 (h := ?_)
      refine rgT 4 (h := ?_)
      refine rgT 5 (h := ?_)
      refine rgT 6 (h := ?_)
      refine rgT 7 (h := ?_)
      refine rgT 8 (h := ?_)
      refine rgT 9 (h := ?_)
      refine rgT 10 (h := ?_)
      refine rgT 12 (h := ?_)
      refine rgT 13 (h := ?_)
      refine rgT 14 (h := ?_)
      refine rgT 15 (h := ?_)
      refine rgT 16 (h := ?_)
      refine rgT 17 (h := ?_)
      refine rgT 18 (h := ?_)
      refine rgT 19 (h := ?_)
      (refine wpAnyH_ready (rs := [11, 20]) (by kernel_rfl) (by simp) ?_; refine rgA 11 (by rfl) (fun K hK => ?_) (rgA 20 (by rfl) (fun K hK => ?_) AllReadyH.nil) <;> go_simp)
      (refine hK.out _ _ HS.out (fun hHeld => ?_); clear hK K; try simp only [Act.put, List.setIfInBounds_toArray, List.set_cons_zero, List.set_cons_succ])
      (refine rgS 20 (h := fun K hK => ?_); go_simp)
      (refine hK.out _ _ (HA.out _) (fun hHeld => ?_); clear hK K; try simp only [Act.put, List.setIfInBounds_toArray, List.set_cons_zero, List.set_cons_succ])
      rotate_left 1
      (refine hK.out _ _ (HA.out _) (fun hHeld => ?_); clear hK K; try simp only [Act.put, List.setIfInBounds_toArray, List.set_cons_zero, List.set_cons_succ])
      (refine rgS 11 (h := fun K hK => ?_); go_simp)
      (refine hK.out _ _ (HA.out _) (fun hHeld => ?_); clear hK K; try simp only [Act.put, List.setIfInBounds_toArray, List.set_cons_zero, List.set_cons_succ])
      all_goals
        clear cE cE2
        (refine rgS 21 (h := fun K hK => ?_); rw [if_pos (by rfl)])
        refine app_lies_wp (cs := plR) (wr := w'.drew) (.tmp 43) (.tmp 52) 217 219 (by rfl) Tryz.underlying217 infoPl2 rfl (by decide) (fun _ => rfl) (.slice none 0 0) [] (mach, (i : Int), false) (OwG.nil _ _ _ _ _) (by rfl) w'.heap.size rfl (by rfl) (plR_one _) _ rfl (by unfold maxLen; simp) (by simp) ?_
        intro b c5 w5 ho k5 hb5 hl5
        simp only [List.length_nil, Nat.zero_add, List.nil_append] at ho ⊢
        have k6 : Keeps (fun _ => False) w' w5 := ((Keeps.refl _ _).drew.trans (k5.mono (fun x e => by cases e)))
        have hb6 : w'.heap.size ≤ b := hb5.elim (fun e => by cases e) (fun e => e)
        have m6 := HM.out.moved hi k6 ho rfl hb6 hl5
        have e5 : ∀ x j, x < w'.heap.size → w5.cell? ⟨x, j, none⟩ = w'.cell? ⟨x, j, none⟩ := fun x j hx => k6.cell (p := ⟨x, j, none⟩) hx (fun e => e)
        have s5 : w5.cell? ⟨hb, 1, none⟩ = some (.slice (some ⟨qb, 0, none⟩) n n) ∧ w5.cell? ⟨g, 0, none⟩ = some (.int .i64 (mach : Int)) := ⟨(e5 _ _ lh).trans HC.out.1, (e5 _ _ lg).trans HC.out.2.2⟩
        have cr5 : w5.cell? ⟨qb, i, none⟩ = some (.slice none 0 0) := (e5 _ _ lq).trans HC.out.2.1
        have fr5 : w5.frozen? ⟨qb, i, none⟩ = false := (k6.frozen (p := ⟨qb, i, none⟩) lq (fun e => e)).trans (frozen?_heap HQT.out.1 i)
        have s6 : (w5.setCell ⟨qb, i, none⟩ (.slice (some ⟨b, 0, none⟩) 1 c5)).cell? ⟨hb, 1, none⟩ = some (.slice (some ⟨qb, 0, none⟩) n n) ∧ (w5.setCell ⟨qb, i, none⟩ (.slice (some ⟨b, 0, none⟩) 1 c5)).cell? ⟨g, 0, none⟩ = some (.int .i64 (mach : Int)) :=
          have e2 : ∀ x j, x ≠ qb → (w5.setCell ⟨qb, i, none⟩ (.slice (some ⟨b, 0, none⟩) 1 c5)).cell? ⟨x, j, none⟩ = w5.cell? ⟨x, j, none⟩ := fun x j hn => World.cell?_setCell_other _ _ _ _ (fun e => hn (congrArg Addr.block e).symm)
          ⟨(e2 _ _ HQT.out.2.1).trans s5.1, (e2 g 0 (fun e => HQT.out.2.2.2.2 (by rw [e]; exact HQT.out.2.2.2.1))).trans s5.2⟩
        have HN : Hid (Rh (w5.setCell ⟨qb, i, none⟩ (.slice (some ⟨b, 0, none⟩) 1 c5)) (fun x => F x ∨ x = b) pt hb qb (upd qv i (.slice (some ⟨b, 0, none⟩) 1 c5)) ev en { h with q := h.q.set i [(mach, (i : Int), false)] } ∧ Keeps (fun x => x = qb) w' (w5.setCell ⟨qb, i, none⟩ (.slice (some ⟨b, 0, none⟩) 1 c5)) ∧ w'.heap.size ≤ b) := ⟨m6, Keeps.setCell (B := fun x => x = qb) (k6.mono (fun _ e => e.elim)) (p := ⟨qb, i, none⟩) rfl _, hb6⟩
        clear ho k5 hb5 hl5 m6 k6 e5 hb6
        (refine hK.out _ _ s5 (fun hHeld => ?_); clear hK K; try simp only [Act.put, List.setIfInBounds_toArray, List.set_cons_zero, List.set_cons_succ])
        refine rgT 22 (h := ?_)
        (refine rgS 23 (h := fun K hK => ?_); go_simp)
        (refine hK.out _ _ s6 (fun hHeld => ?_); clear hK K; try simp only [Act.put, List.setIfInBounds_toArray, List.set_cons_zero, List.set_cons_succ])
        refine wpAnyH_done (by kernel_rfl) ?_ _
        clear s5 s6 cr5 fr5
        go_wp2
        go_roundw
        case rel => exact .inr ⟨rfl, b, c5, HN.out⟩
        case measure => simp [intOf]
    · have HP : Hid (∃ b c, Rh wr (fun x => F x ∨ x = b) pt hb qb (upd qv i (.slice (some ⟨b, 0, none⟩) 1 c)) ev en { h with q := h.q.set i [(mach, (i : Int), false)] } ∧ Keeps (fun x => x = qb) w' wr ∧ w'.heap.size ≤ b) := hP
      clear hP
      go_wp2
      go_ret
      exact ⟨rfl, HP.out⟩
def iaV (v : Value) : Option Addr := match v with | .slice a _ _ => a | _ => none
def icV (v : Value) : Nat := match v with | .slice _ _ c => c | _ => 0
/-- A program just made, in its bench. -/
theorem mkR {w1 w4 : World} {B : Nat} {cv tvv hv : Value} {cs : List Int} {ts : List (List I8)} {qs : List Tn} (p : Pn w1 B cv tvv cs qs) (hB : B ≤ w1.heap.size) (k : Below w1.heap.size w1 w4) (hbk : w4.heap[w1.heap.size]? = some (.cells #[cv, tvv, hv] 87)) (hts : qs.map (fun q => q.2.2) = ts) (hsd : soundP cs ts = true) :
    ∃ R : Rd, R.bk = w1.heap.size ∧ R.n = ts.length ∧ R.wd = cs.length ∧ R.ins = insL ts ∧ RdOk R ∧ RP R w4 (begA cs ts).2 ∧ R.wd ≤ R.cc ∧ ∀ y, fR R y → B ≤ y ∧ y ≤ w1.heap.size := by
  obtain ⟨hc4, hn4, hall⟩ := sound_facts hsd
  have hql : qs.length = ts.length := by rw [← hts]; simp
  have p4 := p.later k
  obtain ⟨cb, cc, hcv, hcb1, hcb2⟩ := owG_some p.oc (by intro e; rw [e] at hc4; simp at hc4)
  obtain ⟨tb, tc, htv, htb1, htb2⟩ := owG_some p.ot (by intro e; rw [e] at hql; simp at hql; omega)
  subst hcv htv
  have hq : ∀ i (hi : i < ts.length), ∃ a c, qs[i].1 = .slice a (insL ts i).length c ∧ (qs[i]'(by omega)).2.2 = insL ts i := fun i hi => by
    have e : (qs[i]'(by omega)).2.2 = insL ts i := by
      have h1 : (qs.map (fun q => q.2.2))[i]? = some (qs[i]'(by omega)).2.2 := by
        rw [List.getElem?_map, List.getElem?_eq_getElem (show i < qs.length from by omega)]
        rfl
      rw [hts] at h1
      unfold insL
      rw [h1]
      rfl
    obtain ⟨a, c, e2⟩ := (p.oi qs[i] (List.getElem_mem (by omega))).form
    rw [e] at e2
    exact ⟨a, c, e2, e⟩
  obtain ⟨ccur, hct⟩ := blk p4.oc rfl
  obtain ⟨tcur, htt⟩ := blk p4.ot rfl
  let R : Rd := { bk := w1.heap.size, tb := tb, cb := cb, rb := fun i => ((qs[i]?).map (fun q => q.2.1)).getD 0, ia := fun i => ((qs[i]?).map (fun q => iaV q.1)).getD none, icap := fun i => ((qs[i]?).map (fun q => icV q.1)).getD 0, wd := cs.length, n := ts.length, cc := cc, tc := tc, ins := insL ts }
  have rbE : ∀ i (hi : i < ts.length), R.rb i = (qs[i]'(by omega)).2.1 := fun i hi => by simp [R, show i < qs.length from by omega]
  have rbP : ∀ i (hi : i < ts.length), w1.heap[R.rb i]? = some (.cells zr4 55) ∧ w4.heap[R.rb i]? = some (.cells zr4 55) ∧ B ≤ R.rb i ∧ cb < R.rb i := fun i hi => by
    rw [rbE i hi]
    have h1 := p.rr qs[i] (List.getElem_mem (by omega))
    exact ⟨h1.1, (p4.rr qs[i] (List.getElem_mem (by omega))).1, h1.2.1, h1.2.2 cb rfl⟩
  have iaP : ∀ i (hi : i < ts.length), OwG iC 106 8 w4 B (.slice (R.ia i) (insL ts i).length (R.icap i)) (insL ts i) ∧ OwG iC 106 8 w1 B (.slice (R.ia i) (insL ts i).length (R.icap i)) (insL ts i) ∧ (qs[i]'(by omega)).1 = .slice (R.ia i) (insL ts i).length (R.icap i) := fun i hi => by
    obtain ⟨a, c, e1, e2⟩ := hq i hi
    have ea : R.ia i = a := by simp [R, show i < qs.length from by omega, e1, iaV]
    have ec : R.icap i = c := by simp [R, show i < qs.length from by omega, e1, icV]
    have h1 := p4.oi qs[i] (List.getElem_mem (by omega))
    have h2 := p.oi qs[i] (List.getElem_mem (by omega))
    rw [e1, e2] at h1 h2
    rw [ea, ec]
    exact ⟨h1, h2, e1⟩
  have fw : ∀ y, fRw R y → (∃ c t, w4.heap[y]? = some (.cells c t) ∧ (t = 169 ∨ t = 55)) ∧ B ≤ y ∧ y < w1.heap.size := fun y hy => by
    rcases hy with rfl | rfl | ⟨j, hj, rfl⟩
    · exact ⟨⟨_, _, htt, .inl rfl⟩, htb1, htb2⟩
    · exact ⟨⟨_, _, hct, .inr rfl⟩, hcb1, hcb2⟩
    · have := rbP j hj
      exact ⟨⟨_, _, this.2.1, .inr rfl⟩, this.2.2.1, (Array.getElem?_eq_some_iff.1 this.1).1⟩
  have ibP : ∀ j ib, j < ts.length → R.ia j = some ⟨ib, 0, none⟩ → (∃ c, w4.heap[ib]? = some (.cells c 106)) ∧ B ≤ ib ∧ ib < w1.heap.size := fun j ib hj e => by
    have h1 := iaP j hj
    rw [e] at h1
    obtain ⟨cur, hcur⟩ := blk h1.1 rfl
    have := World.ownsRow.lt h1.2.1 ib rfl
    exact ⟨⟨cur, hcur⟩, this⟩
  have fA : ∀ y, fR R y → B ≤ y ∧ y ≤ w1.heap.size := fun y hy => by
    rcases hy with hy | rfl | ⟨j, hj, e⟩
    · have := fw y hy; omega
    · exact ⟨hB, Nat.le_refl _⟩
    · have := ibP j y hj e; omega
  refine ⟨R, rfl, rfl, rfl, rfl, ⟨?_, ?_, fun j hj => ⟨?_, ?_⟩, fun i j hi hj hne => ?_, fun j ib hj e hf => ?_, fun i hi x hx => ?_, fun i hi => ?_, by show ts.length ≤ 4; omega⟩, ⟨?_, ?_, fun i hi => ?_, fun i hi => ?_, fun i hi => ?_, fun i j hi hj => ?_, fun c hc => ?_, fun i hi => ?_, fun g j hg => ?_, fun y hy => ?_⟩, (owG_cap p.oc).2.1, fA⟩
  · intro hf
    have := (fw _ hf).2.2
    exact Nat.lt_irrefl _ this
  · exact neT htt hct (by decide)
  · exact neT (rbP j hj).2.1 htt (by decide)
  · have := (rbP j hj).2.2.2
    intro e
    have e' : R.rb j = cb := e
    omega
  · rw [rbE i hi, rbE j hj]
    have hp := List.pairwise_iff_getElem.1 p.inc
    rcases Nat.lt_or_gt_of_ne hne with h | h
    · have := hp i j (by rw [hql]; exact hi) (by rw [hql]; exact hj) h
      omega
    · have := hp j i (by rw [hql]; exact hj) (by rw [hql]; exact hi) h
      omega
  · obtain ⟨⟨c, hc⟩, _⟩ := ibP j ib hj e
    obtain ⟨⟨c', t, hc', ht⟩, _⟩ := fw ib hf
    rw [hc] at hc'
    injection hc' with hc'
    injection hc' with _ e2 _
    rcases ht with e3 | e3
    · exact absurd (e2.trans e3) (by decide)
    · exact absurd (e2.trans e3) (by decide)
  · have hi' : i < ts.length := hi
    have : insL ts i = ts[i] := by simp [insL, hi']
    have hx' : x ∈ insL ts i := hx
    rw [this] at hx'
    exact (hall i hi').2 x hx'
  · have hi' : i < ts.length := hi
    have : insL ts i = ts[i] := by simp [insL, hi']
    show (insL ts i).length ≤ 1000
    rw [this]
    have := (hall i hi').1
    omega
  · exact (cell?_heap hbk 0).trans rfl
  · show w4.cell? ⟨w1.heap.size, 1, none⟩ = some (.slice (some ⟨tb, 0, none⟩) ts.length tc)
    rw [← hql]
    exact (cell?_heap hbk 1).trans rfl
  · have hi' : i < qs.length := by rw [hql]; exact hi
    have := World.ownsRow.cellAt p4.ot (i * 3 + 0) (by omega)
    rw [flat_get tdC 3 (fun _ => rfl) qs i hi' 0 (by decide)] at this
    rw [Nat.add_zero] at this
    show w4.cell? ⟨tb, i * 3, none⟩ = _
    rw [this]
    show some qs[i].1 = _
    rw [(iaP i hi).2.2]
  · have hi' : i < qs.length := by rw [hql]; exact hi
    have := World.ownsRow.cellAt p4.ot (i * 3 + 1) (by omega)
    rw [flat_get tdC 3 (fun _ => rfl) qs i hi' 1 (by decide)] at this
    show w4.cell? ⟨tb, i * 3 + 1, none⟩ = _
    rw [this, rbE i hi]
    rfl
  · have hi' : i < qs.length := by rw [hql]; exact hi
    have := World.ownsRow.cellAt p4.ot (i * 3 + 2) (by omega)
    rw [flat_get tdC 3 (fun _ => rfl) qs i hi' 2 (by decide)] at this
    show w4.cell? ⟨tb, i * 3 + 2, none⟩ = _
    rw [this]
    rfl
  · show _ = some (Value.int .u64 0)
    rw [cell?_heap (rbP i hi).2.1 j, ← Array.getElem?_toList, toList_madeCells_one]
    have : j = 0 ∨ j = 1 ∨ j = 2 ∨ j = 3 := by omega
    rcases this with rfl | rfl | rfl | rfl <;> rfl
  · have := World.ownsRow.cellAt p4.oc c (by have : c < cs.length := hc; omega)
    show w4.cell? ⟨cb, c, none⟩ = _
    rw [this, flat_wd, List.getElem?_map, List.getElem?_eq_getElem hc]
    show some (Value.int .u64 cs[c]) = some (Value.int .u64 (wds cs c))
    unfold wds
    rw [List.getElem?_eq_getElem hc]
    rfl
  · intro m hm
    have h1 := (iaP i hi).1
    have hne : insL ts i ≠ [] := by
      intro e
      have hm' : m < (insL ts i).length := hm
      rw [e] at hm'
      simp at hm'
    obtain ⟨ib, cp, e, _, hl⟩ := owG_some h1 hne
    injection e with e _ _
    rw [e] at h1
    refine ⟨ib, e, In8.of (x := (insL ts i)[m]) (k := m) (fun j hj => ?_) hl⟩
    rw [World.ownsRow.cellAt h1 (m * 8 + j) (by have : m < (insL ts i).length := hm; omega), flat_get iC 8 (fun _ => rfl) (insL ts i) m hm j hj]
  · obtain ⟨⟨c, t, hc, _⟩, _⟩ := fw g hg
    exact frozen?_heap hc j
  · have := fA y hy
    have := (Array.getElem?_eq_some_iff.1 hbk).1
    omega
end Go.Proofs.YtdpebhdjcgiboaaGreat
