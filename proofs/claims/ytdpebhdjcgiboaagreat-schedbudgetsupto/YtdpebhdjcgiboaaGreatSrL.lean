import Derived.Test.YtdpebhdjcgiboaaGreatSrK
namespace Go.Proofs.YtdpebhdjcgiboaaGreat
set_option linter.unusedSimpArgs false
open Go.ChangeShapes Go.WideShapes Go.ChangeAt Go.RowKit Go.MuLone Go.RwLone
set_option linter.unusedVariables false
set_option maxRecDepth 100000
set_option maxHeartbeats 3200000
theorem rlay_no (w : World) (C : Nat) (ca : Option Addr) (cc : Nat) (ta : Option Addr) (tc : Nat) (tvf : Nat → Value) (cs : List Int) (tl : List (List I8)) (h : LitG w C ca cc ta tc tvf cs tl) (hC : C ≤ w.heap.size) (hsd : soundP cs tl = false) :
    Calls Tryz.prog 32 #[.agg (litC ca cs.length cc ta tl.length tc)] w fun e w' => e = .returned (.tuple #[.pointer none, .int .i64 35]) ∧ Keeps (fun _ => False) w w' := by
  have k0 : Keeps (fun _ => False) w (lgW w (litC ca cs.length cc ta tl.length tc)) := (Keeps.refl _ _).alloc _
  have HK0 : Hid (Keeps (fun _ => False) w (lgW w (litC ca cs.length cc ta tl.length tc))) := k0
  have HI := rSound_any (lgW w (litC ca cs.length cc ta tl.length tc)) C ca cc ta tc tvf cs tl (h.later (k0.below hC (fun _ _ e => e))) (by rw [szAl]; omega)
  rw [hsd] at HI
  have HII : Hid (∀ _ : Unit, _) := fun _ => HI
  clear h hsd HI k0
  go_enter Tryz.func32, Tryz.ntmps32
  go_wp2_with fail
  refine (HII.out ()).mono ?_
  rintro e w2 ⟨rfl, k2⟩
  go_wp2
  go_ret2
  exact ⟨rfl, HK0.out.trans k2⟩
abbrev bxA (cv tvv : Value) : Array Value := #[cv, tvv, .pointer none]
/-- A harness just made. -/
theorem Rh.fresh {w w' : World} (n bk : Nat) (h2 : n ≤ 16) (k : Keeps (fun _ => False) ((w.alloc (.cells (madeCells #[.slice none 0 0] n) 217)).alloc (.cells (haR bk w.heap.size n 0 (.slice none 0 0) (.slice none 0 0)) 158)) w') :
    Rh w' (fun y => y = w.heap.size ∨ y = w.heap.size + 1) bk (w.heap.size + 1) w.heap.size (fun _ => .slice none 0 0) (.slice none 0 0) (.slice none 0 0) (hpT n 0) := by
  have s1 : ((w.alloc (.cells (madeCells #[.slice none 0 0] n) 217)).alloc (.cells (haR bk w.heap.size n 0 (.slice none 0 0) (.slice none 0 0)) 158)).heap.size = w.heap.size + 2 := by rw [szAl, szAl]
  have eq : w'.heap[w.heap.size]? = some (.cells (madeCells #[.slice none 0 0] n) 217) := (k.block _ (by omega) (fun e => e)).trans ((Below.heap_alloc _ _ _ (by rw [szAl]; omega)).trans (heap_alloc_last _ _ _ rfl))
  have eh : w'.heap[w.heap.size + 1]? = some (.cells (haR bk w.heap.size n 0 (.slice none 0 0) (.slice none 0 0)) 158) := (k.block _ (by omega) (fun e => e)).trans (heap_alloc_last _ _ _ (szAl _ _).symm)
  have hl := hpT_len n 0
  refine ⟨by rw [hl]; exact eh, ⟨_, eq⟩, fun i hi => ?_, fun i hi => ?_, (fun i j g _ _ _ e => by cases e), OwG.nil _ _ _ _ _, OwG.nil _ _ _ _ _, .inr rfl, .inl rfl, (fun i g _ e => by cases e), (fun g e => by cases e), (fun g e => by cases e), fun x hx => ?_, by rw [hl]; exact h2⟩
  · rw [hl] at hi
    rw [cell?_heap eq i, ← Array.getElem?_toList, toList_madeCells_one]
    simp [hi]
  · have : (hpT n 0).q[i] = [] := by simp [hpT]
    rw [this]
    exact OwG.nil _ _ _ _ _
  · have := k.size
    rw [s1] at this
    rcases hx with rfl | rfl <;> omega
/-- The document's Lay. -/
theorem rlay_any (w : World) (C : Nat) (ca : Option Addr) (cc : Nat) (ta : Option Addr) (tc : Nat) (tvf : Nat → Value) (cs : List Int) (tl : List (List I8)) (h : LitG w C ca cc ta tc tvf cs tl) (hC : C ≤ w.heap.size) (hsd : soundP cs tl = true) :
    Calls Tryz.prog 32 #[.agg (litC ca cs.length cc ta tl.length tc)] w fun e w' => ∃ R hb qb, e = .returned (.tuple #[.pointer (some ⟨R.bk, 0, none⟩), .int .i64 0]) ∧ RdOk R ∧ R.n = tl.length ∧ R.wd = cs.length ∧ R.ins = insL tl ∧ Bs w w' R hb qb (begA cs tl) := by
  obtain ⟨hc4, hn4, hall⟩ := sound_facts hsd
  have k0 : Keeps (fun _ => False) w (lgW w (litC ca cs.length cc ta tl.length tc)) := (Keeps.refl _ _).alloc _
  have HK0 : Hid (Keeps (fun _ => False) w (lgW w (litC ca cs.length cc ta tl.length tc))) := k0
  have HLIT : Hid (∀ W, Keeps (fun _ => False) (lgW w (litC ca cs.length cc ta tl.length tc)) W → LitG W C ca cc ta tc tvf cs tl) := fun W k => h.later ((k0.trans k).below hC (fun _ _ e => e))
  have HI := rSound_any (lgW w (litC ca cs.length cc ta tl.length tc)) C ca cc ta tc tvf cs tl (HLIT.out _ (Keeps.refl _ _)) (by rw [szAl]; omega)
  rw [hsd] at HI
  have HII : Hid (∀ _ : Unit, _) := fun _ => HI
  have HSD : Hid (soundP cs tl = true) := hsd
  have HN10 : Hid (∀ i (hi : i < tl.length), tl[i].length ≤ 1099511627776) := fun i hi => by have := (hall i hi).1; omega
  clear h hsd HI k0 hall
  go_enter Tryz.func32, Tryz.ntmps32
  go_wp2_with fail
  refine (HII.out ()).mono ?_
  rintro e w2 ⟨rfl, k2⟩
  have cb := lg_keep k2
  have cb0 := cb.1
  have cb1 := cb.2
  have s2 := k2.size
  rw [szAl] at s2
  have HN := rnewp_any w2 C ca cc ta tc tvf cs tl (HLIT.out w2 k2) (by omega) (by omega) (by omega) HN10.out
  have HNN : Hid (∀ _ : Unit, _) := fun _ => HN
  have HK2 : Hid (Keeps (fun _ => False) w w2) := HK0.out.trans k2
  clear HN k2 HLIT HII HK0 cb
  go_wp2_with fail
  refine (HNN.out ()).mono ?_
  rintro e w3 ⟨cv, tvv, qs, rfl, pn, hqs, b3⟩
  obtain ⟨cva, cvc, hcv⟩ := pn.oc.form
  obtain ⟨tva, tvc, htv⟩ := pn.ot.form
  subst hcv htv
  have s3 := b3.size
  have H3 : Hid (Pn w3 (w2.heap.size + 2) (.slice cva cs.length cvc) (.slice tva qs.length tvc) cs qs ∧ qs.map (fun q => q.2.2) = tl ∧ Below w.heap.size w w3) := ⟨pn, hqs, (HK2.out.below (Nat.le_refl _) (fun _ _ e => e)).trans (b3.mono (by omega))⟩
  have c31 : w3.cell? ⟨w.heap.size, 1, none⟩ = some (.slice ta tl.length tc) := (b3.cell (p := ⟨w.heap.size, 1, none⟩) (by show w.heap.size < _; omega)).trans cb1
  clear pn hqs b3 HNN cb0 cb1
  have hlt3 : w.heap.size < w3.heap.size := by omega
  have B2 : w2.heap.size + 2 ≤ w3.heap.size := by
    obtain ⟨g, c, _, q1, q2⟩ := owG_some H3.out.1.oc (by intro e; rw [e] at hc4; simp at hc4)
    omega
  have HB2 : Hid (w2.heap.size + 2 ≤ w3.heap.size ∧ w.heap.size + 1 ≤ w2.heap.size) := ⟨B2, s2⟩
  have c41 : (w3.alloc (.cells (bxA (.slice cva cs.length cvc) (.slice tva qs.length tvc)) 87)).drew.cell? ⟨w.heap.size, 1, none⟩ = some (.slice ta tl.length tc) := (World.cell?_of_block (w := w3) (Below.heap_alloc w3 _ w.heap.size hlt3)).trans c31
  have HNW := rnew_any (w3.alloc (.cells (bxA (.slice cva cs.length cvc) (.slice tva qs.length tvc)) 87)).drew tl.length w3.heap.size (by omega) (by omega)
  have hsz4 : (w3.alloc (.cells (bxA (.slice cva cs.length cvc) (.slice tva qs.length tvc)) 87)).drew.heap.size = w3.heap.size + 1 := szAl _ _
  rw [hsz4] at HNW
  have HNWW : Hid (∀ _ : Unit, _) := fun _ => HNW
  have HF4 : Hid (∀ W, Keeps (fun _ => False) (((w3.alloc (.cells (bxA (.slice cva cs.length cvc) (.slice tva qs.length tvc)) 87)).drew.alloc (.cells (madeCells #[.slice none 0 0] tl.length) 217)).alloc (.cells (haR w3.heap.size (w3.heap.size + 1) tl.length 0 (.slice none 0 0) (.slice none 0 0)) 158)) W → Rh W (fun y => y = w3.heap.size + 1 ∨ y = w3.heap.size + 2) w3.heap.size (w3.heap.size + 2) (w3.heap.size + 1) (fun _ => .slice none 0 0) (.slice none 0 0) (.slice none 0 0) (hpT tl.length 0) ∧ Below w3.heap.size w3 W ∧ W.heap[w3.heap.size]? = some (.cells (bxA (.slice cva cs.length cvc) (.slice tva qs.length tvc)) 87)) := fun W k => by
    have hr := Rh.fresh (w := (w3.alloc (.cells (bxA (.slice cva cs.length cvc) (.slice tva qs.length tvc)) 87)).drew) (w' := W) tl.length w3.heap.size (by omega) (by rw [hsz4]; exact k)
    rw [hsz4] at hr
    have b4 : Below w3.heap.size w3 (w3.alloc (.cells (bxA (.slice cva cs.length cvc) (.slice tva qs.length tvc)) 87)).drew := ((Below.refl _ _).alloc (Nat.le_refl _) _).drew
    have k5 : Keeps (fun _ => False) (w3.alloc (.cells (bxA (.slice cva cs.length cvc) (.slice tva qs.length tvc)) 87)).drew W := (((Keeps.refl _ _).alloc _).alloc _).trans k
    refine ⟨hr, b4.trans (k5.below (by omega) (fun _ _ e => e)), (k5.block _ (by omega) (fun e => e)).trans ?_⟩
    exact heap_alloc_last _ _ _ rfl
  have HC31 : Hid (w3.cell? ⟨w.heap.size, 1, none⟩ = some (.slice ta tl.length tc)) := c31
  clear HNW c31 hsz4
  go_wp2_with fail
  (refine wp_region_held_drew (S := (fun W => W.cell? ⟨w.heap.size, 1, none⟩ = some (.slice ta tl.length tc))) (by kernel_rfl) c41 (fun hHeld => ?_); simp only [List.size_toArray, List.length_cons, List.length_nil, Nat.reduceAdd, Array.replicate_succ, Array.replicate_zero, List.push_toArray, List.append_toArray, List.nil_append, List.cons_append])
  refine rgT 0 (h := ?_)
  refine rgT 1 (h := ?_)
  refine rgT 2 (h := ?_)
  refine rgT 3 (h := ?_)
  refine rgT 4 (h := ?_)
  refine rgT 5 (h := ?_)
  (refine rgS 6 (h := fun K hK => ?_); go_simp)
  refine (HNWW.out ()).mono ?_
  rintro e w5 ⟨rfl, hw5⟩
  obtain ⟨r5, b5, eb5⟩ := HF4.out w5 (by rw [hw5]; exact Keeps.refl _ _)
  have H5 : Hid (Rh w5 (fun y => y = w3.heap.size + 1 ∨ y = w3.heap.size + 2) w3.heap.size (w3.heap.size + 2) (w3.heap.size + 1) (fun _ => .slice none 0 0) (.slice none 0 0) (.slice none 0 0) (hpT tl.length 0) ∧ Below w3.heap.size w3 w5 ∧ w5.heap[w3.heap.size]? = some (.cells (bxA (.slice cva cs.length cvc) (.slice tva qs.length tvc)) 87)) := ⟨r5, b5, eb5⟩
  have c51 : w5.cell? ⟨w.heap.size, 1, none⟩ = some (.slice ta tl.length tc) := (b5.cell (p := ⟨w.heap.size, 1, none⟩) hlt3).trans HC31.out
  clear r5 b5 hw5 HNWW HF4
  (refine hK.out _ _ c51 (fun hHeld => ?_); clear hK K; try simp only [Act.put, List.setIfInBounds_toArray, List.set_cons_zero, List.set_cons_succ])
  refine rgT 7 (h := ?_)
  refine rgT 8 (h := ?_)
  refine rgT 9 (h := ?_)
  refine rgT 10 (h := ?_)
  refine rgT 11 (h := ?_)
  refine wpAnyH_done (by kernel_rfl) ?_ _
  have c52 : w5.cell? ⟨w3.heap.size, 2, none⟩ = some (.pointer none) := (cell?_heap eb5 2).trans rfl
  have z52 := frozen?_heap eb5 2
  have ks : Keeps (fun x => x = w3.heap.size) w5 (w5.setCell ⟨w3.heap.size, 2, none⟩ (.pointer (some ⟨w3.heap.size + 2, 0, none⟩))) := Keeps.setCell (B := fun x => x = w3.heap.size) (Keeps.refl _ _) rfl _
  have s5 := H5.out.2.1.size
  have r6 := H5.out.1.keeps ks (fun x e hx => by rcases hx with hx | hx <;> omega)
  have b6 : Below w3.heap.size w3 (w5.setCell ⟨w3.heap.size, 2, none⟩ (.pointer (some ⟨w3.heap.size + 2, 0, none⟩))) := H5.out.2.1.trans (ks.below s5 (fun k hk e => by omega))
  have e6 : (w5.setCell ⟨w3.heap.size, 2, none⟩ (.pointer (some ⟨w3.heap.size + 2, 0, none⟩))).heap[w3.heap.size]? = some (.cells #[.slice cva cs.length cvc, .slice tva qs.length tvc, .pointer (some ⟨w3.heap.size + 2, 0, none⟩)] 87) := heapSet eb5 _
  have hmk := mkR H3.out.1 B2 b6 e6 H3.out.2.1 HSD.out
  obtain ⟨R, hRb, hRn, hRw, hRi, hRok, hRP, hRc, hRf⟩ := hmk
  have HRC : Hid (R.wd ≤ R.cc) := hRc
  have H6 : Hid (Rh (w5.setCell ⟨w3.heap.size, 2, none⟩ (.pointer (some ⟨w3.heap.size + 2, 0, none⟩))) (fun y => y = w3.heap.size + 1 ∨ y = w3.heap.size + 2) w3.heap.size (w3.heap.size + 2) (w3.heap.size + 1) (fun _ => .slice none 0 0) (.slice none 0 0) (.slice none 0 0) (hpT tl.length 0)) := r6
  have HRR : Hid (R.bk = w3.heap.size ∧ R.n = tl.length ∧ R.wd = cs.length ∧ R.ins = insL tl ∧ RdOk R ∧ ∀ y, fR R y → w2.heap.size + 2 ≤ y ∧ y ≤ w3.heap.size) := ⟨hRb, hRn, hRw, hRi, hRok, hRf⟩
  have HE : Hid (∀ W, Keeps (fun x => x = w3.heap.size + 1) (w5.setCell ⟨w3.heap.size, 2, none⟩ (.pointer (some ⟨w3.heap.size + 2, 0, none⟩))) W → RP R W (begA cs tl).2 ∧ W.cell? ⟨R.bk, 2, none⟩ = some (.pointer (some ⟨w3.heap.size + 2, 0, none⟩)) ∧ Below w.heap.size w W ∧ W.cell? ⟨w.heap.size, 1, none⟩ = some (.slice ta tl.length tc)) := fun W k => by
    have s6 := b6.size
    refine ⟨hRP.keeps k (fun y e hy => by have := (hRf y hy).2; omega), ?_, ?_, ?_⟩
    · rw [hRb]
      refine (k.cell (p := ⟨w3.heap.size, 2, none⟩) (Array.getElem?_eq_some_iff.1 e6).1 (by show ¬ w3.heap.size = _; omega)).trans ((cell?_heap e6 2).trans rfl)
    · exact (H3.out.2.2.trans (b6.mono (by omega))).trans (k.below (by omega) (fun x hx e => by omega))
    · exact (k.cell (p := ⟨w.heap.size, 1, none⟩) (by show w.heap.size < _; omega) (by show ¬ w.heap.size = _; omega)).trans ((b6.cell (p := ⟨w.heap.size, 1, none⟩) hlt3).trans HC31.out)
  clear hRc r6 b6 e6 ks hRb hRn hRw hRi hRok hRP hRf H5 c51 c41
  go_wp2_with fail
  clear c52 z52 eb5 s5
  generalize w5.setCell ⟨w3.heap.size, 2, none⟩ (.pointer (some ⟨w3.heap.size + 2, 0, none⟩)) = w6 at *
  go_loopw [8] (fun c wr => ∃ (t : Nat) (F : Nat → Prop) (qv : Nat → Value), c = .int .i64 t ∧ t ≤ tl.length ∧ Rh wr F w3.heap.size (w3.heap.size + 2) (w3.heap.size + 1) qv (.slice none 0 0) (.slice none 0 0) (hpT tl.length t) ∧ (∀ j, t ≤ j → qv j = .slice none 0 0) ∧ Keeps (fun x => x = w3.heap.size + 1) w6 wr ∧ ∀ y, F y → w3.heap.size + 1 ≤ y) (fun c _ => tl.length - (intOf c).toNat)
  case atStart => exact ⟨0, _, _, rfl, by omega, H6.out, fun _ _ => rfl, Keeps.refl _ _, fun y hy => by rcases hy with hy | hy <;> omega⟩
  case round =>
    obtain ⟨t, F, qv, rfl, ht, hrh, hqv, hk, hF⟩ := hrel
    have HQ : Hid (Rh wr F w3.heap.size (w3.heap.size + 2) (w3.heap.size + 1) qv (.slice none 0 0) (.slice none 0 0) (hpT tl.length t) ∧ (∀ j, t ≤ j → qv j = .slice none 0 0) ∧ Keeps (fun x => x = w3.heap.size + 1) w6 wr ∧ ∀ y, F y → w3.heap.size + 1 ≤ y) := ⟨hrh, hqv, hk, hF⟩
    have cB := (HE.out wr hk).2.2.2
    clear hrh hqv hk hF H6
    by_cases h5 : t < tl.length
    · have t0 : (0 : Int) ≤ (t : Int) := Int.natCast_nonneg _
      have t1 : (t : Int) < (tl.length : Int) := by omega
      have kA : Keeps (fun _ => False) wr (wr.alloc (.cells #[.int .i64 (t : Int)] 3)) := (Keeps.refl _ _).alloc _
      have HS := rsubmit_one (wr.alloc (.cells #[.int .i64 (t : Int)] 3)) F w3.heap.size (w3.heap.size + 2) (w3.heap.size + 1) qv (.slice none 0 0) (.slice none 0 0) (hpT tl.length t) (HQ.out.1.still kA) t (by rw [hpT_len]; exact h5) (HQ.out.2.1 t (Nat.le_refl _)) wr.heap.size t ((cell?_heap (heap_alloc_last _ _ _ rfl) 0).trans rfl) (fun e => by have := HQ.out.1.lt _ e; omega) (by omega)
      rw [hpT_set tl.length t h5] at HS
      have HSS : Hid (∀ _ : Unit, _) := fun _ => HS
      have HKA : Hid (Keeps (fun _ => False) wr (wr.alloc (.cells #[.int .i64 (t : Int)] 3))) := kA
      clear HS kA
      go_wp2_with fail
      refine (HSS.out ()).mono ?_
      rintro e w7 ⟨rfl, b, c, r7, k7, hb7⟩
      rw [szAl] at hb7
      have HN : Hid (Rh w7 (fun x => F x ∨ x = b) w3.heap.size (w3.heap.size + 2) (w3.heap.size + 1) (upd qv t (.slice (some ⟨b, 0, none⟩) 1 c)) (.slice none 0 0) (.slice none 0 0) (hpT tl.length (t + 1)) ∧ (∀ j, t + 1 ≤ j → (upd qv t (.slice (some ⟨b, 0, none⟩) 1 c)) j = .slice none 0 0) ∧ Keeps (fun x => x = w3.heap.size + 1) w6 w7 ∧ ∀ y, (F y ∨ y = b) → w3.heap.size + 1 ≤ y) := by
        refine ⟨r7, fun j hj => ?_, HQ.out.2.2.1.trans ((HKA.out.mono (fun _ e => e.elim)).trans k7), fun y hy => ?_⟩
        · rw [upd_other _ _ (by omega)]
          exact HQ.out.2.1 j (by omega)
        · rcases hy with hy | hy
          · exact HQ.out.2.2.2 y hy
          · have := HQ.out.1.lt _ HQ.out.1.fq
            omega
      clear r7 k7 HSS cB
      go_wp2
      go_roundw
      case rel => exact ⟨t + 1, _, _, by go_num, by omega, HN.out⟩
      case measure => simp [intOf]; omega
    · have htn : t = tl.length := by omega
      have HX : Hid (Bs w wr R (w3.heap.size + 2) (w3.heap.size + 1) (begA cs tl)) := by
        obtain ⟨p1, p2, p3, p4⟩ := HE.out wr HQ.out.2.2.1
        have hr := HQ.out.1
        rw [htn, hpT_all] at hr
        have hr2 : Rh wr F R.bk (w3.heap.size + 2) (w3.heap.size + 1) qv (.slice none 0 0) (.slice none 0 0) (hp0 tl.length) := by rw [HRR.out.1]; exact hr
        have hb2 := HB2.out
        refine ⟨⟨F, qv, _, _, hr2, fun y hy => ⟨by have := HQ.out.2.2.2 y hy; omega, fun e => by have := (HRR.out.2.2.2.2.2 y e).2; have := HQ.out.2.2.2 y hy; omega⟩⟩, p1, ?_, fun y hy => by have := (HRR.out.2.2.2.2.2 y hy).1; omega, p2, p3, HRC.out⟩
        rw [HRR.out.2.1]
        exact iv_hp0 tl.length (by omega)
      clear htn
      go_wp2
      go_ret2
      exact ⟨R, _, _, by rw [HRR.out.1]; rfl, HRR.out.2.2.2.2.1, HRR.out.2.1, HRR.out.2.2.1, HRR.out.2.2.2.1, HX.out⟩
end Go.Proofs.YtdpebhdjcgiboaaGreat
