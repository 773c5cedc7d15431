import Derived.Test.YtegnmflbbpfdhaaGreatSh5
namespace Go.Proofs.YtegnmflbbpfdhaaGreat
open Go.ChangeShapes Go.WideShapes Go.ChangeAt Go.RowKit Go.MuLone Go.RwLone
set_option linter.unusedVariables false
set_option maxRecDepth 100000
set_option maxHeartbeats 3200000
/-- What of a list of deltas becomes a thread, n instructions being there. -/
def cutL (n : Nat) (d : List Int) : List Int := d.take (min 4 (10 - n))
def lenS (l : List (List Int)) : Nat := (l.map List.length).sum
def cutD : Nat → List (List Int) → List (List Int)
  | _, [] => []
  | n, d :: r => cutL n d :: cutD (n + (cutL n d).length) r
theorem cutD_snoc : ∀ (l : List (List Int)) (n : Nat) (d : List Int), cutD n (l ++ [d]) = cutD n l ++ [cutL (n + lenS (cutD n l)) d]
  | [], n, d => by simp [cutD, lenS]
  | a :: l, n, d => by
    have := cutD_snoc l (n + (cutL n a).length) d
    simp only [List.cons_append, cutD, this, lenS, List.map_cons, List.sum_cons]
    rw [show n + (cutL n a).length + (List.map List.length (cutD (n + (cutL n a).length) l)).sum = n + ((cutL n a).length + (List.map List.length (cutD (n + (cutL n a).length) l)).sum) from by omega]
theorem lenS_snoc (l : List (List Int)) (d : List Int) : lenS (l ++ [d]) = lenS l + d.length := by simp [lenS]
theorem cutL_len (n : Nat) (d : List Int) : (cutL n d).length = min (min 4 (10 - n)) d.length := by simp [cutL]
theorem cutD_len : ∀ (l : List (List Int)) (n : Nat), (cutD n l).length = l.length
  | [], n => rfl
  | a :: l, n => by simp [cutD, cutD_len l]
theorem cutD_four : ∀ (l : List (List Int)) (n : Nat), ∀ d ∈ cutD n l, d.length ≤ 4
  | [], n, d, hd => by cases hd
  | a :: l, n, d, hd => by
    rcases List.mem_cons.1 hd with rfl | hd
    · rw [cutL_len]; omega
    · exact cutD_four l _ d hd
/-- Deltas in sight. -/
structure DelG (w : World) (C : Nat) (da : Option Addr) (dc : Nat) (qs : List (Value × List Int)) : Prop where
  o : InG slP w C (.slice da qs.length dc) qs
  i : ∀ q ∈ qs, InG wdC w C q.1 q.2 ∧ q.2.length ≤ 140737488355328
  n : qs.length ≤ 140737488355328
theorem DelG.later {w w' : World} {C : Nat} {da : Option Addr} {dc : Nat} {qs : List (Value × List Int)} (h : DelG w C da dc qs) (k : Below C w w') : DelG w' C da dc qs := ⟨h.o.later k, fun q hq => ⟨(h.i q hq).1.later k, (h.i q hq).2⟩, h.n⟩
abbrev adA (x : Int) : Array Value := #[.int .u64 x]
/-- In the midst of making the adder. -/
structure Adr (w wr : World) (x0 : Int) (tvv : Value) (ps : List (Value × List I8)) : Prop where
  rs : wr.heap[w.heap.size]? = some (.cells #[.slice none 0 0, .slice none 0 0] 27)
  cw : wr.heap[w.heap.size + 1]? = some (.cells (adA x0) 22)
  lb : wr.heap[w.heap.size + 2]? = some (.cells #[.slice (some ⟨w.heap.size + 1, 0, none⟩) 1 1, tvv] 27)
  ot : OwG slP 32 1 wr (w.heap.size + 3) tvv ps
  oi : ∀ p ∈ ps, OwG iC 31 8 wr (w.heap.size + 3) p.1 p.2
  bl : Below w.heap.size w wr
  sz : w.heap.size + 3 ≤ wr.heap.size
theorem Adr.later {w wr w' : World} {x0 : Int} {tvv : Value} {ps : List (Value × List I8)} (h : Adr w wr x0 tvv ps) (k : Below wr.heap.size wr w') : Adr w w' x0 tvv ps := by
  have hs := h.sz
  exact ⟨(k.block _ (by omega)).trans h.rs, (k.block _ (by omega)).trans h.cw, (k.block _ (by omega)).trans h.lb, h.ot.later k, fun p hp => (h.oi p hp).later k, h.bl.trans (k.mono (by omega)), Nat.le_trans hs k.size⟩
theorem Adr.step {w wr w3 : World} {x0 : Int} {tvv v8 v' : Value} {ps : List (Value × List I8)} {l : List I8} {B8 : Nat} (h : Adr w wr x0 tvv ps) (h8 : OwG iC 31 8 wr B8 v8 l) (hB8 : w.heap.size + 3 ≤ B8) (ho : OwG slP 32 1 w3 (w.heap.size + 3) v' (ps ++ [(v8, l)])) (hb : Below (w.heap.size + 3) wr w3) (hk : KpT 32 wr w3) :
    Adr w (w3.setCell ⟨w.heap.size + 2, 1, none⟩ v') x0 v' (ps ++ [(v8, l)]) ∧ w3.cell? ⟨w.heap.size + 2, 1, none⟩ = some tvv ∧ w3.frozen? ⟨w.heap.size + 2, 1, none⟩ = false := by
  have e3 : w3.heap[w.heap.size + 2]? = some (.cells #[.slice (some ⟨w.heap.size + 1, 0, none⟩) 1 1, tvv] 27) := (hb.block _ (by omega)).trans h.lb
  have ks : Keeps (fun x => x = w.heap.size + 2) w3 (w3.setCell ⟨w.heap.size + 2, 1, none⟩ v') := Keeps.setCell (B := fun x => x = w.heap.size + 2) (Keeps.refl _ _) rfl _
  have hs := h.sz
  have hs3 := hb.size
  have ap : ∀ {α : Type} {f : α → List Value} {e : TypeId} {n : Nat} {v : Value} {xs : List α}, OwG f e n w3 (w.heap.size + 3) v xs → OwG f e n (w3.setCell ⟨w.heap.size + 2, 1, none⟩ v') (w.heap.size + 3) v xs := fun ho => ho.set (p := ⟨w.heap.size + 2, 1, none⟩) (by show w.heap.size + 2 < _; omega) _
  have eb : ∀ k, k < w.heap.size + 2 → (w3.setCell ⟨w.heap.size + 2, 1, none⟩ v').heap[k]? = wr.heap[k]? := fun k hk => (ks.block k (by omega) (fun e => by omega)).trans (hb.block k (by omega))
  refine ⟨⟨(eb _ (by omega)).trans h.rs, (eb _ (by omega)).trans h.cw, heapSet e3 _, ap ho, fun p hp => ?_, ?_, by simpa using (by omega : w.heap.size + 3 ≤ w3.heap.size)⟩, (cell?_heap e3 1).trans rfl, frozen?_heap e3 1⟩
  · rcases List.mem_append.1 hp with hp | hp
    · exact ap ((h.oi p hp).kept hk (by decide))
    · obtain rfl := List.mem_singleton.1 hp
      exact ap ((h8.kept hk (by decide)).down hB8)
  · refine (h.bl.trans (hb.mono (by omega))).trans ?_
    exact ks.below (by omega) (fun k hk e => by omega)
theorem InG.lit1 {w : World} {g C : Nat} {x : Int} (h : w.heap[g]? = some (.cells (adA x) 22)) (hC : g < C) : InG wdC w C (.slice (some ⟨g, 0, none⟩) 1 1) [x] := by
  refine ⟨some ⟨g, 0, none⟩, 1, rfl, Nat.le_refl _, (fun e => by cases e), fun j u hj => ⟨g, 0, rfl, hC, ?_⟩⟩
  match j, hj with
  | 0, hj => rw [cell?_heap h 0]; exact hj
  | j + 1, hj => simp [wdC] at hj
theorem adder_any (w : World) (C : Nat) (hC : C ≤ w.heap.size) (x0 : Int) (da : Option Addr) (dc : Nat) (qs : List (Value × List Int)) (h : DelG w C da dc qs) :
    Calls Tryz.prog 8 #[.int .u64 x0, .slice da qs.length dc] w fun e w' => ∃ ca' cc' ta' tc' tv', e = .returned (.agg (litC ca' 1 cc' ta' (min 4 qs.length) tc')) ∧ LitG w' w'.heap.size ca' cc' ta' tc' tv' [x0] (tlD (cutD 0 ((qs.map Prod.snd).take 4))) ∧ Below w.heap.size w w' := by
  have H : Hid (∀ W, Below w.heap.size w W → DelG W C da dc qs) := fun W k => h.later (k.mono hC)
  have hqn := h.n
  have HS0 : Hid (Adr w (((w.alloc (.cells #[.slice none 0 0, .slice none 0 0] 27)).alloc (.cells (adA x0) 22)).alloc (.cells #[.slice (some ⟨w.heap.size + 1, 0, none⟩) 1 1, .slice none 0 0] 27)) x0 (.slice none 0 0) []) := by
    refine ⟨?_, ?_, ?_, OwG.nil _ _ _ _ _, (fun p hp => by cases hp), ?_, ?_⟩
    · exact (Below.heap_alloc _ _ _ (by rw [szAl, szAl]; omega)).trans ((Below.heap_alloc _ _ _ (by rw [szAl]; omega)).trans (heap_alloc_last _ _ _ rfl))
    · exact (Below.heap_alloc _ _ _ (by rw [szAl, szAl]; omega)).trans (heap_alloc_last _ _ _ (by rw [szAl]))
    · exact heap_alloc_last _ _ _ (by rw [szAl, szAl])
    · exact (((Below.refl _ _).alloc (Nat.le_refl _) _).alloc (by rw [szAl]; omega) _).alloc (by rw [szAl, szAl]; omega) _
    · rw [szAl, szAl, szAl]; omega
  clear h
  go_enter Tryz.func8, Tryz.ntmps8
  go_wp2_with fail
  go_loopw [6, 7] (fun c d wr => ∃ (k t : Nat) (tvv : Value) (ps : List (Value × List I8)), c = .int .i64 k ∧ d = .int .i64 t ∧ t ≤ qs.length ∧ t ≤ 4 ∧ k ≤ 10 ∧ k = lenS (cutD 0 ((qs.map Prod.snd).take t)) ∧ ps.map Prod.snd = tlD (cutD 0 ((qs.map Prod.snd).take t)) ∧ Adr w wr x0 tvv ps) (fun _ d _ => 4 - (intOf d).toNat)
  case atStart => exact ⟨0, 0, _, [], rfl, rfl, by omega, by omega, by omega, rfl, rfl, HS0.out⟩
  case round =>
    rename World => wr0
    obtain ⟨k, t, tvv, ps, rfl, rfl, htq, ht4, hk10, hk, hps, had⟩ := hrel
    have HQ : Hid (Adr w wr0 x0 tvv ps ∧ ps.map Prod.snd = tlD (cutD 0 ((qs.map Prod.snd).take t)) ∧ k = lenS (cutD 0 ((qs.map Prod.snd).take t))) := ⟨had, hps, hk⟩
    clear had hps hk HS0
    by_cases h5 : t < qs.length ∧ t < 4
    · obtain ⟨h5, h6⟩ := h5
      have t0 : (0 : Int) ≤ (t : Int) := Int.natCast_nonneg _
      have t1 : (t : Int) < (qs.length : Int) := by omega
      have t2 : (t : Int) < 4 := by omega
      have HD := H.out wr0 HQ.out.1.bl
      obtain ⟨db, dof, rfl, hdb, ct⟩ := HD.o.at1 t h5
      obtain ⟨hin, hdl⟩ := HD.i qs[t] (List.getElem_mem h5)
      obtain ⟨ia, icap, hiv⟩ := hin.form
      rw [hiv] at ct hin
      have HT : Hid ((qs.map Prod.snd).take (t + 1) = (qs.map Prod.snd).take t ++ [qs[t].2]) := by show _ = _; rw [List.take_succ_eq_append_getElem (by simpa using h5)]; simp
      generalize qs[t].2 = dd at *
      have HI : Hid (InG wdC wr0 C (.slice ia dd.length icap) dd ∧ wr0.cell? ⟨db, dof + t, none⟩ = some (.slice ia dd.length icap)) := ⟨hin, ct⟩
      clear hiv HD hin ct
      obtain ⟨M, hM⟩ : ∃ M, (cutL k dd).length = M := ⟨_, rfl⟩
      have hM2 : M = min (min 4 (10 - k)) dd.length := by rw [← hM, cutL_len]
      have HMM : Hid ((cutL k dd).length = M ∧ cutL k dd = dd.take M) := ⟨hM, by
        unfold cutL at hM ⊢
        rw [← hM, List.length_take]
        rcases Nat.le_total (min 4 (10 - k)) dd.length with q | q
        · rw [Nat.min_eq_left q]
        · rw [Nat.min_eq_right q, List.take_length, List.take_of_length_le q]⟩
      clear hM
      go_wp2_with fail
      go_loopw [6, 8, 9] (fun c v d wq => ∃ (j m : Nat) (iv : Value), c = .int .i64 m ∧ d = .int .i64 j ∧ v = iv ∧ m = k + j ∧ j ≤ M ∧ OwG iC 31 8 wq wr0.heap.size iv (addI (dd.take j)) ∧ Below wr0.heap.size wr0 wq) (fun _ _ d _ => M - (intOf d).toNat)
      case atStart => exact ⟨0, k, _, rfl, rfl, rfl, rfl, by omega, OwG.nil _ _ _ _ _, Below.refl _ _⟩
      case round =>
        obtain ⟨j, m, iv, rfl, rfl, rfl, hm, hjM, hov, hbl⟩ := hrel
        obtain ⟨va, vc, rfl⟩ := hov.form
        have HQ2 : Hid (OwG iC 31 8 wr wr0.heap.size (.slice va (addI (dd.take j)).length vc) (addI (dd.take j)) ∧ Below wr0.heap.size wr0 wr ∧ m = k + j) := ⟨hov, hbl, hm⟩
        have HS := HQ.out.1.sz
        have hll : (addI (dd.take j)).length = j := by rw [addI_len, List.length_take]; omega
        have HLL : Hid ((addI (dd.take j)).length = j) := hll
        have j0 : (0 : Int) ≤ (j : Int) := Int.natCast_nonneg _
        have cD : wr.cell? ⟨db, dof + t, none⟩ = some (.slice ia dd.length icap) := (hbl.cell (p := ⟨db, dof + t, none⟩) (by show db < _; omega)).trans HI.out.2
        by_cases h7 : j < M
        · have hj1 : j < dd.length := by omega
          have j1 : (j : Int) < (dd.length : Int) := by omega
          have j2 : (j : Int) < 4 := by omega
          have j3 : (m : Int) < 10 := by omega
          have hm1 : IntKind.i64.wrap ((m : Int) + 1) = ((m + 1 : Nat) : Int) := by rw [IntKind.wrap_i64]; omega
          obtain ⟨ib, io, rfl, hib, cX⟩ := (HI.out.1.later (hbl.mono (by omega))).wd j hj1
          have HTT : Hid (addI (dd.take (j + 1)) = addI (dd.take j) ++ [addX j dd[j]]) := by
            show _ = _
            rw [List.take_succ_eq_append_getElem hj1, addI_app, List.length_take, Nat.min_eq_left (by omega)]
          generalize dd[j] = xx at *
          generalize addI (dd.take j) = xs at *
          have hx4 : xs.length ≤ 4 := by omega
          have HW : Hid (w.heap.size + 3 ≤ wr0.heap.size ∧ wr0.heap.size ≤ wr.heap.size) := ⟨HS, hbl.size⟩
          clear hov hbl hm hll HS
          go_wp2_with (at_builtin; refine hideG ?_)
          change wpList _ _ _ _ _ _
          refine app_one (cs := iC) (wr := wr) (by rfl) _ _ 32 31 (by rfl) Tryz.underlying32 infoIn rfl (by decide) (fun _ => rfl) wr0.heap.size _ xs (addX j xx) HQ2.out.1 (by rfl) wr.heap.size rfl (by rfl) (iC_one _) _ rfl (by unfold maxLen; omega) (by omega) HW.out.2 ?_
          intro v' w3 ho3 hb3 hk3
          rw [← HTT.out] at ho3
          have HN : Hid (OwG iC 31 8 w3 wr0.heap.size v' (addI (dd.take (j + 1))) ∧ Below wr0.heap.size wr0 w3 ∧ m + 1 = k + (j + 1)) := ⟨ho3, HQ2.out.2.1.trans hb3, by have := HQ2.out.2.2; omega⟩
          clear ho3 hb3 hk3 HQ2 HTT cD cX
          go_wp2
          go_roundw
          case rel => exact ⟨j + 1, m + 1, _, by first | rfl | go_num, by go_num, rfl, HN.out.2.2, by omega, HN.out.1, HN.out.2.1⟩
          case measure => simp [intOf]; omega
        · obtain rfl : j = M := by omega
          have HP1 : Hid (cutD 0 ((qs.map Prod.snd).take (t + 1)) = cutD 0 ((qs.map Prod.snd).take t) ++ [dd.take j]) := by
            show _ = _
            rw [HT.out, cutD_snoc, Nat.zero_add, ← HQ.out.2.2, HMM.out.2]
          have HA := HQ.out.1.later hbl
          obtain ⟨ta, tcc, htv⟩ := HQ.out.1.ot.form
          subst htv
          have c5 : wr.cell? ⟨w.heap.size + 2, 1, none⟩ = some (.slice ta ps.length tcc) := (cell?_heap HA.lb 1).trans rfl
          have HAH : Hid (Adr w wr x0 (.slice ta ps.length tcc) ps) := HA
          have HPL : Hid (ps.length = t) := by
            show _ = _
            have := congrArg List.length HQ.out.2.1
            simpa [tlD, cutD_len, Nat.min_eq_left htq] using this
          have hpl : ps.length ≤ 4 := by have := HPL.out; omega
          have hmm : m ≤ 10 := by omega
          have HKS : Hid (m = lenS (cutD 0 ((qs.map Prod.snd).take (t + 1)))) := by
            show _ = _
            rw [HP1.out, lenS_snoc, ← HQ.out.2.2, List.length_take]
            omega
          have h8 : ¬ j < dd.length ∨ (j < dd.length ∧ ¬ j < 4) ∨ (j < dd.length ∧ j < 4 ∧ ¬ m < 10) := by omega
          have HW : Hid (w.heap.size + 3 ≤ wr0.heap.size ∧ wr0.heap.size ≤ wr.heap.size) := ⟨HS, hbl.size⟩
          have HMQ : Hid (∀ _ : Unit, (ps ++ [(Value.slice va (addI (dd.take j)).length vc, addI (dd.take j))]).map Prod.snd = tlD (cutD 0 ((qs.map Prod.snd).take (t + 1)))) := fun _ => by
            rw [List.map_append, HQ.out.2.1, HP1.out]
            simp [tlD]
          clear HA hov hbl hm hll HS hM2 HP1
          generalize addI (dd.take j) = xs at *
          rcases h8 with h8 | ⟨h8, h9⟩ | ⟨h8, h9, h10⟩
          all_goals
            go_wp2_with (at_builtin; refine hideG ?_)
            change wpList _ _ _ _ _ _
            refine app_one (cs := slP) (wr := wr) (by rfl) _ _ 25 32 (by rfl) Tryz.underlying25 infoSlI rfl (by decide) (fun _ => rfl) (w.heap.size + 3) _ ps (.slice va xs.length vc, xs) HAH.out.ot (by rfl) wr.heap.size rfl (by rfl) (by intro u hu; simp [slP] at hu; subst hu; rfl) _ rfl (by unfold maxLen; omega) (by omega) (by have := HW.out; omega) ?_
            intro v' w3 ho3 hb3 hk3
            obtain ⟨f3, c3, z3⟩ := HAH.out.step HQ2.out.1 HW.out.1 ho3 hb3 hk3
            obtain ⟨a3, k3, rfl⟩ := ho3.form
            generalize (ps ++ [(Value.slice va xs.length vc, xs)]).length = mm at *
            have HN : Hid (Adr w (w3.setCell ⟨w.heap.size + 2, 1, none⟩ (.slice a3 mm k3)) x0 (.slice a3 mm k3) (ps ++ [(Value.slice va xs.length vc, xs)])) := f3
            clear f3 ho3 hb3 hk3 c5 cD
            go_wp2
            go_roundw
            case rel => exact ⟨m, t + 1, _, _, rfl, by go_num, by omega, by omega, hmm, HKS.out, HMQ.out (), HN.out⟩
            case measure => simp [intOf]; omega
    · have h8 : ¬ t < qs.length ∨ (t < qs.length ∧ ¬ t < 4) := by omega
      have htm : t = min 4 qs.length := by omega
      have htk : (qs.map Prod.snd).take t = (qs.map Prod.snd).take 4 := by
        rcases Nat.lt_or_ge qs.length 4 with q | q
        · rw [List.take_of_length_le (by simp; omega), List.take_of_length_le (by simp; omega)]
        · rw [show t = 4 from by omega]
      obtain ⟨va2, vc2, hv2⟩ := HQ.out.1.ot.form
      subst hv2
      have er := HQ.out.1.rs
      have cA : wr0.cell? ⟨w.heap.size + 2, 0, none⟩ = some (.slice (some ⟨w.heap.size + 1, 0, none⟩) 1 1) := (cell?_heap HQ.out.1.lb 0).trans rfl
      have cB : wr0.cell? ⟨w.heap.size + 2, 1, none⟩ = some (.slice va2 ps.length vc2) := (cell?_heap HQ.out.1.lb 1).trans rfl
      have r0 := (cell?_heap er 0).trans rfl
      have r1 := (cell?_heap er 1).trans rfl
      have q0 := frozen?_heap er 0
      have q1 := frozen?_heap er 1
      have e1 : (wr0.setCell ⟨w.heap.size, 0, none⟩ (.slice (some ⟨w.heap.size + 1, 0, none⟩) 1 1)).heap[w.heap.size]? = some (.cells #[.slice (some ⟨w.heap.size + 1, 0, none⟩) 1 1, .slice none 0 0] 27) := heapSet er _
      have z1 : ((wr0.setCell ⟨w.heap.size, 0, none⟩ (.slice (some ⟨w.heap.size + 1, 0, none⟩) 1 1)).setCell ⟨w.heap.size, 1, none⟩ (.slice va2 ps.length vc2)).heap[w.heap.size]? = some (.cells #[.slice (some ⟨w.heap.size + 1, 0, none⟩) 1 1, .slice va2 ps.length vc2] 27) := heapSet e1 _
      have ks : Keeps (fun x => x = w.heap.size) wr0 ((wr0.setCell ⟨w.heap.size, 0, none⟩ (.slice (some ⟨w.heap.size + 1, 0, none⟩) 1 1)).setCell ⟨w.heap.size, 1, none⟩ (.slice va2 ps.length vc2)) := Keeps.setCell (B := fun x => x = w.heap.size) (Keeps.setCell (B := fun x => x = w.heap.size) (Keeps.refl _ _) rfl _) rfl _
      have HX : Hid ((∃ tv', LitG ((wr0.setCell ⟨w.heap.size, 0, none⟩ (.slice (some ⟨w.heap.size + 1, 0, none⟩) 1 1)).setCell ⟨w.heap.size, 1, none⟩ (.slice va2 ps.length vc2)) ((wr0.setCell ⟨w.heap.size, 0, none⟩ (.slice (some ⟨w.heap.size + 1, 0, none⟩) 1 1)).setCell ⟨w.heap.size, 1, none⟩ (.slice va2 ps.length vc2)).heap.size (some ⟨w.heap.size + 1, 0, none⟩) 1 va2 vc2 tv' [x0] (tlD (cutD 0 ((qs.map Prod.snd).take 4)))) ∧ Below w.heap.size w ((wr0.setCell ⟨w.heap.size, 0, none⟩ (.slice (some ⟨w.heap.size + 1, 0, none⟩) 1 1)).setCell ⟨w.heap.size, 1, none⟩ (.slice va2 ps.length vc2)) ∧ ps.length = min 4 qs.length) := by
        have hs := HQ.out.1.sz
        have ap : ∀ {α : Type} {f : α → List Value} {e : TypeId} {n : Nat} {v : Value} {xs : List α}, OwG f e n wr0 (w.heap.size + 3) v xs → OwG f e n ((wr0.setCell ⟨w.heap.size, 0, none⟩ (.slice (some ⟨w.heap.size + 1, 0, none⟩) 1 1)).setCell ⟨w.heap.size, 1, none⟩ (.slice va2 ps.length vc2)) (w.heap.size + 3) v xs := fun ho => owK ho ks (fun g hg e => by have := (World.ownsRow.lt ho g hg).1; omega)
        have hcw : ((wr0.setCell ⟨w.heap.size, 0, none⟩ (.slice (some ⟨w.heap.size + 1, 0, none⟩) 1 1)).setCell ⟨w.heap.size, 1, none⟩ (.slice va2 ps.length vc2)).heap[w.heap.size + 1]? = some (.cells (adA x0) 22) := (ks.block _ (by omega) (by omega)).trans HQ.out.1.cw
        have hsz : ((wr0.setCell ⟨w.heap.size, 0, none⟩ (.slice (some ⟨w.heap.size + 1, 0, none⟩) 1 1)).setCell ⟨w.heap.size, 1, none⟩ (.slice va2 ps.length vc2)).heap.size = wr0.heap.size := by simp
        have hlt : (tlD (cutD 0 ((qs.map Prod.snd).take 4))).length ≤ 4 := by simp [tlD, cutD_len]; omega
        refine ⟨LitG.of ps (InG.lit1 hcw (by omega)) (ap HQ.out.1.ot).in (fun p hp => (ap (HQ.out.1.oi p hp)).in) ?_ (by simp) (by omega) (fun i hi => ?_), ?_, ?_⟩
        · rw [HQ.out.2.1, htk]
        · have hi2 : i < (cutD 0 ((qs.map Prod.snd).take 4)).length := by simpa [tlD] using hi
          have := cutD_four _ 0 _ (List.getElem_mem hi2)
          simp only [tlD, List.getElem_map, addI_len]
          omega
        · exact HQ.out.1.bl.trans (ks.below (by omega) (fun k hk e => by omega))
        · have := congrArg List.length HQ.out.2.1
          simpa [tlD, cutD_len, htm, Nat.min_assoc] using this
      clear e1 ks htm htk
      rcases h8 with h8 | ⟨h8, h9⟩
      all_goals
        go_wp2
        exact bodyPost_ret (results_cell_row rfl _ _ w.heap.size _ _ (0, 0) _ (by rfl) z1 Tryz.underlying27 rfl (by kernel_rfl)) rfl ⟨_, _, va2, vc2, HX.out.1.choose, by rw [HX.out.2.2], HX.out.1.choose_spec, HX.out.2.1⟩
end Go.Proofs.YtegnmflbbpfdhaaGreat

namespace Go.Proofs.YtegnmflbbpfdhaaGreat
open Go.ChangeShapes Go.WideShapes Go.ChangeAt Go.RowKit Go.MuLone Go.RwLone
set_option linter.unusedVariables false
set_option maxRecDepth 100000
set_option maxHeartbeats 3200000
theorem addI_mem {c : List Int} {x : I8} (h : x ∈ addI c) : ∃ j, ∃ hj : j < c.length, x = addX j c[j] := by
  obtain ⟨j, hj, rfl⟩ := List.getElem_of_mem h
  have hj' : j < c.length := by rw [addI_len] at hj; exact hj
  exact ⟨j, hj', by rw [addI_get, List.getElem?_eq_getElem hj']; rfl⟩
theorem goT_adds : ∀ (l : List (List Int)) (n : Nat), n ≤ 10 → goT 1 ((10 : Int) - (n : Int)) (tlD (cutD n l)) = true
  | [], n, h => rfl
  | d :: l, n, h => by
    have hl := cutL_len n d
    show goT 1 ((10 : Int) - (n : Int)) (addI (cutL n d) :: tlD (cutD (n + (cutL n d).length) l)) = true
    unfold goT
    rw [if_neg (by rw [addI_len]; omega), addI_len, Bool.and_eq_true]
    constructor
    · rw [List.all_eq_true]
      intro x hx
      obtain ⟨j, hj, rfl⟩ := addI_mem hx
      have : j ≤ 3 := by omega
      simp [sndB, addX, wiB]
      omega
    · have := goT_adds l (n + (cutL n d).length) (by omega)
      rw [show ((n + (cutL n d).length : Nat) : Int) = (n : Int) + ((cutL n d).length : Int) from by omega, ← Int.sub_sub] at this
      exact this
theorem adds_sound (x0 : Int) (l : List (List Int)) (h1 : 1 ≤ l.length) (h2 : l.length ≤ 4) : soundP [x0] (tlD (cutD 0 l)) = true := by
  unfold soundP
  have hl : (tlD (cutD 0 l)).length = l.length := by simp [tlD, cutD_len]
  rw [hl, Bool.and_eq_true, Bool.and_eq_true]
  refine ⟨by simp [wiB]; omega, by simp [wiB], ?_⟩
  exact goT_adds l 0 (by omega)
theorem cutD_mem : ∀ (l : List (List Int)) (n : Nat), ∀ c ∈ cutD n l, ∀ x ∈ c, ∃ d ∈ l, x ∈ d
  | [], n, c, hc => by cases hc
  | a :: l, n, c, hc => fun x hx => by
    rcases List.mem_cons.1 hc with rfl | hc
    · exact ⟨a, List.mem_cons_self .., List.mem_of_mem_take hx⟩
    · obtain ⟨d, hd, h⟩ := cutD_mem l _ c hc x hx
      exact ⟨d, List.mem_cons_of_mem _ hd, h⟩
theorem adds_imm {l : List (List Int)} (h : ∀ d ∈ l, ∀ x ∈ d, 0 ≤ x ∧ x < 18446744073709551616) : ∀ t ∈ tlD (cutD 0 l), ∀ x ∈ t, immOk x := by
  intro t ht x hx
  obtain ⟨c, hc, rfl⟩ := List.mem_map.1 ht
  obtain ⟨j, hj, rfl⟩ := addI_mem hx
  obtain ⟨d, hd, hm⟩ := cutD_mem l 0 c hc c[j] (List.getElem_mem hj)
  exact ⟨h d hd _ hm, by show (0 : Int) ≤ 0 ∧ (0 : Int) < _; decide⟩
theorem regsL_at (rg : Nat → Nat → Int) (n i j : Nat) (hi : i < n) (hj : j < 4) : (regsL rg n)[4 * i + j]? = some (rg i j) := by
  unfold regsL
  have := flat_get (fun i => [rg i 0, rg i 1, rg i 2, rg i 3]) 4 (fun _ => rfl) (List.range n) i (by simpa using hi) j hj
  rw [Nat.mul_comm, this]
  simp only [List.getElem_range]
  have : j = 0 ∨ j = 1 ∨ j = 2 ∨ j = 3 := by omega
  rcases this with rfl | rfl | rfl | rfl <;> rfl
/-- Two rows of words that grow in turns, since w5. -/
structure Fd (w5 wr : World) (fv lv : Value) (F L : List Int) : Prop where
  f : OwW wr 0 fv F
  l : OwW wr 0 lv L
  ap : ∀ g, fv.ownBlock = some g → lv.ownBlock = some g → False
  nf : ∀ g, fv.ownBlock = some g → w5.heap.size ≤ g
  nl : ∀ g, lv.ownBlock = some g → w5.heap.size ≤ g
  bl : Below w5.heap.size w5 wr
theorem Fd.symm {w5 wr : World} {fv lv : Value} {F L : List Int} (h : Fd w5 wr fv lv F L) : Fd w5 wr lv fv L F := ⟨h.l, h.f, fun g a b => h.ap g b a, h.nl, h.nf, h.bl⟩
theorem Fd.more {w5 wr w' : World} {fv lv : Value} {F L : List Int} {b cap : Nat} {x : Int} (h : Fd w5 wr fv lv F L) (ho : OwG wdC 22 1 w' 0 (.slice (some ⟨b, 0, none⟩) (F.length + 1) cap) (F ++ [x])) (k : Keeps (fun k => fv.ownBlock = some k) wr w') (hb : fv.ownBlock = some b ∨ wr.heap.size ≤ b) : Fd w5 w' (.slice (some ⟨b, 0, none⟩) (F.length + 1) cap) lv (F ++ [x]) L := by
  have hs := h.bl.size
  refine ⟨ho, owK h.l k (fun g hg e => h.ap g e hg), fun g e1 e2 => ?_, fun g e1 => ?_, h.nl, h.bl.trans (k.below hs (fun g hg e => by have := h.nf g e; omega))⟩
  · obtain rfl : b = g := Option.some.inj e1
    rcases hb with e | e
    · exact h.ap b e e2
    · have := (World.ownsRow.lt h.l b e2).2
      omega
  · obtain rfl : b = g := Option.some.inj e1
    rcases hb with e | e
    · exact h.nf b e
    · omega
theorem allE_succ (dl : List (List Int)) (rg : Nat → Nat → Int) (t : Nat) : allE dl rg (t + 1) = allE dl rg t ++ dnG (Dl dl t) (rg t) (Dl dl t).length := by
  unfold allE
  rw [List.range_succ, List.flatMap_append]
  simp
theorem dnG_succ (D : List Int) (rg : Nat → Int) (p : Nat) : dnG D rg (p + 1) = dnG D rg p ++ [(rg p, (rg p + D[p]?.getD 0) % 18446744073709551616)] := by
  unfold dnG
  rw [List.range_succ, List.map_append]
  rfl
theorem dnG_len (D : List Int) (rg : Nat → Int) (p : Nat) : (dnG D rg p).length = p := by simp [dnG]
theorem allE_len (dl : List (List Int)) (h4 : ∀ t, (Dl dl t).length ≤ 4) (rg : Nat → Nat → Int) : ∀ t, (allE dl rg t).length ≤ 4 * t
  | 0 => Nat.le_refl _
  | t + 1 => by
    have := allE_len dl h4 rg t
    have := h4 t
    rw [allE_succ, List.length_append, dnG_len]
    omega
theorem tlD_get (dl : List (List Int)) (t : Nat) (h : t < (tlD dl).length) : (tlD dl)[t] = addI (Dl dl t) := by
  have h' : t < dl.length := by simpa [tlD] using h
  simp [tlD, Dl, h']
theorem adds_walk (x0 : Int) (w : World) (C : Nat) (hC : C ≤ w.heap.size) (da : Option Addr) (dc : Nat) (qs : List (Value × List Int)) (h : DelG w C da dc qs) (hd : ∀ q ∈ qs, ∀ x ∈ q.2, 0 ≤ x ∧ x < 18446744073709551616) (s : ByteArray) (x1 : 0 ≤ x0) (x2 : x0 < 18446744073709551616) (hs : s.size ≤ 1048576) :
    Calls Tryz.prog 4 #[.int .u64 x0, .slice da qs.length dc, .string s] w fun e w' => e = .returned (.bool true) ∧ Below w.heap.size w w' := by
  have HA := adder_any w C hC x0 da dc qs h
  have HAA : Hid (∀ _ : Unit, _) := fun _ => HA
  obtain ⟨ds, hds⟩ : ∃ ds, (qs.map Prod.snd).take 4 = ds := ⟨_, rfl⟩
  have hdl : ds.length = min 4 qs.length := by rw [← hds]; simp
  have HB : Hid (∀ d ∈ ds, ∀ x ∈ d, 0 ≤ x ∧ x < 18446744073709551616) := fun d hd' x hx => by
    rw [← hds] at hd'
    obtain ⟨q, hq, rfl⟩ := List.mem_map.1 (List.mem_of_mem_take hd')
    exact hd q hq x hx
  have HDS : Hid ((qs.map Prod.snd).take 4 = ds) := hds
  obtain ⟨n, hn⟩ : ∃ n, min 4 qs.length = n := ⟨_, rfl⟩
  have HN : Hid (min 4 qs.length = n ∧ ds.length = n ∧ (tlD (cutD 0 ds)).length = n) := ⟨hn, by omega, by simp [tlD, cutD_len]; omega⟩
  have hn4 : n ≤ 4 := by omega
  clear HA h hd hds hdl hn
  go_enter Tryz.func4, Tryz.ntmps4
  go_wp2_with fail
  refine (HAA.out ()).mono ?_
  rintro e w1 ⟨ca, cc, ta, tc, tv, rfl, lit, b1⟩
  rw [HN.out.1]
  rw [HDS.out] at lit
  have H1 : Hid (LitG w1 w1.heap.size ca cc ta tc tv [x0] (tlD (cutD 0 ds)) ∧ Below w.heap.size w w1) := ⟨lit, b1⟩
  clear lit b1 HAA
  by_cases h0 : n = 0
  · subst h0
    have HX : Hid (Below w.heap.size w (w1.alloc (.cells (litC ca 1 cc ta 0 tc) 27))) := H1.out.2.alloc H1.out.2.size _
    go_wp2
    go_ret
    exact ⟨rfl, HX.out⟩
  · have B2 : Below w1.heap.size w1 (w1.alloc (.cells (litC ca 1 cc ta n tc) 27)) := (Below.refl _ _).alloc (Nat.le_refl _) _
    have L2 := H1.out.1.later B2
    have HC := copyLit _ w1.heap.size ca cc ta tc tv [x0] (tlD (cutD 0 ds)) L2 (by rw [szAl]; omega) (by simp) (by rw [HN.out.2.2]; omega) (fun i hi => by
      have hi2 : i < (cutD 0 ds).length := by simpa [tlD] using hi
      have := cutD_four _ 0 _ (List.getElem_mem hi2)
      simp only [tlD, List.getElem_map, addI_len]
      omega)
    rw [HN.out.2.2] at HC
    have HCC : Hid (∀ _ : Unit, _) := fun _ => HC
    have H2 : Hid (LitG (w1.alloc (.cells (litC ca 1 cc ta n tc) 27)) w1.heap.size ca cc ta tc tv [x0] (tlD (cutD 0 ds)) ∧ Below w.heap.size w (w1.alloc (.cells (litC ca 1 cc ta n tc) 27)) ∧ (w1.alloc (.cells (litC ca 1 cc ta n tc) 27)).heap[w1.heap.size]? = some (.cells (litC ca 1 cc ta n tc) 27)) := ⟨L2, H1.out.2.alloc H1.out.2.size _, heap_alloc_last _ _ _ rfl⟩
    clear HC B2 L2 H1
    have h0' : ¬ (n : Int) = 0 := by omega
    go_wp2_with fail
    refine (HCC.out ()).mono ?_
    rintro e w3 ⟨ca3, cc3, ta3, tc3, tv3, rfl, lit3, b3⟩
    rw [szAl] at b3
    have hsd := adds_sound x0 ds (by have := HN.out.2.1; omega) (by have := HN.out.2.1; omega)
    have HR := runG w3 w3.heap.size ca3 cc3 ta3 tc3 tv3 [x0] (tlD (cutD 0 ds)) lit3 (Nat.le_refl _) hsd (fun c hc => by obtain rfl := List.mem_singleton.1 hc; exact ⟨x1, x2⟩) (adds_imm HB.out) s hs
    rw [HN.out.2.2] at HR
    simp only [List.length_singleton] at HR
    have hen := adds_end x0 (cutD 0 ds) (dL s.data.toList) x1 x2 hsd
    rw [cutD_len, HN.out.2.1] at hen
    generalize (endA [x0] (tlD (cutD 0 ds)) (dL s.data.toList)).2 = R at *
    obtain ⟨wo, rg, pl⟩ := R
    dsimp only at HR hen
    have HRR : Hid (∀ _ : Unit, _) := fun _ => HR
    have HE : Hid (∃ es, pathE x0 es (wo 0) ∧ es.Perm (allE (cutD 0 ds) rg n) ∧ 0 ≤ wo 0 ∧ wo 0 < 18446744073709551616) := hen
    have H3 : Hid (Below (w1.heap.size + 1) (w1.alloc (.cells (litC ca 1 cc ta n tc) 27)) w3) := b3
    clear HR hen b3 lit3 HCC hsd
    go_wp2_with fail
    refine (HRR.out ()).mono ?_
    rintro e w4 ⟨g, rv, rfl, ow, orr, b4⟩
    obtain ⟨rb, rc, hrv, -, lr⟩ := owG_some orr (by intro e; have := congrArg List.length e; rw [regsL_len] at this; simp at this; omega)
    have hrl := regsL_len rg n
    obtain ⟨q, hq⟩ : ∃ q, 4 * n = q := ⟨_, rfl⟩
    rw [hrl, hq] at hrv
    subst hrv
    have HQn : Hid (4 * n = q) := hq
    have hq1 : IntKind.i64.wrap (4 * (n : Int)) = (q : Int) := by rw [IntKind.wrap_i64]; omega
    have s3 := H3.out.size
    rw [szAl] at s3
    have s4 := b4.size
    have B5 : Below (w1.heap.size + 1) (w1.alloc (.cells (litC ca 1 cc ta n tc) 27)) (w4.alloc (.cells #[.slice (some ⟨g, 0, none⟩) 1 1, .slice (some ⟨rb, 0, none⟩) q rc] 34)) := (H3.out.trans (b4.mono s3)).alloc (by omega) _
    have e6 : ∀ a j, a < w4.heap.size → (w4.alloc (.cells #[.slice (some ⟨g, 0, none⟩) 1 1, .slice (some ⟨rb, 0, none⟩) q rc] 34)).cell? ⟨a, j, none⟩ = w4.cell? ⟨a, j, none⟩ := fun a j ha => World.cell?_of_block (w := w4) (Below.heap_alloc _ _ _ ha)
    have lg := World.ownsRow.lt ow g rfl
    have cG : (w4.alloc (.cells #[.slice (some ⟨g, 0, none⟩) 1 1, .slice (some ⟨rb, 0, none⟩) q rc] 34)).cell? ⟨g, 0, none⟩ = some (.int .u64 (wo 0)) := (e6 g 0 lg.2).trans (World.ownsRow.cellAt ow 0 (by simp))
    have cRg : ∀ i j, i < n → j < 4 → (w4.alloc (.cells #[.slice (some ⟨g, 0, none⟩) 1 1, .slice (some ⟨rb, 0, none⟩) q rc] 34)).cell? ⟨rb, 4 * i + j, none⟩ = some (.int .u64 (rg i j)) := fun i j hi hj => by
      rw [e6 rb _ lr]
      have orr' : OwW w4 (g + 1) (.slice (some ⟨rb, 0, none⟩) (regsL rg n).length rc) (regsL rg n) := by rw [hrl, hq]; exact orr
      rw [World.ownsRow.cellAt orr' (4 * i + j) (by rw [hrl]; omega), flat_wd, List.getElem?_map, regsL_at rg n i j hi hj]
      rfl
    have HF : Hid (∀ W, Below (w4.heap.size + 1) (w4.alloc (.cells #[.slice (some ⟨g, 0, none⟩) 1 1, .slice (some ⟨rb, 0, none⟩) q rc] 34)) W → W.cell? ⟨w1.heap.size, 1, none⟩ = some (.slice ta n tc) ∧ W.cell? ⟨w4.heap.size, 0, none⟩ = some (.slice (some ⟨g, 0, none⟩) 1 1) ∧ W.cell? ⟨w4.heap.size, 1, none⟩ = some (.slice (some ⟨rb, 0, none⟩) q rc) ∧ LitG W w1.heap.size ca cc ta tc tv [x0] (tlD (cutD 0 ds)) ∧ W.cell? ⟨g, 0, none⟩ = some (.int .u64 (wo 0)) ∧ (∀ i j, i < n → j < 4 → W.cell? ⟨rb, 4 * i + j, none⟩ = some (.int .u64 (rg i j))) ∧ Below w.heap.size w W) := fun W k => by
      have eo : W.heap[w4.heap.size]? = some (.cells #[.slice (some ⟨g, 0, none⟩) 1 1, .slice (some ⟨rb, 0, none⟩) q rc] 34) := (k.block _ (by omega)).trans (heap_alloc_last _ _ _ rfl)
      have el : W.heap[w1.heap.size]? = some (.cells (litC ca 1 cc ta n tc) 27) := (k.block _ (by omega)).trans ((B5.block _ (by omega)).trans H2.out.2.2)
      have hw1 := H2.out.2.1.size
      rw [szAl] at hw1
      have B6 := B5.trans (k.mono (by omega))
      have hww : w.heap.size ≤ w1.heap.size + 1 := hw1
      exact ⟨(cell?_heap el 1).trans rfl, (cell?_heap eo 0).trans rfl, (cell?_heap eo 1).trans rfl, H2.out.1.later (B6.mono (by omega)), (k.cell (p := ⟨g, 0, none⟩) (by show g < _; omega)).trans cG, fun i j hi hj => (k.cell (p := ⟨rb, 4 * i + j, none⟩) (by show rb < _; omega)).trans (cRg i j hi hj), H2.out.2.1.trans (B6.mono hww)⟩
    have HS5 : Hid ((w4.alloc (.cells #[.slice (some ⟨g, 0, none⟩) 1 1, .slice (some ⟨rb, 0, none⟩) q rc] 34)).heap.size = w4.heap.size + 1) := szAl _ _
    have f0 := HF.out _ (Below.refl _ _)
    have f1 := f0.1
    have f2 := f0.2.1
    have f3 := f0.2.2.1
    clear cG cRg e6 lg B5 b4 ow orr hrl hq s3 s4 lr HRR H3 H2 f0
    go_wp2_with fail
    clear f1 f2 f3 hq1
    have H4 : Hid (∀ t, (Dl (cutD 0 ds) t).length ≤ 4) := fun t => by
      unfold Dl
      cases e : (cutD 0 ds)[t]? with
      | none => simp
      | some c => exact cutD_four _ 0 c (List.mem_of_getElem? e)
    have HDn : Hid ((tlD (cutD 0 ds)).length = n) := HN.out.2.2
    generalize cutD 0 ds = dl at *
    generalize w4.alloc (.cells #[.slice (some ⟨g, 0, none⟩) 1 1, .slice (some ⟨rb, 0, none⟩) q rc] 34) = w5 at *
    generalize w4.heap.size = p8 at *
    rw [← HS5.out] at HF
    generalize w1.heap.size = p7 at *
    clear HB HDS HN
    go_loopw [10, 11, 12, 13] (fun a b c d wr => ∃ (t : Nat) (sm : Int) (fv lv : Value), fv = a ∧ lv = b ∧ c = .int .u64 sm ∧ d = .int .i64 t ∧ t ≤ n ∧ sm = (x0 + dfS (allE dl rg t)) % 18446744073709551616 ∧ Fd w5 wr fv lv ((allE dl rg t).map Prod.fst) ((allE dl rg t).map Prod.snd)) (fun _ _ _ d _ => n - (intOf d).toNat)
    case atStart => exact ⟨0, x0, _, _, rfl, rfl, rfl, rfl, by omega, by show x0 = (x0 + 0) % _; omega, OwG.nil _ _ _ _ _, OwG.nil _ _ _ _ _, (fun g e => by cases e), (fun g e => by cases e), (fun g e => by cases e), Below.refl _ _⟩
    case round =>
      obtain ⟨t, sm, fv, lv, rfl, rfl, rfl, rfl, ht, hsm, hfd⟩ := hrel
      have HQ : Hid (Fd w5 wr fv lv ((allE dl rg t).map Prod.fst) ((allE dl rg t).map Prod.snd) ∧ sm = (x0 + dfS (allE dl rg t)) % 18446744073709551616) := ⟨hfd, hsm⟩
      clear hfd hsm
      have f0 := HF.out wr HQ.out.1.bl
      have f1 := f0.1
      by_cases h5 : t < n
      · have t0 : (0 : Int) ≤ (t : Int) := Int.natCast_nonneg _
        have t1 : (t : Int) < (n : Int) := by omega
        obtain ⟨M, hM⟩ : ∃ M, (Dl dl t).length = M := ⟨_, rfl⟩
        have HM : Hid ((Dl dl t).length = M) := hM
        have hM4 : M ≤ 4 := by rw [← hM]; exact H4.out t
        have htl : t < (tlD dl).length := by rw [HDn.out]; exact h5
        have HI : Hid (∃ tb off ia icap, ta = some ⟨tb, off, none⟩ ∧ tv t = .slice ia M icap) := by
          obtain ⟨tb, off, e, _, _⟩ := f0.2.2.2.1.t t htl
          obtain ⟨ia, icap, e2⟩ := (f0.2.2.2.1.i t htl).form
          rw [tlD_get, addI_len, hM] at e2
          exact ⟨tb, off, ia, icap, e, e2⟩
        obtain ⟨tb, off, ia, icap, rfl, htv⟩ := HI.out
        have HT : Hid (∀ W, Below w5.heap.size w5 W → W.cell? ⟨tb, off + t, none⟩ = some (.slice ia M icap) ∧ ∀ u (hu : u < M), ∃ ib io, ia = some ⟨ib, io, none⟩ ∧ W.cell? ⟨ib, io + u * 8 + 4, none⟩ = some (.int .u64 ((Dl dl t)[u]?.getD 0))) := fun W k => by
          have z := (HF.out W k).2.2.2.1
          obtain ⟨tb', off', e, _, c⟩ := z.t t htl
          injection e with e
          injection e with e e'
          subst e e'
          refine ⟨by rw [← htv]; exact c, fun u hu => ?_⟩
          have zi := z.i t htl
          have hul : u < (tlD dl)[t].length := by rw [tlD_get, addI_len, hM]; exact hu
          obtain ⟨b, o, cp, e2, _, _, _, _, q4, _⟩ := zi.i8 u hul
          rw [htv] at e2
          injection e2 with e2 _ _
          refine ⟨b, o, e2, ?_⟩
          rw [q4]
          have : (tlD dl)[t][u] = addX u ((Dl dl t)[u]?.getD 0) := by
            simp only [tlD_get, addI_get]
          rw [this]
          rfl
        clear HI htv f0 hM
        go_wp2_with fail
        clear f1
        go_loopw [10, 11, 12, 14] (fun a b c d wr => ∃ (u : Nat) (sm : Int) (fv lv : Value), fv = a ∧ lv = b ∧ c = .int .u64 sm ∧ d = .int .i64 u ∧ u ≤ M ∧ sm = (x0 + dfS (allE dl rg t ++ dnG (Dl dl t) (rg t) u)) % 18446744073709551616 ∧ Fd w5 wr fv lv ((allE dl rg t ++ dnG (Dl dl t) (rg t) u).map Prod.fst) ((allE dl rg t ++ dnG (Dl dl t) (rg t) u).map Prod.snd)) (fun _ _ _ d _ => M - (intOf d).toNat)
        case atStart => exact ⟨0, _, _, _, rfl, rfl, rfl, rfl, by omega, by rw [show dnG (Dl dl t) (rg t) 0 = [] from rfl, List.append_nil]; exact HQ.out.2, by rw [show dnG (Dl dl t) (rg t) 0 = [] from rfl, List.append_nil]; exact HQ.out.1⟩
        case round =>
          obtain ⟨u, sm, fv, lv, rfl, rfl, rfl, rfl, hu, hsm, hfd⟩ := hrel
          have hEl : (allE dl rg t ++ dnG (Dl dl t) (rg t) u).length ≤ 16 := by
            have := allE_len dl H4.out rg t
            rw [List.length_append, dnG_len]
            omega
          have f0 := HF.out wr hfd.bl
          have f1 := f0.1
          obtain ⟨f2, f3⟩ := HT.out wr hfd.bl
          by_cases h6 : u < M
          · have u0 : (0 : Int) ≤ (u : Int) := Int.natCast_nonneg _
            have u1 : (u : Int) < (M : Int) := by omega
            obtain ⟨ib, io, rfl, c1⟩ := f3 u h6
            have c2 := f0.2.2.1
            have c3 := f0.2.2.2.2.2.1 t u h5 (by omega)
            have hqq := HQn.out
            obtain ⟨j1, hj1⟩ : ∃ j1, 4 * t = j1 := ⟨_, rfl⟩
            obtain ⟨k1, hk1⟩ : ∃ k1, j1 + u = k1 := ⟨_, rfl⟩
            have wj : IntKind.i64.wrap (4 * (t : Int)) = (j1 : Int) := by rw [IntKind.wrap_i64]; omega
            have wk : IntKind.i64.wrap ((j1 : Int) + (u : Int)) = (k1 : Int) := by rw [IntKind.wrap_i64]; omega
            have k0 : (0 : Int) ≤ (k1 : Int) := Int.natCast_nonneg _
            have k2 : (k1 : Int) < (q : Int) := by omega
            rw [hj1, hk1] at c3
            have HE2 : Hid (dnG (Dl dl t) (rg t) (u + 1) = dnG (Dl dl t) (rg t) u ++ [(rg t u, (rg t u + (Dl dl t)[u]?.getD 0) % 18446744073709551616)]) := dnG_succ _ _ _
            generalize (Dl dl t)[u]?.getD 0 = dv at *
            generalize rg t u = fx at *
            obtain ⟨lx, hlx⟩ : ∃ lx, (fx + dv) % 18446744073709551616 = lx := ⟨_, rfl⟩
            have wl : IntKind.u64.wrap (fx + dv) = lx := by rw [IntKind.wrap_u64]; exact hlx
            obtain ⟨s2, hs2⟩ : ∃ s2, IntKind.u64.wrap (sm + dv) = s2 := ⟨_, rfl⟩
            have HSM : Hid (s2 = (x0 + dfS (allE dl rg t ++ dnG (Dl dl t) (rg t) (u + 1))) % 18446744073709551616) := by
              show _ = _
              rw [HE2.out, ← List.append_assoc, dfS_app, ← hs2, IntKind.wrap_u64, hsm]
              dsimp only
              omega
            have HEE : Hid (allE dl rg t ++ dnG (Dl dl t) (rg t) (u + 1) = allE dl rg t ++ dnG (Dl dl t) (rg t) u ++ [(fx, lx)]) := by
              show _ = _
              rw [HE2.out, ← List.append_assoc, hlx]
            clear HE2 hlx hsm f3 hqq hj1 hk1
            generalize allE dl rg t ++ dnG (Dl dl t) (rg t) u = E at *
            have HLE : Hid ((E.map Prod.fst).length = (E.map Prod.snd).length) := by show _ = _; simp
            have l1 : (E.map Prod.fst).length ≤ 16 := by simpa using hEl
            have l2 : (E.map Prod.snd).length ≤ 16 := by simpa using hEl
            have HFF : Hid ((E ++ [(fx, lx)]).map Prod.fst = E.map Prod.fst ++ [fx] ∧ (E ++ [(fx, lx)]).map Prod.snd = E.map Prod.snd ++ [lx]) := ⟨by simp, by simp⟩
            generalize E.map Prod.fst = F at *
            generalize E.map Prod.snd = L at *
            obtain ⟨fa, fc, hfv⟩ := hfd.f.form
            obtain ⟨la, lc, hlv⟩ := hfd.l.form
            subst hfv hlv
            have HQ2 : Hid (Fd w5 wr (.slice fa F.length fc) (.slice la L.length lc) F L) := hfd
            clear hfd f0
            go_wp2_with (at_builtin; refine hideG ?_)
            change wpList _ _ _ _ _ _
            refine app_lies (cs := wdC) (wr := wr) (by rfl) _ _ 24 22 (by rfl) Tryz.underlying24 infoU64 rfl (by decide) (fun _ => rfl) _ F fx HQ2.out.f (by rfl) wr.heap.size rfl (by rfl) (wdC_one _) _ rfl (by unfold maxLen; omega) (by omega) ?_
            intro b1 k3 w6 ho6 hk6 hb6 hl6
            have fd6 := HQ2.out.more ho6 hk6 hb6
            have HQ3 : Hid (Fd w5 w6 (.slice la L.length lc) (.slice (some ⟨b1, 0, none⟩) (F.length + 1) k3) L (F ++ [fx])) := fd6.symm
            have g0 := HF.out w6 fd6.bl
            have d1 := g0.2.2.1
            have d2 : w6.cell? ⟨rb, k1, none⟩ = some (.int .u64 fx) := (hk6.cell (p := ⟨rb, k1, none⟩) (cell_lt c3) (fun e => by
              have n1 := HQ2.out.nf _ e
              have n2 : rb < w5.heap.size := cell_lt ((HF.out w5 (Below.refl _ _)).2.2.2.2.2.1 t u h5 (by omega))
              exact absurd n2 (by show ¬ rb < _; exact Nat.not_lt.2 n1))).trans c3
            clear fd6 ho6 hk6 hb6 hl6 HQ2 c1 c2 c3 g0
            go_wp2_with (at_builtin; refine hideG ?_)
            change wpList _ _ _ _ _ _
            refine app_lies (cs := wdC) (wr := w6) (by rfl) _ _ 24 22 (by rfl) Tryz.underlying24 infoU64 rfl (by decide) (fun _ => rfl) _ L lx HQ3.out.f (by rfl) w6.heap.size rfl (by rfl) (wdC_one _) _ rfl (by unfold maxLen; omega) (by omega) ?_
            intro b2 k4 w7 ho7 hk7 hb7 hl7
            have fd7 := (HQ3.out.more ho7 hk7 hb7).symm
            rw [← HFF.out.1, ← HFF.out.2, ← HEE.out] at fd7
            have HQ4 : Hid (Fd w5 w7 (.slice (some ⟨b1, 0, none⟩) (F.length + 1) k3) (.slice (some ⟨b2, 0, none⟩) (L.length + 1) k4) ((allE dl rg t ++ dnG (Dl dl t) (rg t) (u + 1)).map Prod.fst) ((allE dl rg t ++ dnG (Dl dl t) (rg t) (u + 1)).map Prod.snd)) := fd7
            clear fd7 ho7 hk7 hb7 hl7 HQ3 d1 d2
            go_wp2
            go_roundw
            case rel => exact ⟨u + 1, s2, _, _, rfl, rfl, rfl, by go_num, by omega, HSM.out, HQ4.out⟩
            case measure => simp [intOf]; omega
          · obtain rfl : u = M := by omega
            have HQ2 : Hid (Fd w5 wr fv lv ((allE dl rg (t + 1)).map Prod.fst) ((allE dl rg (t + 1)).map Prod.snd) ∧ sm = (x0 + dfS (allE dl rg (t + 1))) % 18446744073709551616) := by
              rw [allE_succ, HM.out]
              exact ⟨hfd, hsm⟩
            clear hfd hsm f0 f3
            go_wp2
            go_roundw
            case rel => exact ⟨t + 1, sm, _, _, rfl, rfl, rfl, by go_num, by omega, HQ2.out.2, HQ2.out.1⟩
            case measure => simp [intOf]; omega
      · obtain rfl : t = n := by omega
        obtain ⟨es, hp, hpm, e0, e1⟩ := HE.out
        have hsm : sm = wo 0 := by
          rw [HQ.out.2]
          have h1 := path_sum es x0 _ hp
          have h2 : dfS es = dfS (allE dl rg t) := perm_sum (hpm.map _)
          rw [← h2, h1]
          omega
        have hlen : (allE dl rg t).length ≤ 16 := by have := allE_len dl H4.out rg t; omega
        have hfd := HQ.out.1
        obtain ⟨fa, fc, hfv⟩ := hfd.f.form
        obtain ⟨la, lc, hlv⟩ := hfd.l.form
        rw [List.length_map] at hfv hlv
        subst hfv hlv hsm
        have hfi := hfd.f.in
        have hli := hfd.l.in
        have HC := chain_any wr wr.heap.size (Nat.le_refl _) x0 (wo 0) fa fc la lc (allE dl rg t) es ⟨hfi, hli, by omega⟩ hp hpm x1 x2 e0 e1
        have HCC : Hid (∀ _ : Unit, _) := fun _ => HC
        have c2 := f0.2.1
        have c3 := f0.2.2.2.2.1
        have HB : Hid (Below w.heap.size w wr) := f0.2.2.2.2.2.2
        clear HC hp hpm hfi hli hfd f0 HQ e0 e1
        generalize wo 0 = y at *
        generalize (allE dl rg t).length = mm at *
        go_wp2_with fail
        refine (HCC.out ()).mono ?_
        rintro e w9 ⟨rfl, b9⟩
        have HX : Hid (Below w.heap.size w w9) := HB.out.trans (b9.mono HB.out.size)
        clear b9
        go_wp2
        go_ret
        exact ⟨rfl, HX.out⟩
end Go.Proofs.YtegnmflbbpfdhaaGreat
