import Derived.Test.YtdpebhdjcgiboaaGreatSn3
namespace Go.Proofs.YtdpebhdjcgiboaaGreat
set_option linter.unusedSimpArgs false
open Go.ChangeShapes Go.WideShapes Go.ChangeAt Go.RowKit Go.MuLone Go.RwLone
set_option linter.unusedVariables false
set_option maxRecDepth 100000
set_option maxHeartbeats 6400000
theorem rep_set {α : Type} (a z : α) (k n : Nat) (h : k < n) : (List.replicate k a ++ List.replicate (n - k) z).set k a = List.replicate (k + 1) a ++ List.replicate (n - (k + 1)) z := by
  obtain ⟨m, rfl⟩ : ∃ m, n = k + 1 + m := ⟨n - (k + 1), by omega⟩
  rw [show k + 1 + m - k = m + 1 by omega, show k + 1 + m - (k + 1) = m by omega]
  apply List.ext_getElem?
  intro j
  rw [List.getElem?_set]
  simp only [List.getElem?_append, List.length_replicate, List.getElem?_replicate, List.length_append]
  repeat' split
  all_goals first | rfl | omega
/-- The law's own `laid`. -/
theorem laid_any (w : World) (C : Nat) (hC : C ≤ w.heap.size) (W : Nat) (hW1 : 1 ≤ W) (hW : W ≤ 16) (ja : Option Addr) (jc : Nat) (js : List (Int × Int × Int)) (hj : InG pkC w C (.slice ja js.length jc) js) (hK : js.length ≤ 40) (hjt : ∀ x ∈ js, -9223372036854775808 ≤ x.2.1 ∧ x.2.1 ≤ 9223372036854775807) :
    Calls Tryz.prog 9 #[.int .i64 (W : Int), .slice ja js.length jc] w fun e w' => ∃ hb qb J, e = .returned (.tuple #[.pointer (some ⟨hb, 0, none⟩), .int .i64 (totJ (lenJ js) js.length : Int), .bool true]) ∧ Lj w w' W js js.length hb qb J := by
  have HJ : Hid (∀ X, Keeps (fun _ => False) w X → InG pkC X C (.slice ja js.length jc) js) := fun X k => hj.later (k.below hC (fun _ _ e => e))
  have HJT : Hid (∀ x ∈ js, -9223372036854775808 ≤ x.2.1 ∧ x.2.1 ≤ 9223372036854775807) := hjt
  obtain ⟨K, hKK⟩ : ∃ K, js.length = K := ⟨_, rfl⟩
  have HL : Hid (js.length = K) := hKK
  have hK40 : K ≤ 40 := by omega
  have HNW : Hid (∀ _ : Unit, _) := fun _ => hnew_any w W hW1 hW
  rw [hKK]
  clear hj hjt hKK hK
  have hm := run_make_any (P := Tryz.prog) 102 106 _ 8 64 Tryz.underlying102 infoIn
  go_enter Tryz.func9, Tryz.ntmps9
  go_wp2_with fail
  refine (HNW.out ()).mono ?_
  rintro e w0 ⟨rfl, hw0⟩
  have HS : Hid (Lj w w0 W js 0 (w.heap.size + 1) w.heap.size (fun _ => bJ)) := Lj.start hW (by rw [hw0]; exact Keeps.refl _ _)
  clear hw0 HNW
  go_wp2_with fail
  go_loopw [9, 10] (fun c d wr => ∃ (i tt : Nat) (J : Nat → Bd), c = .int .i64 (tt : Int) ∧ d = .int .i64 i ∧ i ≤ K ∧ tt = totJ (lenJ js) i ∧ tt ≤ 10 * i ∧ Lj w wr W js i (w.heap.size + 1) w.heap.size J) (fun _ d _ => K - (intOf d).toNat)
  case atStart => exact ⟨0, 0, _, rfl, rfl, by omega, rfl, by omega, HS.out⟩
  case round =>
    rename World => wa
    obtain ⟨i, tt, J, rfl, rfl, hi, htt, ht10, hlj⟩ := hrel
    have HQ : Hid (Lj w wa W js i (w.heap.size + 1) w.heap.size J ∧ tt = totJ (lenJ js) i) := ⟨hlj, htt⟩
    clear hlj htt HS
    have i0 : (0 : Int) ≤ (i : Int) := Int.natCast_nonneg _
    by_cases h5 : i < K
    · have i1 : (i : Int) < (K : Int) := by omega
      have hil : i < js.length := by have := HL.out; omega
      have HJI := HJ.out wa HQ.out.1.k
      rw [HL.out] at HJI
      obtain ⟨b1, o1, rfl, hbC, q1⟩ := InG.cell (cs := pkC) (n := 3) (fun _ => rfl) HJI i hil (by decide)
      have HAT : Hid (jbA js i = js[i]) := jbA_at hil
      have ht64 := HJT.out js[i] (List.getElem_mem hil)
      generalize js[i] = x at *
      obtain ⟨x0, x1, x2⟩ := x
      have p0 : wa.cell? ⟨b1, o1 + i * 3, none⟩ = some (.int .i64 x0) := q1 0 (by decide)
      have p1 : wa.cell? ⟨b1, o1 + i * 3 + 1, none⟩ = some (.int .i64 x1) := q1 1 (by decide)
      have p2 : wa.cell? ⟨b1, o1 + i * 3 + 2, none⟩ = some (.int .i64 x2) := q1 2 (by decide)
      clear q1 HJI
      have hWu : IntKind.u64.wrap (W : Int) = (W : Int) := by rw [IntKind.wrap_u64]; omega
      have hWz : ¬ (W : Int) = 0 := by omega
      have hWn : ¬ W = 0 := by omega
      obtain ⟨y, hy⟩ : ∃ y, whX W x0 = y := ⟨_, rfl⟩
      have hyW : y < W := by rw [← hy]; exact whX_lt hW1 x0
      have hv1 : Value.int .i64 (wrap64 ((IntKind.u64.wrap x0).tmod (W : Int))) = Value.int .i64 (y : Int) := by rw [whX_run hW1, hy, wrap_in (by omega) (by omega)]
      have HY2 : Hid (IntKind.i64.wrap ((IntKind.u64.wrap x0).tmod (W : Int)) = (y : Int)) := by show _ = _; rw [whX_run hW1, hy, IntKind.wrap_i64]; omega
      have HWJ : Hid (whoJ js W i = y ∧ tagJ js i = x1 ∧ lenJ js i = lnX x2) := ⟨by unfold whoJ; rw [HAT.out]; exact hy, by unfold tagJ; rw [HAT.out], by unfold lenJ; rw [HAT.out]⟩
      clear hy HAT
      have hl3 := lnX_lt x2
      have hv11 : Value.int .i64 (wrap64 ((IntKind.u64.wrap x2).tmod 11)) = Value.int .i64 (lnX x2 : Int) := by rw [lnX_run, wrap_in (by omega) (by omega)]
      generalize lnX x2 = n at *
      have HCS : Hid (b1 < wa.heap.size) := by have := HQ.out.1.k.size; show _ < _; omega
      have hmk := hm n (by omega) (by omega)
      have HMR := made_row wa n hl3
      have HMR2 : Hid (OwG iC 106 8 (wa.alloc (.cells (madeCells zaI (n * 8)) 106)) wa.heap.size (.slice (some ⟨wa.heap.size, 0, none⟩) n n) (List.replicate n zeI)) := HMR
      have HTT : Hid (tt + max 1 n = totJ (lenJ js) (i + 1)) := by show _ = _; rw [totJ_succ, ← HQ.out.2, HWJ.out.2.2]
      have htm : tt + max 1 n ≤ 10 * (i + 1) := by omega
      obtain ⟨tn, htn⟩ : ∃ tn, tt + max 1 n = tn := ⟨_, rfl⟩
      have HTN : Hid (tt + max 1 n = tn) := htn
      rw [htn] at htm HTT
      clear HMR htn
      go_upto_region 9 with fail
      go_cut [9, 11] (fun t u wx => t = .int .i64 (tn : Int) ∧ u = .int .i64 (n : Int) ∧ wx = wa)
      case first =>
        go_wp2_with fail
        all_goals
          go_meet
          case rel => exact ⟨by congr 1; have := HTN.out; omega, rfl, rfl⟩
      case rest =>
        obtain ⟨rfl, rfl, rfl⟩ := hcut
        clear hv11 HTN
        rename World => wa
        go_wp2_with fail
        go_loopw [13] (fun d wq => ∃ k : Nat, d = .int .i64 k ∧ k ≤ n ∧ OwG iC 106 8 wq wa.heap.size (.slice (some ⟨wa.heap.size, 0, none⟩) n n) (List.replicate k adI ++ List.replicate (n - k) zeI) ∧ Below wa.heap.size wa wq) (fun d _ => n - (intOf d).toNat)
        case atStart => exact ⟨0, rfl, by omega, HMR2.out, (Below.refl _ _).alloc (Nat.le_refl _) _⟩
        case round =>
          rename World => wq
          obtain ⟨k, rfl, hk, hov, hbl⟩ := hrel
          have k0 : (0 : Int) ≤ (k : Int) := Int.natCast_nonneg _
          have hll : (List.replicate k adI ++ List.replicate (n - k) zeI).length = n := by simp; omega
          by_cases h7 : k < n
          · have k1 : (k : Int) < (n : Int) := by omega
            have hov' : wq.ownsRow wa.heap.size 106 8 (.slice (some ⟨wa.heap.size, 0, none⟩) n n) n ((List.replicate k adI ++ List.replicate (n - k) zeI).flatMap iC) := by
              have := hov
              unfold OwG at this
              rw [hll] at this
              exact this
            have cz : ∀ j, j < 8 → ∃ u, wq.cell? ⟨wa.heap.size, k * 8 + j, none⟩ = some u := fun j hj => ⟨_, (World.ownsRow.cellAt hov' (k * 8 + j) (by omega)).trans (List.getElem?_eq_getElem (by rw [flat_len iC 8 (fun _ => rfl), hll]; omega))⟩
            have fz : ∀ j, wq.frozen? ⟨wa.heap.size, k * 8 + j, none⟩ = false := fun j => World.ownsRow.frozenAt hov' (k * 8 + j)
            obtain ⟨v0, d0⟩ := cz 0 (by decide)
            obtain ⟨v1, d1⟩ := cz 1 (by decide)
            obtain ⟨v2, d2⟩ := cz 2 (by decide)
            obtain ⟨v3, d3⟩ := cz 3 (by decide)
            obtain ⟨v4, d4⟩ := cz 4 (by decide)
            obtain ⟨v5, d5⟩ := cz 5 (by decide)
            obtain ⟨v6, d6⟩ := cz 6 (by decide)
            obtain ⟨v7, d7⟩ := cz 7 (by decide)
            have z0 := fz 0
            have z1 := fz 1
            have z2 := fz 2
            have z3 := fz 3
            have z4 := fz 4
            have z5 := fz 5
            have z6 := fz 6
            have z7 := fz 7
            rw [Nat.add_zero] at d0 z0
            have hset := owI_set hov k (by rw [hll]; exact h7) adI
            rw [rep_set adI zeI k n h7] at hset
            have hkp := Keeps.setCell (B := fun x => x = wa.heap.size) (Keeps.setCell (B := fun x => x = wa.heap.size) (Keeps.setCell (B := fun x => x = wa.heap.size) (Keeps.setCell (B := fun x => x = wa.heap.size) (Keeps.setCell (B := fun x => x = wa.heap.size) (Keeps.setCell (B := fun x => x = wa.heap.size) (Keeps.setCell (B := fun x => x = wa.heap.size) (Keeps.setCell (B := fun x => x = wa.heap.size) (Keeps.refl _ wq) (p := ⟨wa.heap.size, k * 8, none⟩) rfl (.int .i64 4)) (p := ⟨wa.heap.size, k * 8 + 1, none⟩) rfl (.int .i64 0)) (p := ⟨wa.heap.size, k * 8 + 2, none⟩) rfl (.int .i64 0)) (p := ⟨wa.heap.size, k * 8 + 3, none⟩) rfl (.int .i64 (-1))) (p := ⟨wa.heap.size, k * 8 + 4, none⟩) rfl (.int .u64 1)) (p := ⟨wa.heap.size, k * 8 + 5, none⟩) rfl (.int .i64 0)) (p := ⟨wa.heap.size, k * 8 + 6, none⟩) rfl (.int .u64 0)) (p := ⟨wa.heap.size, k * 8 + 7, none⟩) rfl (.int .i64 0)
            have HN : Hid (∀ X, Keeps (fun x => x = wa.heap.size) wq X → Below wa.heap.size wa X) := fun X kx => hbl.trans (kx.below hbl.size (fun y hy e => by omega))
            have HS : Hid (_ ∧ _) := ⟨hset, HN.out _ hkp⟩
            clear hset hkp hov hov' cz fz hll hbl HN
            go_wp2
            go_roundw
            case rel => exact ⟨k + 1, by go_num, by omega, HS.out.1, HS.out.2⟩
            case measure => simp [intOf]; omega
          · obtain rfl : k = n := by omega
            have HO : Hid (OwG iC 106 8 wq wa.heap.size (.slice (some ⟨wa.heap.size, 0, none⟩) k k) (List.replicate k adI) ∧ Below wa.heap.size wa wq) := ⟨by have := hov; rw [Nat.sub_self, List.replicate_zero, List.append_nil] at this; exact this, hbl⟩
            clear hov hbl hll
            go_wp2_with fail
            have kq : Keeps (fun _ => False) wq ((wq.alloc (.cells #[.int .u64 0] 55)).alloc (.cells #[.slice (some ⟨wa.heap.size, 0, none⟩) k k] 102)) := ((Keeps.refl _ _).alloc _).alloc _
            have b0 : ((wq.alloc (.cells #[.int .u64 0] 55)).alloc (.cells #[.slice (some ⟨wa.heap.size, 0, none⟩) k k] 102)).heap[wq.heap.size]? = some (.cells #[.int .u64 0] 55) := (Below.heap_alloc _ _ _ (by rw [szAl]; omega)).trans (heap_alloc_last _ _ _ rfl)
            have b2 : ((wq.alloc (.cells #[.int .u64 0] 55)).alloc (.cells #[.slice (some ⟨wa.heap.size, 0, none⟩) k k] 102)).heap[wq.heap.size + 1]? = some (.cells #[.slice (some ⟨wa.heap.size, 0, none⟩) k k] 102) := heap_alloc_last _ _ _ (szAl _ _).symm
            have b3 : ((wq.alloc (.cells #[.int .u64 0] 55)).alloc (.cells #[.slice (some ⟨wa.heap.size, 0, none⟩) k k] 102)).heap.size = wq.heap.size + 2 := by rw [szAl, szAl]
            generalize ((wq.alloc (.cells #[.int .u64 0] 55)).alloc (.cells #[.slice (some ⟨wa.heap.size, 0, none⟩) k k] 102)) = W2 at *
            have hin := (owK HO.out.1 kq (fun _ _ e => e)).in
            obtain ⟨tvf, hlit⟩ := LitG.of (w := W2) (C := W2.heap.size) (ca := some ⟨wq.heap.size, 0, none⟩) (cc := 1) (ta := some ⟨wq.heap.size + 1, 0, none⟩) (n := 1) (tc := 1) (cs := [0]) (ts := [List.replicate k adI]) [(.slice (some ⟨wa.heap.size, 0, none⟩) k k, List.replicate k adI)] (inW1 b0 (by omega)) (inP1 (p := (.slice (some ⟨wa.heap.size, 0, none⟩) k k, List.replicate k adI)) b2 (by omega)) (fun p hp => by rw [List.mem_singleton.1 hp]; exact hin) rfl (by simp) (by simp) (fun j hj => by
              have : j = 0 := by simp at hj; exact hj
              subst this
              simp
              omega)
            have HKW : Hid (Keeps (fun _ => False) wa W2) := (Below.keeps HO.out.2 _).trans kq
            clear hin b0 b2 b3 kq HO
            refine (layB W2 W2.heap.size (some ⟨wq.heap.size, 0, none⟩) 1 (some ⟨wq.heap.size + 1, 0, none⟩) 1 tvf [0] [List.replicate k adI] hlit (Nat.le_refl _) (adI_sound k hl3) cs0 (adI_imm k)).mono ?_
            rintro e w2 ⟨B, bb, hb2, qb2, tv2, rfl, hBok, hBn, hBwd, hBins, bn⟩
            have HBN : Hid (BdOk B ∧ B.n = 1 ∧ B.ins 0 = List.replicate (lenJ js i) adI ∧ BnG W2 w2 B bb hb2 qb2 tv2 (begA [0] [List.replicate k adI])) := ⟨hBok, hBn, by rw [hBins, HWJ.out.2.2]; rfl, bn⟩
            have HK2 : Hid (Keeps (fun _ => False) wa w2) := HKW.out.trans (Below.keeps bn.bl _)
            have HTH : Hid (∀ X, Keeps (fun _ => False) w2 X → Calls Tryz.prog 39 #[.pointer (some ⟨bb, 0, none⟩), .int .i64 0] X fun e w' => e = .returned (.pointer (some ⟨B.T 0, 0, none⟩)) ∧ w' = X) := fun X kx => by
              refine (bthread X B bb hb2 tv2 ((kx.block _ (Array.getElem?_eq_some_iff.1 bn.be).1 (fun e => e)).trans bn.be) (owK bn.ot kx (fun _ _ e => e)) 0).mono ?_
              rintro e w' ⟨rfl, rfl⟩
              have : thO B 0 = some ⟨B.T 0, 0, none⟩ := by unfold thO; rw [if_pos ⟨by omega, by rw [HBN.out.2.1]; decide⟩]; rfl
              rw [this]
              exact ⟨rfl, rfl⟩
            clear hBok hBn hBwd hBins bn hlit
            have c0 : w2.cell? ⟨b1, o1 + i * 3, none⟩ = some (.int .i64 x0) := (HK2.out.cell (p := ⟨b1, o1 + i * 3, none⟩) HCS.out (fun e => e)).trans p0
            have c1 : w2.cell? ⟨b1, o1 + i * 3 + 1, none⟩ = some (.int .i64 x1) := (HK2.out.cell (p := ⟨b1, o1 + i * 3 + 1, none⟩) HCS.out (fun e => e)).trans p1
            clear p0 p1 p2
            go_wp2_with fail
            (refine wp_region_held_drew (S := (fun X => X.cell? ⟨b1, o1 + i * 3, none⟩ = some (.int .i64 x0) ∧ X.cell? ⟨b1, o1 + i * 3 + 1, none⟩ = some (.int .i64 x1))) (by kernel_rfl) ⟨c0, c1⟩ (fun hHeld => ?_); simp only [List.size_toArray, List.length_cons, List.length_nil, Nat.reduceAdd, Array.replicate_succ, Array.replicate_zero, List.push_toArray, List.append_toArray, List.nil_append, List.cons_append])
            refine rgT 0 (h := ?_)
            refine rgT 1 (h := ?_)
            refine rgT 2 (h := ?_)
            refine rgT 3 (h := ?_)
            refine rgT 4 (h := ?_)
            refine rgT 5 (h := ?_)
            refine rgT 6 (h := ?_)
            refine rgT 7 (h := ?_)
            refine rgT 8 (h := ?_)
            refine rgT 9 (h := ?_)
            refine rgT 10 (h := ?_)
            refine rgT 11 (h := ?_)
            refine rgT 12 (h := ?_)
            refine rgT 13 (h := ?_)
            refine rgT 14 (h := ?_)
            refine rgT 15 (h := ?_)
            refine rgT 16 (h := ?_)
            (refine rgS 17 (h := fun K hK => ?_); go_simp)
            refine (HTH.out w2.drew (Keeps.refl _ _).drew).mono ?_
            rintro e w3 ⟨rfl, rfl⟩
            (refine hK.out _ _ ⟨c0, c1⟩ (fun hHeld => ?_); clear hK K; try simp only [Act.put, List.setIfInBounds_toArray, List.set_cons_zero, List.set_cons_succ])
            (refine rgS 18 (h := fun K hK => ?_); go_simp)
            have HA : Hid (∀ cc, (w2.drew.alloc cc).cell? ⟨b1, o1 + i * 3, none⟩ = some (.int .i64 x0) ∧ (w2.drew.alloc cc).cell? ⟨b1, o1 + i * 3 + 1, none⟩ = some (.int .i64 x1)) := fun cc => by
              have hb : b1 < w2.drew.heap.size := Nat.lt_of_lt_of_le HCS.out HK2.out.size
              exact ⟨(World.cell?_of_block (w := w2) (Below.heap_alloc w2.drew _ b1 hb)).trans c0, (World.cell?_of_block (w := w2) (Below.heap_alloc w2.drew _ b1 hb)).trans c1⟩
            (refine hK.out _ _ (HA.out _) (fun hHeld => ?_); clear hK K; try simp only [Act.put, List.setIfInBounds_toArray, List.set_cons_zero, List.set_cons_succ])
            (refine rgS 19 (h := fun K hK => ?_); go_simp)
            rw [HY2.out]
            obtain ⟨P, qv, ev, en, mH, hP1, hP2⟩ := HQ.out.1.m
            have kW5 : Keeps (fun _ => False) wa (w2.alloc (.cells #[.pointer (some ⟨B.T 0, 0, none⟩)] 31)).drew := (HK2.out.alloc _).drew
            have kW6 : Keeps (fun _ => False) w2 (w2.alloc (.cells #[.pointer (some ⟨B.T 0, 0, none⟩)] 31)).drew := ((Keeps.refl _ _).alloc _).drew
            have hlast : (w2.alloc (.cells #[.pointer (some ⟨B.T 0, 0, none⟩)] 31)).drew.heap[w2.heap.size]? = some (.cells #[.pointer (some ⟨B.T 0, 0, none⟩)] 31) := heap_alloc_last _ _ _ rfl
            have cA := HA.out (.cells #[.pointer (some ⟨B.T 0, 0, none⟩)] 31)
            have cA2 : (w2.alloc (.cells #[.pointer (some ⟨B.T 0, 0, none⟩)] 31)).drew.cell? ⟨b1, o1 + i * 3, none⟩ = some (.int .i64 x0) ∧ (w2.alloc (.cells #[.pointer (some ⟨B.T 0, 0, none⟩)] 31)).drew.cell? ⟨b1, o1 + i * 3 + 1, none⟩ = some (.int .i64 x1) := cA
            clear cA
            generalize (w2.alloc (.cells #[.pointer (some ⟨B.T 0, 0, none⟩)] 31)).drew = W5 at *
            have mR : Hm W5 P (fun q => (upd J i B q).T 0) (w.heap.size + 1) w.heap.size qv ev en (hJ (whoJ js W) (tagJ js) W i) := by
              refine (mH.still kW5).repoint (fun a l hl x hx => ?_) (fun q hq => by cases hq)
              have ha : a < W := by
                have := (List.getElem?_eq_some_iff.1 hl).1
                rw [hJ_len] at this; exact this
              rw [hJ_at ha] at hl
              injection hl with hl
              rw [← hl] at hx
              obtain ⟨q, hq, e⟩ := List.mem_map.1 hx
              have := (jbs_mem.1 hq).1
              rw [← e]
              show (upd J i B q).T 0 = (J q).T 0
              rw [upd_other _ _ (by omega)]
            have hszP : ∀ y, P y → y < wa.heap.size := mH.lt
            refine (hsubmit W5 P (fun q => (upd J i B q).T 0) (w.heap.size + 1) w.heap.size qv ev en (hJ (whoJ js W) (tagJ js) W i) mR (y : Int) x1 (some ⟨w2.heap.size, 0, none⟩) 1 [i] (fun q hq => ?_) (by simp)).mono ?_
            · have : q = 0 := by simp at hq; exact hq
              subst this
              refine ⟨w2.heap.size, 0, rfl, fun e => ?_, ?_⟩
              · have := hszP _ e
                have := HK2.out.size
                omega
              · rw [cell?_heap hlast]
                show some (Value.pointer (some ⟨B.T 0, 0, none⟩)) = some (.pointer (some ⟨(upd J i B i).T 0, 0, none⟩))
                rw [upd_same]
            · rintro e w6 ⟨rfl, F', qv', m6, hF', k6⟩
              have hsub := hJ_sub (whoJ js W) (tagJ js) W i (by rw [HWJ.out.1]; exact hyW) (by omega) (by rw [HWJ.out.2.1]; exact ht64)
              rw [HWJ.out.1, HWJ.out.2.1] at hsub
              rw [hsub] at m6 ⊢
              have hCw : b1 < w.heap.size := by omega
              have hnP : ¬ P b1 := fun e => by have := hP1 _ e; omega
              have l5 : b1 < W5.heap.size := Nat.lt_of_lt_of_le HCS.out kW5.size
              have HN : Hid (Lj w w6 W js (i + 1) (w.heap.size + 1) w.heap.size (upd J i B)) := by
                obtain ⟨g1, g2, g3, g4⟩ := HBN.out
                have hz := HKW.out.size
                refine HQ.out.1.next kW5 g1 g2 g3 (fun y hy => ⟨Nat.le_trans hz (g4.lo y hy), Nat.lt_of_lt_of_le (g4.o.lt hy) kW6.size⟩) (g4.o.far kW6 (fun _ e => e.elim)) k6 (fun y hy => ⟨hP1 y hy, hszP y hy⟩) hP2 m6 hF'
              have cB : w6.cell? ⟨b1, o1 + i * 3, none⟩ = some (.int .i64 x0) ∧ w6.cell? ⟨b1, o1 + i * 3 + 1, none⟩ = some (.int .i64 x1) := ⟨(k6.cell (p := ⟨b1, o1 + i * 3, none⟩) l5 hnP).trans cA2.1, (k6.cell (p := ⟨b1, o1 + i * 3 + 1, none⟩) l5 hnP).trans cA2.2⟩
              clear hsub m6 hF' k6 mR mH hP1 hP2 hszP cA2 kW5 kW6 hlast HBN HTH HQ hnP l5
              (refine hK.out _ _ cB (fun hHeld => ?_); clear hK K; try simp only [Act.put, List.setIfInBounds_toArray, List.set_cons_zero, List.set_cons_succ])
              refine rgT 20 (h := ?_)
              refine wpAnyH_done (by kernel_rfl) ?_ _
              clear cB HA c0 c1
              have HND : Hid (Lj w w6 W js (i + 1) (w.heap.size + 1) w.heap.size (upd J i B)) := HN.out
              go_wp2
              go_roundw
              case rel => exact ⟨i + 1, tn, _, rfl, by go_num, by omega, HTT.out, htm, HND.out⟩
              case measure => simp [intOf]; omega
    · have i1 : ¬ (i : Int) < (K : Int) := by omega
      have hiK : i = K := by omega
      have HF : Hid (Lj w wa W js K (w.heap.size + 1) w.heap.size J ∧ tt = totJ (lenJ js) K) := by rw [← hiK]; exact HQ.out
      clear hiK
      go_wp2
      refine ⟨rfl, .tuple #[.pointer (some ⟨w.heap.size + 1, 0, none⟩), .int .i64 (tt : Int), .bool true], by simp [results, Tryz.results9], ?_⟩
      exact ⟨w.heap.size + 1, by rw [← HF.out.2], w.heap.size, J, HF.out.1⟩
end Go.Proofs.YtdpebhdjcgiboaaGreat
