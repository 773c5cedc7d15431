import Derived.Test.YtdpebhdjcgiboaaGreatSnB
namespace Go.Proofs.YtdpebhdjcgiboaaGreat
set_option linter.unusedSimpArgs false
open Go.ChangeShapes Go.WideShapes Go.ChangeAt Go.RowKit Go.MuLone Go.RwLone
set_option linter.unusedVariables false
set_option maxRecDepth 100000
set_option maxHeartbeats 6400000
def lastA (es : List Ev4) : Nat → Int
  | 0 => 0
  | i + 1 => ((es[i]?).getD (0, 0, 0, 0)).2.2.2
theorem lastA_le {es : List Ev4} (hr : Rise es) (h0 : ∀ e ∈ es, 0 ≤ e.2.2.2) (i : Nat) (hi : i < es.length) : lastA es i ≤ es[i].2.2.2 := by
  cases i with
  | zero => exact h0 _ (List.getElem_mem hi)
  | succ i =>
    have hx : es[i]? = some es[i] := List.getElem?_eq_getElem (by omega)
    show ((es[i]?).getD (0, 0, 0, 0)).2.2.2 ≤ _
    rw [hx]
    exact rise_at hr hx (List.getElem?_eq_getElem hi)
abbrev isW (t : Nat) (e : Ev4) : Bool := e.2.1 == (t : Int)
theorem tol_num {k n lx : Nat} {c d : Int} (h : k + 1 < n) (hn : n ≤ 80) (hl : lx < 11) (b1 : 0 ≤ c ∧ c ≤ 1000000) (b2 : 0 ≤ d ∧ d ≤ 1000000) (h3 : c + ((max 1 lx : Nat) : Int) ≤ d) :
    (k : Int) + 1 < (n : Int) ∧ (0 : Int) ≤ (k : Int) + 1 ∧ ((k : Int) + 1).toNat = k + 1 ∧ IntKind.i64.wrap (d - c) = d - c ∧ ¬ d - c < ((max 1 lx : Nat) : Int) := by
  refine ⟨?_, ?_, ?_, ?_, ?_⟩
  all_goals first | omega | (rw [IntKind.wrap_i64]; omega)
theorem told_any (w : World) (C : Nat) (hC : C ≤ w.heap.size) (W : Nat) (hW1 : 1 ≤ W) (hW : W ≤ 16) (ja : Option Addr) (jc : Nat) (js : List (Int × Int × Int)) (hj : InG pkC w C (.slice ja js.length jc) js) (hK : js.length ≤ 40)
    (ea : Option Addr) (ec : Nat) (es : List Ev4) (he : InG evC w C (.slice ea es.length ec) es) (hel : es.length = 2 * js.length) (hr : Rise es) (hw : ∀ e ∈ es, 0 ≤ e.2.1 ∧ e.2.1 < (W : Int)) (ht : ∀ e ∈ es, 0 ≤ e.2.2.2 ∧ e.2.2.2 ≤ 1000000)
    (hp : ∀ t, t < W → Pairs (lenJ js) (tagJ js) (t : Int) (jbs (whoJ js W) js.length t) (es.filter (isW t))) :
    Calls Tryz.prog 19 #[.int .i64 (W : Int), .slice ja js.length jc, .slice ea es.length ec] w fun e w' => e = .returned (.bool true) ∧ Keeps (fun _ => False) w w' := by
  have HJ : Hid (∀ X, Keeps (fun _ => False) w X → InG pkC X C (.slice ja js.length jc) js) := fun X k => hj.later (k.below hC (fun _ _ e => e))
  have HE : Hid (∀ X, Keeps (fun _ => False) w X → InG evC X C (.slice ea es.length ec) es) := fun X k => he.later (k.below hC (fun _ _ e => e))
  have HR : Hid (∀ i (hi : i < es.length), lastA es i ≤ es[i].2.2.2) := fun i hi => lastA_le hr (fun e h => (ht e h).1) i hi
  have HW : Hid (∀ e ∈ es, 0 ≤ e.2.1 ∧ e.2.1 < (W : Int)) := hw
  have HT : Hid (∀ e ∈ es, 0 ≤ e.2.2.2 ∧ e.2.2.2 ≤ 1000000) := ht
  have HP : Hid (∀ t, t < W → Pairs (lenJ js) (tagJ js) (t : Int) (jbs (whoJ js W) js.length t) (es.filter (isW t))) := hp
  obtain ⟨E, hE⟩ : ∃ E, es.length = E := ⟨_, rfl⟩
  obtain ⟨K, hKK⟩ : ∃ K, js.length = K := ⟨_, rfl⟩
  have HL : Hid (es.length = E ∧ js.length = K) := ⟨hE, hKK⟩
  have hEK : (E : Int) = 2 * (K : Int) := by omega
  have hm2 : IntKind.i64.wrap (2 * (K : Int)) = (E : Int) := by rw [IntKind.wrap_i64]; omega
  have hm3 : wrap64 (2 * (K : Int)) = (E : Int) := by unfold wrap64; omega
  have hK40 : K ≤ 40 := by omega
  have hE80 : E ≤ 80 := by omega
  rw [hE, hKK]
  clear hj he hr hw ht hp hE hKK hel hK
  go_enter Tryz.func19, Tryz.ntmps19
  go_wp2_with fail
  clear hEK hm2 hm3
  go_loopw [7, 8] (fun c d wr => ∃ i : Nat, c = .int .i64 (lastA es i) ∧ d = .int .i64 i ∧ i ≤ E ∧ wr = w) (fun _ d _ => E - (intOf d).toNat)
  case atStart => exact ⟨0, rfl, rfl, by omega, rfl⟩
  case round =>
    obtain ⟨i, rfl, rfl, hi, rfl⟩ := hrel
    rename World => w
    by_cases h5 : i < E
    · have i0 : (0 : Int) ≤ (i : Int) := Int.natCast_nonneg _
      have i1 : (i : Int) < (E : Int) := by omega
      have hil : i < es.length := by have := HL.out.1; omega
      obtain ⟨b1, o1, rfl, -, q1⟩ := InG.cell (cs := evC) (n := 4) (fun _ => rfl) (HE.out w (Keeps.refl _ _)) i hil (by decide)
      have f1 := HR.out i hil
      have f2 := HW.out es[i] (List.getElem_mem hil)
      have HX : Hid (lastA es (i + 1) = es[i].2.2.2) := by show ((es[i]?).getD (0, 0, 0, 0)).2.2.2 = _; rw [List.getElem?_eq_getElem hil]; rfl
      generalize es[i] = x at *
      obtain ⟨x0, x1, x2, x3⟩ := x
      have p1 : w.cell? ⟨b1, o1 + i * 4 + 1, none⟩ = some (.int .i64 x1) := q1 1 (by decide)
      have p3 : w.cell? ⟨b1, o1 + i * 4 + 3, none⟩ = some (.int .i64 x3) := q1 3 (by decide)
      clear q1
      dsimp only at f1 f2
      have g1 : ¬ x3 < lastA es i := by omega
      have g2 : ¬ x1 < 0 := by omega
      have g3 : ¬ x1 ≥ (W : Int) := by omega
      generalize lastA es i = la at *
      go_wp2
      go_roundw
      case rel => exact ⟨i + 1, by rw [HX.out], by go_num, by omega, by trivial⟩
      case measure => simp [intOf]; omega
    · have i1 : ¬ (i : Int) < (E : Int) := by omega
      generalize lastA es i = la at *
      go_wp2_with fail
      go_loopw [9] (fun d wr => ∃ t : Nat, d = .int .i64 t ∧ t ≤ W ∧ Keeps (fun _ => False) w wr) (fun d _ => W - (intOf d).toNat)
      case atStart => exact ⟨0, rfl, by omega, Keeps.refl _ _⟩
      case round =>
        rename World => wa
        obtain ⟨t, rfl, ht, hk⟩ := hrel
        have HK : Hid (Keeps (fun _ => False) w wa) := hk
        clear hk
        by_cases h6 : t < W
        · have t0 : (0 : Int) ≤ (t : Int) := Int.natCast_nonneg _
          have t1 : (t : Int) < (W : Int) := by omega
          go_wp2_with fail
          go_loopw [10, 11] (fun v d wq => ∃ (i : Nat) (ov : Value), v = ov ∧ d = .int .i64 i ∧ i ≤ E ∧ OwG evC 36 4 wq wa.heap.size ov ((es.take i).filter (isW t)) ∧ Below wa.heap.size wa wq) (fun _ d _ => E - (intOf d).toNat)
          case atStart => exact ⟨0, _, rfl, rfl, by omega, OwG.nil _ _ _ _ _, Below.refl _ _⟩
          case round =>
            rename World => wq
            obtain ⟨i, ov, rfl, rfl, hi, hov, hbl⟩ := hrel
            obtain ⟨va, vc, rfl⟩ := hov.form
            have i0 : (0 : Int) ≤ (i : Int) := Int.natCast_nonneg _
            have HQ : Hid (OwG evC 36 4 wq wa.heap.size (.slice va ((es.take i).filter (isW t)).length vc) ((es.take i).filter (isW t)) ∧ Below wa.heap.size wa wq) := ⟨hov, hbl⟩
            have hln : ((es.take i).filter (isW t)).length ≤ 80 := by
              have := List.length_filter_le (isW t) (es.take i)
              rw [List.length_take] at this
              omega
            clear hov hbl
            by_cases h7 : i < E
            · have i2 : (i : Int) < (E : Int) := by omega
              have hil : i < es.length := by have := HL.out.1; omega
              obtain ⟨b1, o1, rfl, -, q1⟩ := InG.cell (cs := evC) (n := 4) (fun _ => rfl) (HE.out wq (HK.out.trans (Below.keeps HQ.out.2 _))) i hil (by decide)
              have HS : Hid ((es.take (i + 1)).filter (isW t) = (es.take i).filter (isW t) ++ if isW t es[i] then [es[i]] else []) := filter_take_succ (isW t) es i es[i] (List.getElem?_eq_getElem hil)
              generalize es[i] = x at *
              obtain ⟨x0, x1, x2, x3⟩ := x
              have p0 : wq.cell? ⟨b1, o1 + i * 4, none⟩ = some (.int .i64 x0) := q1 0 (by decide)
              have p1 : wq.cell? ⟨b1, o1 + i * 4 + 1, none⟩ = some (.int .i64 x1) := q1 1 (by decide)
              have p2 : wq.cell? ⟨b1, o1 + i * 4 + 2, none⟩ = some (.int .i64 x2) := q1 2 (by decide)
              have p3 : wq.cell? ⟨b1, o1 + i * 4 + 3, none⟩ = some (.int .i64 x3) := q1 3 (by decide)
              clear q1
              by_cases hx : x1 = (t : Int)
              · subst hx
                have HS2 : Hid ((es.take (i + 1)).filter (isW t) = (es.take i).filter (isW t) ++ [(x0, (t : Int), x2, x3)]) := by
                  show _ = _
                  rw [HS.out, if_pos (by simp [isW])]
                have HWs : Hid (wa.heap.size ≤ wq.heap.size) := HQ.out.2.size
                clear HS
                generalize (es.take i).filter (isW t) = xs at *
                go_wp2_with (at_builtin; refine hideG ?_)
                change wpList _ _ _ _ _ _
                refine app_one (cs := evC) (wr := wq) (by rfl) _ _ 33 36 (by rfl) Tryz.underlying33 infoEv4 rfl (by decide) (fun _ => rfl) wa.heap.size _ xs (x0, (t : Int), x2, x3) HQ.out.1 (by rfl) wq.heap.size rfl (by rfl) (ev_one _) _ rfl (by unfold maxLen; omega) (by omega) HWs.out ?_
                intro v' w3 ho3 hb3 hk3
                rw [← HS2.out] at ho3
                have HN : Hid (OwG evC 36 4 w3 wa.heap.size v' ((es.take (i + 1)).filter (isW t)) ∧ Below wa.heap.size wa w3) := ⟨ho3, HQ.out.2.trans hb3⟩
                clear ho3 hb3 hk3 HQ HS2 p0 p1 p2 p3
                go_wp2
                go_roundw
                case rel => exact ⟨i + 1, _, rfl, by go_num, by omega, HN.out.1, HN.out.2⟩
                case measure => simp [intOf]; omega
              · have HS2 : Hid ((es.take (i + 1)).filter (isW t) = (es.take i).filter (isW t)) := by
                  show _ = _
                  rw [HS.out, if_neg (by simp [isW, hx]), List.append_nil]
                clear HS
                go_wp2
                go_roundw
                case rel => exact ⟨i + 1, _, rfl, by go_num, by omega, by rw [HS2.out]; exact HQ.out.1, HQ.out.2⟩
                case measure => simp [intOf]; omega
            · have i2 : ¬ (i : Int) < (E : Int) := by omega
              have HO : Hid (OwG evC 36 4 wq wa.heap.size (.slice va ((es.take i).filter (isW t)).length vc) (es.filter (isW t)) ∧ ((es.take i).filter (isW t)).length = 2 * (jbs (whoJ js W) K t).length ∧ Pairs (lenJ js) (tagJ js) (t : Int) (jbs (whoJ js W) K t) (es.filter (isW t)) ∧ (∀ e ∈ es.filter (isW t), 0 ≤ e.2.2.2 ∧ e.2.2.2 ≤ 1000000)) := by
                have e1 : es.take i = es := List.take_of_length_le (by have := HL.out.1; omega)
                have e2 := HP.out t h6
                rw [HL.out.2] at e2
                rw [e1]
                refine ⟨by have := HQ.out.1; rw [e1] at this; exact this, e2.len, e2, fun e h => HT.out e (List.mem_filter.1 h).1⟩
              have HB : Hid (Keeps (fun _ => False) w wq) := HK.out.trans (Below.keeps HQ.out.2 _)
              obtain ⟨n, hn⟩ : ∃ n, ((es.take i).filter (isW t)).length = n := ⟨_, rfl⟩
              rw [hn]
              rw [hn] at HO hln
              have HN2 : Hid (n = 2 * (jbs (whoJ js W) K t).length) := HO.out.2.1
              clear hn HQ
              go_wp2_with fail
              go_loopw [12, 13] (fun c d wy => ∃ (m k : Nat), c = .int .i64 k ∧ d = .int .i64 m ∧ m ≤ K ∧ k = 2 * (jbs (whoJ js W) m t).length ∧ Keeps (fun _ => False) wq wy) (fun _ d _ => K - (intOf d).toNat)
              case atStart => exact ⟨0, 0, rfl, rfl, by omega, by simp [jbs], Keeps.refl _ _⟩
              case round =>
                rename World => wy
                obtain ⟨m, k, rfl, rfl, hm, hk2, hky⟩ := hrel
                have HKY : Hid (Keeps (fun _ => False) wq wy ∧ k = 2 * (jbs (whoJ js W) m t).length) := ⟨hky, hk2⟩
                clear hky hk2
                have m0 : (0 : Int) ≤ (m : Int) := Int.natCast_nonneg _
                have k0 : (0 : Int) ≤ (k : Int) := Int.natCast_nonneg _
                have hkn : k ≤ n := by
                  obtain ⟨r, hr⟩ := jbs_pre (whoJ js W) t m K hm
                  have := HKY.out.2
                  rw [HN2.out, hr, List.length_append]
                  omega
                by_cases h8 : m < K
                · have m1 : (m : Int) < (K : Int) := by omega
                  have hml : m < js.length := by have := HL.out.2; omega
                  have HJI := HJ.out wy (HB.out.trans HKY.out.1)
                  rw [HL.out.2] at HJI
                  obtain ⟨b1, o1, rfl, hbC, q1⟩ := InG.cell (cs := pkC) (n := 3) (fun _ => rfl) HJI m hml (by decide)
                  have HLB : Hid (b1 < wy.heap.size) := by have := (HB.out.trans HKY.out.1).size; show _ < _; omega
                  have HAT : Hid (jbA js m = js[m]) := jbA_at hml
                  generalize js[m] = x at *
                  obtain ⟨x0, x1, x2⟩ := x
                  have p0 : wy.cell? ⟨b1, o1 + m * 3, none⟩ = some (.int .i64 x0) := q1 0 (by decide)
                  have p1 : wy.cell? ⟨b1, o1 + m * 3 + 1, none⟩ = some (.int .i64 x1) := q1 1 (by decide)
                  have p2 : wy.cell? ⟨b1, o1 + m * 3 + 2, none⟩ = some (.int .i64 x2) := q1 2 (by decide)
                  clear q1 HJI
                  have hWu : IntKind.u64.wrap (W : Int) = (W : Int) := by rw [IntKind.wrap_u64]; omega
                  have hWz : ¬ (W : Int) = 0 := by omega
                  obtain ⟨y, hy⟩ : ∃ y, whX W x0 = y := ⟨_, rfl⟩
                  have hyW : y < W := by rw [← hy]; exact whX_lt hW1 x0
                  have hv1 : Value.int .i64 (wrap64 ((IntKind.u64.wrap x0).tmod (W : Int))) = Value.int .i64 (y : Int) := by rw [whX_run hW1, hy, wrap_in (by omega) (by omega)]
                  have HWJ : Hid (whoJ js W m = y ∧ tagJ js m = x1 ∧ lenJ js m = lnX x2) := ⟨by unfold whoJ; rw [HAT.out]; exact hy, by unfold tagJ; rw [HAT.out], by unfold lenJ; rw [HAT.out]⟩
                  clear hy HAT
                  by_cases h9 : y = t
                  · subst h9
                    obtain ⟨c, d, r1, r2, r3⟩ := HO.out.2.2.1.at (jbs (whoJ js W) m y).length m (jbs_idx (whoJ js W) y m K h8 HWJ.out.1)
                    rw [← HKY.out.2, HWJ.out.2.1] at r1 r2
                    rw [HWJ.out.2.2] at r3
                    obtain ⟨l1, s1⟩ := List.getElem?_eq_some_iff.1 r1
                    obtain ⟨l2, s2⟩ := List.getElem?_eq_some_iff.1 r2
                    have bc := HO.out.2.2.2 _ (List.mem_of_getElem? r1)
                    have bd := HO.out.2.2.2 _ (List.mem_of_getElem? r2)
                    dsimp only at bc bd
                    have hln2 : (es.filter (isW y)).length = n := by rw [HO.out.2.2.1.len]; exact HN2.out.symm
                    have HI := (owK HO.out.1 HKY.out.1 (fun _ _ e => e)).in
                    obtain ⟨g, og, rfl, hgl, u1⟩ := InG.cell (cs := evC) (n := 4) (fun _ => rfl) HI k l1 (by decide)
                    obtain ⟨g', og', e', -, u2⟩ := InG.cell (cs := evC) (n := 4) (fun _ => rfl) HI (k + 1) l2 (by decide)
                    injection e' with e'
                    injection e' with e1' e2'
                    subst e1' e2'
                    rw [s1] at u1
                    rw [s2] at u2
                    have a0 : wy.cell? ⟨g, og + k * 4, none⟩ = some (.int .i64 1) := u1 0 (by decide)
                    have a1 : wy.cell? ⟨g, og + k * 4 + 1, none⟩ = some (.int .i64 (y : Int)) := u1 1 (by decide)
                    have a2 : wy.cell? ⟨g, og + k * 4 + 2, none⟩ = some (.int .i64 x1) := u1 2 (by decide)
                    have a3 : wy.cell? ⟨g, og + k * 4 + 3, none⟩ = some (.int .i64 c) := u1 3 (by decide)
                    have d0 : wy.cell? ⟨g, og + (k + 1) * 4, none⟩ = some (.int .i64 2) := u2 0 (by decide)
                    have d1 : wy.cell? ⟨g, og + (k + 1) * 4 + 1, none⟩ = some (.int .i64 (y : Int)) := u2 1 (by decide)
                    have d2 : wy.cell? ⟨g, og + (k + 1) * 4 + 2, none⟩ = some (.int .i64 x1) := u2 2 (by decide)
                    have d3 : wy.cell? ⟨g, og + (k + 1) * 4 + 3, none⟩ = some (.int .i64 d) := u2 3 (by decide)
                    have HSUC : Hid (k + 2 = 2 * (jbs (whoJ js W) (m + 1) y).length) := by
                      show _ = _
                      rw [jbs_succ, if_pos HWJ.out.1, List.length_append, List.length_singleton]
                      have := HKY.out.2
                      omega
                    have hl3 := lnX_lt x2
                    have hv11 : Value.int .i64 (wrap64 ((IntKind.u64.wrap x2).tmod 11)) = Value.int .i64 (lnX x2 : Int) := by rw [lnX_run, wrap_in (by omega) (by omega)]
                    generalize lnX x2 = lx at *
                    obtain ⟨hkp, hk5, hk6, hdc, hdn⟩ := tol_num (by rw [← hln2]; exact l2) hln hl3 bc bd r3
                    obtain ⟨M, hM⟩ : ∃ M : Nat, max 1 lx = M := ⟨_, rfl⟩
                    rw [hM] at hdn
                    have HMX : Hid (max 1 lx = M) := hM
                    have al : ∀ (Y : World) (o : Obj) (q : Addr) (z : Option Value), q.block < Y.heap.size → Y.cell? q = z → (Y.alloc o).cell? q = z := fun Y o q z h1 h2 => (World.cell?_of_block (w := Y) (Below.heap_alloc Y _ _ h1)).trans h2
                    have e0 : (wy.alloc (.cells #[.int .i64 1, .int .i64 (y : Int), .int .i64 x1, .int .i64 c] 36)).cell? ⟨g, og + (k + 1) * 4, none⟩ = some (.int .i64 2) := al _ _ _ _ hgl d0
                    have e1 : (wy.alloc (.cells #[.int .i64 1, .int .i64 (y : Int), .int .i64 x1, .int .i64 c] 36)).cell? ⟨g, og + (k + 1) * 4 + 1, none⟩ = some (.int .i64 (y : Int)) := al _ _ _ _ hgl d1
                    have e2 : (wy.alloc (.cells #[.int .i64 1, .int .i64 (y : Int), .int .i64 x1, .int .i64 c] 36)).cell? ⟨g, og + (k + 1) * 4 + 2, none⟩ = some (.int .i64 x1) := al _ _ _ _ hgl d2
                    have e3 : (wy.alloc (.cells #[.int .i64 1, .int .i64 (y : Int), .int .i64 x1, .int .i64 c] 36)).cell? ⟨g, og + (k + 1) * 4 + 3, none⟩ = some (.int .i64 d) := al _ _ _ _ hgl d3
                    have hz1 : (wy.alloc (.cells #[.int .i64 1, .int .i64 (y : Int), .int .i64 x1, .int .i64 c] 36)).heap.size = wy.heap.size + 1 := szAl _ _
                    have p1' : ((wy.alloc (.cells #[.int .i64 1, .int .i64 (y : Int), .int .i64 x1, .int .i64 c] 36)).alloc (.cells #[.int .i64 2, .int .i64 (y : Int), .int .i64 x1, .int .i64 d] 36)).cell? ⟨b1, o1 + m * 3 + 1, none⟩ = some (.int .i64 x1) := al _ _ _ _ (by rw [hz1]; exact Nat.lt_succ_of_lt HLB.out) (al _ _ _ _ HLB.out p1)
                    have p2' : ((wy.alloc (.cells #[.int .i64 1, .int .i64 (y : Int), .int .i64 x1, .int .i64 c] 36)).alloc (.cells #[.int .i64 2, .int .i64 (y : Int), .int .i64 x1, .int .i64 d] 36)).cell? ⟨b1, o1 + m * 3 + 2, none⟩ = some (.int .i64 x2) := al _ _ _ _ (by rw [hz1]; exact Nat.lt_succ_of_lt HLB.out) (al _ _ _ _ HLB.out p2)
                    have HX2 : Hid (∀ _ : Unit, Keeps (fun _ => False) wy ((wy.alloc (.cells #[.int .i64 1, .int .i64 (y : Int), .int .i64 x1, .int .i64 c] 36)).alloc (.cells #[.int .i64 2, .int .i64 (y : Int), .int .i64 x1, .int .i64 d] 36)) ∧ ((wy.alloc (.cells #[.int .i64 1, .int .i64 (y : Int), .int .i64 x1, .int .i64 c] 36)).alloc (.cells #[.int .i64 2, .int .i64 (y : Int), .int .i64 x1, .int .i64 d] 36)).heap[wy.heap.size]? = some (.cells #[.int .i64 1, .int .i64 (y : Int), .int .i64 x1, .int .i64 c] 36) ∧ ((wy.alloc (.cells #[.int .i64 1, .int .i64 (y : Int), .int .i64 x1, .int .i64 c] 36)).alloc (.cells #[.int .i64 2, .int .i64 (y : Int), .int .i64 x1, .int .i64 d] 36)).heap[wy.heap.size + 1]? = some (.cells #[.int .i64 2, .int .i64 (y : Int), .int .i64 x1, .int .i64 d] 36)) := fun _ => ⟨((Keeps.refl _ _).alloc _).alloc _, (Below.heap_alloc _ _ _ (by rw [szAl]; omega)).trans (heap_alloc_last _ _ _ rfl), heap_alloc_last _ _ _ (szAl _ _).symm⟩
                    clear hM u1 u2 r1 r2 s1 s2 HI HWJ r3 bc bd hl3 l1 l2 hln2 al d0 d1 d2 d3 hz1 hgl hbC
                    go_upto_region 29 with fail
                    go_cut [12, 16] (fun a u wx => a = .int .i64 ((k + 2 : Nat) : Int) ∧ u = .int .i64 (M : Int) ∧ wx = ((wy.alloc (.cells #[.int .i64 1, .int .i64 (y : Int), .int .i64 x1, .int .i64 c] 36)).alloc (.cells #[.int .i64 2, .int .i64 (y : Int), .int .i64 x1, .int .i64 d] 36)))
                    case first =>
                      go_wp2_with fail
                      all_goals
                        go_meet
                        case rel => exact ⟨by go_num, by congr 1; have := HMX.out; omega, rfl⟩
                    case rest =>
                      obtain ⟨rfl, rfl, hwx⟩ := hcut
                      rename World => wx
                      rw [← hwx] at HX2 p1'
                      obtain ⟨kx, h1x, h2x⟩ := HX2.out ()
                      have q0 := (cell?_heap h1x 0).trans rfl
                      have q2 := (cell?_heap h1x 2).trans rfl
                      have q3 := (cell?_heap h1x 3).trans rfl
                      have z0 := (cell?_heap h2x 0).trans rfl
                      have z2 := (cell?_heap h2x 2).trans rfl
                      have z3 := (cell?_heap h2x 3).trans rfl
                      have HKX : Hid (Keeps (fun _ => False) wy wx) := kx
                      clear hwx e0 e1 e2 e3 p2' h1x h2x kx HX2 a0 a1 a2 a3 p0 p1 p2
                      go_wp2_with fail
                      (refine wp_region_held_drew (S := (fun X => X.cell? ⟨wy.heap.size, 0, none⟩ = some (.int .i64 1) ∧ X.cell? ⟨wy.heap.size, 2, none⟩ = some (.int .i64 x1) ∧ X.cell? ⟨wy.heap.size, 3, none⟩ = some (.int .i64 c) ∧ X.cell? ⟨wy.heap.size + 1, 0, none⟩ = some (.int .i64 2) ∧ X.cell? ⟨wy.heap.size + 1, 2, none⟩ = some (.int .i64 x1) ∧ X.cell? ⟨wy.heap.size + 1, 3, none⟩ = some (.int .i64 d) ∧ X.cell? ⟨b1, o1 + m * 3 + 1, none⟩ = some (.int .i64 x1))) (by kernel_rfl) ⟨q0, q2, q3, z0, z2, z3, p1'⟩ (fun hHeld => ?_); simp only [List.size_toArray, List.length_cons, List.length_nil, Nat.reduceAdd, Array.replicate_succ, Array.replicate_zero, List.push_toArray, List.append_toArray, List.nil_append, List.cons_append])
                      refine rgT 0 (h := ?_)
                      refine rgT 1 (h := ?_)
                      refine rgT 2 (h := ?_)
                      refine rgT 3 (h := ?_)
                      refine rgT 4 (h := ?_)
                      refine rgT 5 (h := ?_)
                      refine rgT 6 (h := ?_)
                      refine rgT 7 (h := ?_)
                      refine rgT 8 (h := ?_)
                      refine rgT 9 (h := ?_)
                      refine rgT 10 (h := ?_)
                      refine rgT 11 (h := ?_)
                      refine rgT 12 (h := ?_)
                      refine rgT 13 (h := ?_)
                      refine rgT 14 (h := ?_)
                      refine rgT 15 (h := ?_)
                      refine rgT 16 (h := ?_)
                      refine rgT 17 (h := ?_)
                      refine rgT 18 (h := ?_)
                      refine rgT 19 (h := ?_)
                      refine rgT 20 (h := ?_)
                      refine rgT 21 (h := ?_)
                      refine rgT 22 (h := ?_)
                      refine rgT 23 (h := ?_)
                      refine rgT 24 (h := ?_)
                      refine rgT 25 (h := ?_)
                      refine rgT 26 (h := ?_)
                      refine rgT 27 (h := ?_)
                      refine rgT 28 (h := ?_)
                      refine rgT 29 (h := ?_)
                      refine rgT 30 (h := ?_)
                      refine rgT 31 (h := ?_)
                      refine rgT 32 (h := ?_)
                      refine rgT 33 (h := ?_)
                      refine rgT 34 (h := ?_)
                      refine rgT 35 (h := ?_)
                      refine rgT 36 (h := ?_)
                      refine wpAnyH_done (by kernel_rfl) ?_ _
                      have HKD : Hid (Keeps (fun _ => False) wq wx.drew) := (HKY.out.1.trans HKX.out).drew
                      clear q0 q2 q3 z0 z2 z3 p1'
                      go_wp2
                      go_roundw
                      case rel => exact ⟨m + 1, k + 2, rfl, by go_num, by omega, HSUC.out, HKD.out⟩
                      case measure => simp [intOf]; omega
                  · have h9' : ¬ (y : Int) = (t : Int) := by omega
                    have HSUC : Hid (k = 2 * (jbs (whoJ js W) (m + 1) t).length) := by
                      show _ = _
                      rw [jbs_succ, if_neg (by rw [HWJ.out.1]; exact h9)]
                      exact HKY.out.2
                    clear p1 p2 HWJ
                    go_wp2
                    go_roundw
                    case rel => exact ⟨m + 1, k, rfl, by go_num, by omega, HSUC.out, HKY.out.1⟩
                    case measure => simp [intOf]; omega
                · have m1 : ¬ (m : Int) < (K : Int) := by omega
                  have hkn2 : k = n := by
                    have := HKY.out.2
                    rw [show m = K by omega] at this
                    rw [this, HN2.out]
                  subst hkn2
                  have HKF : Hid (Keeps (fun _ => False) w wy) := HB.out.trans HKY.out.1
                  clear hkn
                  go_wp2
                  go_roundw
                  case rel => exact ⟨t + 1, by go_num, by omega, HKF.out⟩
                  case measure => simp [intOf]; omega
        · go_wp2
          go_ret
          exact ⟨rfl, HK.out⟩
end Go.Proofs.YtdpebhdjcgiboaaGreat
