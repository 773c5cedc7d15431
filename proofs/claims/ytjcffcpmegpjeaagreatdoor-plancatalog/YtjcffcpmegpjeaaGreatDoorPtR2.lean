import Derived.Test.YtjcffcpmegpjeaaGreatDoorPtR1
namespace Go.Proofs.YtjcffcpmegpjeaaGreatDoor
open Go.ChangeShapes Go.WideShapes Go.ChangeAt Go.RowKit
set_option linter.unusedVariables false
set_option maxRecDepth 100000
theorem hideG {P : Prop} (h : Hid P) : P := h.out
theorem byte_mod (b : Nat) (h : b < 256) : wrap64 (b : Int) = (b : Int) ∧ Int.tmod (b : Int) 4 = (b : Int) % 4 := ⟨by unfold wrap64; omega, Int.tmod_eq_emod_of_nonneg (Int.natCast_nonneg _)⟩
theorem uv_yes {s : ByteArray} {q u q' : Nat} (hs : s.size ≤ 1125899906842624) (h : rU s q = ((u : Int), (q' : Int), 0)) (W : World) : Calls Tryz.prog 69 #[.string s, .int .i64 (q : Int)] W fun e w' => e = .returned (.tuple #[.int .u64 (u : Int), .int .i64 (q' : Int), .int .i64 0]) ∧ w' = W := by
  refine (ref_uv s q W hs).mono ?_
  rw [h]
  exact fun e w' h => h
theorem uv_no {s : ByteArray} {q : Nat} (hs : s.size ≤ 1125899906842624) (W : World) : Calls Tryz.prog 69 #[.string s, .int .i64 (q : Int)] W fun e w' => (∃ a b : Int, e = .returned (.tuple #[.int .u64 a, .int .i64 b, .int .i64 (rU s q).2.2])) ∧ w' = W := by
  refine (ref_uv s q W hs).mono ?_
  rintro e w' ⟨rfl, rfl⟩
  exact ⟨⟨_, _, rfl⟩, rfl⟩
theorem PaT_no {w W : World} {nm nm' k d : ByteArray} {num : Int} {ca : Option Addr} {cc : Nat} {ka : Option Addr} {kc : Nat} {cs : List CD} {ks : List Int} {n1 n2 : Nat} (h : TpS w nm' num W (.slice ca n1 cc) cs (.slice ka n2 kc) ks) (hy : ∀ nm num cs ks, ¬ Yt nm num cs ks k d) : PaT w nm k d (.returned (.tuple #[.agg #[.string nm', .int .i64 num, .slice ca n1 cc, .slice ka n2 kc], .bool false])) ((((W.setCell ⟨w.heap.size, 0, none⟩ (.string nm')).setCell ⟨w.heap.size, 1, none⟩ (.int .i64 num)).setCell ⟨w.heap.size, 2, none⟩ (.slice ca n1 cc)).setCell ⟨w.heap.size, 3, none⟩ (.slice ka n2 kc)) :=
  ⟨h.put.1, .inl ⟨_, _, _, _, _, _, _, _, rfl, hy⟩⟩
set_option maxHeartbeats 8000000 in
theorem parseR (nm k d : ByteArray) (w : World) (hd : d.size ≤ 140737488355328) (hnm : ∀ nm' num' cs' ks', Yt nm' num' cs' ks' k d → nm' = nm) : Calls Tryz.prog 35 #[.string nm, .string d] w (PaT w nm k d) := by
  have HN : Hid (TpS w nm 0 _ (.slice none 0 0) [] (.slice none 0 0) []) := TpS.new w nm 0
  have HNM : Hid (∀ nm' num' cs' ks', Yt nm' num' cs' ks' k d → nm' = nm) := hnm
  have hs : d.size ≤ 1125899906842624 := by omega
  clear hnm
  go_enter Tryz.func35, Tryz.ntmps35
  by_cases hu : (rU d ((0 : Nat) : Int)).2.2 = 0
  case neg =>
    have HC : Hid (∀ W, _) := fun W => uv_no (q := 0) hs W
    have HY : Hid (∀ nm num cs ks, ¬ Yt nm num cs ks k d) := no_numR (.inl hu)
    obtain ⟨c, hcv⟩ : ∃ c, (rU d ((0 : Nat) : Int)).2.2 = c := ⟨_, rfl⟩
    rw [hcv] at HC hu
    have hcb : (c != 0) = true := by simp [hu]
    clear hcv
    go_wp2_with fail
    refine (HC.out _).mono ?_
    rintro e w3 ⟨⟨a, b, rfl⟩, rfl⟩
    generalize (w.alloc (.cells #[.string ⟨#[]⟩, .int .i64 0, .slice none 0 0, .slice none 0 0] 25)).alloc (.cells #[.string nm, .int .i64 0, .slice none 0 0, .slice none 0 0] 25) = W2 at *
    obtain ⟨⟨t0, t1, t2, t3⟩, z0, z1, z2, z3⟩ := HN.out.cells
    obtain ⟨⟨g0, g1, g2, g3⟩, f0, f1, f2, f3⟩ := HN.out.free
    have HPN : Hid (PaT w nm k d _ _) := PaT_no HN.out HY.out
    have HPH : Hid _ := HN.out.put.2.1
    go_wp2
    exact bodyPost_ret (res_row_tmp (p := 4) (ty := 25) (q := 5) rfl _ _ w.heap.size 25 _ (0, 0) _ rfl HPH.out Tryz.underlying25 rfl (by kernel_rfl)) rfl HPN.out
  obtain ⟨u, q1, hu1, hq1, hq1s, huu⟩ := nu_place hu
  have HUU : Hid (∀ _ : Unit, rU d ((0 : Nat) : Int) = ((u : Int), (q1 : Int), 0)) := fun _ => hu1
  have HC : Hid (∀ W, _) := fun W => uv_yes hs hu1 W
  clear hu
  by_cases hbig : (9223372036854775807 : Int) < (u : Int)
  case pos =>
    have HY : Hid (∀ nm num cs ks, ¬ Yt nm num cs ks k d) := no_numR (.inr (by rw [show rU d (0 : Int) = _ from hu1]; exact hbig))
    clear hu1
    go_wp2_with fail
    refine (HC.out _).mono ?_
    rintro e w3 ⟨rfl, rfl⟩
    generalize (w.alloc (.cells #[.string ⟨#[]⟩, .int .i64 0, .slice none 0 0, .slice none 0 0] 25)).alloc (.cells #[.string nm, .int .i64 0, .slice none 0 0, .slice none 0 0] 25) = W2 at *
    obtain ⟨⟨t0, t1, t2, t3⟩, z0, z1, z2, z3⟩ := HN.out.cells
    obtain ⟨⟨g0, g1, g2, g3⟩, f0, f1, f2, f3⟩ := HN.out.free
    have HPN : Hid (PaT w nm k d _ _) := PaT_no HN.out HY.out
    have HPH : Hid _ := HN.out.put.2.1
    go_wp2
    exact bodyPost_ret (res_row_tmp (p := 4) (ty := 25) (q := 5) rfl _ _ w.heap.size 25 _ (0, 0) _ rfl HPH.out Tryz.underlying25 rfl (by kernel_rfl)) rfl HPN.out
  clear hu1
  have hcv : IntKind.i64.wrap (u : Int) = (u : Int) := by rw [IntKind.wrap_i64]; omega
  go_wp2_with fail
  refine (HC.out _).mono ?_
  rintro e w3 ⟨rfl, rfl⟩
  generalize (w.alloc (.cells #[.string ⟨#[]⟩, .int .i64 0, .slice none 0 0, .slice none 0 0] 25)).alloc (.cells #[.string nm, .int .i64 0, .slice none 0 0, .slice none 0 0] 25) = W2 at *
  obtain ⟨⟨_, s1, _⟩, _⟩ := HN.out.cells
  obtain ⟨⟨_, r1, _⟩, _⟩ := HN.out.free
  have HN3 : Hid (TpS w nm (u : Int) (W2.setCell ⟨w.heap.size + 1, 1, none⟩ (.int .i64 (u : Int))) (.slice none 0 0) [] (.slice none 0 0) []) := HN.out.numPut (u : Int)
  clear HC
  by_cases hv : (rU d (q1 : Int)).2.2 = 0
  case neg =>
    have HC : Hid (∀ W, _) := fun W => uv_no (q := q1) hs W
    have HY : Hid (∀ nm num cs ks, ¬ Yt nm num cs ks k d) := no_cntR (HUU.out ()) (.inl hv)
    obtain ⟨c, hcw⟩ : ∃ c, (rU d (q1 : Int)).2.2 = c := ⟨_, rfl⟩
    rw [hcw] at HC hv
    have hcb : (c != 0) = true := by simp [hv]
    clear hcw
    go_wp2_with fail
    generalize W2.setCell ⟨w.heap.size + 1, 1, none⟩ (.int .i64 (u : Int)) = W3 at *
    refine (HC.out _).mono ?_
    rintro e w3 ⟨⟨a, b, rfl⟩, rfl⟩
    clear s1 r1
    obtain ⟨⟨t0, t1, t2, t3⟩, z0, z1, z2, z3⟩ := HN3.out.cells
    obtain ⟨⟨g0, g1, g2, g3⟩, f0, f1, f2, f3⟩ := HN3.out.free
    have HPN : Hid (PaT w nm k d _ _) := PaT_no HN3.out HY.out
    have HPH : Hid _ := HN3.out.put.2.1
    go_wp2
    exact bodyPost_ret (res_row_tmp (p := 4) (ty := 25) (q := 5) rfl _ _ w.heap.size 25 _ (0, 0) _ rfl HPH.out Tryz.underlying25 rfl (by kernel_rfl)) rfl HPN.out
  obtain ⟨mc, q2, hv1, hq2, hq2s, hmc⟩ := nu_place hv
  have HC : Hid (∀ W, _) := fun W => uv_yes hs hv1 W
  by_cases hbig2 : (16 : Int) < (mc : Int)
  case pos =>
    have HY : Hid (∀ nm num cs ks, ¬ Yt nm num cs ks k d) := no_cntR (HUU.out ()) (.inr (by rw [hv1]; exact hbig2))
    clear hv1 hv
    go_wp2_with fail
    generalize W2.setCell ⟨w.heap.size + 1, 1, none⟩ (.int .i64 (u : Int)) = W3 at *
    refine (HC.out _).mono ?_
    rintro e w3 ⟨rfl, rfl⟩
    clear s1 r1
    obtain ⟨⟨t0, t1, t2, t3⟩, z0, z1, z2, z3⟩ := HN3.out.cells
    obtain ⟨⟨g0, g1, g2, g3⟩, f0, f1, f2, f3⟩ := HN3.out.free
    have HPN : Hid (PaT w nm k d _ _) := PaT_no HN3.out HY.out
    have HPH : Hid _ := HN3.out.put.2.1
    go_wp2
    exact bodyPost_ret (res_row_tmp (p := 4) (ty := 25) (q := 5) rfl _ _ w.heap.size 25 _ (0, 0) _ rfl HPH.out Tryz.underlying25 rfl (by kernel_rfl)) rfl HPN.out
  have HAT : Hid (AtC k d nm (u : Int) (mc : Int) [] q2) := at_startR HNM.out (HUU.out ()) hv1
  have hmw : IntKind.i64.wrap (mc : Int) = (mc : Int) := by rw [IntKind.wrap_i64]; omega
  clear hv1 hv HUU HNM
  go_wp2_with fail
  generalize W2.setCell ⟨w.heap.size + 1, 1, none⟩ (.int .i64 (u : Int)) = W3 at *
  refine (HC.out _).mono ?_
  rintro e w3 ⟨rfl, rfl⟩
  clear s1 r1 HC HN
  go_wp2_with fail
  go_loopw [8, 10] (fun y i wr => ∃ (n q : Nat) (v : Value) (vs : List CD), vs.length = n ∧ (n : Int) ≤ (mc : Int) ∧ y = .int .i64 (q : Int) ∧ i = .int .i64 (n : Int) ∧ q ≤ d.size ∧ TpS w nm (u : Int) wr v vs (.slice none 0 0) [] ∧ AtC k d nm (u : Int) (mc : Int) vs q) (fun _ i _ => mc - (intOf i).toNat)
  case atStart => exact ⟨0, q2, .slice none 0 0, [], rfl, by omega, rfl, rfl, hq2s, HN3.out, HAT.out⟩
  case round =>
    obtain ⟨n, q, v, vs, hln, hn, rfl, rfl, hqs, hS, hat⟩ := hrel
    have HSr : Hid (TpS w nm (u : Int) wr v vs (.slice none 0 0) []) := hS
    have HATr : Hid (AtC k d nm (u : Int) (mc : Int) vs q) := hat
    have HLN : Hid (∀ _ : Unit, vs.length = n) := fun _ => hln
    have hvl : vs.length ≤ 16 := by omega
    have HVL : Hid (vs.length ≤ 16) := hvl
    clear hS hat hvl HN3 HAT
    obtain ⟨va, vc2, rfl⟩ := HSr.out.oc.isSlice
    by_cases hlt : (n : Int) < (mc : Int)
    case pos =>
      have hnx := HATr.out.nextD (by rw [hln]; exact hlt)
      clear hln
      by_cases he : (rU d (q : Int)).2.2 = 0
      case neg =>
        have HY : Hid (∀ nm num cs ks, ¬ Yt nm num cs ks k d) := fun nm num cs ks y => he (hnx.1 nm num cs ks y).1
        have HC : Hid (∀ W, _) := fun W => uv_no (q := q) hs W
        obtain ⟨c, hcw⟩ : ∃ c, (rU d (q : Int)).2.2 = c := ⟨_, rfl⟩
        rw [hcw] at HC he
        have hcb : (c != 0) = true := by simp [he]
        clear hcw hnx
        go_wp2_with fail
        refine (HC.out _).mono ?_
        rintro e w5 ⟨⟨a, b, rfl⟩, rfl⟩
        obtain ⟨⟨t0, t1, t2, t3⟩, z0, z1, z2, z3⟩ := HSr.out.cells
        obtain ⟨⟨g0, g1, g2, g3⟩, f0, f1, f2, f3⟩ := HSr.out.free
        have HPN : Hid (PaT w nm k d _ _) := PaT_no HSr.out HY.out
        have HPH : Hid _ := HSr.out.put.2.1
        go_wp2
        exact bodyPost_ret (res_row_tmp (p := 4) (ty := 25) (q := 5) rfl _ _ w.heap.size 25 _ (0, 0) _ rfl HPH.out Tryz.underlying25 rfl (by kernel_rfl)) rfl HPN.out
      obtain ⟨z, q1', hz, hqq, hqs', hzb⟩ := nu_place he
      have HC : Hid (∀ W, _) := fun W => uv_yes hs hz W
      by_cases hb32 : (32 : Int) < (z : Int)
      case pos =>
        have HY : Hid (∀ nm num cs ks, ¬ Yt nm num cs ks k d) := fun nm num cs ks y => by
          have := (hnx.1 nm num cs ks y).2.1
          rw [hz] at this
          simp only at this
          omega
        clear hnx he hz
        go_wp2_with fail
        refine (HC.out _).mono ?_
        rintro e w5 ⟨rfl, rfl⟩
        obtain ⟨⟨t0, t1, t2, t3⟩, z0, z1, z2, z3⟩ := HSr.out.cells
        obtain ⟨⟨g0, g1, g2, g3⟩, f0, f1, f2, f3⟩ := HSr.out.free
        have HPN : Hid (PaT w nm k d _ _) := PaT_no HSr.out HY.out
        have HPH : Hid _ := HSr.out.put.2.1
        go_wp2
        exact bodyPost_ret (res_row_tmp (p := 4) (ty := 25) (q := 5) rfl _ _ w.heap.size 25 _ (0, 0) _ rfl HPH.out Tryz.underlying25 rfl (by kernel_rfl)) rfl HPN.out
      have hzw : IntKind.i64.wrap (z : Int) = (z : Int) := by rw [IntKind.wrap_i64]; omega
      have hw1 : IntKind.i64.wrap ((d.size : Int) - (q1' : Int)) = (d.size : Int) - (q1' : Int) := by rw [IntKind.wrap_i64]; omega
      have hw2 : IntKind.i64.wrap ((z : Int) + 1) = (z : Int) + 1 := by rw [IntKind.wrap_i64]; omega
      by_cases hfar : (d.size : Int) - (q1' : Int) < (z : Int) + 1
      case pos =>
        have HY : Hid (∀ nm num cs ks, ¬ Yt nm num cs ks k d) := fun nm num cs ks y => by
          have := (hnx.1 nm num cs ks y).2.2
          rw [hz] at this
          simp only at this
          omega
        clear hnx he hz
        go_wp2_with fail
        refine (HC.out _).mono ?_
        rintro e w5 ⟨rfl, rfl⟩
        obtain ⟨⟨t0, t1, t2, t3⟩, z0, z1, z2, z3⟩ := HSr.out.cells
        obtain ⟨⟨g0, g1, g2, g3⟩, f0, f1, f2, f3⟩ := HSr.out.free
        have HPN : Hid (PaT w nm k d _ _) := PaT_no HSr.out HY.out
        have HPH : Hid _ := HSr.out.put.2.1
        go_wp2
        exact bodyPost_ret (res_row_tmp (p := 4) (ty := 25) (q := 5) rfl _ _ w.heap.size 25 _ (0, 0) _ rfl HPH.out Tryz.underlying25 rfl (by kernel_rfl)) rfl HPN.out
      have hin : q1' + z < d.size := by omega
      have HN : Hid (AtC k d nm (u : Int) (mc : Int) (vs ++ [(d.extract q1' (q1' + z), ((d[q1' + z].toNat : Nat) : Int) % 4, decide (4 ≤ ((d[q1' + z].toNat : Nat) : Int)))]) (q1' + z + 1)) := hnx.2 z q1' hz hin
      have hw3 : IntKind.i64.wrap ((q1' : Int) + (z : Int)) = (q1' : Int) + (z : Int) := by rw [IntKind.wrap_i64]; omega
      have hw4 : IntKind.i64.wrap ((q1' : Int) + (z : Int) + 1) = (q1' : Int) + (z : Int) + 1 := by rw [IntKind.wrap_i64]; omega
      clear hnx he hz
      go_wp2_with fail
      refine (HC.out _).mono ?_
      rintro e w5 ⟨rfl, rfl⟩
      obtain ⟨hwb, htm⟩ := byte_mod d[q1' + z].toNat d[q1' + z].toNat_lt
      have HA : Hid (Below w5.heap.size w5 (w5.alloc (.cells #[.string (d.extract q1' (q1' + z)), .int .i64 (((d[q1' + z].toNat : Nat) : Int) % 4), .bool (decide (4 ≤ ((d[q1' + z].toNat : Nat) : Int)))] 61))) := (Below.refl _ _).alloc (Nat.le_refl _) _
      have HSc : Hid (TpS w nm (u : Int) (w5.alloc (.cells #[.string (d.extract q1' (q1' + z)), .int .i64 (((d[q1' + z].toNat : Nat) : Int) % 4), .bool (decide (4 ≤ ((d[q1' + z].toNat : Nat) : Int)))] 61)) (.slice va vs.length vc2) vs (.slice none 0 0) []) := HSr.out.later HA.out rfl
      obtain ⟨⟨_, _, t2, _⟩, _⟩ := HSc.out.cells
      have HWc : Hid (w5.heap.size + 1 = (w5.alloc (.cells #[.string (d.extract q1' (q1' + z)), .int .i64 (((d[q1' + z].toNat : Nat) : Int) % 4), .bool (decide (4 ≤ ((d[q1' + z].toNat : Nat) : Int)))] 61)).heap.size) := (szAl _ _).symm
      go_wp2_with (at_builtin; refine hideG ?_)
      generalize w5.alloc (.cells #[.string (d.extract q1' (q1' + z)), .int .i64 (((d[q1' + z].toNat : Nat) : Int) % 4), .bool (decide (4 ≤ ((d[q1' + z].toNat : Nat) : Int)))] 61) = Wc at *
      refine app_col (by rfl) _ _ (by rfl) (w.heap.size + 2) _ vs (d.extract q1' (q1' + z), ((d[q1' + z].toNat : Nat) : Int) % 4, decide (4 ≤ ((d[q1' + z].toNat : Nat) : Int))) HSc.out.oc (by rfl) (w5.heap.size + 1) HWc.out (by rfl) (by have := HVL.out; omega) (by have := HSc.out.lt; omega) ?_
      intro v' w' ho' hb' hk'
      obtain ⟨a', c', rfl⟩ := ho'.isSlice
      have HS9 : Hid _ := HSc.out.colPut ho' hb' hk'
      have k9 : w'.cell? ⟨w.heap.size + 1, 2, none⟩ = some (.slice va vs.length vc2) := (hb'.cell (by simp only; omega)).trans t2
      have f9 : w'.frozen? ⟨w.heap.size + 1, 2, none⟩ = false := (hb'.frozen (by simp only; omega)).trans HSc.out.free.1.2.2.1
      have HLA : Hid ((vs ++ [(d.extract q1' (q1' + z), ((d[q1' + z].toNat : Nat) : Int) % 4, decide (4 ≤ ((d[q1' + z].toNat : Nat) : Int)))]).length = n + 1) := by rw [List.length_append, HLN.out ()]; rfl
      clear ho' hb' hk' t2
      generalize hVS : vs ++ [(d.extract q1' (q1' + z), ((d[q1' + z].toNat : Nat) : Int) % 4, decide (4 ≤ ((d[q1' + z].toNat : Nat) : Int)))] = vs' at *
      clear hVS
      go_wp2
      go_roundw
      case rel => exact ⟨n + 1, q1' + z + 1, _, vs', HLA.out, by omega, by go_num, by go_num, by omega, HS9.out, HN.out⟩
      case measure => simp [intOf]; omega
    have hEQ : (n : Int) = (mc : Int) := by omega
    have hdn := HATr.out.done (by rw [hln]; exact hEQ)
    have hdr := HATr.out.doneR (by rw [hln]; exact hEQ)
    clear hln HLN hEQ
    obtain ⟨cs, hcs⟩ : ∃ cs, cs = vs := ⟨_, rfl⟩
    subst hcs
    by_cases he : (rU d (q : Int)).2.2 = 0
    case neg =>
      have HY : Hid (∀ nm num cs ks, ¬ Yt nm num cs ks k d) := fun nm num cs ks y => he (hdr nm num cs ks y).1
      have HC : Hid (∀ W, _) := fun W => uv_no (q := q) hs W
      obtain ⟨c, hcw⟩ : ∃ c, (rU d (q : Int)).2.2 = c := ⟨_, rfl⟩
      rw [hcw] at HC he
      have hcb : (c != 0) = true := by simp [he]
      clear hcw hdn hdr
      go_wp2_with fail
      refine (HC.out _).mono ?_
      rintro e w5 ⟨⟨a, b, rfl⟩, rfl⟩
      obtain ⟨⟨t0, t1, t2, t3⟩, z0, z1, z2, z3⟩ := HSr.out.cells
      obtain ⟨⟨g0, g1, g2, g3⟩, f0, f1, f2, f3⟩ := HSr.out.free
      have HPN : Hid (PaT w nm k d _ _) := PaT_no HSr.out HY.out
      have HPH : Hid _ := HSr.out.put.2.1
      go_wp2
      exact bodyPost_ret (res_row_tmp (p := 4) (ty := 25) (q := 5) rfl _ _ w.heap.size 25 _ (0, 0) _ rfl HPH.out Tryz.underlying25 rfl (by kernel_rfl)) rfl HPN.out
    obtain ⟨mk, q4, hz, hqq, hq4s, hmk⟩ := nu_place he
    have HC : Hid (∀ W, _) := fun W => uv_yes hs hz W
    by_cases hb8 : (8 : Int) < (mk : Int)
    case pos =>
      have HY : Hid (∀ nm num cs ks, ¬ Yt nm num cs ks k d) := fun nm num cs ks y => by
        have := (hdr nm num cs ks y).2
        rw [hz] at this
        simp only at this
        omega
      clear hdn hdr he hz
      go_wp2_with fail
      refine (HC.out _).mono ?_
      rintro e w5 ⟨rfl, rfl⟩
      obtain ⟨⟨t0, t1, t2, t3⟩, z0, z1, z2, z3⟩ := HSr.out.cells
      obtain ⟨⟨g0, g1, g2, g3⟩, f0, f1, f2, f3⟩ := HSr.out.free
      have HPN : Hid (PaT w nm k d _ _) := PaT_no HSr.out HY.out
      have HPH : Hid _ := HSr.out.put.2.1
      go_wp2
      exact bodyPost_ret (res_row_tmp (p := 4) (ty := 25) (q := 5) rfl _ _ w.heap.size 25 _ (0, 0) _ rfl HPH.out Tryz.underlying25 rfl (by kernel_rfl)) rfl HPN.out
    have HAK : Hid (AtK k d nm (u : Int) cs (mk : Int) [] q4) := hdn.2 mk q4 hz
    have hkw : IntKind.i64.wrap (mk : Int) = (mk : Int) := by rw [IntKind.wrap_i64]; omega
    clear hdn hdr he hz HATr
    go_wp2_with fail
    refine (HC.out _).mono ?_
    rintro e w5 ⟨rfl, rfl⟩
    have HCL : Hid (cs.length ≤ 16) := HVL.out
    clear HC HVL
    go_wp2_with fail
    go_loopw [8, 16] (fun y i wr => ∃ (n q : Nat) (v : Value) (vs : List Int), vs.length = n ∧ (n : Int) ≤ (mk : Int) ∧ y = .int .i64 (q : Int) ∧ i = .int .i64 (n : Int) ∧ q ≤ d.size ∧ TpS w nm (u : Int) wr (.slice va cs.length vc2) cs v vs ∧ AtK k d nm (u : Int) cs (mk : Int) vs q) (fun _ i _ => mk - (intOf i).toNat)
    case atStart => exact ⟨0, q4, .slice none 0 0, [], rfl, by omega, rfl, rfl, hq4s, HSr.out, HAK.out⟩
    case round =>
      obtain ⟨n, q, v, vs, hln, hn, rfl, rfl, hqs, hS, hat⟩ := hrel
      have HS2 : Hid (TpS w nm (u : Int) wr (.slice va cs.length vc2) cs v vs) := hS
      have HATr : Hid (AtK k d nm (u : Int) cs (mk : Int) vs q) := hat
      have HLN : Hid (∀ _ : Unit, vs.length = n) := fun _ => hln
      have hvl : vs.length ≤ 8 := by omega
      have HVL : Hid (vs.length ≤ 8) := hvl
      clear hS hat hvl HSr HAK
      obtain ⟨ka, kc, rfl⟩ := HS2.out.on.isSlice
      by_cases hlt : (n : Int) < (mk : Int)
      case pos =>
        have hnx := HATr.out.next (by rw [hln]; exact hlt)
        have hnr := HATr.out.nextR (by rw [hln]; exact hlt)
        clear hln
        by_cases he : (rU d (q : Int)).2.2 = 0
        case neg =>
          have HY : Hid (∀ nm num cs ks, ¬ Yt nm num cs ks k d) := fun nm num cs ks y => he (hnr nm num cs ks y).1
          have HC : Hid (∀ W, _) := fun W => uv_no (q := q) hs W
          obtain ⟨c, hcw⟩ : ∃ c, (rU d (q : Int)).2.2 = c := ⟨_, rfl⟩
          rw [hcw] at HC he
          have hcb : (c != 0) = true := by simp [he]
          clear hcw hnx hnr
          go_wp2_with fail
          refine (HC.out _).mono ?_
          rintro e w6 ⟨⟨a, b, rfl⟩, rfl⟩
          obtain ⟨⟨t0, t1, t2, t3⟩, z0, z1, z2, z3⟩ := HS2.out.cells
          obtain ⟨⟨g0, g1, g2, g3⟩, f0, f1, f2, f3⟩ := HS2.out.free
          have HPN : Hid (PaT w nm k d _ _) := PaT_no HS2.out HY.out
          have HPH : Hid _ := HS2.out.put.2.1
          go_wp2
          exact bodyPost_ret (res_row_tmp (p := 4) (ty := 25) (q := 5) rfl _ _ w.heap.size 25 _ (0, 0) _ rfl HPH.out Tryz.underlying25 rfl (by kernel_rfl)) rfl HPN.out
        obtain ⟨z, q1', hz, hqq, hqs', hzb⟩ := nu_place he
        have HC : Hid (∀ W, _) := fun W => uv_yes hs hz W
        by_cases hb16 : (16 : Int) < (z : Int)
        case pos =>
          have HY : Hid (∀ nm num cs ks, ¬ Yt nm num cs ks k d) := fun nm num cs ks y => by
            have := (hnr nm num cs ks y).2
            rw [hz] at this
            simp only at this
            omega
          clear hnx hnr he hz
          go_wp2_with fail
          refine (HC.out _).mono ?_
          rintro e w6 ⟨rfl, rfl⟩
          obtain ⟨⟨t0, t1, t2, t3⟩, z0, z1, z2, z3⟩ := HS2.out.cells
          obtain ⟨⟨g0, g1, g2, g3⟩, f0, f1, f2, f3⟩ := HS2.out.free
          have HPN : Hid (PaT w nm k d _ _) := PaT_no HS2.out HY.out
          have HPH : Hid _ := HS2.out.put.2.1
          go_wp2
          exact bodyPost_ret (res_row_tmp (p := 4) (ty := 25) (q := 5) rfl _ _ w.heap.size 25 _ (0, 0) _ rfl HPH.out Tryz.underlying25 rfl (by kernel_rfl)) rfl HPN.out
        have hzw : IntKind.i64.wrap (z : Int) = (z : Int) := by rw [IntKind.wrap_i64]; omega
        have HN : Hid (AtK k d nm (u : Int) cs (mk : Int) (vs ++ [(z : Int)]) q1') := hnx.2 z q1' (z : Int) hz (fun _ => rfl)
        clear hnx hnr he hz
        obtain ⟨⟨_, _, _, t3⟩, _⟩ := HS2.out.cells
        go_wp2_with fail
        refine (HC.out _).mono ?_
        rintro e w6 ⟨rfl, rfl⟩
        go_wp2_with (at_builtin; refine hideG ?_)
        refine app_int (by rfl) _ _ (by rfl) (w.heap.size + 2) _ vs (z : Int) HS2.out.on (by rfl) w6.heap.size rfl (by rfl) (by have := HVL.out; omega) (by have := HS2.out.lt; omega) ?_
        intro v' w' ho' hb' hk'
        obtain ⟨a', c', rfl⟩ := ho'.isSlice
        have HS9 : Hid _ := HS2.out.keyPut ho' hb' hk'
        have k9 : w'.cell? ⟨w.heap.size + 1, 3, none⟩ = some (.slice ka vs.length kc) := (hb'.cell (by simp only; omega)).trans t3
        have f9 : w'.frozen? ⟨w.heap.size + 1, 3, none⟩ = false := (hb'.frozen (by simp only; omega)).trans HS2.out.free.1.2.2.2
        have HLA : Hid ((vs ++ [(z : Int)]).length = n + 1) := by rw [List.length_append, HLN.out ()]; rfl
        clear ho' hb' hk' t3
        generalize hVS : vs ++ [(z : Int)] = vs' at *
        clear hVS
        go_wp2
        go_roundw
        case rel => exact ⟨n + 1, q1', _, vs', HLA.out, by omega, rfl, by go_num, hqs', HS9.out, HN.out⟩
        case measure => simp [intOf]; omega
      have hEQ : (n : Int) = (mk : Int) := by omega
      have HDN : Hid (∀ nm' num' cs' ks', Yt nm' num' cs' ks' k d → nm' = nm ∧ num' = (u : Int) ∧ cs' = cs ∧ ks' = vs) := HATr.out.done (by rw [hln]; exact hEQ)
      clear hln HLN hEQ
      obtain ⟨⟨t0, t1, t2, t3⟩, z0, z1, z2, z3⟩ := HS2.out.cells
      obtain ⟨⟨g0, g1, g2, g3⟩, f0, f1, f2, f3⟩ := HS2.out.free
      obtain ⟨p1, p2, p3, p4⟩ := HS2.out.put
      have HP1 : Hid _ := p1
      have HP2 : Hid _ := p2
      have HP3 : Hid _ := p3
      have HP4 : Hid _ := p4
      clear p1 p2 p3 p4
      go_wp2
      exact bodyPost_ret (res_row_tmp (p := 4) (ty := 25) (q := 5) rfl _ _ w.heap.size 25 _ (0, 0) _ rfl HP2.out Tryz.underlying25 rfl (by kernel_rfl)) rfl ⟨HP1.out, .inr ⟨(u : Int), va, vc2, ka, kc, cs, vs, rfl, HP3.out, HP4.out, by have := HCL.out; omega, by have := HVL.out; omega, by omega, by omega, HDN.out⟩⟩
end Go.Proofs.YtjcffcpmegpjeaaGreatDoor
