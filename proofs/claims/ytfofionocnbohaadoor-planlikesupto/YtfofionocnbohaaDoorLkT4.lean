import Derived.Test.YtfofionocnbohaaDoorLkT3
namespace Go.Proofs.YtfofionocnbohaaDoor
open Go.ChangeShapes Go.WideShapes Go.ChangeAt Go.RowKit
set_option linter.unusedVariables false
set_option maxRecDepth 100000
/-- The pieces of a pattern, as lists of characters. -/
def pcsC (p : ByteArray) : List (List Int) := (pcsB p).map fun q => chL q.data.toList
theorem pcsB_ne (p : ByteArray) : pcsB p ≠ [] := (split_all _ p rfl).1
theorem grA_one {qs : List ByteArray} (h : qs.length = 1) (t : List Int) : grA (qs.map fun q => chL q.data.toList) t = (bgn (chL (qs[0]'(by omega)).data.toList) t && decide (t.length = (chL (qs[0]'(by omega)).data.toList).length)) := by
  match qs, h with
  | [q], _ => rfl
theorem grA_more {qs : List ByteArray} (h : 2 ≤ qs.length) (t : List Int) : grA (qs.map fun q => chL q.data.toList) t = (bgn (chL (qs[0]'(by omega)).data.toList) t && grR ((qs.drop 1).map fun q => chL q.data.toList) (t.drop (chL (qs[0]'(by omega)).data.toList).length)) := by
  match qs, h with
  | q :: r :: qs, _ => rfl
theorem grR_mid {qs : List ByteArray} {j : Nat} (h : j + 1 < qs.length) (t : List Int) : grR ((qs.drop j).map fun q => chL q.data.toList) t = (match fnd t (chL (qs[j]'(by omega)).data.toList) with | none => false | some k => grR ((qs.drop (j + 1)).map fun q => chL q.data.toList) (t.drop k)) := by
  rw [List.drop_eq_getElem_cons (show j < qs.length by omega), List.drop_eq_getElem_cons h]
  rfl
theorem grR_end {qs : List ByteArray} {j : Nat} (h : j + 1 = qs.length) (t : List Int) : grR ((qs.drop j).map fun q => chL q.data.toList) t = (decide ((chL (qs[j]'(by omega)).data.toList).length ≤ t.length) && bgn (chL (qs[j]'(by omega)).data.toList) (t.drop (t.length - (chL (qs[j]'(by omega)).data.toList).length))) := by
  rw [List.drop_eq_getElem_cons (show j < qs.length by omega), List.drop_eq_nil_of_le (by omega)]
  rfl
theorem chL_size (s : ByteArray) : (chL s.data.toList).length ≤ s.size := by
  have := chL_len s.data.toList
  rw [Array.length_toList] at this
  exact this
set_option maxHeartbeats 8000000 in
theorem lkT (t p : ByteArray) (w : World) (ht : t.size < 4294967281) (hp : p.size < 4294967281) :
    Calls Tryd.prog 6 #[.string t, .string p] w fun e w' => e = .returned (.bool (grA (pcsC p) (chL t.data.toList))) ∧ Below w.heap.size w w' := by
  have HQ : Hid (∀ q ∈ pcsB p, q.size ≤ p.size) := pcsB_size p
  have HN : Hid (pcsB p ≠ []) := pcsB_ne p
  have hql : (pcsB p).length ≤ p.size + 1 := by
    rw [pcsB_len]
    have := Lib.countB_le pct (by decide) p.size p (Nat.le_refl _)
    omega
  have HG : Hid (pcsC p = (pcsB p).map fun q => chL q.data.toList) := rfl
  have htl := chL_size t
  generalize pcsC p = CS at *
  generalize hte : chL t.data.toList = ts at *
  have HTE : Hid (chL t.data.toList = ts) := hte
  clear hte
  go_enter Tryd.func6, Tryd.ntmps6
  go_wp2_with fail
  refine (chT t w (by omega)).mono ?_
  rintro e w1 ⟨v1, rfl, hs1, hb1⟩
  rw [HTE.out] at hs1
  obtain ⟨a1, c1, rfl⟩ := hs1.form
  have HS1 : Hid (SeesG (Value.int .i32) w1 w1.heap.size (.slice a1 ts.length c1) ts) := hs1
  have HB1 : Hid (Below w.heap.size w w1) := hb1
  have hsz1 := hb1.size
  clear hs1 hb1
  go_wp2_with fail
  refine (spT p w1 hp).mono ?_
  rintro e w2 ⟨v2, rfl, hs2, hb2⟩
  obtain ⟨a2, c2, rfl⟩ := hs2.form
  generalize pcsB p = qs at *
  have HS2 : Hid (SeesG Value.string w2 w2.heap.size (.slice a2 qs.length c2) qs) := hs2
  have HT2 : Hid (SeesG (Value.int .i32) w2 w2.heap.size (.slice a1 ts.length c1) ts) := (HS1.out.later hb2).up hb2.size
  have HB2 : Hid (Below w.heap.size w w2) := HB1.out.trans (hb2.mono hsz1)
  have hsz2 : w.heap.size ≤ w2.heap.size := by have := hb2.size; omega
  have hn : 0 < qs.length := List.length_pos_iff.2 HN.out
  obtain ⟨b2, o2, rfl, hc0⟩ := HS2.out.cell 0 hn
  have hq0 : qs[0].size ≤ p.size := HQ.out _ (List.getElem_mem _)
  clear hs2 hb2 HS1 HB1
  obtain ⟨q0, hq0e⟩ : ∃ q0, q0 = qs[0] := ⟨_, rfl⟩
  have HQ0 : Hid (∀ _ : Unit, qs[0] = q0) := fun _ => hq0e.symm
  rw [← hq0e, Nat.add_zero] at hc0
  rw [← hq0e] at hq0
  clear hq0e
  have h0l : (0 : Int) < (qs.length : Int) := by omega
  go_wp2_with fail
  refine (chT q0 w2 (by omega)).mono ?_
  rintro e w3 ⟨v3, rfl, hs3, hb3⟩
  obtain ⟨a3, c3, rfl⟩ := hs3.form
  have hcl0 := chL_size q0
  generalize hfs : chL q0.data.toList = fs at hs3 hcl0 ⊢
  have HF0 : Hid (chL q0.data.toList = fs) := hfs
  clear hfs
  have HS3 : Hid (SeesG Value.string w3 w3.heap.size (.slice (some ⟨b2, o2, none⟩) qs.length c2) qs) := (HS2.out.later hb3).up hb3.size
  have HT3 : Hid (SeesG (Value.int .i32) w3 w3.heap.size (.slice a1 ts.length c1) ts) := (HT2.out.later hb3).up hb3.size
  have HF3 : Hid (SeesG (Value.int .i32) w3 w3.heap.size (.slice a3 fs.length c3) fs) := hs3
  have HB3 : Hid (Below w.heap.size w w3) := HB2.out.trans (hb3.mono hsz2)
  have hsz3 : w.heap.size ≤ w3.heap.size := by have := hb3.size; omega
  have hts40 : ts.length ≤ 1099511627776 := by omega
  have hfs40 : fs.length ≤ 1099511627776 := by omega
  clear hs3 hb3 HS2 HT2 HB2 hc0
  go_wp2_with fail
  refine (bgT w3 w3.heap.size (.slice a1 ts.length c1) (.slice a3 fs.length c3) ts fs HT3.out HF3.out hts40 hfs40).mono ?_
  rintro e w4 ⟨rfl, rfl⟩
  have hgo : CS = List.map (fun q => chL q.data.toList) qs := HG.out
  rcases hb : bgn fs ts with _ | _
  · have HR : Hid (grA CS ts = false) := by
      show grA CS ts = false
      rw [hgo]
      rcases Nat.lt_or_ge 1 qs.length with h | h
      · rw [grA_more h, HQ0.out (), HF0.out, hb]; rfl
      · rw [grA_one (by omega), HQ0.out (), HF0.out, hb]; rfl
    clear hb hgo
    go_wp2
    go_ret
    exact ⟨by rw [HR.out]; rfl, HB3.out⟩
  · have hfl : fs.length ≤ ts.length := bgn_len _ _ hb
    obtain ⟨a5, c5, hrun, hsee⟩ := slice_sees 26 (by kernel_rfl) sizeR HT3.out fs.length hfl
    have hul : (ts.drop fs.length).length = ts.length - fs.length := List.length_drop
    obtain ⟨us, hus⟩ : ∃ us, us = ts.drop fs.length := ⟨_, rfl⟩
    rw [← hus] at hrun hsee hul
    have HU : Hid (ts.drop fs.length = us) := hus.symm
    have HS5 : Hid (SeesG (Value.int .i32) w4 w4.heap.size (.slice a5 us.length c5) us) := hsee
    have hus40 : us.length ≤ 1099511627776 := by omega
    have hus32 : us.length < 4294967281 := by omega
    have HUL : Hid (us.length = ts.length - fs.length) := hul
    clear hsee hus hul
    by_cases hq1 : qs.length = 1
    · have hq1i : (qs.length : Int) - 1 = 0 := by omega
      have HR : Hid (grA CS ts = decide (us.length = 0)) := by
        show grA CS ts = _
        rw [hgo, grA_one hq1, HQ0.out (), HF0.out, hb, Bool.true_and, HUL.out]
        apply decide_eq_decide.2
        omega
      clear hb hgo
      by_cases hu0 : us.length = 0
      · have hu0i : (us.length : Int) = 0 := by omega
        have hu0b : ((us.length : Int) == 0) = true := beq_iff_eq.2 hu0i
        go_wp2
        go_ret
        exact ⟨by rw [HR.out, decide_eq_true hu0]; rfl, HB3.out⟩
      · have hu0i : ¬ (us.length : Int) = 0 := by omega
        have hu0b : ((us.length : Int) == 0) = false := beq_eq_false_iff_ne.2 hu0i
        go_wp2
        go_ret
        exact ⟨by rw [HR.out, decide_eq_false hu0]; rfl, HB3.out⟩
    · have hq2 : 2 ≤ qs.length := by omega
      have hq1i : ¬ (qs.length : Int) - 1 = 0 := by omega
      have hq1b : ((qs.length : Int) - 1 == 0) = false := beq_eq_false_iff_ne.2 hq1i
      have HR : Hid (grA CS ts = grR ((qs.drop 1).map fun q => chL q.data.toList) us) := by
        show grA CS ts = _
        rw [hgo, grA_more hq2, HQ0.out (), HF0.out, hb, Bool.true_and, HU.out]
      clear hb hgo
      obtain ⟨l, hl⟩ : ∃ l : Nat, qs.length = l + 1 := ⟨qs.length - 1, by omega⟩
      obtain ⟨a6, c6, hrun2, hsee2⟩ := slice_part 23 (by kernel_rfl) sizeS HS3.out l (by omega) (by omega)
      have HS6 : Hid (SeesG Value.string w4 w4.heap.size (.slice a6 (l - 1) c6) ((qs.take l).drop 1)) := hsee2
      have hli : (qs.length : Int) - 1 = (l : Int) := by omega
      have HL : Hid (qs.length = l + 1) := hl
      have hl1 : 1 ≤ l := by omega
      have hl32 : l < 4294967290 := by omega
      clear hsee2 hl
      rw [← hli] at hrun2
      obtain ⟨m, hm⟩ : ∃ m, m = l - 1 := ⟨_, rfl⟩
      rw [← hm] at hrun2
      have HM : Hid (m = l - 1) := hm
      have hm32 : m < 4294967290 := by omega
      clear hm hli
      go_wp2_with fail
      go_loopw [5, 10, 11, 41] (fun v _ _ i wr => ∃ (j : Nat) (xs : List Int) (a : Option Addr) (c : Nat), j ≤ m ∧ i = .int .i64 (j : Int) ∧ v = .slice a xs.length c ∧ SeesG (Value.int .i32) wr wr.heap.size (.slice a xs.length c) xs ∧ xs.length < 4294967281 ∧ grA CS ts = grR ((qs.drop (j + 1)).map fun q => chL q.data.toList) xs ∧ Below w4.heap.size w4 wr) (fun _ _ _ i _ => m - (intOf i).toNat)
      case atStart => exact ⟨0, us, a5, c5, by omega, rfl, rfl, HS5.out, hus32, HR.out, Below.refl _ _⟩
      case round =>
        obtain ⟨j, xs, a7, c7, hj, rfl, rfl, hsee, hxl, hgr, hbel⟩ := hrel
        have HX : Hid (SeesG (Value.int .i32) wr wr.heap.size (.slice a7 xs.length c7) xs) := hsee
        have HGR : Hid (grA CS ts = grR ((qs.drop (j + 1)).map fun q => chL q.data.toList) xs) := hgr
        have HBW : Hid (Below w4.heap.size w4 wr) := hbel
        have hszr : w4.heap.size ≤ wr.heap.size := hbel.size
        clear hsee hgr hbel hrun hrun2
        by_cases hjm : j < m
        · have hji : (j : Int) < (m : Int) := by omega
          have hjl : j < ((qs.take l).drop 1).length := by rw [List.length_drop, List.length_take]; have := HM.out; have := HL.out; omega
          obtain ⟨b8, o8, rfl, hc8⟩ := (HS6.out.later HBW.out).cell j hjl
          have hjq : 1 + j + 1 < qs.length := by have := HM.out; have := HL.out; omega
          have hqe : ((qs.take l).drop 1)[j] = qs[1 + j] := by rw [List.getElem_drop, List.getElem_take]
          have hqs : qs[1 + j].size ≤ p.size := HQ.out _ (List.getElem_mem _)
          rw [hqe] at hc8
          have HMID : Hid (∀ u, grR ((qs.drop (1 + j)).map fun q => chL q.data.toList) u = _) := fun u => grR_mid hjq u
          clear hqe
          generalize qs[1 + j] = q at *
          clear hjl hjq
          go_wp2_with fail
          refine (chT q wr (by omega)).mono ?_
          rintro e w5 ⟨v5, rfl, hs5, hb5⟩
          obtain ⟨a9, c9, rfl⟩ := hs5.form
          have hcl := chL_size q
          generalize chL q.data.toList = ys at *
          have HY : Hid (SeesG (Value.int .i32) w5 w5.heap.size (.slice a9 ys.length c9) ys) := hs5
          have HX5 : Hid (SeesG (Value.int .i32) w5 w5.heap.size (.slice a7 xs.length c7) xs) := (HX.out.later hb5).up hb5.size
          have HB5 : Hid (Below w4.heap.size w4 w5) := HBW.out.trans (hb5.mono hszr)
          have hxs40 : xs.length ≤ 1099511627776 := by omega
          have hys40 : ys.length ≤ 1099511627776 := by omega
          clear hs5 hb5 hc8
          go_wp2_with fail
          refine (bhT w5 w5.heap.size (.slice a7 xs.length c7) (.slice a9 ys.length c9) xs ys HX5.out HY.out hxs40 hys40).mono ?_
          rintro e w6 ⟨rfl, rfl⟩
          rcases hf : fnd xs ys with _ | k
          · have HE : Hid (grA CS ts = false) := by
              show grA CS ts = false
              rw [HGR.out, Nat.add_comm j 1, HMID.out xs, hf]
            clear hf HMID
            dsimp only [fndV]
            go_wp2
            go_ret
            exact ⟨by rw [HE.out]; rfl, HB3.out.trans (HB5.out.mono hsz3)⟩
          · have hkx : k ≤ xs.length := by obtain ⟨i, h1, _, h3, _⟩ := fnd_some _ _ _ hf; omega
            have HE : Hid (grA CS ts = grR ((qs.drop (1 + j + 1)).map fun q => chL q.data.toList) (xs.drop k)) := by
              show grA CS ts = _
              rw [HGR.out, Nat.add_comm j 1, HMID.out xs, hf]
            obtain ⟨a10, c10, hrun, hsee⟩ := slice_sees 26 (by kernel_rfl) sizeR HX5.out k hkx
            have hzl : (xs.drop k).length ≤ xs.length := by rw [List.length_drop]; omega
            generalize hzs : xs.drop k = zs at *
            have HZ : Hid (SeesG (Value.int .i32) w6 w6.heap.size (.slice a10 zs.length c10) zs) := hsee
            have hk0 : ¬ (k : Int) < 0 := by omega
            have hk32 : k < 4294967281 := by omega
            clear hf HMID hsee hzs
            dsimp only [fndV]
            go_wp2
            go_roundw
            case rel => exact ⟨j + 1, zs, a10, c10, by omega, by go_num, rfl, HZ.out, by omega, by rw [show j + 1 + 1 = 1 + j + 1 by omega]; exact HE.out, HB5.out⟩
            case measure => simp [intOf]; omega
        · have hji : ¬ (j : Int) < (m : Int) := by omega
          have hjm2 : j + 1 = l := by have := HM.out; omega
          have hlq : l < qs.length := by have := HL.out; omega
          obtain ⟨b8, o8, e8, hc8⟩ := (HS3.out.later HBW.out).cell l hlq
          injection e8 with e8
          injection e8 with e8 e9
          subst e8 e9
          have hqs : qs[l].size ≤ p.size := HQ.out _ (List.getElem_mem _)
          have HEND : Hid (∀ u, grR ((qs.drop l).map fun q => chL q.data.toList) u = _) := fun u => grR_end HL.out.symm u
          have hlqi : (qs.length : Int) - 1 = (l : Int) := by have := HL.out; omega
          have hlqj : (l : Int) < (qs.length : Int) := by omega
          have HE0 : Hid (grA CS ts = grR ((qs.drop l).map fun q => chL q.data.toList) xs) := by rw [← hjm2]; exact HGR.out
          generalize qs[l] = q at *
          clear hlq
          go_wp2_with fail
          refine (chT q wr (by omega)).mono ?_
          rintro e w5 ⟨v5, rfl, hs5, hb5⟩
          obtain ⟨a9, c9, rfl⟩ := hs5.form
          have hcl := chL_size q
          generalize chL q.data.toList = ys at *
          have HY : Hid (SeesG (Value.int .i32) w5 w5.heap.size (.slice a9 ys.length c9) ys) := hs5
          have HX5 : Hid (SeesG (Value.int .i32) w5 w5.heap.size (.slice a7 xs.length c7) xs) := (HX.out.later hb5).up hb5.size
          have HB5 : Hid (Below w4.heap.size w4 w5) := HBW.out.trans (hb5.mono hszr)
          clear hs5 hb5 hc8
          by_cases hle : ys.length ≤ xs.length
          · have hlei : (ys.length : Int) ≤ (xs.length : Int) := by omega
            have HE : Hid (grA CS ts = bgn ys (xs.drop (xs.length - ys.length))) := by
              show grA CS ts = _
              rw [HE0.out, HEND.out xs, decide_eq_true hle, Bool.true_and]
            obtain ⟨a10, c10, hrun, hsee⟩ := slice_sees 26 (by kernel_rfl) sizeR HX5.out (xs.length - ys.length) (by omega)
            rw [show ((xs.length - ys.length : Nat) : Int) = (xs.length : Int) - (ys.length : Int) by omega] at hrun
            have hzl : (xs.drop (xs.length - ys.length)).length ≤ 1099511627776 := by rw [List.length_drop]; omega
            generalize hzs : xs.drop (xs.length - ys.length) = zs at *
            have HZ : Hid (SeesG (Value.int .i32) w5 w5.heap.size (.slice a10 zs.length c10) zs) := hsee
            have hys40 : ys.length ≤ 1099511627776 := by omega
            clear hsee hzs HEND
            go_wp2_with fail
            refine (bgT w5 w5.heap.size (.slice a10 zs.length c10) (.slice a9 ys.length c9) zs ys HZ.out HY.out hzl hys40).mono ?_
            rintro e w6 ⟨rfl, rfl⟩
            go_wp2
            go_ret
            exact ⟨by rw [HE.out]; rfl, HB3.out.trans (HB5.out.mono hsz3)⟩
          · have hlei : ¬ (ys.length : Int) ≤ (xs.length : Int) := by omega
            have HE : Hid (grA CS ts = false) := by
              show grA CS ts = _
              rw [HE0.out, HEND.out xs, decide_eq_false hle, Bool.false_and]
            clear HEND
            go_wp2
            go_ret
            exact ⟨by rw [HE.out]; rfl, HB3.out.trans (HB5.out.mono hsz3)⟩
end Go.Proofs.YtfofionocnbohaaDoor
