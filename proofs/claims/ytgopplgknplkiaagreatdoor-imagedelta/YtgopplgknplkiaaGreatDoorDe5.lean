import Derived.Test.YtgopplgknplkiaaGreatDoorDe4
namespace Go.Proofs.YtgopplgknplkiaaGreatDoor
open Go.ChangeShapes Go.WideShapes Go.ChangeAt Go.RowKit
set_option linter.unusedVariables false
set_option maxRecDepth 100000
/-- What the encoding of a delta file answers. -/
def EncB (id gen : Int) (ps : List ER) (w : World) (e : Ending) (w' : World) : Prop :=
  (mayD id gen ps → e = .returned (.tuple #[.string (sealM mgDl (encD id gen ps)), .int .i64 0])) ∧ (¬ mayD id gen ps → e = .returned (.tuple #[.string ⟨#[]⟩, .int .i64 2])) ∧ Below w.heap.size w w'
def headD (id gen : Int) (ps : List ER) : List Int := [id, gen, (ps.length : Int)].flatMap uvB
theorem encD_head (id gen : Int) (ps : List ER) : encD id gen ps = headD id gen ps ++ encEs 0 ps := by simp [encD, headD]
theorem encE_two (last : Int) (p : ER) : encE last p = [p.beg - last, p.fin - p.beg].flatMap uvB ++ [p.key].flatMap blB := by simp [encE]
theorem encEs_len : ∀ (ps : List ER) (last : Int), (∀ p ∈ ps, p.key.size ≤ 160) → (encEs last ps).length ≤ ps.length * 190
  | [], _, _ => by simp [encEs]
  | p :: ps, last, h => by
    have := encEs_len ps p.beg (fun q hq => h q (List.mem_cons_of_mem _ hq))
    have h1 := (uvB_len (p.beg - last)).1
    have h2 := (uvB_len (p.fin - p.beg)).1
    have h3 := blB_len p.key
    have h4 := h p (by simp)
    simp only [encEs, encE, List.length_append, List.length_cons]
    omega
theorem headD_len (id gen : Int) (ps : List ER) : (headD id gen ps).length ≤ 30 := by
  have h1 := (uvB_len id).1
  have h2 := (uvB_len gen).1
  have h4 := (uvB_len (ps.length : Int)).1
  simp only [headD, List.flatMap_cons, List.flatMap_nil, List.append_nil, List.length_append]
  omega
theorem lastE_nonneg {ps : List ER} {k : Nat} (hw : ∀ p ∈ ps, p.wf) (hk : k ≤ ps.length) : 0 ≤ lastE ps k := by
  cases k with
  | zero => exact Int.le_refl _
  | succ k =>
    rw [lastE_succ (by omega)]
    exact (hw _ (List.getElem_mem _)).b0
theorem txtN_mgDl : txtN ⟨#[83, 84, 82, 65, 68, 69, 76, 49]⟩ = mgDl := by decide
theorem SeesE.mono {w : World} {B B' : Nat} {ao : Option Addr} {ps : List ER} (h : SeesE w B ao ps) (hb : B ≤ B') : SeesE w B' ao ps := fun i hi => by
  obtain ⟨b, off, e, hbB, c⟩ := h i hi
  exact ⟨b, off, e, by omega, c⟩
theorem mayD_lo {id gen : Int} {ps : List ER} (h : mayD id gen ps) {k : Nat} (hk : k < ps.length) : lastE ps k ≤ ps[k].beg := by
  obtain ⟨h1, h2⟩ := h.2.2.2 k hk
  cases k with
  | zero => have := h1.1; rw [lastE_zero]; omega
  | succ k =>
    rw [lastE_succ (by omega)]
    rcases h2 k rfl with a | ⟨a, _⟩ <;> omega
set_option maxHeartbeats 12800000 in
theorem encDelta_any (w : World) (id gen lo hi : Int) (da ao : Option Addr) (dn dc cap : Nat) (ps : List ER) (hs : SeesE w w.heap.size ao ps) (hw : ∀ p ∈ ps, p.wf) (hT : HalfAt w) :
    Calls Tryz.prog 5 #[.agg #[.int .i64 id, .int .u64 lo, .int .u64 hi, .slice da dn dc, .int .i64 gen, .slice ao ps.length cap]] w (EncB id gen ps w) := by
  have HS : Hid (SeesE w w.heap.size ao ps) := hs
  have HW : Hid (∀ p ∈ ps, p.wf) := hw
  have HT : Hid (HalfAt w) := hT
  clear hs hw hT
  have HBB : Hid (Below w.heap.size w (w.alloc (.cells #[.int .i64 id, .int .u64 lo, .int .u64 hi, .slice da dn dc, .int .i64 gen, .slice ao ps.length cap] 26))) := (Below.refl _ _).alloc (Nat.le_refl _) _
  have HF0 : Hid (Fp6 (w.alloc (.cells #[.int .i64 id, .int .u64 lo, .int .u64 hi, .slice da dn dc, .int .i64 gen, .slice ao ps.length cap] 26)) w.heap.size (.int .i64 id) (.int .u64 lo) (.int .u64 hi) (.slice da dn dc) (.int .i64 gen) (.slice ao ps.length cap)) := heap_alloc_new w _
  go_enter Tryz.func5, Tryz.ntmps5
  go_wp2_with fail
  generalize hwb : w.alloc (.cells #[.int .i64 id, .int .u64 lo, .int .u64 hi, .slice da dn dc, .int .i64 gen, .slice ao ps.length cap] 26) = wb at *
  clear hwb
  refine (mayBeDelta_any wb id gen lo hi da ao dn dc cap ps ((HS.out.later HBB.out).mono HBB.out.size)).mono ?_
  rintro _ w1 ⟨c, rfl, hiff, hb1⟩
  have HIF : Hid (c = true ↔ mayD id gen ps) := hiff
  have HB1 : Hid (Below w.heap.size w w1) := HBB.out.trans (hb1.mono HBB.out.size)
  have HF1 : Hid (Fp6 w1 w.heap.size (.int .i64 id) (.int .u64 lo) (.int .u64 hi) (.slice da dn dc) (.int .i64 gen) (.slice ao ps.length cap)) := HF0.out.later hb1 HF0.out.lt
  clear hiff hb1 HF0 HBB
  cases c
  · go_wp2
    go_ret2
    exact ⟨fun h => (by have := HIF.out.2 h; cases this), fun _ => rfl, HB1.out⟩
  · have HM : Hid (mayD id gen ps) := HIF.out.1 rfl
    obtain ⟨⟨g1, g2⟩, ⟨n1, n2⟩, ⟨l0, l1⟩, _⟩ := HM.out
    have HKs : Hid (∀ p ∈ ps, p.key.size ≤ 160) := fun p hp => by
      obtain ⟨i, hi, rfl⟩ := List.mem_iff_getElem.1 hp
      exact (HM.out.2.2.2 i hi).1.2.2.2.2
    go_wp2_with fail
    refine (begin_any w1 w1.heap.size ⟨#[83, 84, 82, 65, 68, 69, 76, 49]⟩ (by decide) (Nat.le_refl _)).mono ?_
    rintro _ w2 ⟨g, vb, rfl, hwr, hv, hg, hgl, hb2⟩
    rw [txtN_mgDl] at hwr
    have HWR : Hid (Wr w2 w1.heap.size g vb mgDl) := hwr
    have HB2 : Hid (Below w1.heap.size w1 w2) := hb2
    have hF2 := HF1.out.later hb2 HF1.out.lt
    have b0 : w2.cell? ⟨w.heap.size, 0, none⟩ = some (.int .i64 id) := hF2.cell 0
    have b4 : w2.cell? ⟨w.heap.size, 4, none⟩ = some (.int .i64 gen) := hF2.cell 4
    have b5 : w2.cell? ⟨w.heap.size, 5, none⟩ = some (.slice ao ps.length cap) := hF2.cell 5
    have HVL : Hid (vb < w2.heap.size) := by
      obtain ⟨⟨n, cp, _, ho⟩, _⟩ := hwr
      exact (ownsM.lt ho vb rfl).2
    have s2 := hb2.size
    clear hwr hb2 hF2
    go_wp2_with fail
    obtain ⟨w3, hw3⟩ : ∃ w3, w2.alloc (.cells #[.int .u64 id, .int .u64 gen, .int .u64 (ps.length : Int)] 22) = w3 := ⟨_, rfl⟩
    rw [hw3]
    have x3 : w3.heap[w2.heap.size]? = some (.cells #[.int .u64 id, .int .u64 gen, .int .u64 (ps.length : Int)] 22 (0, 0)) := by rw [← hw3]; exact heap_alloc_new w2 _
    have hb3 : Below w2.heap.size w2 w3 := by rw [← hw3]; exact (Below.refl _ _).alloc (Nat.le_refl _) _
    have s3 : w3.heap.size = w2.heap.size + 1 := by rw [← hw3]; simp
    have hvl := HVL.out
    refine (numbers_any w3 w1.heap.size g vb w2.heap.size 3 mgDl [id, gen, (ps.length : Int)] (HWR.out.keep (Kept.of (K := fun _ => False) hb3) (fun h => h) (fun h => h)) (fun i hi => by
      match i, hi with
      | 0, _ => exact cells_at x3 0
      | 1, _ => exact cells_at x3 1
      | 2, _ => exact cells_at x3 2) (by intro x hx; simp at hx; rcases hx with rfl | rfl | rfl <;> omega) (by omega) (by omega) (by omega) (by show 8 + 3 * 10 ≤ _; decide) (by omega)).mono ?_
    rintro _ w4 ⟨rfl, vb4, hwr4, hv4, hk4⟩
    have HWR4 : Hid (Wr w4 w1.heap.size g vb4 (mgDl ++ headD id gen ps)) := hwr4
    have HB4 : Hid (Below w1.heap.size w1 w4) := (HB2.out.trans (hb3.mono s2)).trans (hk4.below (by omega) (fun k hk e => by
      rcases e with e | e
      · omega
      · omega))
    have b54 : w4.cell? ⟨w.heap.size, 5, none⟩ = some (.slice ao ps.length cap) := (HF1.out.later HB4.out HF1.out.lt).cell 5
    have HV4 : Hid (w1.heap.size ≤ vb4) := by show _ ≤ _; rcases hv4 with e | e <;> omega
    clear hwr4 hv4 hk4 x3 hb3 b0 b4 b5 HWR HVL hvl hw3 HB2
    go_wp2
    go_loopw [5, 28] (fun h i wr => ∃ k : Nat, k ≤ ps.length ∧ i = .int .i64 k ∧ h = .int .u64 (lastE ps k) ∧ ∃ vb', Wr wr w1.heap.size g vb' (mgDl ++ headD id gen ps ++ encEs 0 (ps.take k)) ∧ w1.heap.size ≤ vb' ∧ Below w1.heap.size w1 wr) (fun _ i _ => ps.length - (intOf i).toNat)
    case atStart => exact ⟨0, Nat.zero_le _, rfl, rfl, vb4, by simpa [encEs] using HWR4.out, HV4.out, HB4.out⟩
    case round =>
      obtain ⟨k, hk, rfl, rfl, vb5, hwr, hv5, hbe⟩ := hrel
      have HWR : Hid (Wr wr w1.heap.size g vb5 (mgDl ++ headD id gen ps ++ encEs 0 (ps.take k))) := hwr
      have HBE : Hid (Below w1.heap.size w1 wr) := hbe
      have HBW : Hid (Below w.heap.size w wr) := HB1.out.trans (hbe.mono HB1.out.size)
      have s5 := hbe.size
      have hgl5 : g < wr.heap.size := by
        obtain ⟨⟨n, cp, hc, ho⟩, _⟩ := hwr
        exact cell_ltM hc
      have hvl5 : vb5 < wr.heap.size := by
        obtain ⟨⟨n, cp, hc, ho⟩, _⟩ := hwr
        exact (ownsM.lt ho vb5 rfl).2
      have hlen5 := encEs_len (ps.take k) 0 (fun p hp => HKs.out p (List.mem_of_mem_take hp))
      have hlh := headD_len id gen ps
      clear hwr hbe b54 HWR4 HV4 HB4
      by_cases hkl : k < ps.length
      · obtain ⟨b, off, hao, hb, hat⟩ := (HS.out.later HBW.out) k hkl
        obtain ⟨c0, c1, c2⟩ := hat
        have hlo := mayD_lo HM.out hkl
        obtain ⟨m1, m2, m3, m4, m5⟩ := (HM.out.2.2.2 k hkl).1
        have hl0 := lastE_nonneg HW.out hk
        have HST : Hid (mgDl ++ headD id gen ps ++ encEs 0 (ps.take (k + 1)) = mgDl ++ headD id gen ps ++ encEs 0 (ps.take k) ++ [ps[k].beg - lastE ps k, ps[k].fin - ps[k].beg].flatMap uvB ++ [ps[k].key].flatMap blB) := by
          show _ = _
          rw [encEs_step ps k hkl, encE_two]
          simp only [List.append_assoc]
        have HL2 : Hid _ := lastE_succ hkl
        have ht : (ps.take k).length = k := by rw [List.length_take]; omega
        rw [ht] at hlen5
        generalize hpk : ps[k] = p at *
        obtain ⟨bg, fn, ky⟩ := p
        simp only at c0 c1 c2 hlo m1 m2 m3 m4 m5 HST HL2
        generalize lastE ps k = lst at *
        subst hao
        clear hpk ht
        have HLEN : Hid ((mgDl ++ headD id gen ps ++ encEs 0 (ps.take k)).length ≤ 38 + k * 190) := by
          show _ ≤ _
          have : mgDl.length = 8 := rfl
          simp only [List.length_append]
          omega
        generalize mgDl ++ headD id gen ps ++ encEs 0 (ps.take k) = XS at *
        clear hlen5 hlh
        go_wp2_with fail
        obtain ⟨w6, hw6⟩ : ∃ w6, wr.alloc (.cells #[.int .u64 bg, .int .u64 fn, .string ky] 46) = w6 := ⟨_, rfl⟩
        rw [hw6]
        have x6 : w6.heap[wr.heap.size]? = some (.cells #[.int .u64 bg, .int .u64 fn, .string ky] 46 (0, 0)) := by rw [← hw6]; exact heap_alloc_new wr _
        have hb6 : Below wr.heap.size wr w6 := by rw [← hw6]; exact (Below.refl _ _).alloc (Nat.le_refl _) _
        have s6 : w6.heap.size = wr.heap.size + 1 := by rw [← hw6]; simp
        obtain ⟨w7, hw7⟩ : ∃ w7, w6.alloc (.cells #[.int .u64 (bg - lst), .int .u64 (fn - bg)] 22) = w7 := ⟨_, rfl⟩
        rw [hw7]
        have x7 : w7.heap[w6.heap.size]? = some (.cells #[.int .u64 (bg - lst), .int .u64 (fn - bg)] 22 (0, 0)) := by rw [← hw7]; exact heap_alloc_new w6 _
        have hb7 : Below w6.heap.size w6 w7 := by rw [← hw7]; exact (Below.refl _ _).alloc (Nat.le_refl _) _
        have s7 : w7.heap.size = w6.heap.size + 1 := by rw [← hw7]; simp
        have hb67 : Below wr.heap.size wr w7 := hb6.trans (hb7.mono (by omega))
        rw [← s6]
        refine (numbers_any w7 w1.heap.size g vb5 w6.heap.size 2 _ [bg - lst, fn - bg] (HWR.out.keep (Kept.of (K := fun _ => False) hb67) (fun h => h) (fun h => h)) (fun i hi => by
          match i, hi with
          | 0, _ => exact cells_at x7 0
          | 1, _ => exact cells_at x7 1) (by intro x hx; simp at hx; rcases hx with rfl | rfl <;> omega) (by omega) (by omega) (by omega) (by have := HLEN.out; simp only [List.length_cons, List.length_nil]; omega) (by omega)).mono ?_
        rintro _ w8 ⟨rfl, vb8, hwr8, hv8, hk8⟩
        have s8 := hk8.size
        have x8 : w8.heap[wr.heap.size]? = some (.cells #[.int .u64 bg, .int .u64 fn, .string ky] 46 (0, 0)) := (hk8.block _ (by omega) (fun e => by rcases e with e | e <;> omega)).trans ((hb7.block _ (by omega)).trans x6)
        have HWR8 : Hid (Wr w8 w1.heap.size g vb8 (XS ++ [bg - lst, fn - bg].flatMap uvB)) := hwr8
        have HV8 : Hid (vb8 = vb5 ∨ w7.heap.size ≤ vb8) := hv8
        have HVL8 : Hid (vb8 < w8.heap.size) := by
          obtain ⟨⟨n, cp, _, ho⟩, _⟩ := hwr8
          exact (ownsM.lt ho vb8 rfl).2
        have HB8 : Hid (Below w1.heap.size w1 w8) := (HBE.out.trans (hb67.mono s5)).trans (hk8.below (by omega) (fun k hk e => by rcases e with e | e <;> omega))
        have HLN : Hid ((XS ++ [bg - lst, fn - bg].flatMap uvB).length ≤ 58 + k * 190) := by
          show _ ≤ _
          have h1 := (uvB_len (bg - lst)).1
          have h2 := (uvB_len (fn - bg)).1
          have := HLEN.out
          simp only [List.length_append, List.flatMap_cons, List.flatMap_nil, List.length_nil]
          omega
        have f2 : w8.cell? ⟨wr.heap.size, 2, none⟩ = some (.string ky) := cells_at x8 2
        have HX8 : Hid (w8.heap[wr.heap.size]? = some (.cells #[.int .u64 bg, .int .u64 fn, .string ky] 46 (0, 0))) := x8
        clear hwr8 hv8 hk8 x6 x7 hb6 hb7 hb67 x8 hw6 hw7
        go_wp2_with fail
        obtain ⟨w9, hw9⟩ : ∃ w9, w8.alloc (.cells #[.string ky] 9) = w9 := ⟨_, rfl⟩
        rw [hw9]
        have x9 : w9.heap[w8.heap.size]? = some (.cells #[.string ky] 9 (0, 0)) := by rw [← hw9]; exact heap_alloc_new w8 _
        have hb9 : Below w8.heap.size w8 w9 := by rw [← hw9]; exact (Below.refl _ _).alloc (Nat.le_refl _) _
        have s9 : w9.heap.size = w8.heap.size + 1 := by rw [← hw9]; simp
        have hvl8 := HVL8.out
        have sB8 := HB8.out.size
        refine (blobs_any w9 w1.heap.size g vb8 w8.heap.size 1 _ [ky] (HWR8.out.keep (Kept.of (K := fun _ => False) hb9) (fun h => h) (fun h => h)) (fun i hi => by
          match i, hi with
          | 0, _ => exact cells_at x9 0) (by intro x hx; simp at hx; subst hx; omega) (by omega) (by omega) (by omega) (by have := HLN.out; simp only [List.length_cons, List.length_nil]; omega) (by omega)).mono ?_
        rintro _ wC ⟨rfl, vbC, hwrC, hvC, hkC⟩
        have hne8 : ¬ (wr.heap.size = g ∨ wr.heap.size = vb8) := fun e => by
          rcases e with e | e
          · omega
          · rcases HV8.out with e2 | e2 <;> omega
        have xC := (hkC.block wr.heap.size (by omega) hne8).trans ((hb9.block _ (by omega)).trans HX8.out)
        have t0 : wC.cell? ⟨wr.heap.size, 0, none⟩ = some (.int .u64 bg) := cells_at xC 0
        have HWRC : Hid (Wr wC w1.heap.size g vbC (mgDl ++ headD id gen ps ++ encEs 0 (ps.take (k + 1)))) := by rw [HST.out]; exact hwrC
        have HVC : Hid (w1.heap.size ≤ vbC) := by
          show _ ≤ _
          rcases hvC with e | e
          · rcases HV8.out with e2 | e2 <;> omega
          · omega
        have HBC : Hid (Below w1.heap.size w1 wC) := (HB8.out.trans (hb9.mono sB8)).trans (hkC.below (by omega) (fun k hk e => by
          rcases e with e | e
          · omega
          · rcases HV8.out with e2 | e2 <;> omega))
        clear hwrC hvC hkC xC f2 hb9 x9 hw9
        go_wp2
        go_roundw
        case rel => exact ⟨k + 1, by omega, by go_num, by rw [HL2.out], vbC, HWRC.out, HVC.out, HBC.out⟩
        case measure => simp [intOf]; omega
      · have hke : k = ps.length := by omega
        subst hke
        rw [List.take_length] at HWR hlen5
        have HBT : Hid (HalfAt wr) := HT.out.later HBW.out
        go_wp2_with fail
        refine (end_any wr w1.heap.size g vb5 _ HWR.out (by simp only [List.length_append]; have : mgDl.length = 8 := rfl; omega) HBT.out).mono ?_
        rintro _ w6 ⟨rfl, hb6⟩
        have HB6 : Hid (Below w.heap.size w w6) := HBW.out.trans (hb6.mono HBW.out.size)
        clear hb6
        go_wp2
        go_ret2
        refine ⟨fun _ => ?_, fun h => absurd HM.out h, HB6.out⟩
        unfold sealM
        rw [encD_head, ← List.append_assoc]
        rfl
end Go.Proofs.YtgopplgknplkiaaGreatDoor
