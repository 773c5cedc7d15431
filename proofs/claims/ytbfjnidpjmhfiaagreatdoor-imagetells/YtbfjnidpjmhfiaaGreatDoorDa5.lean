import Derived.Test.YtbfjnidpjmhfiaaGreatDoorDa3
import Derived.Test.YtbfjnidpjmhfiaaGreatDoorDe5
namespace Go.Proofs.YtbfjnidpjmhfiaaGreatDoor
open Go.ChangeShapes Go.WideShapes Go.ChangeAt Go.RowKit
set_option linter.unusedVariables false
set_option maxRecDepth 100000
/-- What the encoding of a data file answers. -/
def EncC (id lo hi : Int) (ps : List DT) (w : World) (e : Ending) (w' : World) : Prop :=
  (mayA id lo hi ps → e = .returned (.tuple #[.string (sealM mgDa (encA id lo hi ps)), .int .i64 0])) ∧ (¬ mayA id lo hi ps → e = .returned (.tuple #[.string ⟨#[]⟩, .int .i64 2])) ∧ Below w.heap.size w w'
def headA (id lo hi : Int) (ps : List DT) : List Int := [id, lo, hi - lo, (ps.length : Int)].flatMap uvB
theorem encA_head (id lo hi : Int) (ps : List DT) : encA id lo hi ps = headA id lo hi ps ++ encTs lo ps := by simp [encA, headA]
theorem encT_two (last : Int) (p : DT) : encT last p = [p.beg - last].flatMap uvB ++ [p.key, p.data].flatMap blB := by simp [encT]
theorem encTs_len : ∀ (ps : List DT) (last : Int), (∀ p ∈ ps, p.key.size ≤ 160 ∧ p.data.size ≤ 512) → (encTs last ps).length ≤ ps.length * 702
  | [], _, _ => by simp [encTs]
  | p :: ps, last, h => by
    have := encTs_len ps p.beg (fun q hq => h q (List.mem_cons_of_mem _ hq))
    have h1 := (uvB_len (p.beg - last)).1
    have h2 := blB_len p.key
    have h3 := blB_len p.data
    have h4 := h p (by simp)
    simp only [encTs, encT, List.length_append, List.length_cons]
    omega
theorem headA_len (id lo hi : Int) (ps : List DT) : (headA id lo hi ps).length ≤ 40 := by
  have h1 := (uvB_len id).1
  have h2 := (uvB_len lo).1
  have h3 := (uvB_len (hi - lo)).1
  have h4 := (uvB_len (ps.length : Int)).1
  simp only [headA, List.flatMap_cons, List.flatMap_nil, List.append_nil, List.length_append]
  omega
theorem lastT_nonneg {lo : Int} {ps : List DT} {k : Nat} (h0 : 0 ≤ lo) (hw : ∀ p ∈ ps, p.wf) (hk : k ≤ ps.length) : 0 ≤ lastT lo ps k := by
  cases k with
  | zero => exact h0
  | succ k =>
    rw [lastT_succ (by omega)]
    exact (hw _ (List.getElem_mem _)).1
theorem txtN_mgDa : txtN ⟨#[83, 84, 82, 65, 68, 65, 84, 49]⟩ = mgDa := by decide
theorem SeesT.mono {w : World} {B B' : Nat} {ao : Option Addr} {ps : List DT} (h : SeesT w B ao ps) (hb : B ≤ B') : SeesT w B' ao ps := fun i hi => by
  obtain ⟨b, off, e, hbB, c⟩ := h i hi
  exact ⟨b, off, e, by omega, c⟩
theorem mayA_lo {id lo hi : Int} {ps : List DT} (h : mayA id lo hi ps) {k : Nat} (hk : k < ps.length) : lastT lo ps k ≤ ps[k].beg := by
  obtain ⟨h1, h2⟩ := h.2.2.2 k hk
  cases k with
  | zero => have := h1.1; rw [lastT_zero]; omega
  | succ k =>
    rw [lastT_succ (by omega)]
    rcases h2 k rfl with a | ⟨a, _⟩ <;> omega
set_option maxHeartbeats 12800000 in
theorem encData_any (w : World) (id gen lo hi : Int) (da ao : Option Addr) (en dc cap : Nat) (ps : List DT) (hlo0 : 0 ≤ lo) (hs : SeesT w w.heap.size da ps) (hw : ∀ p ∈ ps, p.wf) (hT : HalfAt w) :
    Calls Tryz.prog 7 #[.agg #[.int .i64 id, .int .u64 lo, .int .u64 hi, .slice da ps.length dc, .int .i64 gen, .slice ao en cap]] w (EncC id lo hi ps w) := by
  have HS : Hid (SeesT w w.heap.size da ps) := hs
  have HW : Hid (∀ p ∈ ps, p.wf) := hw
  have HT : Hid (HalfAt w) := hT
  clear hs hw hT
  have HBB : Hid (Below w.heap.size w (w.alloc (.cells #[.int .i64 id, .int .u64 lo, .int .u64 hi, .slice da ps.length dc, .int .i64 gen, .slice ao en cap] 26))) := (Below.refl _ _).alloc (Nat.le_refl _) _
  have HF0 : Hid (Fp6 (w.alloc (.cells #[.int .i64 id, .int .u64 lo, .int .u64 hi, .slice da ps.length dc, .int .i64 gen, .slice ao en cap] 26)) w.heap.size (.int .i64 id) (.int .u64 lo) (.int .u64 hi) (.slice da ps.length dc) (.int .i64 gen) (.slice ao en cap)) := heap_alloc_new w _
  go_enter Tryz.func7, Tryz.ntmps7
  go_wp2_with fail
  generalize hwb : w.alloc (.cells #[.int .i64 id, .int .u64 lo, .int .u64 hi, .slice da ps.length dc, .int .i64 gen, .slice ao en cap] 26) = wb at *
  clear hwb
  refine (mayBeData_any wb id gen lo hi da ao en dc cap ps ((HS.out.later HBB.out).mono HBB.out.size)).mono ?_
  rintro _ w1 ⟨c, rfl, hiff, hb1⟩
  have HIF : Hid (c = true ↔ mayA id lo hi ps) := hiff
  have HB1 : Hid (Below w.heap.size w w1) := HBB.out.trans (hb1.mono HBB.out.size)
  have HF1 : Hid (Fp6 w1 w.heap.size (.int .i64 id) (.int .u64 lo) (.int .u64 hi) (.slice da ps.length dc) (.int .i64 gen) (.slice ao en cap)) := HF0.out.later hb1 HF0.out.lt
  clear hiff hb1 HF0 HBB
  cases c
  · go_wp2
    go_ret2
    exact ⟨fun h => (by have := HIF.out.2 h; cases this), fun _ => rfl, HB1.out⟩
  · have HM : Hid (mayA id lo hi ps) := HIF.out.1 rfl
    obtain ⟨⟨g1, g2⟩, ⟨n1, n2⟩, l1, _⟩ := HM.out
    have HKs : Hid (∀ p ∈ ps, p.key.size ≤ 160 ∧ p.data.size ≤ 512) := fun p hp => by
      obtain ⟨i, hi, rfl⟩ := List.mem_iff_getElem.1 hp
      exact ⟨(HM.out.2.2.2 i hi).1.2.2.2.1, (HM.out.2.2.2 i hi).1.2.2.2.2⟩
    go_wp2_with fail
    refine (begin_any w1 w1.heap.size ⟨#[83, 84, 82, 65, 68, 65, 84, 49]⟩ (by decide) (Nat.le_refl _)).mono ?_
    rintro _ w2 ⟨g, vb, rfl, hwr, hv, hg, hgl, hb2⟩
    rw [txtN_mgDa] at hwr
    have HWR : Hid (Wr w2 w1.heap.size g vb mgDa) := hwr
    have HB2 : Hid (Below w1.heap.size w1 w2) := hb2
    have hF2 := HF1.out.later hb2 HF1.out.lt
    have b0 : w2.cell? ⟨w.heap.size, 0, none⟩ = some (.int .i64 id) := hF2.cell 0
    have b1 : w2.cell? ⟨w.heap.size, 1, none⟩ = some (.int .u64 lo) := hF2.cell 1
    have b2 : w2.cell? ⟨w.heap.size, 2, none⟩ = some (.int .u64 hi) := hF2.cell 2
    have b5 : w2.cell? ⟨w.heap.size, 3, none⟩ = some (.slice da ps.length dc) := hF2.cell 3
    have HVL : Hid (vb < w2.heap.size) := by
      obtain ⟨⟨n, cp, _, ho⟩, _⟩ := hwr
      exact (ownsM.lt ho vb rfl).2
    have s2 := hb2.size
    clear hwr hb2 hF2
    go_wp2_with fail
    obtain ⟨w3, hw3⟩ : ∃ w3, w2.alloc (.cells #[.int .u64 id, .int .u64 lo, .int .u64 (hi - lo), .int .u64 (ps.length : Int)] 22) = w3 := ⟨_, rfl⟩
    rw [hw3]
    have x3 : w3.heap[w2.heap.size]? = some (.cells #[.int .u64 id, .int .u64 lo, .int .u64 (hi - lo), .int .u64 (ps.length : Int)] 22 (0, 0)) := by rw [← hw3]; exact heap_alloc_new w2 _
    have hb3 : Below w2.heap.size w2 w3 := by rw [← hw3]; exact (Below.refl _ _).alloc (Nat.le_refl _) _
    have s3 : w3.heap.size = w2.heap.size + 1 := by rw [← hw3]; simp
    have hvl := HVL.out
    refine (numbers_any w3 w1.heap.size g vb w2.heap.size 4 mgDa [id, lo, hi - lo, (ps.length : Int)] (HWR.out.keep (Kept.of (K := fun _ => False) hb3) (fun h => h) (fun h => h)) (fun i hi => by
      match i, hi with
      | 0, _ => exact cells_at x3 0
      | 1, _ => exact cells_at x3 1
      | 2, _ => exact cells_at x3 2
      | 3, _ => exact cells_at x3 3) (by intro x hx; simp at hx; rcases hx with rfl | rfl | rfl | rfl <;> omega) (by omega) (by omega) (by omega) (by show 8 + 4 * 10 ≤ _; decide) (by omega)).mono ?_
    rintro _ w4 ⟨rfl, vb4, hwr4, hv4, hk4⟩
    have HWR4 : Hid (Wr w4 w1.heap.size g vb4 (mgDa ++ headA id lo hi ps)) := hwr4
    have HB4 : Hid (Below w1.heap.size w1 w4) := (HB2.out.trans (hb3.mono s2)).trans (hk4.below (by omega) (fun k hk e => by
      rcases e with e | e
      · omega
      · omega))
    have b54 : w4.cell? ⟨w.heap.size, 3, none⟩ = some (.slice da ps.length dc) := (HF1.out.later HB4.out HF1.out.lt).cell 3
    have b14 : w4.cell? ⟨w.heap.size, 1, none⟩ = some (.int .u64 lo) := (HF1.out.later HB4.out HF1.out.lt).cell 1
    have HV4 : Hid (w1.heap.size ≤ vb4) := by show _ ≤ _; rcases hv4 with e | e <;> omega
    clear hwr4 hv4 hk4 x3 hb3 b0 b1 b2 b5 HWR HVL hvl hw3 HB2
    go_wp2
    go_loopw [5, 34] (fun h i wr => ∃ k : Nat, k ≤ ps.length ∧ i = .int .i64 k ∧ h = .int .u64 (lastT lo ps k) ∧ ∃ vb', Wr wr w1.heap.size g vb' (mgDa ++ headA id lo hi ps ++ encTs lo (ps.take k)) ∧ w1.heap.size ≤ vb' ∧ Below w1.heap.size w1 wr) (fun _ i _ => ps.length - (intOf i).toNat)
    case atStart => exact ⟨0, Nat.zero_le _, rfl, rfl, vb4, by simpa [encTs] using HWR4.out, HV4.out, HB4.out⟩
    case round =>
      obtain ⟨k, hk, rfl, rfl, vb5, hwr, hv5, hbe⟩ := hrel
      have HWR : Hid (Wr wr w1.heap.size g vb5 (mgDa ++ headA id lo hi ps ++ encTs lo (ps.take k))) := hwr
      have HBE : Hid (Below w1.heap.size w1 wr) := hbe
      have HBW : Hid (Below w.heap.size w wr) := HB1.out.trans (hbe.mono HB1.out.size)
      have s5 := hbe.size
      have hgl5 : g < wr.heap.size := by
        obtain ⟨⟨n, cp, hc, ho⟩, _⟩ := hwr
        exact cell_ltM hc
      have hvl5 : vb5 < wr.heap.size := by
        obtain ⟨⟨n, cp, hc, ho⟩, _⟩ := hwr
        exact (ownsM.lt ho vb5 rfl).2
      have hlen5 := encTs_len (ps.take k) lo (fun p hp => HKs.out p (List.mem_of_mem_take hp))
      have hlh := headA_len id lo hi ps
      clear hwr hbe b54 b14 HWR4 HV4 HB4
      by_cases hkl : k < ps.length
      · obtain ⟨b, off, hao, hb, hat⟩ := (HS.out.later HBW.out) k hkl
        obtain ⟨c0, c1, c2⟩ := hat
        have hlo := mayA_lo HM.out hkl
        obtain ⟨m1, m2, m3, m4, m5⟩ := (HM.out.2.2.2 k hkl).1
        have hl0 := lastT_nonneg hlo0 HW.out hk
        have HST : Hid (mgDa ++ headA id lo hi ps ++ encTs lo (ps.take (k + 1)) = mgDa ++ headA id lo hi ps ++ encTs lo (ps.take k) ++ [ps[k].beg - lastT lo ps k].flatMap uvB ++ [ps[k].key, ps[k].data].flatMap blB) := by
          show _ = _
          rw [encTs_step lo ps k hkl, encT_two]
          simp only [List.append_assoc]
        have HL2 : Hid _ := lastT_succ (lo := lo) hkl
        have ht : (ps.take k).length = k := by rw [List.length_take]; omega
        rw [ht] at hlen5
        generalize hpk : ps[k] = p at *
        obtain ⟨bg, ky, dt⟩ := p
        simp only at c0 c1 c2 hlo m1 m2 m3 m4 m5 HST HL2
        generalize lastT lo ps k = lst at *
        subst hao
        clear hpk ht
        have HLEN : Hid ((mgDa ++ headA id lo hi ps ++ encTs lo (ps.take k)).length ≤ 48 + k * 702) := by
          show _ ≤ _
          have : mgDa.length = 8 := rfl
          simp only [List.length_append]
          omega
        generalize mgDa ++ headA id lo hi ps ++ encTs lo (ps.take k) = XS at *
        clear hlen5 hlh
        go_wp2_with fail
        obtain ⟨w6, hw6⟩ : ∃ w6, wr.alloc (.cells #[.int .u64 bg, .string ky, .string dt] 31) = w6 := ⟨_, rfl⟩
        rw [hw6]
        have x6 : w6.heap[wr.heap.size]? = some (.cells #[.int .u64 bg, .string ky, .string dt] 31 (0, 0)) := by rw [← hw6]; exact heap_alloc_new wr _
        have hb6 : Below wr.heap.size wr w6 := by rw [← hw6]; exact (Below.refl _ _).alloc (Nat.le_refl _) _
        have s6 : w6.heap.size = wr.heap.size + 1 := by rw [← hw6]; simp
        obtain ⟨w7, hw7⟩ : ∃ w7, w6.alloc (.cells #[.int .u64 (bg - lst)] 22) = w7 := ⟨_, rfl⟩
        rw [hw7]
        have x7 : w7.heap[w6.heap.size]? = some (.cells #[.int .u64 (bg - lst)] 22 (0, 0)) := by rw [← hw7]; exact heap_alloc_new w6 _
        have hb7 : Below w6.heap.size w6 w7 := by rw [← hw7]; exact (Below.refl _ _).alloc (Nat.le_refl _) _
        have s7 : w7.heap.size = w6.heap.size + 1 := by rw [← hw7]; simp
        have hb67 : Below wr.heap.size wr w7 := hb6.trans (hb7.mono (by omega))
        rw [← s6]
        refine (numbers_any w7 w1.heap.size g vb5 w6.heap.size 1 _ [bg - lst] (HWR.out.keep (Kept.of (K := fun _ => False) hb67) (fun h => h) (fun h => h)) (fun i hi => by
          match i, hi with
          | 0, _ => exact cells_at x7 0) (by intro x hx; simp at hx; subst hx; omega) (by omega) (by omega) (by omega) (by have := HLEN.out; simp only [List.length_cons, List.length_nil]; omega) (by omega)).mono ?_
        rintro _ w8 ⟨rfl, vb8, hwr8, hv8, hk8⟩
        have s8 := hk8.size
        have x8 : w8.heap[wr.heap.size]? = some (.cells #[.int .u64 bg, .string ky, .string dt] 31 (0, 0)) := (hk8.block _ (by omega) (fun e => by rcases e with e | e <;> omega)).trans ((hb7.block _ (by omega)).trans x6)
        have HWR8 : Hid (Wr w8 w1.heap.size g vb8 (XS ++ [bg - lst].flatMap uvB)) := hwr8
        have HV8 : Hid (vb8 = vb5 ∨ w7.heap.size ≤ vb8) := hv8
        have HVL8 : Hid (vb8 < w8.heap.size) := by
          obtain ⟨⟨n, cp, _, ho⟩, _⟩ := hwr8
          exact (ownsM.lt ho vb8 rfl).2
        have HB8 : Hid (Below w1.heap.size w1 w8) := (HBE.out.trans (hb67.mono s5)).trans (hk8.below (by omega) (fun k hk e => by rcases e with e | e <;> omega))
        have HLN : Hid ((XS ++ [bg - lst].flatMap uvB).length ≤ 58 + k * 702) := by
          show _ ≤ _
          have h1 := (uvB_len (bg - lst)).1
          have := HLEN.out
          simp only [List.length_append, List.flatMap_cons, List.flatMap_nil, List.length_nil]
          omega
        have f2 : w8.cell? ⟨wr.heap.size, 1, none⟩ = some (.string ky) := cells_at x8 1
        have f3 : w8.cell? ⟨wr.heap.size, 2, none⟩ = some (.string dt) := cells_at x8 2
        have HX8 : Hid (w8.heap[wr.heap.size]? = some (.cells #[.int .u64 bg, .string ky, .string dt] 31 (0, 0))) := x8
        clear hwr8 hv8 hk8 x6 x7 hb6 hb7 hb67 x8 hw6 hw7
        go_wp2_with fail
        obtain ⟨w9, hw9⟩ : ∃ w9, w8.alloc (.cells #[.string ky, .string dt] 9) = w9 := ⟨_, rfl⟩
        rw [hw9]
        have x9 : w9.heap[w8.heap.size]? = some (.cells #[.string ky, .string dt] 9 (0, 0)) := by rw [← hw9]; exact heap_alloc_new w8 _
        have hb9 : Below w8.heap.size w8 w9 := by rw [← hw9]; exact (Below.refl _ _).alloc (Nat.le_refl _) _
        have s9 : w9.heap.size = w8.heap.size + 1 := by rw [← hw9]; simp
        have hvl8 := HVL8.out
        have sB8 := HB8.out.size
        refine (blobs_any w9 w1.heap.size g vb8 w8.heap.size 2 _ [ky, dt] (HWR8.out.keep (Kept.of (K := fun _ => False) hb9) (fun h => h) (fun h => h)) (fun i hi => by
          match i, hi with
          | 0, _ => exact cells_at x9 0
          | 1, _ => exact cells_at x9 1) (by intro x hx; simp at hx; rcases hx with rfl | rfl <;> omega) (by omega) (by omega) (by omega) (by have := HLN.out; simp only [List.length_cons, List.length_nil]; omega) (by omega)).mono ?_
        rintro _ wC ⟨rfl, vbC, hwrC, hvC, hkC⟩
        have hne8 : ¬ (wr.heap.size = g ∨ wr.heap.size = vb8) := fun e => by
          rcases e with e | e
          · omega
          · rcases HV8.out with e2 | e2 <;> omega
        have xC := (hkC.block wr.heap.size (by omega) hne8).trans ((hb9.block _ (by omega)).trans HX8.out)
        have t0 : wC.cell? ⟨wr.heap.size, 0, none⟩ = some (.int .u64 bg) := cells_at xC 0
        have HWRC : Hid (Wr wC w1.heap.size g vbC (mgDa ++ headA id lo hi ps ++ encTs lo (ps.take (k + 1)))) := by rw [HST.out]; exact hwrC
        have HVC : Hid (w1.heap.size ≤ vbC) := by
          show _ ≤ _
          rcases hvC with e | e
          · rcases HV8.out with e2 | e2 <;> omega
          · omega
        have HBC : Hid (Below w1.heap.size w1 wC) := (HB8.out.trans (hb9.mono sB8)).trans (hkC.below (by omega) (fun k hk e => by
          rcases e with e | e
          · omega
          · rcases HV8.out with e2 | e2 <;> omega))
        clear hwrC hvC hkC xC f2 f3 hb9 x9 hw9
        go_wp2
        go_roundw
        case rel => exact ⟨k + 1, by omega, by go_num, by rw [HL2.out], vbC, HWRC.out, HVC.out, HBC.out⟩
        case measure => simp [intOf]; omega
      · have hke : k = ps.length := by omega
        subst hke
        rw [List.take_length] at HWR hlen5
        have HBT : Hid (HalfAt wr) := HT.out.later HBW.out
        go_wp2_with fail
        refine (end_any wr w1.heap.size g vb5 _ HWR.out (by simp only [List.length_append]; have : mgDa.length = 8 := rfl; omega) HBT.out).mono ?_
        rintro _ w6 ⟨rfl, hb6⟩
        have HB6 : Hid (Below w.heap.size w w6) := HBW.out.trans (hb6.mono HBW.out.size)
        clear hb6
        go_wp2
        go_ret2
        refine ⟨fun _ => ?_, fun h => absurd HM.out h, HB6.out⟩
        unfold sealM
        rw [encA_head, ← List.append_assoc]
        rfl
end Go.Proofs.YtbfjnidpjmhfiaaGreatDoor
