import Derived.Test.YtbfjnidpjmhfiaaGreatDoorDa5
import Derived.Test.YtbfjnidpjmhfiaaGreatDoorSrB
namespace Go.Proofs.YtbfjnidpjmhfiaaGreatDoor
open Go.ChangeShapes Go.WideShapes Go.ChangeAt Go.RowKit
set_option linter.unusedVariables false
set_option maxRecDepth 100000
theorem mgDa_str : (⟨#[83, 84, 82, 65, 68, 65, 84, 49]⟩ : ByteArray) = strOfNums mgDa := by decide
theorem refblobA (s : ByteArray) (w : World) (hs : s.size ≤ 1048576) : Calls Tryz.prog 31 #[.string s] w fun e w' => e = .returned (.string (strOfNums (uvB s.size) ++ s)) ∧ Below w.heap.size w w' := by
  have hb := ref_blob s w (by omega)
  have he : blobV s = (strOfNums (uvB s.size) ++ s, 0) := by unfold blobV; rw [if_pos hs]
  rw [he] at hb
  have HB : Hid (∀ _ : Unit, _) := fun _ => hb
  clear hb he
  generalize strOfNums (uvB s.size) ++ s = t at *
  go_enter Tryz.func31, Tryz.ntmps31
  go_wp2_with fail
  refine (HB.out ()).mono ?_
  rintro _ w1 ⟨rfl, hb1⟩
  have H1 : Hid (Below w.heap.size w w1) := hb1
  clear hb1
  go_wp2
  go_ret
  exact ⟨rfl, H1.out⟩
theorem strBA (x : ByteArray) (h : x.size ≤ 512) : txtN (strOfNums (uvB x.size) ++ x) = blB x ∧ (strOfNums (uvB x.size) ++ x).size ≤ 522 := by
  refine ⟨blB_txt x (by omega), ?_⟩
  rw [ByteArray.size_append, strOfNums_size]
  have := (uvB_len x.size).1
  omega
theorem headA_four (id lo hi : Int) (ps : List DT) : headA id lo hi ps = uvB id ++ uvB lo ++ uvB (hi - lo) ++ uvB (ps.length : Int) := by simp [headA]
theorem encT_three (last : Int) (p : DT) (X : List Int) : X ++ encT last p = X ++ uvB (p.beg - last) ++ blB p.key ++ blB p.data := by simp [encT]
set_option maxHeartbeats 25600000 in
theorem refEncA_any (w : World) (id gen lo hi : Int) (da ao : Option Addr) (en dc cap : Nat) (ps : List DT) (hlo0 : 0 ≤ lo) (hs : SeesT w w.heap.size da ps) (hw : ∀ p ∈ ps, p.wf) :
    Calls Tryz.prog 8 #[.agg #[.int .i64 id, .int .u64 lo, .int .u64 hi, .slice da ps.length dc, .int .i64 gen, .slice ao en cap]] w (EncC id lo hi ps w) := by
  have HS : Hid (SeesT w w.heap.size da ps) := hs
  have HW : Hid (∀ p ∈ ps, p.wf) := hw
  clear hs hw
  have HBB : Hid (Below w.heap.size w (w.alloc (.cells #[.int .i64 id, .int .u64 lo, .int .u64 hi, .slice da ps.length dc, .int .i64 gen, .slice ao en cap] 26))) := (Below.refl _ _).alloc (Nat.le_refl _) _
  have HF0 : Hid (Fp6 (w.alloc (.cells #[.int .i64 id, .int .u64 lo, .int .u64 hi, .slice da ps.length dc, .int .i64 gen, .slice ao en cap] 26)) w.heap.size (.int .i64 id) (.int .u64 lo) (.int .u64 hi) (.slice da ps.length dc) (.int .i64 gen) (.slice ao en cap)) := heap_alloc_new w _
  go_enter Tryz.func8, Tryz.ntmps8
  go_wp2_with fail
  generalize hwb : w.alloc (.cells #[.int .i64 id, .int .u64 lo, .int .u64 hi, .slice da ps.length dc, .int .i64 gen, .slice ao en cap] 26) = wb at *
  clear hwb
  refine (dataMay_any wb id gen lo hi da ao en dc cap ps ((HS.out.later HBB.out).mono HBB.out.size)).mono ?_
  rintro _ w1 ⟨c, rfl, hiff, hb1⟩
  have HIF : Hid (c = true ↔ mayA id lo hi ps) := hiff
  have HB1 : Hid (Below w.heap.size w w1) := HBB.out.trans (hb1.mono HBB.out.size)
  have HX1 : Hid (Fp6 w1 w.heap.size (.int .i64 id) (.int .u64 lo) (.int .u64 hi) (.slice da ps.length dc) (.int .i64 gen) (.slice ao en cap)) := HF0.out.later hb1 HF0.out.lt
  clear hiff hb1 HF0 HBB
  cases c
  · go_wp2
    go_ret2
    exact ⟨fun h => (by have := HIF.out.2 h; cases this), fun _ => rfl, HB1.out⟩
  · have HM : Hid (mayA id lo hi ps) := HIF.out.1 rfl
    obtain ⟨⟨g1, g2⟩, ⟨n1, n2⟩, l1, _⟩ := HM.out
    have HKs : Hid (∀ p ∈ ps, p.key.size ≤ 160 ∧ p.data.size ≤ 512) := fun p hp => by
      obtain ⟨i, hi, rfl⟩ := List.mem_iff_getElem.1 hp
      exact ⟨(HM.out.2.2.2 i hi).1.2.2.2.1, (HM.out.2.2.2 i hi).1.2.2.2.2⟩
    have hwp : IntKind.u64.wrap (hi - lo) = hi - lo := by rw [IntKind.wrap_u64]; omega
    have hwl := HX1.out.lt
    have b0 : w1.cell? ⟨w.heap.size, 0, none⟩ = some (.int .i64 id) := HX1.out.cell 0
    go_wp2_with fail
    refine (ref_uvarint id w1 (by omega) (by omega)).mono ?_
    rintro _ wu ⟨rfl, hbu⟩
    obtain ⟨ht, hz10, hz0⟩ := strU id (by omega) (by omega)
    generalize strOfNums (uvB id) = t at *
    have HBU : Hid (Below w1.heap.size w1 wu) := hbu
    have HTX : Hid (txtN t = uvB id) := ht
    clear hbu ht b0
    obtain ⟨i0, hi0, hq0, hq1, hq2⟩ := info_parts infoB
    obtain ⟨v2, w2, hrun, hown, hgrow, _⟩ := Lib.run_append_own_string (P := Tryz.prog) wu w1.heap.size 64 9 64 5 i0 Tryz.underlying64 Tryz.underlying9 hi0 hq0 hq1 hq2 (.slice none 0 0) 0 [] (World.ownsRow_nil _ _ _ _) t (by unfold maxLen; omega) (by omega) HBU.out.size
    have ho2 := own_first HTX.out hz0 hown
    have HSR0 : Hid (Sr w1 w2 w1.heap.size w.heap.size (.cells #[.int .i64 id, .int .u64 lo, .int .u64 hi, .slice da ps.length dc, .int .i64 gen, .slice ao en cap] 26 (0, 0)) v2 (uvB id)) := by
      have hb2 : Below w1.heap.size w1 w2 := HBU.out.grown hgrow HBU.out.size (fun k hk => by cases hk)
      exact ⟨ho2, (hb2.block _ hwl).trans HX1.out, fun e => by have := (ownsM.lt ho2 _ e).1; omega, hb2⟩
    obtain ⟨a2, n2', c2', rfl⟩ := ho2.slice
    have HL0 : Hid ((uvB id).length ≤ 10) := (uvB_len id).1
    clear hown hgrow ho2 hq0 hq1 hq2 hz0 hz10 HBU HTX
    have b1 : w2.cell? ⟨w.heap.size, 1, none⟩ = some (.int .u64 lo) := cells_at HSR0.out.blk 1
    go_wp2_with (at_builtin; refine wpList_plain (by rfl) fun _ hK => ?_; refine wp_app_str _ _ 64 9 (by rfl) (by rfl) (by rfl) hrun ?_; refine hK _ _ ?_)
    refine (ref_uvarint lo _ (by omega) (by omega)).mono ?_
    rintro _ wu1 ⟨rfl, hbu1⟩
    have HSC1 := HSR0.out.call (Nat.le_refl _) hbu1
    obtain ⟨ht1, hz1, _⟩ := strU lo (by omega) (by omega)
    generalize strOfNums (uvB lo) = t1 at *
    have HTX1 : Hid _ := ht1
    have HSD1 : Hid _ := HSC1
    have hlw1 := HSC1.bel.size
    have hle1 := HL0.out
    have HL1 : Hid ((uvB id ++ uvB lo).length ≤ 20) := by
      show _ ≤ _
      rw [List.length_append]
      have := (uvB_len lo).1
      omega
    clear hbu1 ht1 HSC1
    go_wp2_with (at_builtin; refine app_mstr (by rfl) _ _ (by rfl) w1.heap.size _ _ t1 HSD1.out.own (by rfl) (by rfl) (by omega) hlw1 ?_; intro v1 wa1 ho1 hb1 hk1; rw [HTX1.out] at ho1; have HSR1 : Hid (Sr w1 wa1 w1.heap.size w.heap.size (.cells #[.int .i64 id, .int .u64 lo, .int .u64 hi, .slice da ps.length dc, .int .i64 gen, .slice ao en cap] 26 (0, 0)) v1 (uvB id ++ uvB lo)) := (by have := HSD1.out.app ho1 hb1 hk1; exact this); obtain ⟨aa1, nn1, cc1, rfl⟩ : ∃ a n c, v1 = .slice a n c := ho1.slice; clear ho1 hb1 hk1; have b2 := cells_at HSR1.out.blk 2; have b2' := cells_at HSR1.out.blk 1)
    refine (ref_uvarint (hi - lo) _ (by omega) (by omega)).mono ?_
    rintro _ wu2 ⟨rfl, hbu2⟩
    have HSC2 := HSR1.out.call (Nat.le_refl _) hbu2
    obtain ⟨ht2, hz2, _⟩ := strU (hi - lo) (by omega) (by omega)
    generalize strOfNums (uvB (hi - lo)) = t2 at *
    have HTX2 : Hid _ := ht2
    have HSD2 : Hid _ := HSC2
    have hlw2 := HSC2.bel.size
    have hle2 := HL1.out
    have HL2 : Hid ((uvB id ++ uvB lo ++ uvB (hi - lo)).length ≤ 30) := by
      show _ ≤ _
      rw [List.length_append]
      have := (uvB_len (hi - lo)).1
      omega
    clear hbu2 ht2 HSC2
    go_wp2_with (at_builtin; refine app_mstr (by rfl) _ _ (by rfl) w1.heap.size _ _ t2 HSD2.out.own (by rfl) (by rfl) (by omega) hlw2 ?_; intro v2 wa2 ho2 hb2 hk2; rw [HTX2.out] at ho2; have HSR2 : Hid (Sr w1 wa2 w1.heap.size w.heap.size (.cells #[.int .i64 id, .int .u64 lo, .int .u64 hi, .slice da ps.length dc, .int .i64 gen, .slice ao en cap] 26 (0, 0)) v2 (uvB id ++ uvB lo ++ uvB (hi - lo))) := (by have := HSD2.out.app ho2 hb2 hk2; exact this); obtain ⟨aa2, nn2, cc2, rfl⟩ : ∃ a n c, v2 = .slice a n c := ho2.slice; clear ho2 hb2 hk2; have b3 := cells_at HSR2.out.blk 3)
    refine (ref_uvarint (ps.length : Int) _ (by omega) (by omega)).mono ?_
    rintro _ wu3 ⟨rfl, hbu3⟩
    have HSC3 := HSR2.out.call (Nat.le_refl _) hbu3
    obtain ⟨ht3, hz3, _⟩ := strU (ps.length : Int) (by omega) (by omega)
    generalize strOfNums (uvB (ps.length : Int)) = t3 at *
    have HTX3 : Hid _ := ht3
    have HSD3 : Hid _ := HSC3
    have hlw3 := HSC3.bel.size
    have hle3 := HL2.out
    have HL3 : Hid ((uvB id ++ uvB lo ++ uvB (hi - lo) ++ uvB (ps.length : Int)).length ≤ 40) := by
      show _ ≤ _
      rw [List.length_append]
      have := (uvB_len (ps.length : Int)).1
      omega
    clear hbu3 ht3 HSC3
    go_wp2_with (at_builtin; refine app_mstr (by rfl) _ _ (by rfl) w1.heap.size _ _ t3 HSD3.out.own (by rfl) (by rfl) (by omega) hlw3 ?_; intro v3 wa3 ho3 hb3 hk3; rw [HTX3.out] at ho3; have HSR3 : Hid (Sr w1 wa3 w1.heap.size w.heap.size (.cells #[.int .i64 id, .int .u64 lo, .int .u64 hi, .slice da ps.length dc, .int .i64 gen, .slice ao en cap] 26 (0, 0)) v3 (uvB id ++ uvB lo ++ uvB (hi - lo) ++ uvB (ps.length : Int))) := (by have := HSD3.out.app ho3 hb3 hk3; exact this); obtain ⟨aa3, nn3, cc3, rfl⟩ : ∃ a n c, v3 = .slice a n c := ho3.slice; clear ho3 hb3 hk3; have b4 := cells_at HSR3.out.blk 3; have b5 := cells_at HSR3.out.blk 1)
    have HO4 : Hid (ownMB wa3 w1.heap.size (.slice aa3 nn3 cc3) (headA id lo hi ps)) := by rw [headA_four]; exact HSR3.out.own
    have HB4 : Hid (Below w1.heap.size w1 wa3) := HSR3.out.bel
    clear HSR0 HSR1 HSR2 HSD1 HSD2 HSD3 b1 b2 b2' b3 HTX1 HTX2 HTX3 HL0 HL1 HL2 HL3 hrun
    go_loopw [4, 5, 6] (fun v h i wr => ∃ k : Nat, k ≤ ps.length ∧ i = .int .i64 k ∧ h = .int .u64 (lastT lo ps k) ∧ ownMB wr w1.heap.size v (headA id lo hi ps ++ encTs lo (ps.take k)) ∧ Below w1.heap.size w1 wr) (fun _ _ i _ => ps.length - (intOf i).toNat)
    case atStart => exact ⟨0, Nat.zero_le _, rfl, rfl, by simpa [encTs] using HO4.out, HB4.out⟩
    case round =>
      obtain ⟨k, hk, rfl, rfl, hown, hbe⟩ := hrel
      obtain ⟨av, nv, cv, rfl⟩ := hown.slice
      have HOW : Hid (ownMB wr w1.heap.size (.slice av nv cv) (headA id lo hi ps ++ encTs lo (ps.take k))) := hown
      have HBE : Hid (Below w1.heap.size w1 wr) := hbe
      have HBW : Hid (Below w.heap.size w wr) := HB1.out.trans (hbe.mono HB1.out.size)
      have s5 := hbe.size
      have hx5 : Fp6 wr w.heap.size (.int .i64 id) (.int .u64 lo) (.int .u64 hi) (.slice da ps.length dc) (.int .i64 gen) (.slice ao en cap) := HX1.out.later hbe hwl
      have q5 : wr.cell? ⟨w.heap.size, 3, none⟩ = some (.slice da ps.length dc) := hx5.cell 3
      have hlen5 := encTs_len (ps.take k) lo (fun p hp => HKs.out p (List.mem_of_mem_take hp))
      have hlh := headA_len id lo hi ps
      have HSR10 : Hid (Sr w1 wr w1.heap.size w.heap.size (.cells #[.int .i64 id, .int .u64 lo, .int .u64 hi, .slice da ps.length dc, .int .i64 gen, .slice ao en cap] 26 (0, 0)) (.slice av nv cv) (headA id lo hi ps ++ encTs lo (ps.take k))) := ⟨hown, hx5, fun e => by have := (ownsM.lt hown _ e).1; omega, hbe⟩
      clear hown hbe hx5 b4 b5 HSR3
      by_cases hkl : k < ps.length
      · have HAT : Hid (∀ W, Below w1.heap.size w1 W → ∃ b off, da = some ⟨b, off, none⟩ ∧ b < w.heap.size ∧ DtAt W b (off + k * 3) ps[k]) := fun W h => (HS.out.later (HB1.out.trans (h.mono HB1.out.size))) k hkl
        obtain ⟨b, off, hao, hb, hat⟩ := HAT.out wr HBE.out
        subst hao
        have HA2 : Hid (∀ W, Below w1.heap.size w1 W → DtAt W b (off + k * 3) ps[k]) := fun W h => by
          obtain ⟨b', off', e, _, h2⟩ := HAT.out W h
          injection e with e
          injection e with e1 e2
          subst e1 e2
          exact h2
        clear HAT
        obtain ⟨c0, c1, c2⟩ := hat
        have hlo := mayA_lo HM.out hkl
        obtain ⟨m1, m2, m3, m4, m5⟩ := (HM.out.2.2.2 k hkl).1
        have hl0 := lastT_nonneg hlo0 HW.out hk
        have HST : Hid (headA id lo hi ps ++ encTs lo (ps.take (k + 1)) = headA id lo hi ps ++ encTs lo (ps.take k) ++ uvB (ps[k].beg - lastT lo ps k) ++ blB ps[k].key ++ blB ps[k].data) := by
          show _ = _
          rw [encTs_step lo ps k hkl, ← List.append_assoc, encT_three]
        have HL2 : Hid _ := lastT_succ (lo := lo) hkl
        have ht : (ps.take k).length = k := by rw [List.length_take]; omega
        rw [ht] at hlen5
        have HL10 : Hid ((headA id lo hi ps ++ encTs lo (ps.take k)).length ≤ 46100000) := by show _ ≤ _; rw [List.length_append]; omega
        generalize hpk : ps[k] = p at *
        obtain ⟨bg, ky, dt⟩ := p
        simp only at c0 c1 c2 hlo m1 m2 m3 m4 m5 HST HL2
        generalize lastT lo ps k = lst at *
        generalize headA id lo hi ps ++ encTs lo (ps.take k) = X at *
        clear hpk ht hlen5 hlh
        go_wp2_with fail
        refine (ref_uvarint (bg - lst) _ (by omega) (by omega)).mono ?_
        rintro _ wu11 ⟨rfl, hbu11⟩
        have HSC11 := HSR10.out.call (Nat.le_refl _) hbu11
        obtain ⟨ht11, hz11, _⟩ := strU (bg - lst) (by omega) (by omega)
        generalize strOfNums (uvB (bg - lst)) = t11 at *
        have HTX11 : Hid _ := ht11
        have HSD11 : Hid _ := HSC11
        have hlw11 := HSC11.bel.size
        have hle11 := HL10.out
        have HL11 : Hid ((X ++ uvB (bg - lst)).length ≤ 46100010) := by
          show _ ≤ _
          rw [List.length_append]
          have := (uvB_len (bg - lst)).1
          omega
        clear hbu11 ht11 HSC11
        go_wp2_with (at_builtin; refine app_mstr (by rfl) _ _ (by rfl) w1.heap.size _ _ t11 HSD11.out.own (by rfl) (by rfl) (by omega) hlw11 ?_; intro v11 wa11 ho11 hb11 hk11; rw [HTX11.out] at ho11; have HSR11 : Hid (Sr w1 wa11 w1.heap.size w.heap.size (.cells #[.int .i64 id, .int .u64 lo, .int .u64 hi, .slice (some ⟨b, off, none⟩) ps.length dc, .int .i64 gen, .slice ao en cap] 26 (0, 0)) v11 (X ++ uvB (bg - lst))) := (by have := HSD11.out.app ho11 hb11 hk11; exact this); obtain ⟨aa11, nn11, cc11, rfl⟩ : ∃ a n c, v11 = .slice a n c := ho11.slice; clear ho11 hb11 hk11; have f11 : wa11.cell? ⟨w.heap.size, 3, none⟩ = some (.slice (some ⟨b, off, none⟩) ps.length dc) := cells_at HSR11.out.blk 3; have k11 := (HA2.out wa11 HSR11.out.bel).c0; have j11 := (HA2.out wa11 HSR11.out.bel).c1; have i11 := (HA2.out wa11 HSR11.out.bel).c2; simp only at k11 j11 i11)
        refine (refblobA ky _ (by omega)).mono ?_
        rintro _ wu12 ⟨rfl, hbu12⟩
        have HSC12 := HSR11.out.call (Nat.le_refl _) hbu12
        obtain ⟨ht12, hz12⟩ := strBA ky (by omega)
        generalize strOfNums (uvB ky.size) ++ ky = t12 at *
        have HTX12 : Hid _ := ht12
        have HSD12 : Hid _ := HSC12
        have hlw12 := HSC12.bel.size
        have hle12 := HL11.out
        have HL12 : Hid ((X ++ uvB (bg - lst) ++ blB ky).length ≤ 46100180) := by
          show _ ≤ _
          rw [List.length_append]
          have := blB_len ky
          omega
        clear hbu12 ht12 HSC12
        go_wp2_with (at_builtin; refine app_mstr (by rfl) _ _ (by rfl) w1.heap.size _ _ t12 HSD12.out.own (by rfl) (by rfl) (by omega) hlw12 ?_; intro v12 wa12 ho12 hb12 hk12; rw [HTX12.out] at ho12; have HSR12 : Hid (Sr w1 wa12 w1.heap.size w.heap.size (.cells #[.int .i64 id, .int .u64 lo, .int .u64 hi, .slice (some ⟨b, off, none⟩) ps.length dc, .int .i64 gen, .slice ao en cap] 26 (0, 0)) v12 (X ++ uvB (bg - lst) ++ blB ky)) := (by have := HSD12.out.app ho12 hb12 hk12; exact this); obtain ⟨aa12, nn12, cc12, rfl⟩ : ∃ a n c, v12 = .slice a n c := ho12.slice; clear ho12 hb12 hk12; have f12 : wa12.cell? ⟨w.heap.size, 3, none⟩ = some (.slice (some ⟨b, off, none⟩) ps.length dc) := cells_at HSR12.out.blk 3; have k12 := (HA2.out wa12 HSR12.out.bel).c0; have j12 := (HA2.out wa12 HSR12.out.bel).c1; have i12 := (HA2.out wa12 HSR12.out.bel).c2; simp only at k12 j12 i12)
        refine (refblobA dt _ (by omega)).mono ?_
        rintro _ wu13 ⟨rfl, hbu13⟩
        have HSC13 := HSR12.out.call (Nat.le_refl _) hbu13
        obtain ⟨ht13, hz13⟩ := strBA dt (by omega)
        generalize strOfNums (uvB dt.size) ++ dt = t13 at *
        have HTX13 : Hid _ := ht13
        have HSD13 : Hid _ := HSC13
        have hlw13 := HSC13.bel.size
        have hle13 := HL12.out
        have HL13 : Hid ((X ++ uvB (bg - lst) ++ blB ky ++ blB dt).length ≤ 46100702) := by
          show _ ≤ _
          rw [List.length_append]
          have := blB_len dt
          omega
        clear hbu13 ht13 HSC13
        go_wp2_with (at_builtin; refine app_mstr (by rfl) _ _ (by rfl) w1.heap.size _ _ t13 HSD13.out.own (by rfl) (by rfl) (by omega) hlw13 ?_; intro v13 wa13 ho13 hb13 hk13; rw [HTX13.out] at ho13; have HSR13 : Hid (Sr w1 wa13 w1.heap.size w.heap.size (.cells #[.int .i64 id, .int .u64 lo, .int .u64 hi, .slice (some ⟨b, off, none⟩) ps.length dc, .int .i64 gen, .slice ao en cap] 26 (0, 0)) v13 (X ++ uvB (bg - lst) ++ blB ky ++ blB dt)) := (by have := HSD13.out.app ho13 hb13 hk13; exact this); obtain ⟨aa13, nn13, cc13, rfl⟩ : ∃ a n c, v13 = .slice a n c := ho13.slice; clear ho13 hb13 hk13; have f13 : wa13.cell? ⟨w.heap.size, 3, none⟩ = some (.slice (some ⟨b, off, none⟩) ps.length dc) := cells_at HSR13.out.blk 3; have k13 := (HA2.out wa13 HSR13.out.bel).c0; have j13 := (HA2.out wa13 HSR13.out.bel).c1; have i13 := (HA2.out wa13 HSR13.out.bel).c2; simp only at k13 j13 i13)
        go_roundw
        case rel => exact ⟨k + 1, by omega, by go_num, by rw [HL2.out], by rw [HST.out]; exact HSR13.out.own, HSR13.out.bel⟩
        case measure => simp [intOf]; omega
      · have hke : k = ps.length := by omega
        subst hke
        rw [List.take_length] at HOW hlen5
        go_wp2_with fail
        refine (sealed_any wr w1.heap.size ⟨#[83, 84, 82, 65, 68, 65, 84, 49]⟩ _ _ rfl HOW.out (by rw [List.length_append]; omega)).mono ?_
        rintro _ wz ⟨rfl, hbz⟩
        have HBZ : Hid (Below w.heap.size w wz) := HBW.out.trans (hbz.mono HBW.out.size)
        clear hbz
        go_wp2
        go_ret2
        refine ⟨fun _ => ?_, fun h => absurd HM.out h, HBZ.out⟩
        unfold sealM
        rw [encA_head, mgDa_str, ← strApp]
        rfl
end Go.Proofs.YtbfjnidpjmhfiaaGreatDoor
