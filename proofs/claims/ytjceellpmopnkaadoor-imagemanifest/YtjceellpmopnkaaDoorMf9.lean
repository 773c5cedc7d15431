import Derived.Test.YtjceellpmopnkaaDoorMf8
namespace Go.Proofs.YtjceellpmopnkaaDoor
open Go.ChangeShapes Go.WideShapes Go.ChangeAt Go.RowKit
set_option linter.unusedVariables false
set_option maxRecDepth 100000
/-- A row of bytes under way, beside a block eb that is kept. -/
structure Sr (w1 w : World) (B eb : Nat) (ob : Obj) (v : Value) (xs : List Int) : Prop where
  own : ownMB w B v xs
  blk : w.heap[eb]? = some ob
  ne : v.ownBlock ≠ some eb
  bel : Below B w1 w
theorem Sr.lt {w1 w : World} {B eb : Nat} {ob : Obj} {v : Value} {xs : List Int} (h : Sr w1 w B eb ob v xs) : eb < w.heap.size := (Array.getElem?_eq_some_iff.1 h.blk).1
theorem Sr.call {w1 w w' : World} {B eb : Nat} {ob : Obj} {v : Value} {xs : List Int} (h : Sr w1 w B eb ob v xs) (hB : B ≤ w1.heap.size) (hb : Below w.heap.size w w') : Sr w1 w' B eb ob v xs :=
  ⟨h.own.later hb, (hb.block eb h.lt).trans h.blk, h.ne, h.bel.trans (hb.mono (Nat.le_trans hB h.bel.size))⟩
theorem Sr.app {w1 w w' : World} {B eb : Nat} {ob : Obj} {v v' : Value} {xs ys : List Int} (h : Sr w1 w B eb ob v xs) (ho : ownMB w' B v' (xs ++ ys)) (hb : Below B w w') (hk : KeepG v w v' w') : Sr w1 w' B eb ob v' (xs ++ ys) :=
  ⟨ho, (hk.1 eb h.lt (fun e => h.ne e.symm)).trans h.blk, fun e => hk.2 eb h.lt (fun e2 => h.ne e2.symm) e.symm, h.bel.trans hb⟩
theorem own_first {w : World} {B : Nat} {v : Value} {t : ByteArray} {xs : List Int} (ht : txtN t = xs) (hz : 0 < t.size) (h : w.ownsRow B 5 1 v (0 + t.size) ([] ++ Lib.strCells t)) : ownMB w B v xs := by
  subst ht
  unfold ownMB
  rw [txtN_cells]
  rcases h.2 with ⟨_, hn⟩ | ⟨g, cap, cur, rfl, hb, hg, hnc, hm, hs, htk⟩
  · omega
  · have hlen := Lib.strCells_length t
    rw [List.nil_append] at htk
    refine ⟨g, cap, cur, (0, 0), by rw [hlen, Nat.zero_add], hb, hg, Or.inl rfl, by omega, hm, by simpa using hs, ?_⟩
    rw [hlen]
    simpa using htk
theorem ownMB.slice {w : World} {B : Nat} {v : Value} {xs : List Int} (h : ownMB w B v xs) : ∃ a n c, v = .slice a n c := by
  obtain ⟨g, cap, cur, fz, e, _⟩ := h
  exact ⟨_, _, _, e⟩
theorem mg_str : (⟨#[83, 84, 82, 65, 77, 65, 78, 49]⟩ : ByteArray) = strOfNums mgM := by decide
theorem strU (x : Int) (h0 : 0 ≤ x) (h1 : x ≤ 18446744073709551615) : txtN (strOfNums (uvB x)) = uvB x ∧ (strOfNums (uvB x)).size ≤ 10 ∧ 0 < (strOfNums (uvB x)).size := by
  have := uvB_len x
  refine ⟨txtStr _ (uvB_bytes x h0 h1), ?_, ?_⟩ <;> rw [strOfNums_size] <;> omega
theorem strF (x : Int) : txtN (strOfNums (fxB 4 x)) = fxB 4 x ∧ (strOfNums (fxB 4 x)).size = 4 := ⟨txtStr _ (fxB_bytes 4 x), by rw [strOfNums_size, fxB_len]⟩
theorem headM_four (gen next upto : Int) (ps : List PN) : headM gen next upto ps = uvB gen ++ uvB next ++ uvB upto ++ uvB (ps.length : Int) := by simp [headM]
theorem encP_eight (last : Int) (p : PN) (X : List Int) : X ++ encP last p = X ++ uvB p.id ++ uvB (p.lo - last) ++ uvB (p.hi - p.lo) ++ uvB p.rows ++ uvB p.gen ++ uvB p.gone ++ fxB 4 p.ds ++ fxB 4 p.es := by simp [encP]
set_option maxHeartbeats 25600000 in
theorem refEnc_any (w : World) (gen next upto : Int) (ao : Option Addr) (cap : Nat) (ps : List PN) (hs : SeesP w w.heap.size ao ps) (hw : ∀ p ∈ ps, p.wf) (hu0 : 0 ≤ upto) :
    Calls Tryd.prog 6 #[.agg #[.int .i64 gen, .int .i64 next, .int .u64 upto, .slice ao ps.length cap]] w (EncA gen next upto ps w) := by
  have HS : Hid (SeesP w w.heap.size ao ps) := hs
  have HW : Hid (∀ p ∈ ps, p.wf) := hw
  clear hs hw
  obtain ⟨wb, hwb⟩ : ∃ wb, w.alloc (.cells #[.int .i64 gen, .int .i64 next, .int .u64 upto, .slice ao ps.length cap] 25) = wb := ⟨_, rfl⟩
  have HBB : Hid (Below w.heap.size w wb) := by rw [← hwb]; exact (Below.refl _ _).alloc (Nat.le_refl _) _
  have HBX : Hid (wb.heap[w.heap.size]? = some (.cells #[.int .i64 gen, .int .i64 next, .int .u64 upto, .slice ao ps.length cap] 25 (0, 0))) := by rw [← hwb]; show (w.heap.push _)[w.heap.size]? = _; exact Array.getElem?_push_size
  have b0 : wb.cell? ⟨w.heap.size, 0, none⟩ = some (.int .i64 gen) := cells_at HBX.out 0
  have b1 : wb.cell? ⟨w.heap.size, 1, none⟩ = some (.int .i64 next) := cells_at HBX.out 1
  have b2 : wb.cell? ⟨w.heap.size, 2, none⟩ = some (.int .u64 upto) := cells_at HBX.out 2
  have b3 : wb.cell? ⟨w.heap.size, 3, none⟩ = some (.slice ao ps.length cap) := cells_at HBX.out 3
  go_enter Tryd.func6, Tryd.ntmps6
  go_wp2_with fail
  refine (manMay_any wb gen next upto ao cap ps ((HS.out.later HBB.out).mono HBB.out.size)).mono ?_
  rintro _ w1 ⟨c, rfl, hiff, hb1⟩
  have HIF : Hid (c = true ↔ mayM gen next upto ps) := hiff
  have HB1 : Hid (Below w.heap.size w w1) := HBB.out.trans (hb1.mono HBB.out.size)
  have HX1 : Hid (w1.heap[w.heap.size]? = some (.cells #[.int .i64 gen, .int .i64 next, .int .u64 upto, .slice ao ps.length cap] 25 (0, 0))) := (hb1.block _ (Array.getElem?_eq_some_iff.1 HBX.out).1).trans HBX.out
  clear hiff hb1 b0 b1 b2 b3
  cases c
  · go_wp2
    go_ret2
    exact ⟨fun h => (by have := HIF.out.2 h; cases this), fun _ => rfl, HB1.out⟩
  · have HM : Hid (mayM gen next upto ps) := HIF.out.1 rfl
    obtain ⟨⟨g1, g2⟩, ⟨n1, n2⟩, u1, l1, _⟩ := HM.out
    have hwl := (Array.getElem?_eq_some_iff.1 HX1.out).1
    have b0 : w1.cell? ⟨w.heap.size, 0, none⟩ = some (.int .i64 gen) := cells_at HX1.out 0
    go_wp2_with fail
    refine (ref_uvarint gen w1 (by omega) (by omega)).mono ?_
    rintro _ wu ⟨rfl, hbu⟩
    obtain ⟨ht, hz10, hz0⟩ := strU gen (by omega) (by omega)
    generalize strOfNums (uvB gen) = t at *
    have HBU : Hid (Below w1.heap.size w1 wu) := hbu
    have HTX : Hid (txtN t = uvB gen) := ht
    clear hbu ht b0
    obtain ⟨i0, hi0, hq0, hq1, hq2⟩ := info_parts infoB
    obtain ⟨v2, w2, hrun, hown, hgrow, _⟩ := Lib.run_append_own_string (P := Tryd.prog) wu w1.heap.size 50 9 50 5 i0 Tryd.underlying50 Tryd.underlying9 hi0 hq0 hq1 hq2 (.slice none 0 0) 0 [] (World.ownsRow_nil _ _ _ _) t (by unfold maxLen; omega) (by omega) HBU.out.size
    have ho2 := own_first HTX.out hz0 hown
    have HSR0 : Hid (Sr w1 w2 w1.heap.size w.heap.size (.cells #[.int .i64 gen, .int .i64 next, .int .u64 upto, .slice ao ps.length cap] 25 (0, 0)) v2 (uvB gen)) := by
      have hb2 : Below w1.heap.size w1 w2 := HBU.out.grown hgrow HBU.out.size (fun k hk => by cases hk)
      exact ⟨ho2, (hb2.block _ hwl).trans HX1.out, fun e => by have := (ownsM.lt ho2 _ e).1; omega, hb2⟩
    obtain ⟨a2, n2', c2', rfl⟩ : ∃ a n c, v2 = .slice a n c := by
      obtain ⟨g, cap, cur, fz, rfl, _⟩ := ho2
      exact ⟨_, _, _, rfl⟩
    have HL0 : Hid ((uvB gen).length ≤ 10) := (uvB_len gen).1
    clear hown hgrow ho2 hq0 hq1 hq2 hz0 hz10 HBU HTX
    have b1 : w2.cell? ⟨w.heap.size, 1, none⟩ = some (.int .i64 next) := cells_at HSR0.out.blk 1
    go_wp2_with (at_builtin; refine wpList_plain (by rfl) fun _ hK => ?_; refine wp_app_str _ _ 50 9 (by rfl) (by rfl) (by rfl) hrun ?_; refine hK _ _ ?_)
    refine (ref_uvarint next _ (by omega) (by omega)).mono ?_
    rintro _ wu1 ⟨rfl, hbu1⟩
    have HSC1 := HSR0.out.call (Nat.le_refl _) hbu1
    obtain ⟨ht1, hz1, _⟩ := strU next (by omega) (by omega)
    generalize strOfNums (uvB next) = t1 at *
    have HTX1 : Hid _ := ht1
    have HSD1 : Hid _ := HSC1
    have hlw1 := HSC1.bel.size
    have hle1 := HL0.out
    have HL1 : Hid ((uvB gen ++ uvB next).length ≤ 20) := by
      show _ ≤ _
      rw [List.length_append]
      have := (uvB_len next).1
      omega
    clear hbu1 ht1 HSC1
    go_wp2_with (at_builtin; refine app_mstr (by rfl) _ _ (by rfl) w1.heap.size _ _ t1 HSD1.out.own (by rfl) (by rfl) (by omega) hlw1 ?_; intro v1 wa1 ho1 hb1 hk1; rw [HTX1.out] at ho1; have HSR1 : Hid (Sr w1 wa1 w1.heap.size w.heap.size (.cells #[.int .i64 gen, .int .i64 next, .int .u64 upto, .slice ao ps.length cap] 25 (0, 0)) v1 (uvB gen ++ uvB next)) := (by have := HSD1.out.app ho1 hb1 hk1; exact this); obtain ⟨aa1, nn1, cc1, rfl⟩ : ∃ a n c, v1 = .slice a n c := (by obtain ⟨g, cap, cur, fz, e, _⟩ := ho1; exact ⟨_, _, _, e⟩); clear ho1 hb1 hk1; have b2 := cells_at HSR1.out.blk 2)
    refine (ref_uvarint upto _ (by omega) (by omega)).mono ?_
    rintro _ wu2 ⟨rfl, hbu2⟩
    have HSC2 := HSR1.out.call (Nat.le_refl _) hbu2
    obtain ⟨ht2, hz2, _⟩ := strU upto (by omega) (by omega)
    generalize strOfNums (uvB upto) = t2 at *
    have HTX2 : Hid _ := ht2
    have HSD2 : Hid _ := HSC2
    have hlw2 := HSC2.bel.size
    have hle2 := HL1.out
    have HL2 : Hid ((uvB gen ++ uvB next ++ uvB upto).length ≤ 30) := by
      show _ ≤ _
      rw [List.length_append]
      have := (uvB_len upto).1
      omega
    clear hbu2 ht2 HSC2
    go_wp2_with (at_builtin; refine app_mstr (by rfl) _ _ (by rfl) w1.heap.size _ _ t2 HSD2.out.own (by rfl) (by rfl) (by omega) hlw2 ?_; intro v2 wa2 ho2 hb2 hk2; rw [HTX2.out] at ho2; have HSR2 : Hid (Sr w1 wa2 w1.heap.size w.heap.size (.cells #[.int .i64 gen, .int .i64 next, .int .u64 upto, .slice ao ps.length cap] 25 (0, 0)) v2 (uvB gen ++ uvB next ++ uvB upto)) := (by have := HSD2.out.app ho2 hb2 hk2; exact this); obtain ⟨aa2, nn2, cc2, rfl⟩ : ∃ a n c, v2 = .slice a n c := (by obtain ⟨g, cap, cur, fz, e, _⟩ := ho2; exact ⟨_, _, _, e⟩); clear ho2 hb2 hk2; have b3 := cells_at HSR2.out.blk 3)
    refine (ref_uvarint (ps.length : Int) _ (by omega) (by omega)).mono ?_
    rintro _ wu3 ⟨rfl, hbu3⟩
    have HSC3 := HSR2.out.call (Nat.le_refl _) hbu3
    obtain ⟨ht3, hz3, _⟩ := strU (ps.length : Int) (by omega) (by omega)
    generalize strOfNums (uvB (ps.length : Int)) = t3 at *
    have HTX3 : Hid _ := ht3
    have HSD3 : Hid _ := HSC3
    have hlw3 := HSC3.bel.size
    have hle3 := HL2.out
    have HL3 : Hid ((uvB gen ++ uvB next ++ uvB upto ++ uvB (ps.length : Int)).length ≤ 40) := by
      show _ ≤ _
      rw [List.length_append]
      have := (uvB_len (ps.length : Int)).1
      omega
    clear hbu3 ht3 HSC3
    go_wp2_with (at_builtin; refine app_mstr (by rfl) _ _ (by rfl) w1.heap.size _ _ t3 HSD3.out.own (by rfl) (by rfl) (by omega) hlw3 ?_; intro v3 wa3 ho3 hb3 hk3; rw [HTX3.out] at ho3; have HSR3 : Hid (Sr w1 wa3 w1.heap.size w.heap.size (.cells #[.int .i64 gen, .int .i64 next, .int .u64 upto, .slice ao ps.length cap] 25 (0, 0)) v3 (uvB gen ++ uvB next ++ uvB upto ++ uvB (ps.length : Int))) := (by have := HSD3.out.app ho3 hb3 hk3; exact this); obtain ⟨aa3, nn3, cc3, rfl⟩ : ∃ a n c, v3 = .slice a n c := (by obtain ⟨g, cap, cur, fz, e, _⟩ := ho3; exact ⟨_, _, _, e⟩); clear ho3 hb3 hk3; have b3' := cells_at HSR3.out.blk 3)
    have HO4 : Hid (ownMB wa3 w1.heap.size (.slice aa3 nn3 cc3) (headM gen next upto ps)) := by rw [headM_four]; exact HSR3.out.own
    have HB4 : Hid (Below w1.heap.size w1 wa3) := HSR3.out.bel
    clear HSR0 HSR1 HSR2 HSD1 HSD2 HSD3 b1 b2 b3 HTX1 HTX2 HTX3 HL0 HL1 HL2 HL3 hrun
    go_loopw [4, 5, 6] (fun v h i wr => ∃ k : Nat, k ≤ ps.length ∧ i = .int .i64 k ∧ h = .int .u64 (lastP ps k) ∧ ownMB wr w1.heap.size v (headM gen next upto ps ++ encPs 0 (ps.take k)) ∧ Below w1.heap.size w1 wr) (fun _ _ i _ => ps.length - (intOf i).toNat)
    case atStart => exact ⟨0, Nat.zero_le _, rfl, rfl, by simpa [encPs] using HO4.out, HB4.out⟩
    case round =>
      obtain ⟨k, hk, rfl, rfl, hown, hbe⟩ := hrel
      obtain ⟨av, nv, cv, rfl⟩ := hown.slice
      have HOW : Hid (ownMB wr w1.heap.size (.slice av nv cv) (headM gen next upto ps ++ encPs 0 (ps.take k))) := hown
      have HBE : Hid (Below w1.heap.size w1 wr) := hbe
      have HBW : Hid (Below w.heap.size w wr) := HB1.out.trans (hbe.mono HB1.out.size)
      have s5 := hbe.size
      have hx5 := (hbe.block _ hwl).trans HX1.out
      have q3 : wr.cell? ⟨w.heap.size, 3, none⟩ = some (.slice ao ps.length cap) := cells_at hx5 3
      have hlen5 := encPs_len (ps.take k) 0
      have hlh := headM_len gen next upto ps
      clear hown hbe hx5 b3'
      by_cases hkl : k < ps.length
      · obtain ⟨b, off, hao, hb, hat⟩ := (HS.out.later HBW.out) k hkl
        obtain ⟨c0, c1, c2, c3, c4, c5, c6, c7⟩ := hat
        obtain ⟨_, hlo, hml⟩ := HM.out.2.2.2.2 k hkl
        have hwf := HW.out _ (List.getElem_mem hkl)
        obtain ⟨m1, m2, m3, m4, m5, m6, m7, m8, m9, m10, m11, m12⟩ := hml
        have hl0 := lastP_nonneg HW.out hk
        obtain ⟨id0, id1, lo0, lo1, hi0', hi1, rows0, rows1, gen0, gen1, gone0, gone1, ds0, ds1, es0, es1⟩ := hwf
        have HST : Hid (headM gen next upto ps ++ encPs 0 (ps.take (k + 1)) = headM gen next upto ps ++ encPs 0 (ps.take k) ++ uvB ps[k].id ++ uvB (ps[k].lo - lastP ps k) ++ uvB (ps[k].hi - ps[k].lo) ++ uvB ps[k].rows ++ uvB ps[k].gen ++ uvB ps[k].gone ++ fxB 4 ps[k].ds ++ fxB 4 ps[k].es) := by
          show _ = _
          rw [encPs_step ps k hkl, ← List.append_assoc, encP_eight]
        have HL2 : Hid _ := lastP_succ hkl
        have ht : (ps.take k).length = k := by rw [List.length_take]; omega
        rw [ht] at hlen5
        have HL10 : Hid ((headM gen next upto ps ++ encPs 0 (ps.take k)).length ≤ 20000) := by show _ ≤ _; rw [List.length_append]; omega
        generalize hpk : ps[k] = p at *
        obtain ⟨id, lo, hi, rows, pg, gone, ds, es⟩ := p
        simp only at c0 c1 c2 c3 c4 c5 c6 c7 hlo m1 m2 m3 m4 m5 m6 m7 m8 m9 m10 id0 id1 lo0 lo1 hi0' hi1 rows0 rows1 gen0 gen1 gone0 gone1 ds0 ds1 es0 es1 HST HL2
        generalize lastP ps k = lst at *
        generalize headM gen next upto ps ++ encPs 0 (ps.take k) = X at *
        subst hao
        clear m11 m12 hpk
        obtain ⟨w6, hw6⟩ : ∃ w6, wr.alloc (.cells #[.int .i64 id, .int .u64 lo, .int .u64 hi, .int .i64 rows, .int .i64 pg, .int .i64 gone, .int .u32 ds, .int .u32 es] 36) = w6 := ⟨_, rfl⟩
        have HSR10 : Hid (Sr w1 w6 w1.heap.size wr.heap.size (.cells #[.int .i64 id, .int .u64 lo, .int .u64 hi, .int .i64 rows, .int .i64 pg, .int .i64 gone, .int .u32 ds, .int .u32 es] 36 (0, 0)) (.slice av nv cv) X) := by
          have hb6 : Below wr.heap.size wr w6 := by rw [← hw6]; exact (Below.refl _ _).alloc (Nat.le_refl _) _
          exact ⟨HOW.out.later hb6, by rw [← hw6]; show (wr.heap.push _)[wr.heap.size]? = _; exact Array.getElem?_push_size, fun e => by have := (ownsM.lt HOW.out _ e).2; omega, HBE.out.trans (hb6.mono s5)⟩
        have e0 : w6.cell? ⟨wr.heap.size, 0, none⟩ = some (.int .i64 id) := cells_at HSR10.out.blk 0
        clear hlen5 hlh ht
        go_wp2_with fail
        refine (ref_uvarint id _ (by omega) (by omega)).mono ?_
        rintro _ wu11 ⟨rfl, hbu11⟩
        have HSC11 := HSR10.out.call (Nat.le_refl _) hbu11
        obtain ⟨ht11, hz11, _⟩ := strU id (by omega) (by omega)
        generalize strOfNums (uvB id) = t11 at *
        have HTX11 : Hid _ := ht11
        have HSD11 : Hid _ := HSC11
        have hlw11 := HSC11.bel.size
        have hle11 := HL10.out
        have HL11 : Hid ((X ++ uvB id).length ≤ 20010) := by
          show _ ≤ _
          rw [List.length_append]
          have := (uvB_len id).1
          omega
        clear hbu11 ht11 HSC11
        go_wp2_with (at_builtin; refine app_mstr (by rfl) _ _ (by rfl) w1.heap.size _ _ t11 HSD11.out.own (by rfl) (by rfl) (by omega) hlw11 ?_; intro v11 wa11 ho11 hb11 hk11; rw [HTX11.out] at ho11; have HSR11 : Hid (Sr w1 wa11 w1.heap.size wr.heap.size (.cells #[.int .i64 id, .int .u64 lo, .int .u64 hi, .int .i64 rows, .int .i64 pg, .int .i64 gone, .int .u32 ds, .int .u32 es] 36 (0, 0)) v11 (X ++ uvB id)) := (by have := HSD11.out.app ho11 hb11 hk11; exact this); obtain ⟨aa11, nn11, cc11, rfl⟩ : ∃ a n c, v11 = .slice a n c := (by obtain ⟨g, cap, cur, fz, e, _⟩ := ho11; exact ⟨_, _, _, e⟩); clear ho11 hb11 hk11; have k1 := cells_at HSR11.out.blk 1)
        refine (ref_uvarint (lo - lst) _ (by omega) (by omega)).mono ?_
        rintro _ wu12 ⟨rfl, hbu12⟩
        have HSC12 := HSR11.out.call (Nat.le_refl _) hbu12
        obtain ⟨ht12, hz12, _⟩ := strU (lo - lst) (by omega) (by omega)
        generalize strOfNums (uvB (lo - lst)) = t12 at *
        have HTX12 : Hid _ := ht12
        have HSD12 : Hid _ := HSC12
        have hlw12 := HSC12.bel.size
        have hle12 := HL11.out
        have HL12 : Hid ((X ++ uvB id ++ uvB (lo - lst)).length ≤ 20020) := by
          show _ ≤ _
          rw [List.length_append]
          have := (uvB_len (lo - lst)).1
          omega
        clear hbu12 ht12 HSC12
        go_wp2_with (at_builtin; refine app_mstr (by rfl) _ _ (by rfl) w1.heap.size _ _ t12 HSD12.out.own (by rfl) (by rfl) (by omega) hlw12 ?_; intro v12 wa12 ho12 hb12 hk12; rw [HTX12.out] at ho12; have HSR12 : Hid (Sr w1 wa12 w1.heap.size wr.heap.size (.cells #[.int .i64 id, .int .u64 lo, .int .u64 hi, .int .i64 rows, .int .i64 pg, .int .i64 gone, .int .u32 ds, .int .u32 es] 36 (0, 0)) v12 (X ++ uvB id ++ uvB (lo - lst))) := (by have := HSD12.out.app ho12 hb12 hk12; exact this); obtain ⟨aa12, nn12, cc12, rfl⟩ : ∃ a n c, v12 = .slice a n c := (by obtain ⟨g, cap, cur, fz, e, _⟩ := ho12; exact ⟨_, _, _, e⟩); clear ho12 hb12 hk12; have k2 := cells_at HSR12.out.blk 2; have k2' := cells_at HSR12.out.blk 1)
        refine (ref_uvarint (hi - lo) _ (by omega) (by omega)).mono ?_
        rintro _ wu13 ⟨rfl, hbu13⟩
        have HSC13 := HSR12.out.call (Nat.le_refl _) hbu13
        obtain ⟨ht13, hz13, _⟩ := strU (hi - lo) (by omega) (by omega)
        generalize strOfNums (uvB (hi - lo)) = t13 at *
        have HTX13 : Hid _ := ht13
        have HSD13 : Hid _ := HSC13
        have hlw13 := HSC13.bel.size
        have hle13 := HL12.out
        have HL13 : Hid ((X ++ uvB id ++ uvB (lo - lst) ++ uvB (hi - lo)).length ≤ 20030) := by
          show _ ≤ _
          rw [List.length_append]
          have := (uvB_len (hi - lo)).1
          omega
        clear hbu13 ht13 HSC13
        go_wp2_with (at_builtin; refine app_mstr (by rfl) _ _ (by rfl) w1.heap.size _ _ t13 HSD13.out.own (by rfl) (by rfl) (by omega) hlw13 ?_; intro v13 wa13 ho13 hb13 hk13; rw [HTX13.out] at ho13; have HSR13 : Hid (Sr w1 wa13 w1.heap.size wr.heap.size (.cells #[.int .i64 id, .int .u64 lo, .int .u64 hi, .int .i64 rows, .int .i64 pg, .int .i64 gone, .int .u32 ds, .int .u32 es] 36 (0, 0)) v13 (X ++ uvB id ++ uvB (lo - lst) ++ uvB (hi - lo))) := (by have := HSD13.out.app ho13 hb13 hk13; exact this); obtain ⟨aa13, nn13, cc13, rfl⟩ : ∃ a n c, v13 = .slice a n c := (by obtain ⟨g, cap, cur, fz, e, _⟩ := ho13; exact ⟨_, _, _, e⟩); clear ho13 hb13 hk13; have k3 := cells_at HSR13.out.blk 3)
        refine (ref_uvarint rows _ (by omega) (by omega)).mono ?_
        rintro _ wu14 ⟨rfl, hbu14⟩
        have HSC14 := HSR13.out.call (Nat.le_refl _) hbu14
        obtain ⟨ht14, hz14, _⟩ := strU rows (by omega) (by omega)
        generalize strOfNums (uvB rows) = t14 at *
        have HTX14 : Hid _ := ht14
        have HSD14 : Hid _ := HSC14
        have hlw14 := HSC14.bel.size
        have hle14 := HL13.out
        have HL14 : Hid ((X ++ uvB id ++ uvB (lo - lst) ++ uvB (hi - lo) ++ uvB rows).length ≤ 20040) := by
          show _ ≤ _
          rw [List.length_append]
          have := (uvB_len rows).1
          omega
        clear hbu14 ht14 HSC14
        go_wp2_with (at_builtin; refine app_mstr (by rfl) _ _ (by rfl) w1.heap.size _ _ t14 HSD14.out.own (by rfl) (by rfl) (by omega) hlw14 ?_; intro v14 wa14 ho14 hb14 hk14; rw [HTX14.out] at ho14; have HSR14 : Hid (Sr w1 wa14 w1.heap.size wr.heap.size (.cells #[.int .i64 id, .int .u64 lo, .int .u64 hi, .int .i64 rows, .int .i64 pg, .int .i64 gone, .int .u32 ds, .int .u32 es] 36 (0, 0)) v14 (X ++ uvB id ++ uvB (lo - lst) ++ uvB (hi - lo) ++ uvB rows)) := (by have := HSD14.out.app ho14 hb14 hk14; exact this); obtain ⟨aa14, nn14, cc14, rfl⟩ : ∃ a n c, v14 = .slice a n c := (by obtain ⟨g, cap, cur, fz, e, _⟩ := ho14; exact ⟨_, _, _, e⟩); clear ho14 hb14 hk14; have k4 := cells_at HSR14.out.blk 4)
        refine (ref_uvarint pg _ (by omega) (by omega)).mono ?_
        rintro _ wu15 ⟨rfl, hbu15⟩
        have HSC15 := HSR14.out.call (Nat.le_refl _) hbu15
        obtain ⟨ht15, hz15, _⟩ := strU pg (by omega) (by omega)
        generalize strOfNums (uvB pg) = t15 at *
        have HTX15 : Hid _ := ht15
        have HSD15 : Hid _ := HSC15
        have hlw15 := HSC15.bel.size
        have hle15 := HL14.out
        have HL15 : Hid ((X ++ uvB id ++ uvB (lo - lst) ++ uvB (hi - lo) ++ uvB rows ++ uvB pg).length ≤ 20050) := by
          show _ ≤ _
          rw [List.length_append]
          have := (uvB_len pg).1
          omega
        clear hbu15 ht15 HSC15
        go_wp2_with (at_builtin; refine app_mstr (by rfl) _ _ (by rfl) w1.heap.size _ _ t15 HSD15.out.own (by rfl) (by rfl) (by omega) hlw15 ?_; intro v15 wa15 ho15 hb15 hk15; rw [HTX15.out] at ho15; have HSR15 : Hid (Sr w1 wa15 w1.heap.size wr.heap.size (.cells #[.int .i64 id, .int .u64 lo, .int .u64 hi, .int .i64 rows, .int .i64 pg, .int .i64 gone, .int .u32 ds, .int .u32 es] 36 (0, 0)) v15 (X ++ uvB id ++ uvB (lo - lst) ++ uvB (hi - lo) ++ uvB rows ++ uvB pg)) := (by have := HSD15.out.app ho15 hb15 hk15; exact this); obtain ⟨aa15, nn15, cc15, rfl⟩ : ∃ a n c, v15 = .slice a n c := (by obtain ⟨g, cap, cur, fz, e, _⟩ := ho15; exact ⟨_, _, _, e⟩); clear ho15 hb15 hk15; have k5 := cells_at HSR15.out.blk 5)
        refine (ref_uvarint gone _ (by omega) (by omega)).mono ?_
        rintro _ wu16 ⟨rfl, hbu16⟩
        have HSC16 := HSR15.out.call (Nat.le_refl _) hbu16
        obtain ⟨ht16, hz16, _⟩ := strU gone (by omega) (by omega)
        generalize strOfNums (uvB gone) = t16 at *
        have HTX16 : Hid _ := ht16
        have HSD16 : Hid _ := HSC16
        have hlw16 := HSC16.bel.size
        have hle16 := HL15.out
        have HL16 : Hid ((X ++ uvB id ++ uvB (lo - lst) ++ uvB (hi - lo) ++ uvB rows ++ uvB pg ++ uvB gone).length ≤ 20060) := by
          show _ ≤ _
          rw [List.length_append]
          have := (uvB_len gone).1
          omega
        clear hbu16 ht16 HSC16
        go_wp2_with (at_builtin; refine app_mstr (by rfl) _ _ (by rfl) w1.heap.size _ _ t16 HSD16.out.own (by rfl) (by rfl) (by omega) hlw16 ?_; intro v16 wa16 ho16 hb16 hk16; rw [HTX16.out] at ho16; have HSR16 : Hid (Sr w1 wa16 w1.heap.size wr.heap.size (.cells #[.int .i64 id, .int .u64 lo, .int .u64 hi, .int .i64 rows, .int .i64 pg, .int .i64 gone, .int .u32 ds, .int .u32 es] 36 (0, 0)) v16 (X ++ uvB id ++ uvB (lo - lst) ++ uvB (hi - lo) ++ uvB rows ++ uvB pg ++ uvB gone)) := (by have := HSD16.out.app ho16 hb16 hk16; exact this); obtain ⟨aa16, nn16, cc16, rfl⟩ : ∃ a n c, v16 = .slice a n c := (by obtain ⟨g, cap, cur, fz, e, _⟩ := ho16; exact ⟨_, _, _, e⟩); clear ho16 hb16 hk16; have k6 := cells_at HSR16.out.blk 6)
        refine (ref_fixed32 ds _ (by omega) (by omega)).mono ?_
        rintro _ wu17 ⟨rfl, hbu17⟩
        have HSC17 := HSR16.out.call (Nat.le_refl _) hbu17
        obtain ⟨ht17, hz17⟩ := strF ds
        generalize strOfNums (fxB 4 ds) = t17 at *
        have HTX17 : Hid _ := ht17
        have HSD17 : Hid _ := HSC17
        have hlw17 := HSC17.bel.size
        have hle17 := HL16.out
        have HL17 : Hid ((X ++ uvB id ++ uvB (lo - lst) ++ uvB (hi - lo) ++ uvB rows ++ uvB pg ++ uvB gone ++ fxB 4 ds).length ≤ 20070) := by
          show _ ≤ _
          rw [List.length_append]
          rw [fxB_len]
          omega
        clear hbu17 ht17 HSC17
        go_wp2_with (at_builtin; refine app_mstr (by rfl) _ _ (by rfl) w1.heap.size _ _ t17 HSD17.out.own (by rfl) (by rfl) (by omega) hlw17 ?_; intro v17 wa17 ho17 hb17 hk17; rw [HTX17.out] at ho17; have HSR17 : Hid (Sr w1 wa17 w1.heap.size wr.heap.size (.cells #[.int .i64 id, .int .u64 lo, .int .u64 hi, .int .i64 rows, .int .i64 pg, .int .i64 gone, .int .u32 ds, .int .u32 es] 36 (0, 0)) v17 (X ++ uvB id ++ uvB (lo - lst) ++ uvB (hi - lo) ++ uvB rows ++ uvB pg ++ uvB gone ++ fxB 4 ds)) := (by have := HSD17.out.app ho17 hb17 hk17; exact this); obtain ⟨aa17, nn17, cc17, rfl⟩ : ∃ a n c, v17 = .slice a n c := (by obtain ⟨g, cap, cur, fz, e, _⟩ := ho17; exact ⟨_, _, _, e⟩); clear ho17 hb17 hk17; have k7 := cells_at HSR17.out.blk 7)
        refine (ref_fixed32 es _ (by omega) (by omega)).mono ?_
        rintro _ wu18 ⟨rfl, hbu18⟩
        have HSC18 := HSR17.out.call (Nat.le_refl _) hbu18
        obtain ⟨ht18, hz18⟩ := strF es
        generalize strOfNums (fxB 4 es) = t18 at *
        have HTX18 : Hid _ := ht18
        have HSD18 : Hid _ := HSC18
        have hlw18 := HSC18.bel.size
        have hle18 := HL17.out
        have HL18 : Hid ((X ++ uvB id ++ uvB (lo - lst) ++ uvB (hi - lo) ++ uvB rows ++ uvB pg ++ uvB gone ++ fxB 4 ds ++ fxB 4 es).length ≤ 20080) := by
          show _ ≤ _
          rw [List.length_append]
          rw [fxB_len]
          omega
        clear hbu18 ht18 HSC18
        go_wp2_with (at_builtin; refine app_mstr (by rfl) _ _ (by rfl) w1.heap.size _ _ t18 HSD18.out.own (by rfl) (by rfl) (by omega) hlw18 ?_; intro v18 wa18 ho18 hb18 hk18; rw [HTX18.out] at ho18; have HSR18 : Hid (Sr w1 wa18 w1.heap.size wr.heap.size (.cells #[.int .i64 id, .int .u64 lo, .int .u64 hi, .int .i64 rows, .int .i64 pg, .int .i64 gone, .int .u32 ds, .int .u32 es] 36 (0, 0)) v18 (X ++ uvB id ++ uvB (lo - lst) ++ uvB (hi - lo) ++ uvB rows ++ uvB pg ++ uvB gone ++ fxB 4 ds ++ fxB 4 es)) := (by have := HSD18.out.app ho18 hb18 hk18; exact this); obtain ⟨aa18, nn18, cc18, rfl⟩ : ∃ a n c, v18 = .slice a n c := (by obtain ⟨g, cap, cur, fz, e, _⟩ := ho18; exact ⟨_, _, _, e⟩); clear ho18 hb18 hk18; have k8 := cells_at HSR18.out.blk 2)
        go_roundw
        case rel => exact ⟨k + 1, by omega, by go_num, by rw [HL2.out], by rw [HST.out]; exact HSR18.out.own, HSR18.out.bel⟩
        case measure => simp [intOf]; omega
      · have hke : k = ps.length := by omega
        subst hke
        rw [List.take_length] at HOW hlen5
        go_wp2_with fail
        refine (sealed_any wr w1.heap.size ⟨#[83, 84, 82, 65, 77, 65, 78, 49]⟩ _ _ rfl HOW.out (by rw [List.length_append]; omega)).mono ?_
        rintro _ wz ⟨rfl, hbz⟩
        have HBZ : Hid (Below w.heap.size w wz) := HBW.out.trans (hbz.mono HBW.out.size)
        clear hbz
        go_wp2
        go_ret2
        refine ⟨fun _ => ?_, fun h => absurd HM.out h, HBZ.out⟩
        unfold sealM
        rw [encM_head, mg_str, ← strApp]
        rfl
end Go.Proofs.YtjceellpmopnkaaDoor
