import Derived.Test.YtjceellpmopnkaaDoorMd4
import Derived.Test.YtjceellpmopnkaaDoorMd2
namespace Go.Proofs.YtjceellpmopnkaaDoor
open Go.ChangeShapes Go.WideShapes Go.ChangeAt Go.RowKit
set_option linter.unusedVariables false
set_option maxRecDepth 100000
def mgB : ByteArray := ⟨#[83, 84, 82, 65, 77, 65, 78, 49]⟩
/-- How DecodeManifest ends when it does not read a manifest. -/
def MoNo (b : ByteArray) (c : Int) : Prop := (opE b mgB ≠ 0 ∧ c = opE b mgB) ∨ (opE b mgB = 0 ∧ c = 125 ∧ ∀ gen next upto ps, rdM (b.extract 0 (b.size - 4)) = some ((gen, next, upto), ps) → ¬ mayM gen next upto ps)
/-- The manifest that a file is read as. -/
def MoYes (b : ByteArray) (gen next upto : Int) (ps : List PN) : Prop := opE b mgB = 0 ∧ rdM (b.extract 0 (b.size - 4)) = some ((gen, next, upto), ps) ∧ mayM gen next upto ps ∧ (∀ p ∈ ps, p.wf) ∧ 0 ≤ upto
/-- A manifest is read, its pairs new; or the reading gives up. -/
def MoC (w : World) (b : ByteArray) (e : Ending) (w' : World) : Prop :=
  Below w.heap.size w w' ∧ ((∃ gen next upto ps v, MoYes b gen next upto ps ∧ e = .returned (.agg #[.int .i64 gen, .int .i64 next, .int .u64 upto, v]) ∧ ownP w' w.heap.size v ps) ∨ ∃ c, MoNo b c ∧ e = oops c)
theorem MoC.no {w w' : World} {b : ByteArray} {c : Int} (hb : Below w.heap.size w w') (h : MoNo b c) : MoC w b (oops c) w' := ⟨hb, .inr ⟨c, h, rfl⟩⟩
theorem MoNo.none {b : ByteArray} (h : opE b mgB = 0) (hn : rdM (b.extract 0 (b.size - 4)) = none) : MoNo b 125 := .inr ⟨h, rfl, fun _ _ _ _ h2 => by rw [hn] at h2; cases h2⟩
theorem rdM_n1 {s : ByteArray} (h : rdU s 8 99999999 = none) : rdM s = none := by rw [rdM, h]; rfl
theorem rdM_n2 {s : ByteArray} {x1 : Int} {p1 : Nat} (h1 : rdU s 8 99999999 = some (x1, p1)) (h : rdU s p1 100000000 = none) : rdM s = none := by rw [rdM, h1]; simp only [Option.bind_some]; rw [h]; rfl
theorem rdM_n3 {s : ByteArray} {x1 x2 : Int} {p1 p2 : Nat} (h1 : rdU s 8 99999999 = some (x1, p1)) (h2 : rdU s p1 100000000 = some (x2, p2)) (h : rdU s p2 4611686018427387903 = none) : rdM s = none := by rw [rdM, h1]; simp only [Option.bind_some]; rw [h2]; simp only [Option.bind_some]; rw [h]; rfl
theorem rdM_n4 {s : ByteArray} {x1 x2 x3 : Int} {p1 p2 p3 : Nat} (h1 : rdU s 8 99999999 = some (x1, p1)) (h2 : rdU s p1 100000000 = some (x2, p2)) (h3 : rdU s p2 4611686018427387903 = some (x3, p3)) (h : rdU s p3 256 = none) : rdM s = none := by rw [rdM, h1]; simp only [Option.bind_some]; rw [h2]; simp only [Option.bind_some]; rw [h3]; simp only [Option.bind_some]; rw [h]; rfl
theorem rdM_5 {s : ByteArray} {x1 x2 x3 : Int} {n p1 p2 p3 p4 : Nat} (h1 : rdU s 8 99999999 = some (x1, p1)) (h2 : rdU s p1 100000000 = some (x2, p2)) (h3 : rdU s p2 4611686018427387903 = some (x3, p3)) (h4 : rdU s p3 256 = some ((n : Int), p4)) : rdM s = (restP s x3 [] n p4 0).bind fun y => if y.2 = s.size then some ((x1, x2, x3), y.1) else none := by
  rw [rdM, h1]; simp only [Option.bind_some]; rw [h2]; simp only [Option.bind_some]; rw [h3]; simp only [Option.bind_some]; rw [h4]; simp only [Option.bind_some, Int.toNat_natCast]
  unfold restP
  simp
/-- What stands while a manifest is read. -/
structure MaS (w : World) (R g B : Nat) (s : ByteArray) (gen next upto : Int) (W : World) (p : Nat) (v : Value) (ps : List PN) : Prop where
  bel : Below w.heap.size w W
  z : Mn4 W w.heap.size (.int .i64 0) (.int .i64 0) (.int .u64 0) (.slice none 0 0)
  rd : RdI W R s p
  hg : Mn4 W g (.int .i64 gen) (.int .i64 next) (.int .u64 upto) v
  own : ownP W B v ps
  r1 : w.heap.size < R
  r2 : w.heap.size < g
  n1 : R ≠ g
  b1 : R < B
  b2 : g < B
  b3 : B ≤ W.heap.size
theorem MaS.read {w : World} {R g B : Nat} {s : ByteArray} {gen next upto : Int} {W W' : World} {p q : Nat} {v : Value} {ps : List PN} (h : MaS w R g B s gen next upto W p v ps) (hf : Fr R W W') (hr : RdI W' R s q) : MaS w R g B s gen next upto W' q v ps :=
  ⟨h.bel.trans (hf.toBelow.mono (Nat.le_of_lt h.r1)), h.z.fr hf (by have := h.r1; omega), hr, h.hg.fr hf (Ne.symm h.n1), h.own.same (fun k hk hB => hf.rest k hk (by have := h.b1; omega)), h.r1, h.r2, h.n1, h.b1, h.b2, Nat.le_trans h.b3 hf.toBelow.size⟩
theorem MaS.app {w : World} {R g B : Nat} {s : ByteArray} {gen next upto : Int} {W W' : World} {p : Nat} {v v' : Value} {ps ps' : List PN} (h : MaS w R g B s gen next upto W p v ps) (ho : ownP W' B v' ps') (hb : Below B W W') : MaS w R g B s gen next upto (W'.setCell ⟨g, 3, none⟩ v') p v' ps' := by
  have := h.r1
  have := h.r2
  have := h.b1
  have := h.b2
  refine ⟨(h.bel.trans (hb.mono (by omega))).setCell (p := ⟨g, 3, none⟩) (by simp only; omega) _, (h.z.later hb (by omega)).other (p := ⟨g, 3, none⟩) _ (by simp only; omega), RdI.other (p := ⟨g, 3, none⟩) ((hb.block R h.b1).trans h.rd) _ h.n1, (h.hg.later hb h.b2).set3 v', ho.same (fun k hk hB => Below.heap_setCell _ _ _ k (by simp only; omega)), h.r1, h.r2, h.n1, h.b1, h.b2, ?_⟩
  have := hb.size
  have := h.b3
  simp
  omega
theorem MaS.drew {w : World} {R g B : Nat} {s : ByteArray} {gen next upto : Int} {W : World} {p : Nat} {v : Value} {ps : List PN} (h : MaS w R g B s gen next upto W p v ps) : MaS w R g B s gen next upto W.drew p v ps :=
  ⟨h.bel.drew, h.z, h.rd, h.hg, h.own.same (fun _ _ _ => rfl), h.r1, h.r2, h.n1, h.b1, h.b2, h.b3⟩
theorem MaS.drewN {w : World} {R g B : Nat} {s : ByteArray} {gen next upto : Int} {W : World} {p : Nat} {v : Value} {ps : List PN} (h : MaS w R g B s gen next upto W p v ps) (n : Nat) : MaS w R g B s gen next upto (W.drewN n) p v ps := by
  induction n with
  | zero => exact h
  | succ n ih => exact ih.drew
theorem PnI.yes {R : Nat} {s : ByteArray} {w w' : World} {v : PN} {q : Nat} {e : Ending} (h : PnI R s w (some (v, q)) e w') : Fr R w w' ∧ e = .returned (pnV v) ∧ RdI w' R s q := by
  obtain ⟨hf, ⟨x', q', hxx, he, hr⟩ | ⟨hxx, _⟩⟩ := h
  · injection hxx with hxx
    injection hxx with ha hb
    subst ha hb
    exact ⟨hf, he, hr⟩
  · cases hxx
theorem PnI.no {R : Nat} {s : ByteArray} {w w' : World} {e : Ending} (h : PnI R s w none e w') : Fr R w w' ∧ e = oops 125 := by
  obtain ⟨hf, ⟨x', q', hxx, he, hr⟩ | ⟨_, he⟩⟩ := h
  · cases hxx
  · exact ⟨hf, he⟩
theorem rdPN_wf {s : ByteArray} {p q : Nat} {last upto : Int} {v : PN} (h0 : 0 ≤ last) (hu : upto ≤ 4611686018427387903) (h : rdPN s p last upto = some (v, q)) : v.wf ∧ q ≤ s.size ∧ 0 ≤ v.hi ∧ v.hi ≤ upto := by
  obtain ⟨_, _, hq, h1, h2, h3, h4, h5, h6, h7, h8, h9, h10, h11, h12, h13, h14, h15⟩ := rdPN_form h0 h
  exact ⟨⟨by omega, by omega, by omega, by omega, by omega, by omega, by omega, by omega, by omega, by omega, by omega, by omega, by omega, by omega, by omega, by omega⟩, hq, by omega, h3⟩
theorem hideG {P : Prop} (h : Hid P) : P := h.out
set_option maxHeartbeats 25600000 in
theorem manifestOf_any (w : World) (b : ByteArray) (hs : b.size ≤ 1125899906842624) (hT : HalfAt w) : Calls Tryd.prog 23 #[.string b] w (MoC w b) := by
  have hb0 : Below w.heap.size w (w.alloc (.cells #[.int .i64 0, .int .i64 0, .int .u64 0, .slice none 0 0] 25)) := (Below.refl _ _).alloc (Nat.le_refl _) _
  have HB0 : Hid _ := hb0
  have HZ0 : Hid (Mn4 (w.alloc (.cells #[.int .i64 0, .int .i64 0, .int .u64 0, .slice none 0 0] 25)) w.heap.size (.int .i64 0) (.int .i64 0) (.int .u64 0) (.slice none 0 0)) := heap_alloc_new w _
  have HO : Hid (∀ _ : Unit, _) := fun _ => open_any b mgB (w.alloc (.cells #[.int .i64 0, .int .i64 0, .int .u64 0, .slice none 0 0] 25)) rfl hs (hT.later hb0)
  have hsz : (b.extract 0 (b.size - 4)).size ≤ 1125899906842624 := by rw [ByteArray.size_extract]; omega
  have h12 : opE b mgB = 0 → 8 ≤ (b.extract 0 (b.size - 4)).size := fun h => by
    rw [ByteArray.size_extract]
    unfold opE at h
    split at h
    · cases h
    · omega
  have HSZ : Hid _ := h12
  clear hT hb0 h12
  go_enter Tryd.func23, Tryd.ntmps23
  go_wp2_with fail
  generalize hw0 : w.alloc (.cells #[.int .i64 0, .int .i64 0, .int .u64 0, .slice none 0 0] 25) = y0 at *
  clear hw0
  refine (HO.out ()).mono ?_
  rintro e w1 ⟨hb1, hor⟩
  rcases hor.symm with ⟨hne, rfl⟩ | ⟨h0, R, rfl, hR, hrd⟩
  · exact ⟨rfl, MoC.no (HB0.out.trans (hb1.mono HB0.out.size)) (.inl ⟨hne, rfl⟩)⟩
  clear hor
  have HOP : Hid (opE b mgB = 0) := h0
  have h8 := HSZ.out h0
  have HZ1 : Hid (Mn4 w1 w.heap.size (.int .i64 0) (.int .i64 0) (.int .u64 0) (.slice none 0 0)) := HZ0.out.later hb1 HZ0.out.lt
  have HB1 : Hid (Below w.heap.size w w1) := HB0.out.trans (hb1.mono HB0.out.size)
  have hzr : w.heap.size < R := Nat.lt_of_lt_of_le HZ0.out.lt hR
  have HR1 : Hid (RdI w1 R (b.extract 0 (b.size - 4)) 8) := hrd
  have HN : Hid (rdM (b.extract 0 (b.size - 4)) = none → MoNo b 125) := fun h => MoNo.none HOP.out h
  have HLAST : Hid (∀ c, MoNo b c ↔ _) := fun c => Iff.rfl
  clear h0 hb1 hrd HO HB0 HZ0 HSZ hR HLAST
  generalize hss : b.extract 0 (b.size - 4) = s at *
  have HSS : Hid _ := hss
  clear hss
  have hp0 := h8
  have HC1 : Hid (∀ _ : Unit, _) := fun _ => countI R s 8 99999999 w1 HR1.out hp0 hsz (by omega) (by omega)
  cases hx1 : rdU s 8 99999999 with
  | none =>
    rw [hx1] at HC1
    go_wp2_with fail
    refine (HC1.out ()).mono ?_
    intro e w2 ht
    obtain ⟨hf, rfl⟩ := ht.no
    exact ⟨rfl, MoC.no (HB1.out.trans (hf.toBelow.mono (Nat.le_of_lt hzr))) (HN.out (rdM_n1  hx1))⟩
  | some yy =>
    obtain ⟨x1, p1⟩ := yy
    rw [hx1] at HC1
    have HX1 : Hid _ := hx1
    obtain ⟨ff, qq, lb1, ub1⟩ := rdU_form hx1
    have hp1 := ff.size hp0
    rw [← qq] at hp1
    clear ff qq hx1 hp0
    go_wp2_with fail
    refine (HC1.out ()).mono ?_
    intro e w2 ht
    obtain ⟨hf, rfl, hr⟩ := ht.yes
    have HB2 : Hid (Below w.heap.size w w2) := HB1.out.trans (hf.toBelow.mono (Nat.le_of_lt hzr))
    have HZ2 : Hid (Mn4 w2 w.heap.size (.int .i64 0) (.int .i64 0) (.int .u64 0) (.slice none 0 0)) := HZ1.out.fr hf (by omega)
    have HR2 : Hid (RdI w2 R s p1) := hr
    clear hf hr ht HC1 HB1 HZ1 HR1
    have HC2 : Hid (∀ _ : Unit, _) := fun _ => countI R s p1 100000000 w2 HR2.out hp1 hsz (by omega) (by omega)
    cases hx2 : rdU s p1 100000000 with
    | none =>
      rw [hx2] at HC2
      go_wp2_with fail
      refine (HC2.out ()).mono ?_
      intro e w2 ht
      obtain ⟨hf, rfl⟩ := ht.no
      exact ⟨rfl, MoC.no (HB2.out.trans (hf.toBelow.mono (Nat.le_of_lt hzr))) (HN.out (rdM_n2 HX1.out hx2))⟩
    | some yy =>
      obtain ⟨x2, p2⟩ := yy
      rw [hx2] at HC2
      have HX2 : Hid _ := hx2
      obtain ⟨ff, qq, lb2, ub2⟩ := rdU_form hx2
      have hp2 := ff.size hp1
      rw [← qq] at hp2
      clear ff qq hx2 hp1
      go_wp2_with fail
      refine (HC2.out ()).mono ?_
      intro e w3 ht
      obtain ⟨hf, rfl, hr⟩ := ht.yes
      have HB3 : Hid (Below w.heap.size w w3) := HB2.out.trans (hf.toBelow.mono (Nat.le_of_lt hzr))
      have HZ3 : Hid (Mn4 w3 w.heap.size (.int .i64 0) (.int .i64 0) (.int .u64 0) (.slice none 0 0)) := HZ2.out.fr hf (by omega)
      have HR3 : Hid (RdI w3 R s p2) := hr
      clear hf hr ht HC2 HB2 HZ2 HR2
      have HC3 : Hid (∀ _ : Unit, _) := fun _ => numberI R s p2 4611686018427387903 w3 HR3.out hp2 hsz
      cases hx3 : rdU s p2 4611686018427387903 with
      | none =>
        rw [hx3] at HC3
        go_wp2_with fail
        refine (HC3.out ()).mono ?_
        intro e w2 ht
        obtain ⟨hf, rfl⟩ := ht.no
        exact ⟨rfl, MoC.no (HB3.out.trans (hf.toBelow.mono (Nat.le_of_lt hzr))) (HN.out (rdM_n3 HX1.out HX2.out hx3))⟩
      | some yy =>
        obtain ⟨x3, p3⟩ := yy
        rw [hx3] at HC3
        have HX3 : Hid _ := hx3
        obtain ⟨ff, qq, lb3, ub3⟩ := rdU_form hx3
        have hp3 := ff.size hp2
        rw [← qq] at hp3
        clear ff qq hx3 hp2
        go_wp2_with fail
        refine (HC3.out ()).mono ?_
        intro e w4 ht
        obtain ⟨hf, rfl, hr⟩ := ht.yes
        have HB4 : Hid (Below w.heap.size w w4) := HB3.out.trans (hf.toBelow.mono (Nat.le_of_lt hzr))
        have HZ4 : Hid (Mn4 w4 w.heap.size (.int .i64 0) (.int .i64 0) (.int .u64 0) (.slice none 0 0)) := HZ3.out.fr hf (by omega)
        have HR4 : Hid (RdI w4 R s p3) := hr
        clear hf hr ht HC3 HB3 HZ3 HR3
        have hba : Below w4.heap.size w4 (w4.alloc (.cells #[.int .i64 x1, .int .i64 x2, .int .u64 x3, .slice none 0 0] 25)) := (Below.refl _ _).alloc (Nat.le_refl _) _
        have hR4 := HR4.out.lt
        have HS4 : Hid (MaS w R w4.heap.size (w4.heap.size + 1) s x1 x2 x3 (w4.alloc (.cells #[.int .i64 x1, .int .i64 x2, .int .u64 x3, .slice none 0 0] 25)) p3 (.slice none 0 0) []) := ⟨HB4.out.trans (hba.mono HB4.out.size), HZ4.out.later hba HZ4.out.lt, HR4.out.later hba, heap_alloc_new w4 _, ownP_nil _ _, hzr, by omega, by omega, by omega, by omega, by simp⟩
        clear hba HB4 HZ4 HR4
        go_wp2_with fail
        generalize hya : w4.alloc (.cells #[.int .i64 x1, .int .i64 x2, .int .u64 x3, .slice none 0 0] 25) = y4 at *
        generalize hgg : w4.heap.size = g at *
        clear hya hgg hR4
        have HC4 : Hid (∀ _ : Unit, _) := fun _ => countI R s p3 256 y4 HS4.out.rd hp3 hsz (by omega) (by omega)
        cases hx4 : rdU s p3 256 with
        | none =>
          rw [hx4] at HC4
          refine (HC4.out ()).mono ?_
          intro e w5 ht
          obtain ⟨hf, rfl⟩ := ht.no
          exact ⟨rfl, MoC.no (HS4.out.bel.trans (hf.toBelow.mono (Nat.le_of_lt hzr))) (HN.out (rdM_n4 HX1.out HX2.out HX3.out hx4))⟩
        | some yy =>
          obtain ⟨x4, p4⟩ := yy
          rw [hx4] at HC4
          obtain ⟨ff, qq, lb4, ub4⟩ := rdU_form hx4
          have hp4 := ff.size hp3
          rw [← qq] at hp4
          clear ff qq hp3
          obtain ⟨n, rfl⟩ := Int.eq_ofNat_of_zero_le lb4
          have HM5 : Hid (rdM s = (restP s x3 [] n p4 0).bind fun y => if y.2 = s.size then some ((x1, x2, x3), y.1) else none) := rdM_5 HX1.out HX2.out HX3.out hx4
          clear hx4 HX1 HX2 HX3
          refine (HC4.out ()).mono ?_
          intro e w5 ht
          obtain ⟨hf, rfl, hr⟩ := ht.yes
          have HS5 : Hid (MaS w R g (g + 1) s x1 x2 x3 w5 p4 (.slice none 0 0) []) := HS4.out.read hf hr
          clear hf hr ht HC4 HS4
          go_wp2_with fail
          go_loopw [5, 18] (fun h i wr => ∃ (k p : Nat) (last : Int) (v : Value) (ps : List PN), k ≤ n ∧ i = .int .i64 k ∧ h = .int .u64 last ∧ 0 ≤ last ∧ last ≤ x3 ∧ p ≤ s.size ∧ ps.length = k ∧ (∀ q ∈ ps, q.wf) ∧ MaS w R g (g + 1) s x1 x2 x3 wr p v ps ∧ restP s x3 [] n p4 0 = restP s x3 ps (n - k) p last) (fun _ i _ => n - (intOf i).toNat)
          case atStart => exact ⟨0, p4, 0, .slice none 0 0, [], by omega, rfl, rfl, by omega, lb3, hp4, rfl, (fun _ h => by cases h), HS5.out, rfl⟩
          case round =>
            obtain ⟨k, p, last, v, ps, hk, rfl, rfl, hl0, hl1, hps, hlen, hwf, hS, hrest⟩ := hrel
            have HSk : Hid (MaS w R g (g + 1) s x1 x2 x3 wr p v ps) := hS
            have HWF : Hid (∀ q ∈ ps, q.wf) := hwf
            have HRs : Hid (restP s x3 [] n p4 0 = restP s x3 ps (n - k) p last) := hrest
            have HLN : Hid (ps.length = k) := hlen
            clear hS hwf hrest hlen HS5
            by_cases hlt : k < n
            · have c2 : wr.cell? ⟨g, 2, none⟩ = some (.int .u64 x3) := HSk.out.hg.cell 2
              have HP : Hid (∀ _ : Unit, _) := fun _ => pairNameI R s p last x3 wr HSk.out.rd hps hsz hl0 hl1 ub3
              cases hv : rdPN s p last x3 with
              | none =>
                rw [hv] at HP
                have HNo : Hid (rdM s = none) := by
                  show _ = _
                  rw [HM5.out, HRs.out, show n - k = n - (k + 1) + 1 from by omega, restP_no hv]
                  rfl
                go_wp2_with fail
                refine (HP.out ()).mono ?_
                intro e w6 ht
                obtain ⟨hf, rfl⟩ := ht.no
                exact ⟨rfl, MoC.no (HSk.out.bel.trans (hf.toBelow.mono (Nat.le_of_lt hzr))) (HN.out HNo.out)⟩
              | some yy =>
                obtain ⟨x, q⟩ := yy
                rw [hv] at HP
                obtain ⟨hxw, hq, hxh0, hxh1⟩ := rdPN_wf hl0 ub3 hv
                have HXW : Hid _ := hxw
                have HRs2 : Hid (restP s x3 [] n p4 0 = restP s x3 (ps ++ [x]) (n - (k + 1)) q x.hi) := by
                  show _ = _
                  rw [HRs.out, show n - k = n - (k + 1) + 1 from by omega, restP_yes hv]
                clear hxw hv
                go_wp2_with fail
                refine (HP.out ()).mono ?_
                intro e w6 ht
                obtain ⟨hf, he, hr⟩ := ht.yes
                unfold pnV at he
                subst he
                have HS6 : Hid (MaS w R g (g + 1) s x1 x2 x3 w6 q v ps) := HSk.out.read hf hr
                clear hf hr ht HP HSk HRs c2
                have c3 : w6.cell? ⟨g, 3, none⟩ = some v := HS6.out.hg.cell 3
                have f3 := HS6.out.hg.free 3
                have hgw : g < w6.heap.size := HS6.out.hg.lt
                obtain ⟨ao, cap, rfl, hnone, hsome⟩ := HS6.out.own.slice
                have HO7 : Hid (ownP (w6.alloc (.cells #[.int .i64 x.id, .int .u64 x.lo, .int .u64 x.hi, .int .i64 x.rows, .int .i64 x.gen, .int .i64 x.gone, .int .u32 x.ds, .int .u32 x.es] 36)) (g + 1) (.slice ao ps.length cap) ps) := HS6.out.own.alloc _
                have HLen : Hid ((ps.length + 1) * 56 ≤ 140737488355328) := by have := HLN.out; show _ ≤ _; omega
                have HOB : Hid (∀ k, (Value.slice ao ps.length cap).ownBlock = some k → g + 1 ≤ k ∧ k < w6.heap.size) := HS6.out.own.own
                clear hnone hsome
                go_wp2_with (at_builtin; refine hideG ?_)
                change wpList _ _ _ _ _ _
                refine app_pn (by rfl) _ _ (by rfl) (g + 1) _ ps x HO7.out (by rfl) (w6.heap.size + 1) (by simp) (by rfl) HLen.out (by simp; omega) ?_
                intro v' w' ho' hb' hk'
                obtain ⟨a', n', c', rfl⟩ := ho'.isSlice
                have hb7 : Below (g + 1) w6 w' := ((Below.refl _ _).alloc (by omega) _).trans hb'
                have HS7 : Hid _ := HS6.out.app ho' hb7
                have k3 : w'.cell? ⟨g, 3, none⟩ = some (.slice ao ps.length cap) := (HS6.out.hg.later hb7 (by omega)).cell 3
                have k4 := (HS6.out.hg.later hb7 (by omega)).free 3
                have k5 : w'.cell? ⟨w6.heap.size, 2, none⟩ = some (.int .u64 x.hi) := cells_at ((hk' w6.heap.size (by simp) (fun e => by have := (HOB.out _ e.symm).2; omega)).trans (heap_alloc_new w6 _)) 2
                have hne9 : w6.heap.size ≠ g := by omega
                clear ho' hb' hk' hb7
                go_wp2
                go_roundw
                case rel => exact ⟨k + 1, q, x.hi, _, ps ++ [x], by omega, by go_num, rfl, hxh0, hxh1, hq, by rw [List.length_append, HLN.out]; rfl, fun y hy => by rcases List.mem_append.1 hy with h | h; exact HWF.out _ h; rw [List.mem_singleton.1 h]; exact HXW.out, HS7.out, HRs2.out⟩
                case measure => simp [intOf]; omega
            · have hkn : k = n := by omega
              have HMM : Hid (rdM s = if p = s.size then some ((x1, x2, x3), ps) else none) := by
                show _ = _
                rw [HM5.out, HRs.out, hkn, Nat.sub_self, restP_zero]
                rfl
              clear HRs HM5
              have HL : Hid (∀ _ : Unit, _) := fun _ => leftI R s p wr HSk.out.rd hsz
              by_cases hp : p < s.size
              · rw [decide_eq_true hp] at HL
                have HNo : Hid (rdM s = none) := HMM.out.trans (if_neg (by omega))
                go_wp2_with fail
                refine (HL.out ()).mono ?_
                rintro e w6 ⟨rfl, nq, rfl⟩
                go_wp2_with fail
                refine (giveUpI_yes 125 _).mono ?_
                rintro e w7 ⟨rfl, rfl⟩
                exact ⟨rfl, MoC.no (HSk.out.drewN nq).bel (HN.out HNo.out)⟩
              · rw [decide_eq_false hp] at HL
                have HYe : Hid (rdM s = some ((x1, x2, x3), ps)) := HMM.out.trans (if_pos (by omega))
                go_wp2_with fail
                refine (HL.out ()).mono ?_
                rintro e w6 ⟨rfl, nq, rfl⟩
                have hS6 := HSk.out.drewN nq
                generalize wr.drewN nq = w6 at *
                have HS6 : Hid (MaS w R g (g + 1) s x1 x2 x3 w6 p v ps) := hS6
                clear hS6 HSk HL HMM
                obtain ⟨ao, cap, rfl, -, -⟩ := HS6.out.own.slice
                have c0 : w6.cell? ⟨g, 0, none⟩ = some (.int .i64 x1) := HS6.out.hg.cell 0
                have c1 : w6.cell? ⟨g, 1, none⟩ = some (.int .i64 x2) := HS6.out.hg.cell 1
                have c2 : w6.cell? ⟨g, 2, none⟩ = some (.int .u64 x3) := HS6.out.hg.cell 2
                have c3 : w6.cell? ⟨g, 3, none⟩ = some (.slice ao ps.length cap) := HS6.out.hg.cell 3
                have HMb : Hid (∀ _ : Unit, _) := fun _ => mayBe_any w6 x1 x2 x3 ao cap ps HS6.out.own.sees HWF.out
                go_wp2_with fail
                refine (HMb.out ()).mono ?_
                rintro e w7 ⟨c, rfl, hiff, hb7⟩
                have HIF : Hid (c = true ↔ mayM x1 x2 x3 ps) := hiff
                have HB7 : Hid (Below w6.heap.size w6 w7) := hb7
                clear hiff hb7 HMb c0 c1 c2 c3
                cases c
                · have HNm : Hid (¬ mayM x1 x2 x3 ps) := fun h => by have := HIF.out.2 h; cases this
                  go_wp2_with fail
                  refine (giveUpI_yes 125 _).mono ?_
                  rintro e w8 ⟨rfl, rfl⟩
                  refine ⟨rfl, MoC.no (HS6.out.bel.trans (HB7.out.mono HS6.out.bel.size)) (.inr ⟨HOP.out, rfl, fun a1 a2 a3 a4 h => ?_⟩)⟩
                  rw [HSS.out, HYe.out] at h
                  injection h with h
                  injection h with ha hd
                  injection ha with ha hb
                  injection hb with hb hc
                  subst ha hb hc hd
                  exact HNm.out
                · have HYm : Hid (mayM x1 x2 x3 ps) := HIF.out.1 rfl
                  go_wp2_with fail
                  refine (giveUpI_no 125 _).mono ?_
                  rintro e w8 ⟨rfl, rfl⟩
                  have HG8 : Hid (Mn4 w8 g (.int .i64 x1) (.int .i64 x2) (.int .u64 x3) (.slice ao ps.length cap)) := HS6.out.hg.later HB7.out HS6.out.hg.lt
                  have HZ8 : Hid (Mn4 w8 w.heap.size (.int .i64 0) (.int .i64 0) (.int .u64 0) (.slice none 0 0)) := HS6.out.z.later HB7.out HS6.out.z.lt
                  have HO8 : Hid (ownP w8 (g + 1) (.slice ao ps.length cap) ps) := HS6.out.own.later HB7.out
                  have HB8 : Hid (Below w.heap.size w w8) := HS6.out.bel.trans (HB7.out.mono HS6.out.bel.size)
                  have hzg := HS6.out.r2
                  have Hzg : Hid (w.heap.size < g) := hzg
                  have hzn : w.heap.size ≠ g := by omega
                  have c0 : w8.cell? ⟨g, 0, none⟩ = some (.int .i64 x1) := HG8.out.cell 0
                  have c1 : w8.cell? ⟨g, 1, none⟩ = some (.int .i64 x2) := HG8.out.cell 1
                  have c2 : w8.cell? ⟨g, 2, none⟩ = some (.int .u64 x3) := HG8.out.cell 2
                  have c3 : w8.cell? ⟨g, 3, none⟩ = some (.slice ao ps.length cap) := HG8.out.cell 3
                  have z0 : w8.cell? ⟨w.heap.size, 0, none⟩ = some (.int .i64 0) := HZ8.out.cell 0
                  have z1 : w8.cell? ⟨w.heap.size, 1, none⟩ = some (.int .i64 0) := HZ8.out.cell 1
                  have z2 : w8.cell? ⟨w.heap.size, 2, none⟩ = some (.int .u64 0) := HZ8.out.cell 2
                  have z3 : w8.cell? ⟨w.heap.size, 3, none⟩ = some (.slice none 0 0) := HZ8.out.cell 3
                  have o0 := HZ8.out.free 0
                  have o1 := HZ8.out.free 1
                  have o2 := HZ8.out.free 2
                  have o3 := HZ8.out.free 3
                  go_wp2
                  refine bodyPost_ret (ret_mn rfl _ _ _ _ _ _ w.heap.size (by rfl) (HZ8.out.setAll _ _ _ _)) rfl ⟨?_, .inl ⟨x1, x2, x3, ps, _, ⟨HOP.out, by rw [HSS.out]; exact HYe.out, HYm.out, HWF.out, lb3⟩, rfl, ?_⟩⟩
                  · exact (((HB8.out.setCell (p := ⟨w.heap.size, 0, none⟩) (Nat.le_refl _) _).setCell (p := ⟨w.heap.size, 1, none⟩) (Nat.le_refl _) _).setCell (p := ⟨w.heap.size, 2, none⟩) (Nat.le_refl _) _).setCell (p := ⟨w.heap.size, 3, none⟩) (Nat.le_refl _) _
                  · refine (HO8.out.same fun k hk hB => ?_).mono (by omega)
                    have hne : k ≠ w.heap.size := by omega
                    exact (Below.heap_setCell _ _ _ k hne).trans ((Below.heap_setCell _ _ _ k hne).trans ((Below.heap_setCell _ _ _ k hne).trans (Below.heap_setCell _ _ _ k hne)))
end Go.Proofs.YtjceellpmopnkaaDoor
