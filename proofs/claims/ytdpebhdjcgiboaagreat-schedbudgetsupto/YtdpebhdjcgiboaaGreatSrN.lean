import Derived.Test.YtdpebhdjcgiboaaGreatSrL
import Derived.Test.YtdpebhdjcgiboaaGreatSh2
namespace Go.Proofs.YtdpebhdjcgiboaaGreat
set_option linter.unusedSimpArgs false
open Go.ChangeShapes Go.WideShapes Go.ChangeAt Go.RowKit Go.MuLone Go.RwLone
set_option linter.unusedVariables false
set_option maxRecDepth 100000
set_option maxHeartbeats 3200000
/-- In the midst of telling the registers, since wb. -/
structure Oq (wb wr : World) (ob : Nat) (cv rv : Value) (rg : Nat → Nat → Int) (t : Nat) : Prop where
  k : Keeps (fun x => x = ob) wb wr
  b : wr.heap[ob]? = some (.cells #[cv, rv] 51)
  o : OwW wr wb.heap.size rv (regsL rg t)
  l : ob < wb.heap.size
theorem Oq.step {wb wr w' : World} {ob : Nat} {cv rv v' : Value} {rg : Nat → Nat → Int} {t : Nat} (h : Oq wb wr ob cv rv rg t) (ho : OwW w' wb.heap.size v' (regsL rg (t + 1))) (hb : Below wb.heap.size wr w') :
    Oq wb (w'.setCell ⟨ob, 1, none⟩ v') ob cv v' rg (t + 1) ∧ w'.cell? ⟨ob, 1, none⟩ = some rv ∧ w'.frozen? ⟨ob, 1, none⟩ = false := by
  have e : w'.heap[ob]? = some (.cells #[cv, rv] 51) := (hb.block _ h.l).trans h.b
  have ks : Keeps (fun x => x = ob) w' (w'.setCell ⟨ob, 1, none⟩ v') := Keeps.setCell (B := fun x => x = ob) (Keeps.refl _ _) rfl _
  refine ⟨⟨?_, heapSet e _, ho.set (p := ⟨ob, 1, none⟩) h.l _, h.l⟩, (cell?_heap e 1).trans rfl, frozen?_heap e 1⟩
  have hs := h.k.size
  have hs2 := hb.size
  exact ⟨ks.os.trans (hb.os.trans h.k.os), ks.tape.trans (hb.tape.trans h.k.tape), ks.output.trans (hb.output.trans h.k.output), Nat.le_trans (Nat.le_trans hs hs2) ks.size, fun x hx hn => (ks.block x (by omega) hn).trans ((hb.block x hx).trans (h.k.block x hx hn))⟩
theorem RP.words {R : Rd} {w : World} {s : Ls} (h : RP R w s) (hc : R.wd ≤ R.cc) : InG wdC w w.heap.size (.slice (some ⟨R.cb, 0, none⟩) (wlL s.wo R.wd).length R.cc) (wlL s.wo R.wd) := by
  have hl : (wlL s.wo R.wd).length = R.wd := by simp [wlL]
  refine ⟨some ⟨R.cb, 0, none⟩, R.cc, rfl, by omega, (fun e => by cases e), fun j u hj => ⟨R.cb, 0, rfl, h.lt _ (.inl (.inr (.inl rfl))), ?_⟩⟩
  have hlt := (List.getElem?_eq_some_iff.1 hj).1
  rw [flat_wd, List.length_map, hl] at hlt
  rw [flat_wd, List.getElem?_map] at hj
  rw [Nat.zero_add, h.ce j hlt, ← hj]
  simp [wlL, hlt]
theorem RP.regs {R : Rd} {w : World} {s : Ls} (h : RP R w s) (i : Nat) (hi : i < R.n) : InG wdC w w.heap.size (.slice (some ⟨R.rb i, 0, none⟩) 4 4) [s.rg i 0, s.rg i 1, s.rg i 2, s.rg i 3] := by
  refine ⟨some ⟨R.rb i, 0, none⟩, 4, rfl, Nat.le_refl _, (fun e => by cases e), fun j u hj => ⟨R.rb i, 0, rfl, h.lt _ (.inl (.inr (.inr ⟨i, hi, rfl⟩))), ?_⟩⟩
  have hlt := (List.getElem?_eq_some_iff.1 hj).1
  have hl : ([s.rg i 0, s.rg i 1, s.rg i 2, s.rg i 3].flatMap wdC).length = 4 := rfl
  have : j = 0 ∨ j = 1 ∨ j = 2 ∨ j = 3 := by omega
  rw [Nat.zero_add]
  rcases this with rfl | rfl | rfl | rfl
  · exact (h.rg i 0 hi (by decide)).trans hj
  · exact (h.rg i 1 hi (by decide)).trans hj
  · exact (h.rg i 2 hi (by decide)).trans hj
  · exact (h.rg i 3 hi (by decide)).trans hj
abbrev zo1 (w : World) : World := w.alloc (.cells #[.slice none 0 0, .slice none 0 0] 51)
/-- The document's Outcome. -/
theorem rout_any (R : Rd) (hR : RdOk R) (w : World) (s : Ls) (h : RP R w s) (hc : R.wd ≤ R.cc) (hn : R.wd ≤ 100) :
    Calls Tryz.prog 54 #[.pointer (some ⟨R.bk, 0, none⟩)] w fun e w' => ∃ ca cc ra rc, e = .returned (.agg #[.slice ca (wlL s.wo R.wd).length cc, .slice ra (regsL s.rg R.n).length rc]) ∧ OwW w' w.heap.size (.slice ca (wlL s.wo R.wd).length cc) (wlL s.wo R.wd) ∧ OwW w' w.heap.size (.slice ra (regsL s.rg R.n).length rc) (regsL s.rg R.n) ∧ Below w.heap.size w w' := by
  have hl : (wlL s.wo R.wd).length = R.wd := by simp [wlL]
  have b1 : Below w.heap.size w (zo1 w) := (Below.refl _ _).alloc (Nat.le_refl _) _
  have k1 : Keeps (fun _ => False) w (zo1 w) := (Keeps.refl _ _).alloc _
  have h1 := h.still k1
  have sz1 : (zo1 w).heap.size = w.heap.size + 1 := szAl _ _
  have HW := rwords_any (zo1 w) (zo1 w).heap.size (Nat.le_refl _) (some ⟨R.cb, 0, none⟩) R.cc (wlL s.wo R.wd) (h1.words hc) (by omega)
  rw [sz1] at HW
  have HWW : Hid (∀ _ : Unit, _) := fun _ => HW
  have c0 : (zo1 w).cell? ⟨R.bk, 0, none⟩ = some (.slice (some ⟨R.cb, 0, none⟩) (wlL s.wo R.wd).length R.cc) := by rw [hl]; exact h1.p0
  have HH : Hid (∀ W, Keeps (fun x => w.heap.size ≤ x) w W → RP R W s) := fun W k => h.keeps k (fun y e hy => by have := h.lt y hy; omega)
  have HLT : Hid (∀ y, fR R y → y < w.heap.size) := h.lt
  have hn4 := hR.n4
  clear HW h1 k1 h hl
  generalize wlL s.wo R.wd = ws at *
  go_enter Tryz.func54, Tryz.ntmps54
  go_wp2_with fail
  refine (HWW.out ()).mono ?_
  rintro e w3 ⟨va, vc, rfl, ow, b3⟩
  have s3 := b3.size
  rw [sz1] at s3
  have sz4 : (w3.alloc (.cells #[.slice va ws.length vc, .slice none 0 0] 51)).heap.size = w3.heap.size + 1 := szAl _ _
  have b34 : Below w3.heap.size w3 (w3.alloc (.cells #[.slice va ws.length vc, .slice none 0 0] 51)) := (Below.refl _ _).alloc (Nat.le_refl _) _
  have k4 : Keeps (fun x => w.heap.size ≤ x) w (w3.alloc (.cells #[.slice va ws.length vc, .slice none 0 0] 51)) := by
    have bb := (b1.trans (b3.mono (by omega))).trans (b34.mono (by omega))
    exact ⟨bb.os, bb.tape, bb.output, bb.size, fun x hx hn => bb.block x hx⟩
  have HS : Hid (Oq (w3.alloc (.cells #[.slice va ws.length vc, .slice none 0 0] 51)) (w3.alloc (.cells #[.slice va ws.length vc, .slice none 0 0] 51)) w3.heap.size (.slice va ws.length vc) (.slice none 0 0) s.rg 0) := ⟨Keeps.refl _ _, heap_alloc_last _ _ _ rfl, OwG.nil _ _ _ _ _, by omega⟩
  have HB : Hid (Keeps (fun x => w.heap.size ≤ x) w (w3.alloc (.cells #[.slice va ws.length vc, .slice none 0 0] 51)) ∧ OwW (w3.alloc (.cells #[.slice va ws.length vc, .slice none 0 0] 51)) (w.heap.size + 1) (.slice va ws.length vc) ws ∧ (w3.alloc (.cells #[.slice va ws.length vc, .slice none 0 0] 51)).heap.size = w3.heap.size + 1 ∧ (w3.alloc (.cells #[.slice va ws.length vc, .slice none 0 0] 51)).heap[w.heap.size]? = some (.cells #[.slice none 0 0, .slice none 0 0] 51) ∧ (∀ g, (Value.slice va ws.length vc).ownBlock = some g → g < w3.heap.size)) := ⟨k4, ow.later b34, sz4, (b34.block _ (by omega)).trans ((b3.block _ (by omega)).trans (heap_alloc_last _ _ _ rfl)), fun g hg => (World.ownsRow.lt ow g hg).2⟩
  have hob : w.heap.size + 1 ≤ w3.heap.size := s3
  clear ow b3 b34 k4 sz4 HWW c0 b1 s3 sz1
  go_wp2_with fail
  generalize w3.alloc (.cells #[.slice va ws.length vc, .slice none 0 0] 51) = wb at *
  generalize w3.heap.size = ob at *
  go_loopw [4] (fun c wr => ∃ (t : Nat) (rv : Value), c = .int .i64 t ∧ t ≤ R.n ∧ Oq wb wr ob (.slice va ws.length vc) rv s.rg t) (fun c _ => R.n - (intOf c).toNat)
  case atStart => exact ⟨0, _, rfl, by omega, HS.out⟩
  case round =>
    obtain ⟨t, rv, rfl, ht, hoq⟩ := hrel
    have HQ : Hid (Oq wb wr ob (.slice va ws.length vc) rv s.rg t) := hoq
    have kw : Keeps (fun x => w.heap.size ≤ x) w wr := HB.out.1.trans (hoq.k.mono (fun x e => by show w.heap.size ≤ x; omega)) 
    have rp := HH.out wr kw
    have c1 := rp.p1
    obtain ⟨ra, rc, hrv⟩ := hoq.o.form
    subst hrv
    clear hoq HS kw
    by_cases h5 : t < R.n
    · have t0 : (0 : Int) ≤ (t : Int) := Int.natCast_nonneg _
      have t1 : (t : Int) < (R.n : Int) := by omega
      have HE : Hid (regsL s.rg t ++ [s.rg t 0, s.rg t 1, s.rg t 2, s.rg t 3] = regsL s.rg (t + 1)) := (regsL_succ s.rg t).symm
      have hle : (regsL s.rg t).length ≤ 16 := by rw [regsL_len]; omega
      have HI : Hid (InG wdC wr.drew wr.heap.size (.slice (some ⟨R.rb t, 0, none⟩) 4 4) [s.rg t 0, s.rg t 1, s.rg t 2, s.rg t 3]) := (rp.regs t h5).later (Below.refl _ _).drew
      have cR : wr.drew.cell? ⟨ob, 1, none⟩ = some (.slice ra (regsL s.rg t).length rc) := (cell?_heap HQ.out.b 1).trans rfl
      have HSS : Hid (∀ W, Below wb.heap.size wr W → W.cell? ⟨R.bk, 1, none⟩ = some (.slice (some ⟨R.tb, 0, none⟩) R.n R.tc) ∧ W.cell? ⟨R.tb, t * 3 + 1, none⟩ = some (.slice (some ⟨R.rb t, 0, none⟩) 4 4)) := fun W k => by
        have l1 := HLT.out R.bk (.inr (.inl rfl))
        have l2 := HLT.out R.tb (.inl (.inl rfl))
        have hz := HB.out.2.2.1
        exact ⟨(k.cell (p := ⟨R.bk, 1, none⟩) (by show R.bk < _; omega)).trans rp.p1, (k.cell (p := ⟨R.tb, t * 3 + 1, none⟩) (by show R.tb < _; omega)).trans (rp.t1 t h5)⟩
      have hwz : wb.heap.size ≤ wr.heap.size := HQ.out.k.size
      have HO : Hid (OwW wr.drew wb.heap.size (.slice ra (regsL s.rg t).length rc) (regsL s.rg t)) := HQ.out.o.later (Below.refl _ _).drew
      clear rp
      generalize regsL s.rg t = xs at *
      go_wp2_with fail
      clear c1
      (refine wp_region_held_drew (S := (fun W => W.cell? ⟨R.bk, 1, none⟩ = some (.slice (some ⟨R.tb, 0, none⟩) R.n R.tc) ∧ W.cell? ⟨R.tb, t * 3 + 1, none⟩ = some (.slice (some ⟨R.rb t, 0, none⟩) 4 4))) (by kernel_rfl) (HSS.out _ (Below.refl _ _).drew) (fun hHeld => ?_); simp only [List.size_toArray, List.length_cons, List.length_nil, Nat.reduceAdd, Array.replicate_succ, Array.replicate_zero, List.push_toArray, List.append_toArray, List.nil_append, List.cons_append])
      refine rgT 0 (h := ?_)
      refine rgT 2 (h := ?_)
      refine rgT 3 (h := ?_)
      refine rgT 4 (h := ?_)
      refine rgT 5 (h := ?_)
      refine rgT 6 (h := ?_)
      refine rgT 7 (h := ?_)
      refine rgT 8 (h := ?_)
      refine rgT 9 (h := ?_)
      (refine rgS 1 (h := fun K hK => ?_); go_simp)
      (refine hK.out _ _ (HSS.out _ (Below.refl _ _).drew) (fun hHeld => ?_); clear hK K; try simp only [Act.put, List.setIfInBounds_toArray, List.set_cons_zero, List.set_cons_succ])
      (refine rgS 10 (h := fun K hK => ?_); rw [if_pos (by rfl)])
      refine app_in_wp (cs := wdC) (w := wr.drew) (.tmp 21) (.tmp 29) 46 55 (by rfl) Tryz.underlying46 infoU64 rfl (by decide) (fun _ => rfl) wb.heap.size _ xs HO.out (by rfl) wr.heap.size _ [s.rg t 0, s.rg t 1, s.rg t 2, s.rg t 3] (by rfl) HI.out (fun y _ => wdC_one y) (by unfold maxLen; simp; omega) (by simp; omega) hwz ?_
      intro v' w' ho hb hk
      rw [HE.out] at ho
      have hb' : Below wb.heap.size wr w' := (Below.refl _ _).drew.trans hb
      obtain ⟨f3, c3, z3⟩ := HQ.out.step ho hb'
      obtain ⟨a3, k3, rfl⟩ := ho.form
      have S3 := HSS.out w' hb'
      generalize (regsL s.rg (t + 1)).length = mm at *
      have S4 : (w'.setCell ⟨ob, 1, none⟩ (.slice a3 mm k3)).cell? ⟨R.bk, 1, none⟩ = some (.slice (some ⟨R.tb, 0, none⟩) R.n R.tc) ∧ (w'.setCell ⟨ob, 1, none⟩ (.slice a3 mm k3)).cell? ⟨R.tb, t * 3 + 1, none⟩ = some (.slice (some ⟨R.rb t, 0, none⟩) 4 4) := by
        have l1 := HLT.out R.bk (.inr (.inl rfl))
        have l2 := HLT.out R.tb (.inl (.inl rfl))
        have e2 : ∀ g j, g < w.heap.size → (w'.setCell ⟨ob, 1, none⟩ (.slice a3 mm k3)).cell? ⟨g, j, none⟩ = w'.cell? ⟨g, j, none⟩ := fun g j hn => World.cell?_setCell_other _ _ _ _ (fun e => by have : ob = g := congrArg Addr.block e; omega)
        exact ⟨(e2 _ _ l1).trans S3.1, (e2 _ _ l2).trans S3.2⟩
      have HN : Hid (Oq wb (w'.setCell ⟨ob, 1, none⟩ (.slice a3 mm k3)) ob (.slice va ws.length vc) (.slice a3 mm k3) s.rg (t + 1)) := f3
      clear f3 ho hb hb' hk HQ HI cR
      (refine hK.out _ _ S3 (fun hHeld => ?_); clear hK K; try simp only [Act.put, List.setIfInBounds_toArray, List.set_cons_zero, List.set_cons_succ])
      refine rgT 11 (h := ?_)
      (refine rgS 12 (h := fun K hK => ?_); go_simp)
      (refine hK.out _ _ S4 (fun hHeld => ?_); clear hK K; try simp only [Act.put, List.setIfInBounds_toArray, List.set_cons_zero, List.set_cons_succ])
      refine wpAnyH_done (by kernel_rfl) ?_ _
      clear S3 S4 c3 z3
      go_wp2
      go_roundw
      case rel => exact ⟨t + 1, _, by go_num, by omega, HN.out⟩
      case measure => simp [intOf]; omega
    · have htn : t = R.n := by omega
      have er : wr.heap[w.heap.size]? = some (.cells #[.slice none 0 0, .slice none 0 0] 51) := (HQ.out.k.block _ (by have := HB.out.2.2.1; omega) (by show ¬ w.heap.size = ob; omega)).trans HB.out.2.2.2.1
      have cA : wr.cell? ⟨ob, 0, none⟩ = some (.slice va ws.length vc) := (cell?_heap HQ.out.b 0).trans rfl
      have cB : wr.cell? ⟨ob, 1, none⟩ = some (.slice ra (regsL s.rg t).length rc) := (cell?_heap HQ.out.b 1).trans rfl
      have r0 := (cell?_heap er 0).trans rfl
      have r1 := (cell?_heap er 1).trans rfl
      have q0 := frozen?_heap er 0
      have q1 := frozen?_heap er 1
      have e1 : (wr.setCell ⟨w.heap.size, 0, none⟩ (.slice va ws.length vc)).heap[w.heap.size]? = some (.cells #[.slice va ws.length vc, .slice none 0 0] 51) := heapSet er _
      have z1 : ((wr.setCell ⟨w.heap.size, 0, none⟩ (.slice va ws.length vc)).setCell ⟨w.heap.size, 1, none⟩ (.slice ra (regsL s.rg t).length rc)).heap[w.heap.size]? = some (.cells #[.slice va ws.length vc, .slice ra (regsL s.rg t).length rc] 51) := heapSet e1 _
      have ks : Keeps (fun x => x = w.heap.size) wr ((wr.setCell ⟨w.heap.size, 0, none⟩ (.slice va ws.length vc)).setCell ⟨w.heap.size, 1, none⟩ (.slice ra (regsL s.rg t).length rc)) := Keeps.setCell (B := fun x => x = w.heap.size) (Keeps.setCell (B := fun x => x = w.heap.size) (Keeps.refl _ _) rfl _) rfl _
      have HX : Hid (OwW ((wr.setCell ⟨w.heap.size, 0, none⟩ (.slice va ws.length vc)).setCell ⟨w.heap.size, 1, none⟩ (.slice ra (regsL s.rg t).length rc)) w.heap.size (.slice va ws.length vc) ws ∧ OwW ((wr.setCell ⟨w.heap.size, 0, none⟩ (.slice va ws.length vc)).setCell ⟨w.heap.size, 1, none⟩ (.slice ra (regsL s.rg t).length rc)) w.heap.size (.slice ra (regsL s.rg t).length rc) (regsL s.rg t) ∧ Below w.heap.size w ((wr.setCell ⟨w.heap.size, 0, none⟩ (.slice va ws.length vc)).setCell ⟨w.heap.size, 1, none⟩ (.slice ra (regsL s.rg t).length rc)) ∧ t = R.n) := by
        have hz := HB.out.2.2.1
        have o1 : OwW wr (w.heap.size + 1) (.slice va ws.length vc) ws := owK HB.out.2.1 HQ.out.k (fun g hg e => by have := HB.out.2.2.2.2 g hg; omega)
        refine ⟨(owK o1 ks (fun g hg e => by have := (World.ownsRow.lt o1 g hg).1; omega)).down (by omega), (owK HQ.out.o ks (fun g hg e => by have := (World.ownsRow.lt HQ.out.o g hg).1; omega)).down (by omega), ?_, htn⟩
        have kk : Keeps (fun x => w.heap.size ≤ x) w ((wr.setCell ⟨w.heap.size, 0, none⟩ (.slice va ws.length vc)).setCell ⟨w.heap.size, 1, none⟩ (.slice ra (regsL s.rg t).length rc)) := (HB.out.1.trans (HQ.out.k.mono (fun x e => by show w.heap.size ≤ x; omega))).trans (ks.mono (fun x e => by show w.heap.size ≤ x; omega))
        exact kk.below (Nat.le_refl _) (fun x hx e => by omega)
      clear e1 ks htn rp
      go_wp2
      refine bodyPost_ret (results_cell_row rfl _ _ w.heap.size _ _ (0, 0) _ (by rfl) z1 Tryz.underlying51 rfl (by kernel_rfl)) rfl ⟨va, vc, ra, rc, by rw [← HX.out.2.2.2], HX.out.1, by rw [← HX.out.2.2.2]; exact HX.out.2.1, HX.out.2.2.1⟩
end Go.Proofs.YtdpebhdjcgiboaaGreat

namespace Go.Proofs.YtdpebhdjcgiboaaGreat
set_option linter.unusedSimpArgs false
open Go.ChangeShapes Go.WideShapes Go.ChangeAt Go.RowKit Go.MuLone Go.RwLone
set_option linter.unusedVariables false
set_option maxRecDepth 100000
set_option maxHeartbeats 3200000
theorem rrun_no (w : World) (C : Nat) (ca : Option Addr) (cc : Nat) (ta : Option Addr) (tc : Nat) (tvf : Nat → Value) (cs : List Int) (tl : List (List I8)) (h : LitG w C ca cc ta tc tvf cs tl) (hC : C ≤ w.heap.size) (hsd : soundP cs tl = false) (s : ByteArray) :
    Calls Tryz.prog 26 #[.agg (litC ca cs.length cc ta tl.length tc), .string s] w fun e w' => e = .returned (.tuple #[.agg #[.slice none 0 0, .slice none 0 0], .int .i64 35]) ∧ Below w.heap.size w w' := by
  have k0 : Keeps (fun _ => False) w (rnG w (litC ca cs.length cc ta tl.length tc)) := ((Keeps.refl _ _).alloc _).alloc _
  have sz : (rnG w (litC ca cs.length cc ta tl.length tc)).heap.size = w.heap.size + 2 := by rw [szAl, szAl]
  have HL := rlay_no (rnG w (litC ca cs.length cc ta tl.length tc)) C ca cc ta tc tvf cs tl (h.later (k0.below hC (fun _ _ e => e))) (by omega) hsd
  have HLL : Hid (∀ _ : Unit, _) := fun _ => HL
  have HR : Hid ((rnG w (litC ca cs.length cc ta tl.length tc)).heap[w.heap.size + 1]? = some (.cells #[.slice none 0 0, .slice none 0 0] 51) ∧ Keeps (fun _ => False) w (rnG w (litC ca cs.length cc ta tl.length tc))) := ⟨heap_alloc_last _ _ _ (szAl _ _).symm, k0⟩
  clear h hsd HL k0
  go_enter Tryz.func26, Tryz.ntmps26
  go_wp2_with fail
  refine (HLL.out ()).mono ?_
  rintro e w2 ⟨rfl, k2⟩
  have er : w2.heap[w.heap.size + 1]? = some (.cells #[.slice none 0 0, .slice none 0 0] 51) := (k2.block _ (by omega) (fun e => e)).trans HR.out.1
  have r0 := (cell?_heap er 0).trans rfl
  have r1 := (cell?_heap er 1).trans rfl
  have q0 := frozen?_heap er 0
  have q1 := frozen?_heap er 1
  have z1 : ((w2.setCell ⟨w.heap.size + 1, 0, none⟩ (.slice none 0 0)).setCell ⟨w.heap.size + 1, 1, none⟩ (.slice none 0 0)).heap[w.heap.size + 1]? = some (.cells #[.slice none 0 0, .slice none 0 0] 51) := by simp [World.setCell, Array.getElem?_modify, er]
  have HX : Hid (Below w.heap.size w ((w2.setCell ⟨w.heap.size + 1, 0, none⟩ (.slice none 0 0)).setCell ⟨w.heap.size + 1, 1, none⟩ (.slice none 0 0))) := Keeps.below (B := fun x => w.heap.size ≤ x) ((Keeps.setCell (B := fun x => w.heap.size ≤ x) (((HR.out.2.trans k2).mono (fun _ e => e.elim)).setCell (p := ⟨w.heap.size + 1, 0, none⟩) (by show w.heap.size ≤ w.heap.size + 1; omega) _) (by show w.heap.size ≤ w.heap.size + 1; omega) _)) (Nat.le_refl _) (fun x hx e => by omega)
  clear k2 er HR HLL
  go_wp2
  exact bodyPost_ret (results_row_tmp (p := 4) (ty := 51) (q := 5) rfl _ _ (w.heap.size + 1) 51 _ (0, 0) _ rfl z1 Tryz.underlying51 rfl (by kernel_rfl)) rfl ⟨rfl, HX.out⟩
theorem PM_play {R : Rd} {ins : Nat → List I8} {n : Nat} (hi : R.ins = ins) (hn : R.n = n) (vs us : List (Int × Int × Int)) (l l' : Nat) (a : Hp × Ls) : (playP (PM R) us l' (playP (PM R) vs l a).2.2).2.2 = (playP (pureM ins n) us l' (playP (pureM ins n) vs l a).2.2).2.2 := by
  subst hi hn
  rfl
theorem dL_drain : dL (ByteArray.mk #[160]).data.toList = [(6, 0, 0)] := by decide
/-- The document's Run. -/
theorem rrunG (w : World) (C : Nat) (ca : Option Addr) (cc : Nat) (ta : Option Addr) (tc : Nat) (tvf : Nat → Value) (cs : List Int) (tl : List (List I8)) (h : LitG w C ca cc ta tc tvf cs tl) (hC : C ≤ w.heap.size) (hsd : soundP cs tl = true) (s : ByteArray) (hs : s.size ≤ 1048576) :
    Calls Tryz.prog 26 #[.agg (litC ca cs.length cc ta tl.length tc), .string s] w fun e w' => ∃ c1 k1 c2 k2, e = .returned (.tuple #[.agg #[.slice c1 (wlL (endA cs tl (dL s.data.toList)).2.wo cs.length).length k1, .slice c2 (regsL (endA cs tl (dL s.data.toList)).2.rg tl.length).length k2], .int .i64 0]) ∧ OwW w' w.heap.size (.slice c1 (wlL (endA cs tl (dL s.data.toList)).2.wo cs.length).length k1) (wlL (endA cs tl (dL s.data.toList)).2.wo cs.length) ∧ OwW w' w.heap.size (.slice c2 (regsL (endA cs tl (dL s.data.toList)).2.rg tl.length).length k2) (regsL (endA cs tl (dL s.data.toList)).2.rg tl.length) ∧ Below w.heap.size w w' := by
  obtain ⟨hc4, hn4, -⟩ := sound_facts hsd
  have hef := (end_facts (budB (insL tl) tl.length) hsd (beg_facts hsd).1 (dL s.data.toList)).2.2 1099511627776 1099511627776 (by omega) (by omega)
  have k0 : Keeps (fun _ => False) w (rnG w (litC ca cs.length cc ta tl.length tc)) := ((Keeps.refl _ _).alloc _).alloc _
  have sz : (rnG w (litC ca cs.length cc ta tl.length tc)).heap.size = w.heap.size + 2 := by rw [szAl, szAl]
  have HL := rlay_any (rnG w (litC ca cs.length cc ta tl.length tc)) C ca cc ta tc tvf cs tl (h.later (k0.below hC (fun _ _ e => e))) (by omega) hsd
  have HLL : Hid (∀ _ : Unit, _) := fun _ => HL
  have HR : Hid ((rnG w (litC ca cs.length cc ta tl.length tc)).heap[w.heap.size + 1]? = some (.cells #[.slice none 0 0, .slice none 0 0] 51) ∧ Keeps (fun _ => False) w (rnG w (litC ca cs.length cc ta tl.length tc))) := ⟨heap_alloc_last _ _ _ (szAl _ _).symm, k0⟩
  have HEF : Hid ((playP (pureM (insL tl) tl.length) [(6, 0, 0)] 1099511627776 (playP (pureM (insL tl) tl.length) (dL s.data.toList) 1099511627776 (begA cs tl)).2.2).2.2 = endA cs tl (dL s.data.toList)) := hef.2.2
  clear h hsd HL k0 hef
  generalize hvs : dL s.data.toList = vs at *
  have HVS : Hid (dL s.data.toList = vs) := hvs
  clear hvs
  generalize hE : endA cs tl vs = E at *
  clear hE
  go_enter Tryz.func26, Tryz.ntmps26
  go_wp2_with fail
  refine (HLL.out ()).mono ?_
  rintro e w2 ⟨R, hb, qb, rfl, hRok, hRn, hRw, hRi, b⟩
  have HB : Hid (Bs (rnG w (litC ca cs.length cc ta tl.length tc)) w2 R hb qb (begA cs tl)) := b
  have HRR : Hid (RdOk R ∧ R.n = tl.length ∧ R.wd = cs.length ∧ R.ins = insL tl) := ⟨hRok, hRn, hRw, hRi⟩
  clear b hRok hRn hRw hRi HLL
  go_wp2_with fail
  refine (rbplay _ w2 R HRR.out.1 hb qb (begA cs tl) HB.out s hs).mono ?_
  rintro e w3 ⟨d3, -, -, rfl, b3⟩
  rw [HVS.out] at b3
  have H3 : Hid (Bs (rnG w (litC ca cs.length cc ta tl.length tc)) w3 R hb qb (playP (PM R) vs 1099511627776 (begA cs tl)).2.2) := b3
  clear b3 HB
  go_wp2_with fail
  refine (rbplay _ w3 R HRR.out.1 hb qb _ H3.out (ByteArray.mk #[160]) (by decide)).mono ?_
  rintro e w4 ⟨d4, -, -, rfl, b4⟩
  rw [dL_drain] at b4
  have H4 : Hid (Bs (rnG w (litC ca cs.length cc ta tl.length tc)) w4 R hb qb E) := by
    have q := (PM_play HRR.out.2.2.2 HRR.out.2.1 vs [(6, 0, 0)] 1099511627776 1099511627776 (begA cs tl)).trans HEF.out
    show Bs _ _ _ _ _ _
    rw [← q]
    exact b4
  clear b4 H3
  go_wp2_with fail
  refine (rout_any R HRR.out.1 w4 E.2 H4.out.o H4.out.cw (by rw [HRR.out.2.2.1]; omega)).mono ?_
  rintro e w5 ⟨c1, k1, c2, k2, rfl, o1, o2, b5⟩
  rw [HRR.out.2.2.1] at o1 ⊢
  rw [HRR.out.2.1] at o2 ⊢
  have s4 := H4.out.bl.size
  have s5 := b5.size
  have er : w5.heap[w.heap.size + 1]? = some (.cells #[.slice none 0 0, .slice none 0 0] 51) := (b5.block _ (by omega)).trans ((H4.out.bl.block _ (by omega)).trans HR.out.1)
  have r0 := (cell?_heap er 0).trans rfl
  have r1 := (cell?_heap er 1).trans rfl
  have q0 := frozen?_heap er 0
  have q1 := frozen?_heap er 1
  obtain ⟨m1, hm1⟩ : ∃ m1, (wlL E.2.wo cs.length).length = m1 := ⟨_, rfl⟩
  obtain ⟨m2, hm2⟩ : ∃ m2, (regsL E.2.rg tl.length).length = m2 := ⟨_, rfl⟩
  rw [hm1] at o1
  rw [hm2] at o2
  rw [hm1, hm2]
  have e1 : (w5.setCell ⟨w.heap.size + 1, 0, none⟩ (.slice c1 m1 k1)).heap[w.heap.size + 1]? = some (.cells #[.slice c1 m1 k1, .slice none 0 0] 51) := heapSet er _
  have z1 : ((w5.setCell ⟨w.heap.size + 1, 0, none⟩ (.slice c1 m1 k1)).setCell ⟨w.heap.size + 1, 1, none⟩ (.slice c2 m2 k2)).heap[w.heap.size + 1]? = some (.cells #[.slice c1 m1 k1, .slice c2 m2 k2] 51) := heapSet e1 _
  have ks : Keeps (fun x => x = w.heap.size + 1) w5 ((w5.setCell ⟨w.heap.size + 1, 0, none⟩ (.slice c1 m1 k1)).setCell ⟨w.heap.size + 1, 1, none⟩ (.slice c2 m2 k2)) := Keeps.setCell (B := fun x => x = w.heap.size + 1) (Keeps.setCell (B := fun x => x = w.heap.size + 1) (Keeps.refl _ _) rfl _) rfl _
  have HX : Hid (OwW ((w5.setCell ⟨w.heap.size + 1, 0, none⟩ (.slice c1 m1 k1)).setCell ⟨w.heap.size + 1, 1, none⟩ (.slice c2 m2 k2)) w.heap.size (.slice c1 m1 k1) (wlL E.2.wo cs.length) ∧ OwW ((w5.setCell ⟨w.heap.size + 1, 0, none⟩ (.slice c1 m1 k1)).setCell ⟨w.heap.size + 1, 1, none⟩ (.slice c2 m2 k2)) w.heap.size (.slice c2 m2 k2) (regsL E.2.rg tl.length) ∧ Below w.heap.size w ((w5.setCell ⟨w.heap.size + 1, 0, none⟩ (.slice c1 m1 k1)).setCell ⟨w.heap.size + 1, 1, none⟩ (.slice c2 m2 k2)) ∧ (wlL E.2.wo cs.length).length = m1 ∧ (regsL E.2.rg tl.length).length = m2) := by
    refine ⟨(owK o1 ks (fun g hg e => by have := (World.ownsRow.lt o1 g hg).1; omega)).down (by omega), (owK o2 ks (fun g hg e => by have := (World.ownsRow.lt o2 g hg).1; omega)).down (by omega), ?_, hm1, hm2⟩
    have b0 : Below w.heap.size w (rnG w (litC ca cs.length cc ta tl.length tc)) := HR.out.2.below (Nat.le_refl _) (fun _ _ e => e)
    exact ((b0.trans (H4.out.bl.mono (by omega))).trans (b5.mono (by omega))).trans (ks.below (by omega) (fun x hx e => by omega))
  clear e1 ks o1 o2 b5 H4 HR er hm1 hm2 HRR
  go_wp2
  refine bodyPost_ret (results_row_tmp (p := 4) (ty := 51) (q := 5) rfl _ _ (w.heap.size + 1) 51 _ (0, 0) _ rfl z1 Tryz.underlying51 rfl (by kernel_rfl)) rfl ⟨c1, k1, c2, k2, ?_, ?_⟩
  · rw [HX.out.2.2.2.1, HX.out.2.2.2.2]
    rfl
  · rw [HX.out.2.2.2.1, HX.out.2.2.2.2]
    exact ⟨HX.out.1, HX.out.2.1, HX.out.2.2.1⟩
end Go.Proofs.YtdpebhdjcgiboaaGreat
