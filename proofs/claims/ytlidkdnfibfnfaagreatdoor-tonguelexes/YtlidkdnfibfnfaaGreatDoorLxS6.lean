import Derived.Test.YtlidkdnfibfnfaaGreatDoorLxS5
import Derived.Test.YtlidkdnfibfnfaaGreatDoorRegG
namespace Go.Proofs.YtlidkdnfibfnfaaGreatDoor
set_option linter.unusedSimpArgs false
open Go.ChangeShapes Go.WideShapes Go.ChangeAt Go.RowKit
set_option linter.unusedVariables false
set_option maxRecDepth 100000
def sgs : List (List UInt8) := [[60, 62], [60, 61], [62, 61], [124, 124], [33, 61], [40], [41], [44], [59], [42], [43], [45], [47], [37], [61], [60], [62], [64]]
/-- What is asked of the packages' variables. -/
structure GX (w : World) : Prop where
  mx : ∃ m, w.cell? ⟨2, 0, none⟩ = some (.int .i64 m)
  kw : ∀ j (h : j < kws.length), w.cell? ⟨1, j, none⟩ = some (.string ⟨kws[j].toArray⟩)
  sg : ∀ j (h : j < sgs.length), w.cell? ⟨0, j, none⟩ = some (.string ⟨sgs[j].toArray⟩)
  er : ∃ ev, w.cell? ⟨5, 0, none⟩ = some ev ∧ (ev = .nilIface ∨ ∃ te pe, ev = .iface te pe)
  few : 11 ≤ w.heap.size
theorem GX.later {w w' : World} {B : Nat} (h : GX w) (hb : Below B w w') (hB : 11 ≤ B) : GX w' := by
  obtain ⟨m, hm⟩ := h.mx
  obtain ⟨ev, he, hev⟩ := h.er
  refine ⟨⟨m, (hb.cell (by show 2 < B; omega)).trans hm⟩, fun j hj => (hb.cell (by show 1 < B; omega)).trans (h.kw j hj), fun j hj => (hb.cell (by show 0 < B; omega)).trans (h.sg j hj), ⟨ev, (hb.cell (by show 5 < B; omega)).trans he, hev⟩, ?_⟩
  have := hb.size
  have := h.few
  omega
theorem GX.next {w w' : World} (h : GX w) (hb : Below w.heap.size w w') : GX w' := h.later hb h.few
theorem ix_bl (c : UInt8) : (0 ≤ Lib.indexByte [32, 9, 10, 13] c) ↔ isBl c.toNat := by
  unfold isBl
  simp only [Lib.indexByte, byte_eq]
  have e1 : (32 : UInt8).toNat = 32 := rfl
  have e2 : (9 : UInt8).toNat = 9 := rfl
  have e3 : (10 : UInt8).toNat = 10 := rfl
  have e4 : (13 : UInt8).toNat = 13 := rfl
  rw [e1, e2, e3, e4]
  generalize c.toNat = n
  by_cases h1 : n = 32
  · subst h1; simp
  · by_cases h2 : n = 9
    · subst h2; simp
    · by_cases h3 : n = 10
      · subst h3; simp
      · by_cases h4 : n = 13
        · subst h4; simp
        · simp [Ne.symm h1, Ne.symm h2, Ne.symm h3, Ne.symm h4, h1, h2, h3, h4]
/-- How going over blanks and remarks ends. -/
def PassR (R : Nat) (s : ByteArray) (p : Nat) (e : Ending) (w' : World) : Prop := match gapP s p with
  | .error q => e = gaveUp 151 q
  | .ok j => e = .returned (.tuple #[]) ∧ Sc w' R s j
def atOf (R : Nat) (w : World) : Nat := match w.cell? ⟨R, 1, none⟩ with
  | some (.int _ n) => n.toNat
  | _ => 0
theorem Sc.at {w : World} {R : Nat} {s : ByteArray} {p : Nat} (h : Sc w R s p) : atOf R w = p := by
  unfold atOf
  rw [h.cell1]
  simp
set_option maxHeartbeats 3200000 in
theorem passT (R : Nat) (s : ByteArray) (p : Nat) (w : World) (h : Sc w R s p) (hs : s.size ≤ 65536) (hp : p ≤ s.size) (hg : GX w) (hR : 11 ≤ R) :
    Calls Tryz.prog 13 #[.pointer (some ⟨R, 0, none⟩)] w fun e w' => PassR R s p e w' ∧ Fr R w w' := by
  have HS : Hid (Sc w R s p) := h
  have HG : Hid (GX w) := hg
  clear h hg
  go_enter Tryz.func13, Tryz.ntmps13
  go_wp2
  go_loopw [] (fun wr => ∃ q : Nat, q ≤ s.size ∧ Sc wr R s q ∧ Fr R w wr ∧ gapP s p = gapP s q) (fun wr => s.size - atOf R wr)
  case atStart => exact ⟨p, hp, HS.out, Fr.refl _ _, rfl⟩
  case round =>
    obtain ⟨q, hq, hsc, hfr, hgp⟩ := hrel
    have HF : Hid (Fr R w wr) := hfr
    have HP : Hid (gapP s p = gapP s q) := hgp
    have HSq : Hid (Sc wr R s q) := hsc
    have HAt : Hid (atOf R wr = q) := hsc.at
    have c0 := hsc.cell0
    have c1 := hsc.cell1
    clear hfr hgp hsc
    by_cases hl : q < s.size
    · have hli : (q : Int) < (s.size : Int) := by omega
      go_wp2_with fail
      go_quiet (fail)
      go_wp2_with fail
      have HS1 : Hid (Sc (wr.drewN nq) R s q) := HSq.out.step ⟨_, rfl⟩
      have HF1 : Hid (Fr R w (wr.drewN nq)) := HF.out.trans (drewN_fr ⟨_, rfl⟩)
      clear HSq HF c0 c1
      generalize wr.drewN nq = W1 at *
      have hby : bA s q = s[q].toNat := bA_of hl
      have hbl : (0 ≤ Lib.indexByte [32, 9, 10, 13] s[q]) ↔ isBl (bA s q) := by rw [hby]; exact ix_bl _
      have HIB : Hid (∀ W : World, Calls Tryz.prog 22 #[.string ⟨#[32, 9, 10, 13]⟩, .int .u8 (s[q].toNat : Int)] W fun e w' => e = .returned (.int .i64 (Lib.indexByte [32, 9, 10, 13] s[q])) ∧ w' = W) := fun W => by
        have := Tryz.strings_IndexByte ⟨#[32, 9, 10, 13]⟩ (s[q].toNat : Int) W
        rw [show ((s[q].toNat : Int).toNat.toUInt8) = s[q] from by simp] at this
        exact this
      have HBl : Hid _ := hbl
      have HBy : Hid (bA s q = s[q].toNat) := hby
      clear hbl hby
      generalize hc : Lib.indexByte [32, 9, 10, 13] s[q] = r at *
      clear hc
      (refine wp_region_held_drew (S := (fun w' => w'.cell? ⟨R, 0, none⟩ = some (.string s) ∧ w'.cell? ⟨R, 1, none⟩ = some (.int .i64 q))) (by kernel_rfl) ⟨HS1.out.cell0, HS1.out.cell1⟩ (fun hHeld => ?_); simp only [List.size_toArray, List.length_cons, List.length_nil, Nat.reduceAdd, Array.replicate_succ, Array.replicate_zero, List.push_toArray, List.append_toArray, List.nil_append, List.cons_append])
      (refine tk0 (v := ?_) (by kernel_rfl) (by kernel_rfl) (by kernel_rfl) (fun _ _ _ h => h) (Or.inl ⟨by rfl, ?_⟩) (by assumption) ?_; rotate_left; (focus (intro w hSw; (try dsimp only at hSw); go_simp; (try first | (rw [dif_pos (by omega)]; simp only [Result.andThen_ok]) | rw [if_pos (by omega)]); (try with_reducible rfl); done)); try simp only [Act.put, List.setIfInBounds_toArray, List.set_cons_zero, List.set_cons_succ])
      (refine tk1 (v := ?_) (by kernel_rfl) (by kernel_rfl) (by kernel_rfl) (fun _ _ _ h => h) (Or.inl ⟨by rfl, ?_⟩) (by assumption) ?_; rotate_left; (focus (intro w hSw; (try dsimp only at hSw); go_simp; (try first | (rw [dif_pos (by omega)]; simp only [Result.andThen_ok]) | rw [if_pos (by omega)]); (try with_reducible rfl); done)); try simp only [Act.put, List.setIfInBounds_toArray, List.set_cons_zero, List.set_cons_succ])
      (refine tk2 (v := ?_) (by kernel_rfl) (by kernel_rfl) (by kernel_rfl) (fun _ _ _ h => h) (Or.inl ⟨by rfl, ?_⟩) (by assumption) ?_; rotate_left; (focus (intro w hSw; (try dsimp only at hSw); go_simp; (try first | (rw [dif_pos (by omega)]; simp only [Result.andThen_ok]) | rw [if_pos (by omega)]); (try with_reducible rfl); done)); try simp only [Act.put, List.setIfInBounds_toArray, List.set_cons_zero, List.set_cons_succ])
      (refine tk3 (v := ?_) (by kernel_rfl) (by kernel_rfl) (by kernel_rfl) (fun _ _ _ h => h) (Or.inl ⟨by rfl, ?_⟩) (by assumption) ?_; rotate_left; (focus (intro w hSw; (try dsimp only at hSw); go_simp; (try first | (rw [dif_pos (by omega)]; simp only [Result.andThen_ok]) | rw [if_pos (by omega)]); (try with_reducible rfl); done)); try simp only [Act.put, List.setIfInBounds_toArray, List.set_cons_zero, List.set_cons_succ])
      (refine tk4 (v := ?_) (by kernel_rfl) (by kernel_rfl) (by kernel_rfl) (fun _ _ _ h => h) (Or.inl ⟨by rfl, ?_⟩) (by assumption) ?_; rotate_left; (focus (intro w hSw; (try dsimp only at hSw); go_simp; (try first | (rw [dif_pos (by omega)]; simp only [Result.andThen_ok]) | rw [if_pos (by omega)]); (try with_reducible rfl); done)); try simp only [Act.put, List.setIfInBounds_toArray, List.set_cons_zero, List.set_cons_succ])
      (refine tk5 (v := ?_) (by kernel_rfl) (by kernel_rfl) (by kernel_rfl) (fun _ _ _ h => h) (Or.inl ⟨by rfl, ?_⟩) (by assumption) ?_; rotate_left; (focus (intro w hSw; (try dsimp only at hSw); go_simp; (try first | (rw [dif_pos (by omega)]; simp only [Result.andThen_ok]) | rw [if_pos (by omega)]); (try with_reducible rfl); done)); try simp only [Act.put, List.setIfInBounds_toArray, List.set_cons_zero, List.set_cons_succ])
      (refine tk6 (v := ?_) (by kernel_rfl) (by kernel_rfl) (by kernel_rfl) (fun _ _ _ h => h) (Or.inl ⟨by rfl, ?_⟩) (by assumption) ?_; rotate_left; (focus (intro w hSw; (try dsimp only at hSw); go_simp; (try first | (rw [dif_pos (by omega)]; simp only [Result.andThen_ok]) | rw [if_pos (by omega)]); (try with_reducible rfl); done)); try simp only [Act.put, List.setIfInBounds_toArray, List.set_cons_zero, List.set_cons_succ])
      (refine tk7 (v := ?_) (by kernel_rfl) (by kernel_rfl) (by kernel_rfl) (fun _ _ _ h => h) (Or.inl ⟨by rfl, ?_⟩) (by assumption) ?_; rotate_left; (focus (intro w hSw; (try dsimp only at hSw); go_simp; (try first | (rw [dif_pos (by omega)]; simp only [Result.andThen_ok]) | rw [if_pos (by omega)]); (try with_reducible rfl); done)); try simp only [Act.put, List.setIfInBounds_toArray, List.set_cons_zero, List.set_cons_succ])
      (refine tk8 (v := ?_) (by kernel_rfl) (by kernel_rfl) (by kernel_rfl) (fun _ _ _ h => h) (Or.inl ⟨by rfl, ?_⟩) (by assumption) ?_; rotate_left; (focus (intro w hSw; (try dsimp only at hSw); go_simp; (try first | (rw [dif_pos (by omega)]; simp only [Result.andThen_ok]) | rw [if_pos (by omega)]); (try with_reducible rfl); done)); try simp only [Act.put, List.setIfInBounds_toArray, List.set_cons_zero, List.set_cons_succ])
      (refine wpAnyH_ready (rs := [9]) (by kernel_rfl) (by simp) ?_; refine ar9 (fun K hK => ?_) AllReadyH.nil; go_simp)
      refine (HIB.out _).mono ?_
      rintro e w2 ⟨rfl, rfl⟩
      (refine hK.out _ _ ⟨HS1.out.cell0, HS1.out.cell1⟩ (fun hHeld => ?_); clear hK K; try simp only [Act.put, List.setIfInBounds_toArray, List.set_cons_zero, List.set_cons_succ])
      (refine tk10 (v := ?_) (by kernel_rfl) (by kernel_rfl) (by kernel_rfl) (fun _ _ _ h => h) (Or.inl ⟨by rfl, ?_⟩) (by assumption) ?_; rotate_left; (focus (intro w hSw; (try dsimp only at hSw); go_simp; (try first | (rw [dif_pos (by omega)]; simp only [Result.andThen_ok]) | rw [if_pos (by omega)]); (try with_reducible rfl); done)); try simp only [Act.put, List.setIfInBounds_toArray, List.set_cons_zero, List.set_cons_succ])
      (refine tk11 (v := ?_) (by kernel_rfl) (by kernel_rfl) (by kernel_rfl) (fun _ _ _ h => h) (Or.inl ⟨by rfl, ?_⟩) (by assumption) ?_; rotate_left; (focus (intro w hSw; (try dsimp only at hSw); go_simp; (try first | (rw [dif_pos (by omega)]; simp only [Result.andThen_ok]) | rw [if_pos (by omega)]); (try with_reducible rfl); done)); try simp only [Act.put, List.setIfInBounds_toArray, List.set_cons_zero, List.set_cons_succ])
      refine wpAnyH_done (by kernel_rfl) ?_ _
      have HS2 : Hid (Sc W1.drew R s q) := HS1.out.drew
      have HF2 : Hid (Fr R w W1.drew) := HF1.out.drew
      clear HS1 HF1 HIB
      generalize W1.drew = W2 at *
      by_cases hb : isBl (bA s q)
      · have hr := HBl.out.2 hb
        have HN : Hid (gapP s p = gapP s (q + 1)) := HP.out.trans (gapP_bl hl hb)
        have c1 := HS2.out.cell1
        have f1 := HS2.out.free 1
        clear hb
        go_wp2
        go_roundw
        case rel => exact ⟨q + 1, by omega, by have := HS2.out.move (q + 1); rwa [show ((q + 1 : Nat) : Int) = (q : Int) + 1 from by omega] at this, HF2.out.setCell rfl _, HN.out⟩
        case measure =>
          have hm := HS2.out.move (q + 1)
          rw [show ((q + 1 : Nat) : Int) = (q : Int) + 1 from by omega] at hm
          rw [hm.at, HAt.out]
          omega
      · have hr : ¬ 0 ≤ r := fun h => hb (HBl.out.1 h)
        have HNB : Hid (¬ isBl (bA s q)) := hb
        clear hb
        go_wp2_with fail
        refine (restT R s q W2 HS2.out hs hq).mono ?_
        rintro e w3 ⟨rfl, hd⟩
        have HS3 : Hid (Sc w3 R s q) := HS2.out.step hd
        have HF3 : Hid (Fr R w w3) := HF2.out.trans (drewN_fr hd)
        clear hd HS2 HF2
        have HT1 : Hid _ := rest_two (s := s) (p := q) 45 45 hq
        have HT2 : Hid _ := rest_two (s := s) (p := q) 47 42 hq
        have hes : (s.extract q s.size).size ≤ 65536 := by rw [ByteArray.size_extract]; omega
        go_wp2_with fail
        refine (preT (s.extract q s.size) ⟨#[45, 45]⟩ w3 (by decide) hes).mono ?_
        rintro e w4 ⟨rfl, rfl⟩
        rw [HT1.out, show (45 : UInt8).toNat = 45 from rfl]
        by_cases h2 : bA s q = 45 ∧ bA s (q + 1) = 45
        · rw [decide_eq_true h2]
          have HN : Hid (gapP s p = gapP s (lineP s q)) := by
            show gapP s p = gapP s (lineP s q)
            rw [HP.out, gapP_line hl h2.1 h2.2, lineP_step hl (by rw [h2.1]; decide)]
          have hle := lineP_le s q hq
          have hge : q < lineP s q := by
            rw [lineP_step hl (by rw [h2.1]; decide)]
            have := lineP_ge s (q + 1)
            omega
          clear h2
          go_wp2_with fail
          refine (passLineT R s q w4 HS3.out hs hq).mono ?_
          rintro e w5 ⟨rfl, hs5, hf5⟩
          have HS5 : Hid (Sc w5 R s (lineP s q)) := hs5
          have HF5 : Hid (Fr R w w5) := HF3.out.trans hf5
          clear hs5 hf5
          go_wp2
          go_roundw
          case rel => exact ⟨lineP s q, hle, HS5.out, HF5.out, HN.out⟩
          case measure => rw [HS5.out.at, HAt.out]; omega
        · rw [decide_eq_false h2]
          have HN2 : Hid (¬ (bA s q = 45 ∧ bA s (q + 1) = 45)) := h2
          clear h2
          go_wp2_with fail
          refine (restT R s q w4 HS3.out hs hq).mono ?_
          rintro e w5 ⟨rfl, hd⟩
          have HS5 : Hid (Sc w5 R s q) := HS3.out.step hd
          have HF5 : Hid (Fr R w w5) := HF3.out.trans (drewN_fr hd)
          clear hd HS3 HF3
          go_wp2_with fail
          refine (preT (s.extract q s.size) ⟨#[47, 42]⟩ w5 (by decide) hes).mono ?_
          rintro e w6 ⟨rfl, rfl⟩
          rw [HT2.out, show (47 : UInt8).toNat = 47 from rfl, show (42 : UInt8).toNat = 42 from rfl]
          by_cases h3 : bA s q = 47 ∧ bA s (q + 1) = 42
          · rw [decide_eq_true h3]
            have HN : Hid (gapP s p = match remP s (q + 2) with | none => .error q | some j => gapP s (j + 2)) := HP.out.trans (gapP_rem hl h3.1 h3.2)
            have hq2 : q + 2 ≤ s.size := by
              have : q + 1 < s.size := bA_lt (by rw [h3.2]; decide)
              omega
            clear h3
            obtain ⟨m, hm⟩ := (HG.out.later HF5.out.toBelow hR).mx
            have HPR : Hid (∀ _ : Unit, _) := fun _ => passRemarkT R s q w6 HS5.out hs hq2 m hm
            clear hm
            go_wp2_with fail
            refine (HPR.out ()).mono ?_
            rintro e w7 ⟨hre, hf7⟩
            have HF7 : Hid (Fr R w w7) := HF5.out.trans hf7
            clear hf7
            unfold RemR at hre
            rcases hr2 : remP s (q + 2) with _ | j
            · rw [hr2] at hre
              have HNe : Hid (gapP s p = .error q) := by
                show gapP s p = .error q
                rw [HN.out, hr2]
              dsimp only at hre
              subst hre
              clear hr2
              unfold gaveUp
              go_wp2
              exact ⟨rfl, by unfold PassR; rw [HNe.out]; rfl, HF7.out⟩
            · rw [hr2] at hre
              obtain ⟨rfl, hs7⟩ := hre
              have hge := remP_ge hr2
              have HNe : Hid (gapP s p = gapP s (j + 2)) := by
                show gapP s p = gapP s (j + 2)
                rw [HN.out, hr2]
              have HS7 : Hid (Sc w7 R s (j + 2)) := hs7
              clear hr2 hs7
              go_wp2
              go_roundw
              case rel => exact ⟨j + 2, by omega, HS7.out, HF7.out, HNe.out⟩
              case measure => rw [HS7.out.at, HAt.out]; omega
          · rw [decide_eq_false h3]
            have HN : Hid (gapP s p = .ok q) := HP.out.trans (gapP_else hl HNB.out HN2.out h3)
            clear h3
            go_wp2
            refine bodyPost_ret (results_none rfl _ _ _) rfl ?_
            refine ⟨?_, HF5.out⟩
            unfold PassR
            rw [HN.out]
            exact ⟨rfl, HS5.out⟩
    · have hli : ¬ (q : Int) < (s.size : Int) := by omega
      go_wp2_with fail
      go_quiet (fail)
      go_wp2
      go_end0
      have e : gapP s p = .ok q := by rw [HP.out]; exact gapP_out hl
      refine ⟨?_, HF.out.trans (drewN_fr ⟨_, rfl⟩)⟩
      unfold PassR
      rw [e]
      exact ⟨rfl, HSq.out.step ⟨_, rfl⟩⟩
end Go.Proofs.YtlidkdnfibfnfaaGreatDoor
