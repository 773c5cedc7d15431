import Derived.Test.YteekompojgbkhaaGreatKBmI
import Derived.Deep.DeepCutAuto
namespace Go.Proofs.YteekompojgbkhaaGreat
set_option linter.unusedSimpArgs false
open Go.ChangeShapes Go.WideShapes Go.ChangeAt Go.RowKit Go.MuLone Go.RwLone
set_option linter.unusedVariables false
set_option maxRecDepth 100000
set_option maxHeartbeats 6400000
/-- What a walk's step reads of the book and of the machine in its row. -/
structure RdW (W : World) (l : BkL) (bb g p N nb mb : Nat) (dn : Bool) (rk : Int) (dv mv : Value) (xs ys : List Int) (rem rank : Int → Int) : Prop where
  b2 : W.cell? ⟨bb, 2, none⟩ = some (.int .i64 (N : Int))
  b5 : W.cell? ⟨bb, 5, none⟩ = some (.slice (some ⟨l.rb, 0, none⟩) (N + 1) l.rc)
  b6 : W.cell? ⟨bb, 6, none⟩ = some (.slice (some ⟨l.kb, 0, none⟩) (N + 1) l.kc)
  g3 : W.cell? ⟨g, p + 3, none⟩ = some (.pointer (some ⟨mb, 0, none⟩))
  g5 : W.cell? ⟨g, p + 5, none⟩ = some (.bool dn)
  g9 : W.cell? ⟨g, p + 9, none⟩ = some (.int .i64 rk)
  g10 : W.cell? ⟨g, p + 10, none⟩ = some dv
  g11 : W.cell? ⟨g, p + 11, none⟩ = some mv
  cr : ∀ j, j ≤ N → W.cell? ⟨l.rb, j, none⟩ = some (.int .i64 (rem (j : Int)))
  ck : ∀ j, j ≤ N → W.cell? ⟨l.kb, j, none⟩ = some (.int .i64 (rank (j : Int)))
  od : OwI W 0 dv xs
  om : OwI W 0 mv ys
  fg : ∀ i, W.frozen? ⟨g, i, none⟩ = false
theorem bk_walk (w : World) (l : BkL) (bb g p N nb mb k sl un : Nat) (ranks rk : Int) (bg dn ov en : Bool) (v dv0 mv : Value) (vs xs ys ys' : List Int) (rem rank : Int → Int) (P2 R1 R2 R3 R4 R : World → Prop) (k1 : k < nb) (n1 : nb ≤ 4096) (hvl : vs.length ≤ 4096) (hxl : xs.length ≤ 4096) (hyl : ys.length ≤ 4096) (hyl' : ys'.length ≤ 4096) (N1 : N ≤ 4096)
    (hen : en = (decide (¬ sl = 0) || ov)) (hdn : dn = true → sl = 0 ∧ ov = true)
    (c8 : w.cell? ⟨g, p + 7 + 1, none⟩ = some (.bool bg))
    (F0 : bg = true → R1 w)
    (F1 : bg = false → w.cell? ⟨bb, 7, none⟩ = some (.int .i64 ranks) ∧ w.frozen? ⟨g, p + 7 + 1, none⟩ = false ∧ w.frozen? ⟨g, p + 7 + 2, none⟩ = false ∧ (w.setCell ⟨g, p + 7 + 1, none⟩ (.bool true)).cell? ⟨bb, 7, none⟩ = some (.int .i64 ranks) ∧ (∃ u, (w.setCell ⟨g, p + 7 + 1, none⟩ (.bool true)).cell? ⟨g, p + 7 + 2, none⟩ = some (.int .i64 u)) ∧ P2 ((w.setCell ⟨g, p + 7 + 1, none⟩ (.bool true)).setCell ⟨g, p + 7 + 2, none⟩ (.int .i64 ranks)))
    (F2 : ∀ W, P2 W → (W.drew.cell? ⟨bb, 8, none⟩ = some (.slice (some ⟨l.wb, 0, none⟩) nb l.wc) ∧ W.drew.cell? ⟨g, p + 7, none⟩ = some (.int .i64 (k : Int)) ∧ W.drew.cell? ⟨l.wb, k, none⟩ = some v) ∧ W.drew.cell? ⟨g, p + 7 + 3, none⟩ = some dv0 ∧ OwI W.drew 0 dv0 [] ∧ OwI W.drew 0 v vs ∧ (vs = [] → v = .slice none 0 0) ∧ ∀ v' w7, OwI w7 0 v' vs → Keeps (fun k => dv0.ownBlock = some k) W.drew w7 → (∀ x, v'.ownBlock = some x → dv0.ownBlock = some x ∨ W.drew.heap.size ≤ x) → (w7.cell? ⟨bb, 8, none⟩ = some (.slice (some ⟨l.wb, 0, none⟩) nb l.wc) ∧ w7.cell? ⟨g, p + 7, none⟩ = some (.int .i64 (k : Int)) ∧ w7.cell? ⟨l.wb, k, none⟩ = some v) ∧ w7.cell? ⟨g, p + 7 + 3, none⟩ = some dv0 ∧ w7.frozen? ⟨g, p + 7 + 3, none⟩ = false ∧ ((w7.setCell ⟨g, p + 7 + 3, none⟩ v').cell? ⟨bb, 8, none⟩ = some (.slice (some ⟨l.wb, 0, none⟩) nb l.wc) ∧ (w7.setCell ⟨g, p + 7 + 3, none⟩ v').cell? ⟨g, p + 7, none⟩ = some (.int .i64 (k : Int)) ∧ (w7.setCell ⟨g, p + 7 + 3, none⟩ v').cell? ⟨l.wb, k, none⟩ = some v) ∧ R1 (w7.setCell ⟨g, p + 7 + 3, none⟩ v'))
    (F3 : ∀ W, R1 W → W.cell? ⟨g, p + 3, none⟩ = some (.pointer (some ⟨mb, 0, none⟩)) ∧ Calls Tryz.prog 20 #[.pointer (some ⟨mb, 0, none⟩)] W fun e w' => e = .returned (.bool en) ∧ R2 w')
    (F4 : ∀ W, R2 W → ∃ dv, RdW W l bb g p N nb mb dn rk dv mv xs ys rem rank ∧ (Calls Tryz.prog 21 #[.pointer (some ⟨mb, 0, none⟩)] W fun e w' => e = .returned (.int .i64 (sl : Int)) ∧ w' = W) ∧ (Calls Tryz.prog 22 #[.pointer (some ⟨mb, 0, none⟩)] W fun e w' => e = .returned (.bool ov) ∧ w' = W) ∧ (Calls Tryz.prog 79 #[.pointer (some ⟨mb, 0, none⟩)] W fun e w' => e = .returned (.int .i64 0) ∧ w' = W) ∧ R2 W.drew)
    (G1 : ¬ sl = 0 → sl ≤ N ∧ (sl : Int) ∈ xs ∧ rank (sl : Int) < rk ∧ (∀ ys0 u, ys = ys0 ++ [u] → u = (un : Int) ∧ un ≤ N ∧ rank (sl : Int) < rank u))
    (F5 : ¬ sl = 0 → ∀ W, R2 W → ∀ v' w7, OwI w7 0 v' (ys ++ [(sl : Int)]) → Keeps (fun k => mv.ownBlock = some k) W w7 → (∀ x, v'.ownBlock = some x → mv.ownBlock = some x ∨ W.heap.size ≤ x) → w7.cell? ⟨g, p + 7 + 4, none⟩ = some mv ∧ w7.frozen? ⟨g, p + 7 + 4, none⟩ = false ∧ R3 (w7.setCell ⟨g, p + 7 + 4, none⟩ v'))
    (F5' : sl = 0 → ∀ W, R2 W → R3 W)
    (F6 : ∀ W, R3 W → W.cell? ⟨g, p + 5, none⟩ = some (.bool dn) ∧ W.frozen? ⟨g, p + 5, none⟩ = false ∧ (dn = true ∨ ov = false → R W) ∧ (dn = false → ov = true → R4 (W.setCell ⟨g, p + 5, none⟩ (.bool true))))
    (F7 : ∀ W, R4 W → ∃ dv mv', RdW W l bb g p N nb mb true rk dv mv' xs ys' rem rank ∧ R4 W.drew ∧ R W)
    (G2 : dn = false → ov = true → ∀ u, u ∈ xs → (∃ j : Nat, u = (j : Int) ∧ j ≤ N) ∧ (rem u = 2 ∨ u ∈ ys')) :
    Calls Tryz.prog 43 #[.pointer (some ⟨bb, 0, none⟩), .pointer (some ⟨g, p, none⟩)] w fun e w' => e = .returned (.bool true) ∧ R w' := by
  have HF0 : Hid (∀ _ : Unit, _) := fun _ => F0
  have HF1 : Hid (∀ _ : Unit, _) := fun _ => F1
  have HF2 : Hid (∀ _ : Unit, _) := fun _ => F2
  have HF3 : Hid (∀ _ : Unit, _) := fun _ => F3
  have HF4 : Hid (∀ _ : Unit, _) := fun _ => F4
  have HG1 : Hid (∀ _ : Unit, _) := fun _ => G1
  have HF5 : Hid (∀ _ : Unit, _) := fun _ => F5
  have HF5' : Hid (∀ _ : Unit, _) := fun _ => F5'
  have HF6 : Hid (∀ _ : Unit, _) := fun _ => F6
  have HF7 : Hid (∀ _ : Unit, _) := fun _ => F7
  have HG2 : Hid (∀ _ : Unit, _) := fun _ => G2
  have HEN : Hid (∀ _ : Unit, _) := fun _ => hen
  have HDN : Hid (∀ _ : Unit, _) := fun _ => hdn
  have q2 : (0 : Int) ≤ (k : Int) := Int.natCast_nonneg _
  have q3 : (k : Int) < (nb : Int) := by omega
  clear F0 F1 F2 F3 F4 G1 F5 F5' F6 F7 G2 hen hdn
  go_enter Tryz.func43, Tryz.ntmps43
  go_upto_if 17 with fail
  go_cut [] (fun wx => Hid (R1 wx))
  case first =>
    as_aux_lemma =>
      cases bg with
      | true =>
        have HR : Hid (R1 w) := HF0.out () rfl
        go_wp2_with fail
        go_meet
        case rel => exact HR
      | false =>
        obtain ⟨a7, f1, f2, b7, ⟨u, hu⟩, h2⟩ := HF1.out () rfl
        obtain ⟨sx, d3, o0, ov0, nv0, F9⟩ := HF2.out () _ h2
        have HO : Hid (OwI ((w.setCell ⟨g, p + 7 + 1, none⟩ (.bool true)).setCell ⟨g, p + 7 + 2, none⟩ (.int .i64 ranks)).drew 0 dv0 [] ∧ OwI ((w.setCell ⟨g, p + 7 + 1, none⟩ (.bool true)).setCell ⟨g, p + 7 + 2, none⟩ (.int .i64 ranks)).drew 0 v vs ∧ (vs = [] → v = .slice none 0 0)) := ⟨o0, ov0, nv0⟩
        have H9 : Hid (∀ _ : Unit, _) := fun _ => F9
        have HSX : Hid (∀ _ : Unit, _) := fun _ => sx
        have HD3 : Hid (∀ _ : Unit, _) := fun _ => d3
        obtain ⟨da, dc, hdf⟩ := OwG.form o0
        obtain ⟨dz, hdz⟩ : ∃ n, ([] : List Int).length = n := ⟨_, rfl⟩
        rw [hdz] at hdf
        clear hdz
        obtain ⟨va, vc, hvf⟩ := OwG.form ov0
        obtain ⟨vn, hvn⟩ : ∃ n, vs.length = n := ⟨_, rfl⟩
        rw [hvn] at hvf
        clear h2 sx d3 o0 ov0 nv0 F9 hvn HF0 HF1 HF2 HF3 HF4 HG1 HF5 HF5' HF6 HF7 HG2 HEN HDN
        subst hvf
        subst hdf
        go_wp2_with fail
        have sx := HSX.out ()
        have d3 := HD3.out ()
        clear HSX HD3
        (refine wp_region_held_drew (S := (fun Z => Z.cell? ⟨bb, 8, none⟩ = some (.slice (some ⟨l.wb, 0, none⟩) nb l.wc) ∧ Z.cell? ⟨g, p + 7, none⟩ = some (.int .i64 (k : Int)) ∧ Z.cell? ⟨l.wb, k, none⟩ = some (.slice va vn vc))) (by kernel_rfl) sx (fun hHeld => ?_); simp only [List.size_toArray, List.length_cons, List.length_nil, Nat.reduceAdd, Array.replicate_succ, Array.replicate_zero, List.push_toArray, List.append_toArray, List.nil_append, List.cons_append])
        clear sx
        generalize ((w.setCell ⟨g, p + 7 + 1, none⟩ (.bool true)).setCell ⟨g, p + 7 + 2, none⟩ (.int .i64 ranks)).drew = wd at *
        refine rgT 0 (h := ?_)
        refine rgT 1 (h := ?_)
        refine rgT 2 (h := ?_)
        refine rgT 3 (h := ?_)
        refine rgT 5 (h := ?_)
        refine rgT 6 (h := ?_)
        refine rgT 7 (h := ?_)
        refine rgT 8 (h := ?_)
        refine rgT 9 (h := ?_)
        refine rgT 10 (h := ?_)
        refine rgT 11 (h := ?_)
        refine rgT 12 (h := ?_)
        refine rgT 13 (h := ?_)
        refine rgT 14 (h := ?_)
        (refine rgS 4 (h := fun K hK => ?_); go_simp)
        (refine hK.out _ _ hHeld (fun hHeld => ?_); clear hK K; try simp only [Act.put, List.setIfInBounds_toArray, List.set_cons_zero, List.set_cons_succ])
        (refine rgS 15 (h := fun K hK => ?_); rw [if_pos (by rfl)])
        refine app_list_wp (cs := inZ) _ _ 31 3 (by rfl) Tryz.underlying31 infoZ rfl (by decide) (fun _ => rfl) _ [] vs HO.out.1 (by rfl) 0 _ HO.out.2.1 HO.out.2.2 (by rfl) inZ_one (by unfold maxLen; simp; omega) (by simp; omega) ?_
        intro v' w7 ho7 kk7 hv7 hn7
        obtain ⟨s7, d7, f7, s8, h8⟩ := H9.out () v' w7 ho7 kk7 hv7
        obtain ⟨ea, ec, e7⟩ := OwG.form ho7
        obtain ⟨n7, hn7b⟩ : ∃ n, ([] ++ vs).length = n := ⟨_, rfl⟩
        rw [hn7b] at e7
        clear hn7b
        subst e7
        have H8 : Hid (R1 (w7.setCell ⟨g, p + 7 + 3, none⟩ (.slice ea n7 ec))) := h8
        clear h8 ho7 kk7 hv7 hn7 H9 HO d3
        (refine hK.out _ _ s7 (fun hHeld => ?_); clear hK K; try simp only [Act.put, List.setIfInBounds_toArray, List.set_cons_zero, List.set_cons_succ])
        refine rgT 16 (h := ?_)
        refine rgT 17 (h := ?_)
        (refine rgS 18 (h := fun K hK => ?_); go_simp)
        (refine hK.out _ _ s8 (fun hHeld => ?_); clear hK K; try simp only [Act.put, List.setIfInBounds_toArray, List.set_cons_zero, List.set_cons_succ])
        refine wpAnyH_done (by kernel_rfl) ?_ _
        clear hHeld s7 s8 d7 f7
        go_wp2_with fail
        go_meet
        case rel => exact H8
  case rest =>
    have H1 : Hid (R1 wc) := hcut
    clear hcut c8 HF0 HF1 HF2
    obtain ⟨g3, HS⟩ := HF3.out () wc H1.out
    have HSS : Hid (∀ _ : Unit, _) := fun _ => HS
    clear HS HF3
    go_wp2_with fail
    refine (HSS.out ()).mono ?_
    rintro e w2 ⟨rfl, h2⟩
    obtain ⟨dv1, r2, HSl, HEn, HCo, h2d⟩ := HF4.out () w2 h2
    have HSl2 : Hid (∀ _ : Unit, _) := fun _ => HSl
    have HEn2 : Hid (∀ _ : Unit, _) := fun _ => HEn
    have HCo2 : Hid (∀ _ : Unit, _) := fun _ => HCo
    have a3 := r2.g3
    have a5 := r2.g5
    have H2 : Hid (R2 w2 ∧ R2 w2.drew) := ⟨h2, h2d⟩
    clear r2 HSl HEn HCo h2 h2d H1 g3 HSS
    go_wp2_with fail
    refine (HSl2.out ()).mono ?_
    rintro e w3 ⟨rfl, hw⟩
    rw [hw]
    clear hw w3 HSl2
    go_wp2_with fail
    refine (HEn2.out ()).mono ?_
    rintro e w3 ⟨rfl, hw⟩
    rw [hw]
    clear hw w3 HEn2
    go_upto_region 9 with fail
    go_cut [86] (fun t wx => t = .bool false ∧ Hid (R2 wx))
    case first =>
      as_aux_lemma =>
        have HR : Hid (R2 w2) := H2.out.1
        clear H2 HF4 HG1 HF5 HF5' HF6 HF7 HG2
        by_cases hs : sl = 0
        · have hen : en = ov := by
            have := HEN.out ()
            rw [hs] at this
            simpa using this
          subst hs
          subst hen
          have z1 : (((0 : Nat) : Int) != 0) = false := rfl
          cases hd : dn with
          | true =>
            have hov := (HDN.out () hd).2
            subst hov
            subst hd
            clear HEN HDN
            go_wp2_with fail
            refine (HCo2.out ()).mono ?_
            rintro e w3 ⟨rfl, hw⟩
            rw [hw]
            clear hw w3 HCo2
            go_wp2_with fail
            refine (bk_num 0 _).mono ?_
            rintro e w3 ⟨rfl, hw⟩
            rw [hw]
            clear hw w3
            go_wp2_with fail
            go_meet
            case rel => exact ⟨rfl, HR⟩
          | false =>
            subst hd
            clear HEN HDN
            cases en with
            | true =>
              go_wp2_with fail
              refine (HCo2.out ()).mono ?_
              rintro e w3 ⟨rfl, hw⟩
              rw [hw]
              clear hw w3 HCo2
              go_wp2_with fail
              refine (bk_num 0 _).mono ?_
              rintro e w3 ⟨rfl, hw⟩
              rw [hw]
              clear hw w3
              go_wp2_with fail
              go_meet
              case rel => exact ⟨rfl, HR⟩
            | false =>
              go_wp2_with fail
              refine (HCo2.out ()).mono ?_
              rintro e w3 ⟨rfl, hw⟩
              rw [hw]
              clear hw w3 HCo2
              go_wp2_with fail
              refine (bk_num 0 _).mono ?_
              rintro e w3 ⟨rfl, hw⟩
              rw [hw]
              clear hw w3
              go_wp2_with fail
              go_meet
              case rel => exact ⟨rfl, HR⟩
        · have hen : en = true := by
            have := HEN.out ()
            rw [this]
            simp [hs]
          have hdn : dn = false := by
            cases hd : dn
            · rfl
            · exact absurd (HDN.out () hd).1 hs
          have z1 : ((sl : Int) != 0) = true := by simp; omega
          have z2 : ¬ (sl : Int) = 0 := by omega
          subst hen
          subst hdn
          clear HEN HDN
          go_wp2_with fail
          refine (HCo2.out ()).mono ?_
          rintro e w3 ⟨rfl, hw⟩
          rw [hw]
          clear hw w3 HCo2
          go_wp2_with fail
          refine (bk_num 0 _).mono ?_
          rintro e w3 ⟨rfl, hw⟩
          rw [hw]
          clear hw w3
          go_wp2_with fail
          go_meet
          case rel => exact ⟨rfl, HR⟩
    case rest =>
      obtain ⟨rfl, hc2⟩ := hcut
      clear a3 a5 H2 HCo2 w2
      go_upto_if 88 with fail
      go_cut [] (fun wx => Hid (R3 wx))
      case first =>
        as_aux_lemma =>
          by_cases hs : sl = 0
          · have H3 : Hid (R3 wc) := HF5'.out () hs _ hc2.out
            subst hs
            clear HF4 HG1 HF5 HF5' HF6 HF7 HG2 HEN HDN hc2
            go_wp2_with fail
            go_meet
            case rel => exact H3
          · have hdn : dn = false := by
              cases hd : dn
              · rfl
              · exact absurd (HDN.out () hd).1 hs
            subst hdn
            obtain ⟨g1, g2, g3, g4⟩ := HG1.out () hs
            obtain ⟨dv, r2, _, _, _, h2d⟩ := HF4.out () _ hc2.out
            have z0 : (0 : Int) ≤ (sl : Int) := Int.natCast_nonneg _
            have z1 : ((sl : Int) != 0) = true := by simp; omega
            have z2 : ¬ (sl : Int) = 0 := by omega
            have z3 : ¬ (sl : Int) < 1 := by omega
            have z4 : decide ((sl : Int) < 1) = false := decide_eq_false z3
            have z5 : ((sl : Int) < 1) = False := eq_false z3
            have z6 : decide ((N : Int) < (sl : Int)) = false := decide_eq_false (by omega)
            have z7 : ((N : Int) < (sl : Int)) = False := eq_false (by omega)
            have z8 : (sl : Int) < ((N + 1 : Nat) : Int) := by omega
            obtain ⟨ra, hra⟩ : ∃ x, rank (sl : Int) = x := ⟨_, rfl⟩
            have z9 : decide (rk ≤ ra) = false := decide_eq_false (by omega)
            have z10 : (rk ≤ ra) = False := eq_false (by omega)
            have hck := r2.ck sl g1
            have HRA : Hid (rank (sl : Int) = ra) := hra
            rw [hra] at hck g4
            obtain ⟨da, dc, hdv⟩ := OwG.form r2.od
            obtain ⟨xn, hxn⟩ : ∃ n, xs.length = n := ⟨_, rfl⟩
            rw [hxn] at hdv
            have HH : Hid (∀ _ : Unit, _) := fun _ => bk_has wc.drew dv 0 xs (sl : Int) true (owK r2.od (Keeps.refl (fun _ => False) _).drew (fun _ _ e => e)) hxl (by rw [decide_eq_true g2])
            have sx : wc.drew.cell? ⟨bb, 2, none⟩ = some (.int .i64 (N : Int)) ∧ wc.drew.cell? ⟨bb, 6, none⟩ = some (.slice (some ⟨l.kb, 0, none⟩) (N + 1) l.kc) ∧ wc.drew.cell? ⟨g, p + 7 + 3, none⟩ = some dv ∧ wc.drew.cell? ⟨l.kb, sl, none⟩ = some (.int .i64 ra) ∧ wc.drew.cell? ⟨g, p + 7 + 2, none⟩ = some (.int .i64 rk) := ⟨r2.b2, r2.b6, r2.g10, hck, r2.g9⟩
            have H2 : Hid (R2 wc.drew) := h2d
            have HG4 : Hid (∀ _ : Unit, _) := fun _ => g4
            rw [hdv] at sx HH
            clear r2 h2d hc2 hra hxn hdv g2 g3 g4 hck HG1 HG2 HEN HDN HF5' HF6 HF7
            go_wp2_with fail
            (refine wp_region_held_drew (S := (fun Z => Z.cell? ⟨bb, 2, none⟩ = some (.int .i64 (N : Int)) ∧ Z.cell? ⟨bb, 6, none⟩ = some (.slice (some ⟨l.kb, 0, none⟩) (N + 1) l.kc) ∧ Z.cell? ⟨g, p + 7 + 3, none⟩ = some (.slice da xn dc) ∧ Z.cell? ⟨l.kb, sl, none⟩ = some (.int .i64 ra) ∧ Z.cell? ⟨g, p + 7 + 2, none⟩ = some (.int .i64 rk))) (by kernel_rfl) sx (fun hHeld => ?_); simp only [List.size_toArray, List.length_cons, List.length_nil, Nat.reduceAdd, Array.replicate_succ, Array.replicate_zero, List.push_toArray, List.append_toArray, List.nil_append, List.cons_append])
            clear sx
            generalize wc.drew = wd at *
            refine rgT 0 (h := ?_)
            refine rgT 1 (h := ?_)
            refine rgT 2 (h := ?_)
            refine rgT 3 (h := ?_)
            refine rgT 4 (h := ?_)
            refine rgT 5 (h := ?_)
            refine rgT 6 (h := ?_)
            refine rgT 7 (h := ?_)
            refine rgT 8 (h := ?_)
            refine rgT 9 (h := ?_)
            refine rgT 10 (h := ?_)
            refine rgT 11 (h := ?_)
            refine rgT 12 (h := ?_)
            refine rgT 13 (h := ?_)
            refine rgT 14 (h := ?_)
            refine rgT 15 (h := ?_)
            (refine rgS 16 (h := fun K hK => ?_); go_simp)
            refine (HH.out ()).mono ?_
            rintro e w9 ⟨rfl, hw9⟩
            rw [hw9]
            clear hw9 w9 HH
            (refine hK.out _ _ hHeld (fun hHeld => ?_); clear hK K; try simp only [Act.put, List.setIfInBounds_toArray, List.set_cons_zero, List.set_cons_succ])
            refine rgT 17 (h := ?_)
            refine rgT 18 (h := ?_)
            refine rgT 19 (h := ?_)
            refine rgT 20 (h := ?_)
            refine rgT 21 (h := ?_)
            refine rgT 22 (h := ?_)
            refine rgT 23 (h := ?_)
            refine rgT 24 (h := ?_)
            refine rgT 25 (h := ?_)
            refine rgT 26 (h := ?_)
            refine rgT 27 (h := ?_)
            refine rgT 28 (h := ?_)
            refine rgT 29 (h := ?_)
            refine rgT 30 (h := ?_)
            refine rgT 31 (h := ?_)
            refine rgT 32 (h := ?_)
            refine wpAnyH_done (by kernel_rfl) ?_ _
            clear hHeld z9 z10 z6 z7 z4 z5
            obtain ⟨dv2, r2, _, _, _, h2d⟩ := HF4.out () wd H2.out
            have H3 : Hid (R2 wd.drew) := h2d
            have HOM : Hid (OwI wd 0 mv ys) := r2.om
            obtain ⟨ma, mc, hmv⟩ := OwG.form r2.om
            obtain ⟨yn, hyn⟩ : ∃ n, ys.length = n := ⟨_, rfl⟩
            rw [hyn] at hmv
            have HMV : Hid (mv = .slice ma yn mc) := hmv
            have HYN : Hid (ys.length = yn) := hyn
            have hck : wd.drew.cell? ⟨l.kb, sl, none⟩ = some (.int .i64 ra) := (r2.ck sl g1).trans (by rw [HRA.out])
            have c6 : wd.drew.cell? ⟨bb, 6, none⟩ = some (.slice (some ⟨l.kb, 0, none⟩) (N + 1) l.kc) := r2.b6
            have c11 : wd.drew.cell? ⟨g, p + 7 + 4, none⟩ = some (.slice ma yn mc) := r2.g11.trans (by rw [hmv])
            have HCK : Hid (∀ j, j ≤ N → wd.cell? ⟨l.kb, j, none⟩ = some (.int .i64 (rank (j : Int)))) := r2.ck
            have HME : Hid (∀ (_ : Unit) (v' : Value) (wx w7 : World), wx = wd.drew → OwI w7 0 v' (ys ++ [(sl : Int)]) → Keeps (fun k => mv.ownBlock = some k) wx w7 → (∀ x, v'.ownBlock = some x → mv.ownBlock = some x ∨ wx.heap.size ≤ x) → w7.cell? ⟨g, p + 7 + 4, none⟩ = some mv ∧ w7.frozen? ⟨g, p + 7 + 4, none⟩ = false ∧ R3 (w7.setCell ⟨g, p + 7 + 4, none⟩ v')) := fun _ v' wx w7 e h1 h2 h3 => by
              subst e
              exact HF5.out () hs wd.drew H3.out v' w7 h1 h2 h3
            clear r2 h2d hmv hyn H2 H3 HF4 HF5
            by_cases hy0 : yn = 0
            · subst hy0
              have sx : wd.drew.cell? ⟨g, p + 7 + 4, none⟩ = some (.slice ma 0 mc) := c11
              clear hck c6 HCK HG4
              go_wp2_with fail
              (refine wp_region_held_drew (S := (fun Z => Z.cell? ⟨g, p + 7 + 4, none⟩ = some (.slice ma 0 mc))) (by kernel_rfl) sx (fun hHeld => ?_); simp only [List.size_toArray, List.length_cons, List.length_nil, Nat.reduceAdd, Array.replicate_succ, Array.replicate_zero, List.push_toArray, List.append_toArray, List.nil_append, List.cons_append])
              clear sx
              have HO : Hid (OwI wd.drew 0 (.slice ma 0 mc) ys) := by
                have := owK HOM.out (Keeps.refl (fun _ => False) _).drew (fun _ _ e => e)
                rw [HMV.out] at this
                exact this
              generalize wd.drew = we at *
              refine rgT 0 (h := ?_)
              refine rgT 1 (h := ?_)
              refine rgT 2 (h := ?_)
              refine rgT 3 (h := ?_)
              refine rgT 4 (h := ?_)
              refine rgT 5 (h := ?_)
              refine rgT 6 (h := ?_)
              refine rgK 7 (h := ?_)
              refine rgK 8 (h := ?_)
              refine rgK 9 (h := ?_)
              refine rgK 10 (h := ?_)
              refine rgK 11 (h := ?_)
              refine rgK 12 (h := ?_)
              refine rgK 13 (h := ?_)
              refine rgK 14 (h := ?_)
              refine rgK 15 (h := ?_)
              refine rgK 16 (h := ?_)
              refine rgK 17 (h := ?_)
              refine rgK 18 (h := ?_)
              refine rgK 19 (h := ?_)
              refine rgK 20 (h := ?_)
              refine rgK 21 (h := ?_)
              refine rgK 22 (h := ?_)
              refine rgK 23 (h := ?_)
              refine rgK 24 (h := ?_)
              refine rgK 25 (h := ?_)
              refine rgK 26 (h := ?_)
              refine rgK 27 (h := ?_)
              refine rgK 28 (h := ?_)
              refine rgK 29 (h := ?_)
              refine rgK 30 (h := ?_)
              refine rgK 31 (h := ?_)
              refine rgK 32 (h := ?_)
              refine rgT 33 (h := ?_)
              refine wpAnyH_done (by kernel_rfl) ?_ _
              clear hHeld
              go_wp2_with (at_builtin; refine hideG ?_)
              change wpList _ _ _ _ _ _
              refine app_stay (cs := inZ) (wr := we) (by rfl) _ _ 31 3 (by rfl) Tryz.underlying31 infoZ rfl (by decide) (fun _ => rfl) _ ys (sl : Int) HO.out (by rfl) we.heap.size rfl (by rfl) (inZ_one _) _ rfl (by unfold maxLen; omega) (by omega) ?_
              intro b cap w7 ho7 kk7 hb7
              have K7 : Keeps (fun k => mv.ownBlock = some k) we w7 ∧ (∀ x, (Value.slice (some ⟨b, 0, none⟩) (ys.length + 1) cap).ownBlock = some x → mv.ownBlock = some x ∨ we.heap.size ≤ x) := by
                rw [HMV.out]
                rcases kk7 with ⟨e1, k⟩ | ⟨e1, k⟩
                · exact ⟨k, fun x hx => .inl (e1.trans hx)⟩
                · exact ⟨k.mono (fun _ e => e.elim), fun x hx => .inr (by have e2 : b = x := Option.some.inj hx; omega)⟩
              obtain ⟨d7, f7, h8⟩ := HME.out () _ we w7 rfl ho7 K7.1 K7.2
              obtain ⟨n7, hn7⟩ : ∃ n, ys.length + 1 = n := ⟨_, rfl⟩
              rw [hn7] at h8 ⊢
              rw [HMV.out] at d7
              have H8 : Hid (R3 (w7.setCell ⟨g, p + 7 + 4, none⟩ (.slice (some ⟨b, 0, none⟩) n7 cap))) := h8
              clear h8 ho7 kk7 hb7 K7 HME HO HOM HMV HYN hn7 c11
              go_wp2_with fail
              go_meet
              case rel => exact H8
            · obtain ⟨yk, hyk⟩ : ∃ m, yn = m + 1 := ⟨yn - 1, by omega⟩
              subst hyk
              have hne : ys ≠ [] := fun e => by have := HYN.out; rw [e] at this; simp at this
              obtain ⟨h4a, h4b, h4c⟩ := HG4.out () ys.dropLast (ys.getLast hne) (List.dropLast_concat_getLast hne).symm
              obtain ⟨mb2, mc2, hmf, _, _⟩ := owG_some HOM.out hne
              have hma : ma = some ⟨mb2, 0, none⟩ := by
                have := HMV.out
                rw [hmf] at this
                injection this with e _ _
                exact e.symm
              subst hma
              have HOM2 : Hid (OwI wd 0 (.slice (some ⟨mb2, 0, none⟩) (yk + 1) mc) ys) := by
                have := HOM.out
                rw [HMV.out] at this
                exact this
              have hyl3 : yk < ys.length := by have := HYN.out; omega
              have hlast : ys[yk] = (un : Int) := by
                rw [← h4a, List.getLast_eq_getElem]
                congr 1
                have := HYN.out
                omega
              have cm : wd.drew.cell? ⟨mb2, yk, none⟩ = some (.int .i64 (un : Int)) := (ow_at flat_inZ HOM2.out yk hyl3).trans (by rw [hlast])
              obtain ⟨ru, hru⟩ : ∃ x, rank (un : Int) = x := ⟨_, rfl⟩
              have cu : wd.drew.cell? ⟨l.kb, un, none⟩ = some (.int .i64 ru) := (HCK.out un h4b).trans (by rw [hru])
              have y0 : (0 : Int) ≤ (yk : Int) := Int.natCast_nonneg _
              have y1 : (yk : Int) < ((yk + 1 : Nat) : Int) := by omega
              have y2 : (0 : Int) ≤ (un : Int) := Int.natCast_nonneg _
              have y3 : (un : Int) < ((N + 1 : Nat) : Int) := by omega
              have hlt : ra < ru := by rw [← hru, ← h4a]; exact h4c
              have y4 : decide (ru ≤ ra) = false := decide_eq_false (by omega)
              have y5 : (ru ≤ ra) = False := eq_false (by omega)
              have y6 : decide ((0 : Int) < ((yk + 1 : Nat) : Int)) = true := decide_eq_true (by omega)
              have y7 : ((0 : Int) < ((yk + 1 : Nat) : Int)) = True := eq_true (by omega)
              have hwr : IntKind.i64.wrap (yk : Int) = (yk : Int) := by rw [IntKind.wrap_i64]; have := HYN.out; omega
              have sx : wd.drew.cell? ⟨g, p + 7 + 4, none⟩ = some (.slice (some ⟨mb2, 0, none⟩) (yk + 1) mc) ∧ wd.drew.cell? ⟨bb, 6, none⟩ = some (.slice (some ⟨l.kb, 0, none⟩) (N + 1) l.kc) ∧ wd.drew.cell? ⟨l.kb, sl, none⟩ = some (.int .i64 ra) ∧ wd.drew.cell? ⟨mb2, yk, none⟩ = some (.int .i64 (un : Int)) ∧ wd.drew.cell? ⟨l.kb, un, none⟩ = some (.int .i64 ru) := ⟨c11, c6, hck, cm, cu⟩
              clear h4a h4b h4c hmf HOM hyl3 hlast hru hlt HG4 HCK hne hck c6 cm cu hy0
              go_wp2_with fail
              (refine wp_region_held_drew (S := (fun Z => Z.cell? ⟨g, p + 7 + 4, none⟩ = some (.slice (some ⟨mb2, 0, none⟩) (yk + 1) mc) ∧ Z.cell? ⟨bb, 6, none⟩ = some (.slice (some ⟨l.kb, 0, none⟩) (N + 1) l.kc) ∧ Z.cell? ⟨l.kb, sl, none⟩ = some (.int .i64 ra) ∧ Z.cell? ⟨mb2, yk, none⟩ = some (.int .i64 (un : Int)) ∧ Z.cell? ⟨l.kb, un, none⟩ = some (.int .i64 ru))) (by kernel_rfl) sx (fun hHeld => ?_); simp only [List.size_toArray, List.length_cons, List.length_nil, Nat.reduceAdd, Array.replicate_succ, Array.replicate_zero, List.push_toArray, List.append_toArray, List.nil_append, List.cons_append])
              clear sx
              have HO : Hid (OwI wd.drew 0 (.slice (some ⟨mb2, 0, none⟩) (yk + 1) mc) ys) := owK HOM2.out (Keeps.refl (fun _ => False) _).drew (fun _ _ e => e)
              generalize wd.drew = we at *
              refine rgT 0 (h := ?_)
              refine rgT 1 (h := ?_)
              refine rgT 2 (h := ?_)
              refine rgT 3 (h := ?_)
              refine rgT 4 (h := ?_)
              refine rgT 5 (h := ?_)
              refine rgT 6 (h := ?_)
              refine rgT 7 (h := ?_)
              refine rgT 8 (h := ?_)
              refine rgT 9 (h := ?_)
              refine rgT 10 (h := ?_)
              refine rgT 11 (h := ?_)
              refine rgT 12 (h := ?_)
              refine rgT 13 (h := ?_)
              refine rgT 14 (h := ?_)
              refine rgT 15 (h := ?_)
              refine rgT 16 (h := ?_)
              refine rgT 17 (h := ?_)
              refine rgT 18 (h := ?_)
              refine rgT 19 (h := ?_)
              refine rgT 20 (h := ?_)
              refine rgT 21 (h := ?_)
              refine rgT 22 (h := ?_)
              refine rgT 23 (h := ?_)
              refine rgT 24 (h := ?_)
              refine rgT 25 (h := ?_)
              refine rgT 26 (h := ?_)
              refine rgT 27 (h := ?_)
              refine rgT 28 (v := .pointer (some ⟨mb2, yk, none⟩)) (hy := by intro w hSw; go_simp; intro hh; exact absurd hh (by omega)) (h := ?_)
              refine rgT 29 (h := ?_)
              refine rgT 30 (h := ?_)
              refine rgT 31 (h := ?_)
              refine rgT 32 (h := ?_)
              refine rgT 33 (h := ?_)
              refine wpAnyH_done (by kernel_rfl) ?_ _
              clear hHeld hwr y4 y5 y6 y7
              go_wp2_with (at_builtin; refine hideG ?_)
              change wpList _ _ _ _ _ _
              refine app_stay (cs := inZ) (wr := we) (by rfl) _ _ 31 3 (by rfl) Tryz.underlying31 infoZ rfl (by decide) (fun _ => rfl) _ ys (sl : Int) HO.out (by rfl) we.heap.size rfl (by rfl) (inZ_one _) _ rfl (by unfold maxLen; omega) (by omega) ?_
              intro b cap w7 ho7 kk7 hb7
              have K7 : Keeps (fun k => mv.ownBlock = some k) we w7 ∧ (∀ x, (Value.slice (some ⟨b, 0, none⟩) (ys.length + 1) cap).ownBlock = some x → mv.ownBlock = some x ∨ we.heap.size ≤ x) := by
                rw [HMV.out]
                rcases kk7 with ⟨e1, k⟩ | ⟨e1, k⟩
                · exact ⟨k, fun x hx => .inl (e1.trans hx)⟩
                · exact ⟨k.mono (fun _ e => e.elim), fun x hx => .inr (by have e2 : b = x := Option.some.inj hx; omega)⟩
              obtain ⟨d7, f7, h8⟩ := HME.out () _ we w7 rfl ho7 K7.1 K7.2
              obtain ⟨n7, hn7⟩ : ∃ n, ys.length + 1 = n := ⟨_, rfl⟩
              rw [hn7] at h8 ⊢
              rw [HMV.out] at d7
              have H8 : Hid (R3 (w7.setCell ⟨g, p + 7 + 4, none⟩ (.slice (some ⟨b, 0, none⟩) n7 cap))) := h8
              clear h8 ho7 kk7 hb7 K7 HME HO HMV HYN hn7 c11
              go_wp2_with fail
              go_meet
              case rel => exact H8
      case rest =>
        have H3 : Hid (R3 wc) := hcut
        clear hcut hc2 HF4 HF5 HF5' HG1 HEN
        obtain ⟨b5, f5, hfin, hgo⟩ := HF6.out () wc H3.out
        cases dn with
        | true =>
          have hov := (HDN.out () rfl).2
          subst hov
          have HR : Hid (R wc) := hfin (.inl rfl)
          clear hfin hgo H3 HF6 HF7 HG2 HDN f5
          go_wp2
          go_ret
          exact ⟨rfl, HR.out⟩
        | false =>
          cases ov with
          | false =>
            have HR : Hid (R wc) := hfin (.inr rfl)
            clear hfin hgo H3 HF6 HF7 HG2 HDN f5
            go_wp2
            go_ret
            exact ⟨rfl, HR.out⟩
          | true =>
            have H4 : Hid (R4 (wc.setCell ⟨g, p + 5, none⟩ (.bool true))) := hgo rfl rfl
            have HG3 : Hid (∀ u, u ∈ xs → (∃ j : Nat, u = (j : Int) ∧ j ≤ N) ∧ (rem u = 2 ∨ u ∈ ys')) := HG2.out () rfl rfl
            obtain ⟨xn, hxn⟩ : ∃ n, xs.length = n := ⟨_, rfl⟩
            have HXN : Hid (xs.length = xn) := hxn
            have hxb : xn ≤ 4096 := by rw [← hxn]; exact hxl
            clear hfin hgo H3 HF6 HG2 HDN hxn
            go_wp2_with fail
            generalize wc.setCell ⟨g, p + 5, none⟩ (.bool true) = w4 at *
            clear b5 f5
            go_loopw [9] (fun i wr => ∃ t : Nat, t ≤ xn ∧ i = .int .i64 (t : Int) ∧ Hid (R4 wr)) (fun i _ => xn - (intOf i).toNat)
            case atStart => exact ⟨0, by omega, rfl, H4⟩
            case round =>
              obtain ⟨t, ht, rfl, hR4⟩ := hrel
              clear H4
              obtain ⟨dv1, mv1, r1, h4d, hRR⟩ := HF7.out () wr hR4.out
              obtain ⟨da, dc, hdv⟩ := OwG.form r1.od
              rw [HXN.out] at hdv
              have c10 : wr.cell? ⟨g, p + 7 + 3, none⟩ = some (.slice da xn dc) := r1.g10.trans (by rw [hdv])
              by_cases h5 : t < xn
              · have t0 : (0 : Int) ≤ (t : Int) := Int.natCast_nonneg _
                have t1 : (t : Int) < (xn : Int) := by omega
                have htx : t < xs.length := by rw [HXN.out]; exact h5
                have hne : xs ≠ [] := fun e => by rw [e] at htx; simp at htx
                obtain ⟨db, dc2, hdf, _, _⟩ := owG_some r1.od hne
                have hda : da = some ⟨db, 0, none⟩ := by
                  have := hdv
                  rw [hdf] at this
                  injection this with e _ _
                  exact e.symm
                have hod := r1.od
                rw [hdv, hda] at hod
                have cx := ow_at flat_inZ hod t htx
                obtain ⟨⟨j, hj, hjN⟩, hor⟩ := HG3.out xs[t] (List.getElem_mem htx)
                rw [hj] at cx hor
                obtain ⟨re, hre⟩ : ∃ x, rem (j : Int) = x := ⟨_, rfl⟩
                have cre := r1.cr j hjN
                rw [hre] at cre hor
                obtain ⟨ma, mc, hmv⟩ := OwG.form r1.om
                obtain ⟨yn, hyn⟩ : ∃ n, ys'.length = n := ⟨_, rfl⟩
                rw [hyn] at hmv
                have j0 : (0 : Int) ≤ (j : Int) := Int.natCast_nonneg _
                have j1 : (j : Int) < ((N + 1 : Nat) : Int) := by omega
                subst hda
                have sx : wr.drew.cell? ⟨bb, 5, none⟩ = some (.slice (some ⟨l.rb, 0, none⟩) (N + 1) l.rc) ∧ wr.drew.cell? ⟨g, p + 7 + 3, none⟩ = some (.slice (some ⟨db, 0, none⟩) xn dc) ∧ wr.drew.cell? ⟨db, t, none⟩ = some (.int .i64 (j : Int)) ∧ wr.drew.cell? ⟨l.rb, j, none⟩ = some (.int .i64 re) ∧ wr.drew.cell? ⟨g, p + 7 + 4, none⟩ = some (.slice ma yn mc) := ⟨r1.b5, c10, cx, cre, r1.g11.trans (by rw [hmv])⟩
                have HR5 : Hid (R4 wr.drew) := h4d
                by_cases h2 : re = 2
                · subst h2
                  clear r1 h4d hRR hod hj hjN hor hmv hyn hne hdf cx cre hdv hR4 htx hre
                  go_wp2_with fail
                  (refine wp_region_held_drew (S := (fun Z => Z.cell? ⟨bb, 5, none⟩ = some (.slice (some ⟨l.rb, 0, none⟩) (N + 1) l.rc) ∧ Z.cell? ⟨g, p + 7 + 3, none⟩ = some (.slice (some ⟨db, 0, none⟩) xn dc) ∧ Z.cell? ⟨db, t, none⟩ = some (.int .i64 (j : Int)) ∧ Z.cell? ⟨l.rb, j, none⟩ = some (.int .i64 2) ∧ Z.cell? ⟨g, p + 7 + 4, none⟩ = some (.slice ma yn mc))) (by kernel_rfl) sx (fun hHeld => ?_); simp only [List.size_toArray, List.length_cons, List.length_nil, Nat.reduceAdd, Array.replicate_succ, Array.replicate_zero, List.push_toArray, List.append_toArray, List.nil_append, List.cons_append])
                  clear sx
                  refine rgT 0 (h := ?_)
                  refine rgT 1 (h := ?_)
                  refine rgT 2 (h := ?_)
                  refine rgT 3 (h := ?_)
                  refine rgT 4 (h := ?_)
                  refine rgT 5 (h := ?_)
                  refine rgT 6 (h := ?_)
                  refine rgT 7 (h := ?_)
                  refine rgT 8 (h := ?_)
                  refine rgT 9 (h := ?_)
                  refine rgT 10 (h := ?_)
                  refine rgT 11 (h := ?_)
                  refine rgT 12 (h := ?_)
                  refine rgT 13 (h := ?_)
                  refine rgT 14 (h := ?_)
                  refine rgK 15 (h := ?_)
                  refine rgK 16 (h := ?_)
                  refine rgK 17 (h := ?_)
                  refine rgK 18 (h := ?_)
                  refine rgK 19 (h := ?_)
                  refine rgK 20 (h := ?_)
                  refine rgK 21 (h := ?_)
                  refine rgK 22 (h := ?_)
                  refine rgK 23 (h := ?_)
                  refine rgK 24 (h := ?_)
                  refine rgK 25 (h := ?_)
                  refine rgK 26 (h := ?_)
                  refine rgK 27 (h := ?_)
                  refine rgT 28 (h := ?_)
                  refine wpAnyH_done (by kernel_rfl) ?_ _
                  clear hHeld
                  go_wp2
                  go_roundw
                  case rel => exact ⟨t + 1, by omega, by go_num, HR5⟩
                  case measure => simp [intOf]; omega
                · have hmem : (j : Int) ∈ ys' := hor.resolve_left h2
                  have e2 : (re != 2) = true := by simp [h2]
                  have HH : Hid (∀ _ : Unit, _) := fun _ => bk_has wr.drew mv1 0 ys' (j : Int) true (owK r1.om (Keeps.refl (fun _ => False) _).drew (fun _ _ e => e)) hyl' (by rw [decide_eq_true hmem])
                  rw [hmv] at HH
                  clear r1 h4d hRR hod hj hjN hor hmv hyn hne hdf cx cre hdv hR4 htx hre hmem
                  go_wp2_with fail
                  (refine wp_region_held_drew (S := (fun Z => Z.cell? ⟨bb, 5, none⟩ = some (.slice (some ⟨l.rb, 0, none⟩) (N + 1) l.rc) ∧ Z.cell? ⟨g, p + 7 + 3, none⟩ = some (.slice (some ⟨db, 0, none⟩) xn dc) ∧ Z.cell? ⟨db, t, none⟩ = some (.int .i64 (j : Int)) ∧ Z.cell? ⟨l.rb, j, none⟩ = some (.int .i64 re) ∧ Z.cell? ⟨g, p + 7 + 4, none⟩ = some (.slice ma yn mc))) (by kernel_rfl) sx (fun hHeld => ?_); simp only [List.size_toArray, List.length_cons, List.length_nil, Nat.reduceAdd, Array.replicate_succ, Array.replicate_zero, List.push_toArray, List.append_toArray, List.nil_append, List.cons_append])
                  clear sx
                  refine rgT 0 (h := ?_)
                  refine rgT 1 (h := ?_)
                  refine rgT 2 (h := ?_)
                  refine rgT 3 (h := ?_)
                  refine rgT 4 (h := ?_)
                  refine rgT 5 (h := ?_)
                  refine rgT 6 (h := ?_)
                  refine rgT 7 (h := ?_)
                  refine rgT 8 (h := ?_)
                  refine rgT 9 (h := ?_)
                  refine rgT 10 (h := ?_)
                  refine rgT 11 (h := ?_)
                  refine rgT 12 (h := ?_)
                  refine rgT 13 (h := ?_)
                  refine rgT 14 (h := ?_)
                  refine rgT 15 (h := ?_)
                  refine rgT 16 (h := ?_)
                  refine rgT 17 (h := ?_)
                  refine rgT 18 (h := ?_)
                  refine rgT 19 (h := ?_)
                  refine rgT 20 (h := ?_)
                  refine rgT 21 (h := ?_)
                  refine rgT 22 (h := ?_)
                  refine rgT 23 (h := ?_)
                  refine rgT 24 (h := ?_)
                  refine rgT 25 (h := ?_)
                  (refine rgS 26 (h := fun K hK => ?_); go_simp)
                  refine (HH.out ()).mono ?_
                  rintro e w9 ⟨rfl, hw9⟩
                  rw [hw9]
                  clear hw9 w9 HH
                  (refine hK.out _ _ hHeld (fun hHeld => ?_); clear hK K; try simp only [Act.put, List.setIfInBounds_toArray, List.set_cons_zero, List.set_cons_succ])
                  refine rgT 27 (h := ?_)
                  refine rgT 28 (h := ?_)
                  refine wpAnyH_done (by kernel_rfl) ?_ _
                  clear hHeld
                  go_wp2
                  go_roundw
                  case rel => exact ⟨t + 1, by omega, by go_num, HR5⟩
                  case measure => simp [intOf]; omega
              · have t1 : ¬ (t : Int) < (xn : Int) := by omega
                have HR : Hid (R wr) := hRR
                clear r1 h4d hRR hR4 HF7 HG3 hdv
                go_wp2
                go_ret
                exact ⟨rfl, HR.out⟩
end Go.Proofs.YteekompojgbkhaaGreat
