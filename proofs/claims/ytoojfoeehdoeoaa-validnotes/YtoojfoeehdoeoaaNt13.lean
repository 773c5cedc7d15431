import Derived.Test.YtoojfoeehdoeoaaNt12
namespace Go.Proofs.Ytoojfoeehdoeoaa
set_option linter.unusedSimpArgs false
open Go.ChangeShapes Go.WideShapes Go.ChangeAt Go.RowKit Go.Maps
set_option linter.unusedVariables false
set_option maxRecDepth 100000
theorem num_any (w : World) (x : Int) : Calls Try.prog 9 #[.int .i64 x] w fun e w' => e = .returned (.int .i64 x) ∧ w' = w := by
  go_enter Try.func9, Try.ntmps9
  go_wp2
  go_ret
  exact ⟨rfl, rfl⟩
theorem sees2 (w : World) (c d : Int) : SeesN (w.alloc (.cells #[.int .i64 c, .int .i64 d] 3)) (w.heap.size + 1) (some ⟨w.heap.size, 0, none⟩) [c, d] := fun i hi => by
  match i, hi with
  | 0, _ => exact ⟨w.heap.size, 0, rfl, by omega, (cell_two_new w _ _ _).1⟩
  | 1, _ => exact ⟨w.heap.size, 0, rfl, by omega, (cell_two_new w _ _ _).2⟩
theorem own_some {w : World} {B : Nat} {v : Value} {xs : List Int} (h : ownI w B v xs) (hx : xs ≠ []) : ∃ b cap, v = .slice (some ⟨b, 0, none⟩) xs.length cap ∧ xs.length ≤ cap ∧ B ≤ b ∧ b < w.heap.size := by
  rcases h.2 with ⟨rfl, hn⟩ | ⟨b, cap, cur, rfl, h1, h2, h3, h4⟩
  · exact absurd (List.eq_nil_of_length_eq_zero hn) hx
  · exact ⟨b, cap, rfl, h3, h1, (World.ownsRow.lt h b rfl).2⟩
theorem below_lit {w w1 : World} {t : TypeId} (hg : (w.alloc (.cells #[] t)).grownBy w1 (Value.slice (some ⟨w.heap.size, 0, none⟩) 0 0).ownBlock) : Below w.heap.size w w1 :=
  ((Below.refl _ _).alloc (Nat.le_refl _) _).grown hg (by simp) (fun k hk => by
    have : w.heap.size = k := by simpa [Value.ownBlock] using hk
    omega)
theorem below_app {w0 w1 w2 : World} {v : Value} {xs : List Int} {ob : Obj} (h : Below w0.heap.size w0 w1) (ho : ownI w1 w0.heap.size v xs) (hg : (w1.alloc ob).grownBy w2 v.ownBlock) : Below w0.heap.size w0 w2 :=
  (h.alloc h.size _).grown hg (by have := h.size; simp; omega) (fun k hk => (World.ownsRow.lt ho k hk).1)
theorem RI.pre {w : World} {lo hi b n cap : Nat} {us vs : List Int} (h : RI w lo hi (.slice (some ⟨b, 0, none⟩) n cap) (us ++ vs)) : SeesN w w.heap.size (some ⟨b, 0, none⟩) us := fun i hi => by
  obtain ⟨b', e, _, _, hlt, c, _⟩ := h.at i (by simp; omega)
  injection e with e
  injection e with e
  subst e
  refine ⟨b, 0, rfl, hlt, ?_⟩
  rw [Nat.zero_add, c, List.getElem_append_left hi]
theorem SeesN.keeps {w w' : World} {B : Nat} {ao : Option Addr} {us : List Int} {K : Nat → Prop} (h : SeesN w B ao us) (hk : Keeps K w w') (hB : B ≤ w.heap.size) (hd : ∀ b, b < B → ¬ K b) : SeesN w' B ao us := h.later (hk.below hB hd)
set_option maxHeartbeats 6400000 in
theorem noted_any (w : World) (g r : Nat) (W : Nat → Prop) (xs : List Int) (rs : List R2) (kd : Int) (ao : Option Addr) (cap : Nat) (us : List Int) (lo hi : ByteArray) (B0 : Nat) (h : Duo w g r W xs rs) (hB : ∀ b, W b → B0 ≤ b) (hB0 : B0 ≤ w.heap.size) (hs : SeesN w B0 ao us) (hcap : ao = none → us = [] ∧ cap = 0) (hy : (us.length + 65) * 8 ≤ 140737488355328) (hw : ∀ y ∈ us, (Lit.int .i64 y).wf = true) (hx : okR (lo, hi)) :
    Calls Try.prog 6 #[.pointer (some ⟨g, 0, none⟩), .pointer (some ⟨r, 0, none⟩), .agg #[.int .i64 kd, .slice ao us.length cap, .string lo, .string hi]] w fun e w' => e = .returned (.bool true) ∧ DuoTo w g r W w' := by
  have HH : Hid (Duo w g r W xs rs) := h
  have HS : Hid (SeesN w w.heap.size ao us) := fun i hi => by
    obtain ⟨b, off, e, hb, c⟩ := hs i hi
    exact ⟨b, off, e, by omega, c⟩
  have HS0 : Hid (SeesN w B0 ao us) := hs
  have HBB : Hid (∀ b, W b → B0 ≤ b) := hB
  have HW : Hid (∀ y ∈ us, (Lit.int .i64 y).wf = true) := hw
  have HC : Hid (ao = none → us = [] ∧ cap = 0) := hcap
  clear h hs hw hcap hB
  have HB0 : Hid (Below w.heap.size w (w.alloc (.cells #[.int .i64 kd, .slice ao us.length cap, .string lo, .string hi] 30))) := (Below.refl _ _).alloc (Nat.le_refl _) _
  by_cases k1 : kd = 1
  · subst k1
    obtain ⟨w0, hw0⟩ : ∃ w0, w.alloc (.cells #[.int .i64 1, .slice ao us.length cap, .string lo, .string hi] 30) = w0 := ⟨_, rfl⟩
    have n0 : w0.cell? ⟨w.heap.size, 0, none⟩ = some (.int .i64 1) := by rw [← hw0]; simp
    have n1 : w0.cell? ⟨w.heap.size, 1, none⟩ = some (.slice ao us.length cap) := by rw [← hw0]; simp
    have n1a : (w0.alloc (.cells #[] 3)).cell? ⟨w.heap.size, 1, none⟩ = some (.slice ao us.length cap) := (cell_al w0 _ (cell_lt n1)).trans n1
    have HBW : Hid (Below w.heap.size w w0) := by rw [← hw0]; exact HB0.out
    have hsz : w0.heap.size = w.heap.size + 1 := by rw [← hw0]; simp
    have HZ : Hid _ := hsz
    clear hsz HB0
    obtain ⟨U, V, hP, hD, hdis, hsub, hlt, lx, lr, hok⟩ := HH.out
    have HP : Hid (Ps w g U xs rs) := hP
    have HD : Hid (Ds w r V xs rs) := hD
    have HDI : Hid (Dis U V) := hdis
    have HSB : Hid (∀ b, U b ∨ V b → W b) := hsub
    have HLT : Hid (∀ b, W b → b < w.heap.size) := hlt
    have HOK : Hid (∀ y ∈ rs, okR y) := hok
    clear hP hD hdis hsub hlt hok
    have HSA : Hid (SeesN w0 w.heap.size ao us) := HS.out.later HBW.out
    go_enter Try.func6, Try.ntmps6
    go_wp2_with (at_builtin; first | (refine app_ints (by rfl) _ _ (by rfl) w0.heap.size w.heap.size _ [] (own_lit0 w0) (by rfl) ao cap us (by rfl) (SeesN.al (w := w0) HSA.out HBW.out.size) HC.out (by simp; omega) (by simp) ?_; intro v1 w1 hown1 hgrow1; rw [List.nil_append] at hown1; obtain ⟨av, cv, rfl⟩ := hown1.form; have HO : Hid (ownI w1 w0.heap.size (.slice av us.length cv) us) := hown1; have HG : Hid (Below w0.heap.size w0 w1) := below_lit hgrow1; clear hown1 hgrow1) | (refine app_ints (by rfl) _ _ (by rfl) w0.heap.size (w1.heap.size + 1) _ us (World.ownsRow.alloc HO.out _) (by rfl) (some ⟨w1.heap.size, 0, none⟩) 2 [-78, -79] (by rfl) (sees2 w1 _ _) (by intro h; cases h) (by simp; omega) (by have := HG.out.size; simp; omega) ?_; intro v2 w2 hown2 hgrow2; obtain ⟨bf, cf, rfl, hcf, hbf, hbf2⟩ := own_some hown2 (by simp); have hl2 : (us ++ [(-78 : Int), -79]).length = us.length + 2 := (by simp); rw [hl2] at hcf hown2 ⊢; have hcf1 : us.length ≤ cf := (by omega); have HO2 : Hid (RI w2 w0.heap.size w2.heap.size (.slice (some ⟨bf, 0, none⟩) (us.length + 2) cf) (us ++ [-78, -79])) := ⟨hown2, fun b hb => (World.ownsRow.lt hown2 b hb).2⟩; have HB2 : Hid (Below w0.heap.size w0 w2) := below_app HG.out HO.out hgrow2; clear hown2 hgrow2 hl2 hcf))
    have HBA : Hid (Below w.heap.size w w2) := HBW.out.trans (HB2.out.mono HBW.out.size)
    refine (ps_read w2 g U xs rs (some ⟨bf, 0, none⟩) cf us (HP.out.later HBA.out) lx HO2.out.pre (by omega) HW.out).mono ?_
    rintro _ w3 ⟨rfl, hp3⟩
    have HP3 : Hid (PsTo w2 g U (addL xs us) rs w3) := hp3
    have hkp3 : Keeps U w2 w3 := by obtain ⟨U', _, _, h3⟩ := hp3; exact h3
    have hUl : ∀ b, U b → b < w.heap.size := fun b hb => HLT.out b (HSB.out b (Or.inl hb))
    have hVl : ∀ b, V b → b < w.heap.size := fun b hb => HLT.out b (HSB.out b (Or.inr hb))
    have s0 := HZ.out
    have s2 := HB2.out.size
    have s3 := hkp3.size
    have hR3 : RI w3 w0.heap.size w2.heap.size (.slice (some ⟨bf, 0, none⟩) (us.length + 2) cf) (us ++ [-78, -79]) := HO2.out.keeps hkp3 (fun b x y z => by have := hUl b z; omega)
    have n3 : w3.cell? ⟨w.heap.size, 1, none⟩ = some (.slice ao us.length cap) := (hkp3.cell (p := ⟨w.heap.size, 1, none⟩) (by show w.heap.size < _; omega) (fun e => by have e' : w.heap.size < w.heap.size := hUl _ e; omega)).trans ((HB2.out.cell (p := ⟨w.heap.size, 1, none⟩) (by show w.heap.size < _; omega)).trans n1)
    have HS3 : Hid (SeesN w3 B0 ao us) := (HS0.out.later (HBA.out.mono hB0)).keeps hkp3 (by have := HBA.out.size; omega) (fun b hb hu => by have := HBB.out b (HSB.out b (Or.inl hu)); omega)
    have HD3 : Hid (Ds w3 r V xs rs) := (HD.out.later HBA.out).keeps hkp3 (fun b hb hc => HDI.out b hc hb)
    obtain ⟨b1, e1, l1, l2, l3, c78, _⟩ := hR3.at us.length (by simp)
    obtain ⟨b2, e2, l4, l5, l6, c79, _⟩ := hR3.at (us.length + 1) (by simp)
    injection e1 with e1
    injection e1 with e1
    injection e2 with e2
    injection e2 with e2
    subst e1 e2
    have g78 : (us ++ [(-78 : Int), -79])[us.length]'(by simp) = -78 := by simp
    have g79 : (us ++ [(-78 : Int), -79])[us.length + 1]'(by simp) = -79 := by simp
    rw [g78] at c78
    rw [g79] at c79
    have HR3 : Hid (RI w3 w0.heap.size w2.heap.size (.slice (some ⟨bf, 0, none⟩) (us.length + 2) cf) (us ++ [-78, -79])) := hR3
    have HVL : Hid (∀ b, V b → b < w.heap.size) := hVl
    clear hp3 hkp3 hUl hVl hR3 g78 g79 HO2 HP HD HS HSA HO HG
    go_wp2
    go_loopw [10, 11] (fun c i wr => ∃ k : Nat, k ≤ us.length ∧ i = .int .i64 k ∧ c = .bool true ∧ Keeps (Iv w0.heap.size w2.heap.size) w3 wr ∧ ∃ zs : List Int, zs.length = us.length + 2 ∧ (∀ j, k ≤ j → zs[j]? = (us ++ [-78, -79])[j]?) ∧ RI wr w0.heap.size w2.heap.size (.slice (some ⟨bf, 0, none⟩) (us.length + 2) cf) zs) (fun _ i _ => us.length - (intOf i).toNat)
    case atStart => exact ⟨0, Nat.zero_le _, rfl, rfl, Keeps.refl _ _, _, by simp, fun _ _ => rfl, HR3.out⟩
    case round =>
      obtain ⟨k, hk, rfl, rfl, hkp, zs, hzl, hzp, hzr⟩ := hrel
      have n1r : wr.cell? ⟨w.heap.size, 1, none⟩ = some (.slice ao us.length cap) := (hkp.cell (p := ⟨w.heap.size, 1, none⟩) (cell_lt n3) (fun e => by have e' : w0.heap.size ≤ w.heap.size := e.1; omega)).trans n3
      have hsr : SeesN wr B0 ao us := HS3.out.keeps hkp (by omega) (fun b hb hc => by have := hc.1; omega)
      by_cases hkl : k < us.length
      · have hzk := past_at hzp (by omega) (by simp; omega)
        rw [List.getElem_append_left hkl] at hzk
        obtain ⟨ba, e1, l7, l8, l9, c1, f1⟩ := hzr.at k (by omega)
        injection e1 with e1
        injection e1 with e1
        subst e1
        obtain ⟨bb, off, e2, l10, c2⟩ := hsr k hkl
        rw [hzk] at c1
        have HK : Hid (Keeps (Iv w0.heap.size w2.heap.size) w3 wr) := hkp
        have HZR : Hid (RI wr w0.heap.size w2.heap.size (.slice (some ⟨bf, 0, none⟩) (us.length + 2) cf) zs) := hzr
        have HZP : Hid (∀ j, k ≤ j → zs[j]? = (us ++ [-78, -79])[j]?) := hzp
        have HZL : Hid (zs.length = us.length + 2) := hzl
        generalize us[k] = x at c1 c2
        clear hkp hzr hzp hzk hzl hsr
        subst e2
        go_wp2_with fail
        go_quiet (fail)
        go_wp2
        go_roundw
        case rel => exact ⟨k + 1, by omega, by go_num, by first | rfl | trivial, (HK.out.drewN _).setCell (p := ⟨bf, k, none⟩) ⟨l7, l8⟩ _, _, by rw [List.length_set]; exact HZL.out, set_past HZP.out, (HZR.out.drewN _).put HZL.out k _⟩
        case measure => simp [intOf]; omega
      · have hke : k = us.length := by omega
        subst hke
        have HKR : Hid (Keeps (Iv w0.heap.size w2.heap.size) w3 wr) := hkp
        have HSR : Hid (SeesN wr B0 ao us) := hsr
        have HDR : Hid (Ds wr r V xs rs) := HD3.out.keeps hkp (fun b hb hc => by have := HVL.out b hb; have := hc.1; omega)
        have s4 := hkp.size
        clear hkp hsr hzl hzp hzr HD3 HS3 HR3
        go_wp2
        (refine wp_region_held_drew (S := (fun W' => W'.cell? ⟨w.heap.size, 1, none⟩ = some (.slice ao us.length cap))) (by kernel_rfl) n1r (fun hHeld => ?_); simp only [List.size_toArray, List.length_cons, List.length_nil, Nat.reduceAdd, Array.replicate_succ, Array.replicate_zero, List.push_toArray, List.append_toArray, List.nil_append, List.cons_append])
        (refine tk0 (v := ?_) (by kernel_rfl) (by kernel_rfl) (by kernel_rfl) (fun _ _ _ h => h) (Or.inl ⟨by rfl, ?_⟩) (by assumption) ?_; rotate_left; (focus (intro w hSw; (try dsimp only at hSw); go_simp; (try first | (rw [dif_pos (by omega)]; simp only [Result.andThen_ok]) | rw [if_pos (by omega)]); (try with_reducible rfl); done)); try simp only [Act.put, List.setIfInBounds_toArray, List.set_cons_zero, List.set_cons_succ])
        (refine tk1 (v := ?_) (by kernel_rfl) (by kernel_rfl) (by kernel_rfl) (fun _ _ _ h => h) (Or.inl ⟨by rfl, ?_⟩) (by assumption) ?_; rotate_left; (focus (intro w hSw; (try dsimp only at hSw); go_simp; (try first | (rw [dif_pos (by omega)]; simp only [Result.andThen_ok]) | rw [if_pos (by omega)]); (try with_reducible rfl); done)); try simp only [Act.put, List.setIfInBounds_toArray, List.set_cons_zero, List.set_cons_succ])
        (refine tk2 (v := ?_) (by kernel_rfl) (by kernel_rfl) (by kernel_rfl) (fun _ _ _ h => h) (Or.inl ⟨by rfl, ?_⟩) (by assumption) ?_; rotate_left; (focus (intro w hSw; (try dsimp only at hSw); go_simp; (try first | (rw [dif_pos (by omega)]; simp only [Result.andThen_ok]) | rw [if_pos (by omega)]); (try with_reducible rfl); done)); try simp only [Act.put, List.setIfInBounds_toArray, List.set_cons_zero, List.set_cons_succ])
        (refine tk4 (v := ?_) (by kernel_rfl) (by kernel_rfl) (by kernel_rfl) (fun _ _ _ h => h) (Or.inl ⟨by rfl, ?_⟩) (by assumption) ?_; rotate_left; (focus (intro w hSw; (try dsimp only at hSw); go_simp; (try first | (rw [dif_pos (by omega)]; simp only [Result.andThen_ok]) | rw [if_pos (by omega)]); (try with_reducible rfl); done)); try simp only [Act.put, List.setIfInBounds_toArray, List.set_cons_zero, List.set_cons_succ])
        (refine tk5 (v := ?_) (by kernel_rfl) (by kernel_rfl) (by kernel_rfl) (fun _ _ _ h => h) (Or.inl ⟨by rfl, ?_⟩) (by assumption) ?_; rotate_left; (focus (intro w hSw; (try dsimp only at hSw); go_simp; (try first | (rw [dif_pos (by omega)]; simp only [Result.andThen_ok]) | rw [if_pos (by omega)]); (try with_reducible rfl); done)); try simp only [Act.put, List.setIfInBounds_toArray, List.set_cons_zero, List.set_cons_succ])
        (refine tk6 (v := ?_) (by kernel_rfl) (by kernel_rfl) (by kernel_rfl) (fun _ _ _ h => h) (Or.inl ⟨by rfl, ?_⟩) (by assumption) ?_; rotate_left; (focus (intro w hSw; (try dsimp only at hSw); go_simp; (try first | (rw [dif_pos (by omega)]; simp only [Result.andThen_ok]) | rw [if_pos (by omega)]); (try with_reducible rfl); done)); try simp only [Act.put, List.setIfInBounds_toArray, List.set_cons_zero, List.set_cons_succ])
        (refine wpAnyH_ready (rs := [3]) (by kernel_rfl) (by simp) ?_; refine ar3 (fun K hK => ?_) AllReadyH.nil; go_simp)
        refine (num_any wr.drew (addE xs us)).mono ?_
        rintro _ w5 ⟨rfl, hw5⟩
        subst hw5
        (refine hK.out _ _ n1r (fun hHeld => ?_); clear hK K; try simp only [Act.put, List.setIfInBounds_toArray, List.set_cons_zero, List.set_cons_succ])
        (refine wpAnyH_ready (rs := [7]) (by kernel_rfl) (by simp) ?_; refine ar7 (fun K hK => ?_) AllReadyH.nil; go_simp)
        refine (ds_read wr.drew r V xs rs ao cap us (HDR.out.later (Below.refl _ _).drew) lx (fun i hi => by
          obtain ⟨b, off, e, hb, c⟩ := HSR.out i hi
          exact ⟨b, off, e, by show b < wr.heap.size; omega, c⟩) hy).mono ?_
        rintro _ w6 ⟨rfl, hp6⟩
        have hkp6 : Keeps V wr.drew w6 := by obtain ⟨U', _, _, h3⟩ := hp6; exact h3
        have n6 : w6.cell? ⟨w.heap.size, 1, none⟩ = some (.slice ao us.length cap) := (hkp6.cell (p := ⟨w.heap.size, 1, none⟩) (cell_lt n1r) (fun e => by have e' : w.heap.size < w.heap.size := HVL.out _ e; omega)).trans n1r
        have HFIN : Hid (DuoTo w g r W w6) := Duo.both HSB.out HLT.out HDI.out HBA.out HP3.out HKR.out.drew (fun b hb => ⟨by have := hb.1; omega, hb.2⟩) hp6 (addL_len lx) lr HOK.out
        clear hkp6 hp6
        (refine hK.out _ _ n6 (fun hHeld => ?_); clear hK K; try simp only [Act.put, List.setIfInBounds_toArray, List.set_cons_zero, List.set_cons_succ])
        generalize addE xs us = c at *
        (refine tk8 (v := ?_) (by kernel_rfl) (by kernel_rfl) (by kernel_rfl) (fun _ _ _ h => h) (Or.inl ⟨by rfl, ?_⟩) (by assumption) ?_; rotate_left; (focus (intro w hSw; (try dsimp only at hSw); go_simp; (try first | (rw [dif_pos (by omega)]; simp only [Result.andThen_ok]) | rw [if_pos (by omega)]); (try with_reducible rfl); done)); try simp only [Act.put, List.setIfInBounds_toArray, List.set_cons_zero, List.set_cons_succ])
        (refine tk9 (v := ?_) (by kernel_rfl) (by kernel_rfl) (by kernel_rfl) (fun _ _ _ h => h) (Or.inl ⟨by rfl, ?_⟩) (by assumption) ?_; rotate_left; (focus (intro w hSw; (try dsimp only at hSw); go_simp; (try first | (rw [dif_pos (by omega)]; simp only [Result.andThen_ok]) | rw [if_pos (by omega)]); (try with_reducible rfl); done)); try simp only [Act.put, List.setIfInBounds_toArray, List.set_cons_zero, List.set_cons_succ])
        (refine tk10 (v := ?_) (by kernel_rfl) (by kernel_rfl) (by kernel_rfl) (fun _ _ _ h => h) (Or.inl ⟨by rfl, ?_⟩) (by assumption) ?_; rotate_left; (focus (intro w hSw; (try dsimp only at hSw); go_simp; (try first | (rw [dif_pos (by omega)]; simp only [Result.andThen_ok]) | rw [if_pos (by omega)]); (try with_reducible rfl); done)); try simp only [Act.put, List.setIfInBounds_toArray, List.set_cons_zero, List.set_cons_succ])
        refine wpAnyH_done (by kernel_rfl) ?_ _
        go_wp2
        go_ret
        exact ⟨rfl, HFIN.out⟩
  · by_cases k2 : kd = 2
    · subst k2
      obtain ⟨w0, hw0⟩ : ∃ w0, w0 = w.alloc (.cells #[.int .i64 2, .slice ao us.length cap, .string lo, .string hi] 30) := ⟨_, rfl⟩
      have n2 : w0.cell? ⟨w.heap.size, 2, none⟩ = some (.string lo) := by rw [hw0]; simp
      have n3 : w0.cell? ⟨w.heap.size, 3, none⟩ = some (.string hi) := by rw [hw0]; simp
      have HBW : Hid (Below w.heap.size w w0) := by rw [hw0]; exact HB0.out
      have hsz : w0.heap.size = w.heap.size + 1 := by rw [hw0]; simp
      have HZ : Hid _ := hsz
      clear hsz HB0
      obtain ⟨U, V, hP, hD, hdis, hsub, hlt, lx, lr, hok⟩ := HH.out
      have HP : Hid (Ps w g U xs rs) := hP
      have HD : Hid (Ds w r V xs rs) := hD
      have HDI : Hid (Dis U V) := hdis
      have HSB : Hid (∀ b, U b ∨ V b → W b) := hsub
      have HLT : Hid (∀ b, W b → b < w.heap.size) := hlt
      have HOK : Hid (∀ y ∈ rs, okR y) := hok
      clear hP hD hdis hsub hlt hok
      go_enter Try.func6, Try.ntmps6
      go_wp2
      rw [← hw0]
      clear hw0
      (refine wp_region_held_drew (S := (fun W' => W'.cell? ⟨w.heap.size, 2, none⟩ = some (.string lo) ∧ W'.cell? ⟨w.heap.size, 3, none⟩ = some (.string hi))) (by kernel_rfl) ⟨n2, n3⟩ (fun hHeld => ?_); simp only [List.size_toArray, List.length_cons, List.length_nil, Nat.reduceAdd, Array.replicate_succ, Array.replicate_zero, List.push_toArray, List.append_toArray, List.nil_append, List.cons_append])
      (refine tk0 (v := ?_) (by kernel_rfl) (by kernel_rfl) (by kernel_rfl) (fun _ _ _ h => h) (Or.inl ⟨by rfl, ?_⟩) (by assumption) ?_; rotate_left; (focus (intro w hSw; (try dsimp only at hSw); go_simp; (try first | (rw [dif_pos (by omega)]; simp only [Result.andThen_ok]) | rw [if_pos (by omega)]); (try with_reducible rfl); done)); try simp only [Act.put, List.setIfInBounds_toArray, List.set_cons_zero, List.set_cons_succ])
      (refine tk1 (v := ?_) (by kernel_rfl) (by kernel_rfl) (by kernel_rfl) (fun _ _ _ h => h) (Or.inl ⟨by rfl, ?_⟩) (by assumption) ?_; rotate_left; (focus (intro w hSw; (try dsimp only at hSw); go_simp; (try first | (rw [dif_pos (by omega)]; simp only [Result.andThen_ok]) | rw [if_pos (by omega)]); (try with_reducible rfl); done)); try simp only [Act.put, List.setIfInBounds_toArray, List.set_cons_zero, List.set_cons_succ])
      (refine tk2 (v := ?_) (by kernel_rfl) (by kernel_rfl) (by kernel_rfl) (fun _ _ _ h => h) (Or.inl ⟨by rfl, ?_⟩) (by assumption) ?_; rotate_left; (focus (intro w hSw; (try dsimp only at hSw); go_simp; (try first | (rw [dif_pos (by omega)]; simp only [Result.andThen_ok]) | rw [if_pos (by omega)]); (try with_reducible rfl); done)); try simp only [Act.put, List.setIfInBounds_toArray, List.set_cons_zero, List.set_cons_succ])
      (refine tk3 (v := ?_) (by kernel_rfl) (by kernel_rfl) (by kernel_rfl) (fun _ _ _ h => h) (Or.inl ⟨by rfl, ?_⟩) (by assumption) ?_; rotate_left; (focus (intro w hSw; (try dsimp only at hSw); go_simp; (try first | (rw [dif_pos (by omega)]; simp only [Result.andThen_ok]) | rw [if_pos (by omega)]); (try with_reducible rfl); done)); try simp only [Act.put, List.setIfInBounds_toArray, List.set_cons_zero, List.set_cons_succ])
      (refine tk4 (v := ?_) (by kernel_rfl) (by kernel_rfl) (by kernel_rfl) (fun _ _ _ h => h) (Or.inl ⟨by rfl, ?_⟩) (by assumption) ?_; rotate_left; (focus (intro w hSw; (try dsimp only at hSw); go_simp; (try first | (rw [dif_pos (by omega)]; simp only [Result.andThen_ok]) | rw [if_pos (by omega)]); (try with_reducible rfl); done)); try simp only [Act.put, List.setIfInBounds_toArray, List.set_cons_zero, List.set_cons_succ])
      (refine tk7 (v := ?_) (by kernel_rfl) (by kernel_rfl) (by kernel_rfl) (fun _ _ _ h => h) (Or.inl ⟨by rfl, ?_⟩) (by assumption) ?_; rotate_left; (focus (intro w hSw; (try dsimp only at hSw); go_simp; (try first | (rw [dif_pos (by omega)]; simp only [Result.andThen_ok]) | rw [if_pos (by omega)]); (try with_reducible rfl); done)); try simp only [Act.put, List.setIfInBounds_toArray, List.set_cons_zero, List.set_cons_succ])
      (refine tk8 (v := ?_) (by kernel_rfl) (by kernel_rfl) (by kernel_rfl) (fun _ _ _ h => h) (Or.inl ⟨by rfl, ?_⟩) (by assumption) ?_; rotate_left; (focus (intro w hSw; (try dsimp only at hSw); go_simp; (try first | (rw [dif_pos (by omega)]; simp only [Result.andThen_ok]) | rw [if_pos (by omega)]); (try with_reducible rfl); done)); try simp only [Act.put, List.setIfInBounds_toArray, List.set_cons_zero, List.set_cons_succ])
      (refine tk9 (v := ?_) (by kernel_rfl) (by kernel_rfl) (by kernel_rfl) (fun _ _ _ h => h) (Or.inl ⟨by rfl, ?_⟩) (by assumption) ?_; rotate_left; (focus (intro w hSw; (try dsimp only at hSw); go_simp; (try first | (rw [dif_pos (by omega)]; simp only [Result.andThen_ok]) | rw [if_pos (by omega)]); (try with_reducible rfl); done)); try simp only [Act.put, List.setIfInBounds_toArray, List.set_cons_zero, List.set_cons_succ])
      (refine tk10 (v := ?_) (by kernel_rfl) (by kernel_rfl) (by kernel_rfl) (fun _ _ _ h => h) (Or.inl ⟨by rfl, ?_⟩) (by assumption) ?_; rotate_left; (focus (intro w hSw; (try dsimp only at hSw); go_simp; (try first | (rw [dif_pos (by omega)]; simp only [Result.andThen_ok]) | rw [if_pos (by omega)]); (try with_reducible rfl); done)); try simp only [Act.put, List.setIfInBounds_toArray, List.set_cons_zero, List.set_cons_succ])
      (refine tk11 (v := ?_) (by kernel_rfl) (by kernel_rfl) (by kernel_rfl) (fun _ _ _ h => h) (Or.inl ⟨by rfl, ?_⟩) (by assumption) ?_; rotate_left; (focus (intro w hSw; (try dsimp only at hSw); go_simp; (try first | (rw [dif_pos (by omega)]; simp only [Result.andThen_ok]) | rw [if_pos (by omega)]); (try with_reducible rfl); done)); try simp only [Act.put, List.setIfInBounds_toArray, List.set_cons_zero, List.set_cons_succ])
      (refine wpAnyH_ready (rs := [5]) (by kernel_rfl) (by simp) ?_; refine ar5 (fun K hK => ?_) AllReadyH.nil; go_simp)
      refine (ps_look w0.drew g U xs rs lo hi (HP.out.later HBW.out.drew) lr hx HOK.out).mono ?_
      rintro _ w1 ⟨rfl, hp1⟩
      have hkp1 : Keeps U w0.drew w1 := by obtain ⟨U', _, _, h3⟩ := hp1; exact h3
      have hlt0 : w.heap.size < w0.drew.heap.size := by show _ < w0.heap.size; rw [HZ.out]; omega
      have hnU : ¬ U w.heap.size := fun e => by have := HLT.out _ (HSB.out _ (Or.inl e)); omega
      have m2 : w1.cell? ⟨w.heap.size, 2, none⟩ = some (.string lo) := (hkp1.cell (p := ⟨w.heap.size, 2, none⟩) hlt0 hnU).trans n2
      have m3 : w1.cell? ⟨w.heap.size, 3, none⟩ = some (.string hi) := (hkp1.cell (p := ⟨w.heap.size, 3, none⟩) hlt0 hnU).trans n3
      have HD1 : Hid (Ds w1 r V xs rs) := (HD.out.later HBW.out.drew).keeps hkp1 (fun b hb hc => HDI.out b hc hb)
      have HP1 : Hid (PsTo w0.drew g U xs (addLR rs (lo, hi)) w1) := hp1
      clear hkp1 hlt0 hnU hp1 HP HD
      (refine hK.out _ _ ⟨m2, m3⟩ (fun hHeld => ?_); clear hK K; try simp only [Act.put, List.setIfInBounds_toArray, List.set_cons_zero, List.set_cons_succ])
      (refine wpAnyH_ready (rs := [6]) (by kernel_rfl) (by simp) ?_; refine ar6 (fun K hK => ?_) AllReadyH.nil; go_simp)
      refine (num_any w1 (addER rs (lo, hi))).mono ?_
      rintro _ w1' ⟨rfl, hw1⟩
      subst hw1
      (refine hK.out _ _ ⟨m2, m3⟩ (fun hHeld => ?_); clear hK K; try simp only [Act.put, List.setIfInBounds_toArray, List.set_cons_zero, List.set_cons_succ])
      (refine wpAnyH_ready (rs := [12]) (by kernel_rfl) (by simp) ?_; refine ar12 (fun K hK => ?_) AllReadyH.nil; go_simp)
      refine (ds_look w1' r V xs rs lo hi HD1.out lr).mono ?_
      rintro _ w2 ⟨rfl, hp2⟩
      have HQ : Hid (DsTo w1' r V xs (addLR rs (lo, hi)) w2) := hp2
      have hkp2 : Keeps V w1' w2 := by obtain ⟨U', _, _, h3⟩ := hp2; exact h3
      have hlt1 := cell_lt m2
      have hnV : ¬ V w.heap.size := fun e => by have := HLT.out _ (HSB.out _ (Or.inr e)); omega
      have o2 : w2.cell? ⟨w.heap.size, 2, none⟩ = some (.string lo) := (hkp2.cell (p := ⟨w.heap.size, 2, none⟩) hlt1 hnV).trans m2
      have o3 : w2.cell? ⟨w.heap.size, 3, none⟩ = some (.string hi) := (hkp2.cell (p := ⟨w.heap.size, 3, none⟩) hlt1 hnV).trans m3
      clear hkp2 hlt1 hnV hp2
      have HFIN : Hid (DuoTo w g r W w2) := Duo.both HSB.out HLT.out HDI.out HBW.out.drew HP1.out (Keeps.refl (fun _ => False) w1') (fun b h => h.elim) HQ.out lx (addR_len _ lr) (addR_ok HOK.out hx)
      (refine hK.out _ _ ⟨o2, o3⟩ (fun hHeld => ?_); clear hK K; try simp only [Act.put, List.setIfInBounds_toArray, List.set_cons_zero, List.set_cons_succ])
      generalize addER rs (lo, hi) = c at *
      (refine tk13 (v := ?_) (by kernel_rfl) (by kernel_rfl) (by kernel_rfl) (fun _ _ _ h => h) (Or.inl ⟨by rfl, ?_⟩) (by assumption) ?_; rotate_left; (focus (intro w hSw; (try dsimp only at hSw); go_simp; (try first | (rw [dif_pos (by omega)]; simp only [Result.andThen_ok]) | rw [if_pos (by omega)]); (try with_reducible rfl); done)); try simp only [Act.put, List.setIfInBounds_toArray, List.set_cons_zero, List.set_cons_succ])
      (refine tk14 (v := ?_) (by kernel_rfl) (by kernel_rfl) (by kernel_rfl) (fun _ _ _ h => h) (Or.inl ⟨by rfl, ?_⟩) (by assumption) ?_; rotate_left; (focus (intro w hSw; (try dsimp only at hSw); go_simp; (try first | (rw [dif_pos (by omega)]; simp only [Result.andThen_ok]) | rw [if_pos (by omega)]); (try with_reducible rfl); done)); try simp only [Act.put, List.setIfInBounds_toArray, List.set_cons_zero, List.set_cons_succ])
      refine wpAnyH_done (by kernel_rfl) ?_ _
      go_wp2
      go_ret
      exact ⟨rfl, HFIN.out⟩
    · by_cases k3 : kd = 3
      · subst k3
        go_enter Try.func6, Try.ntmps6
        go_wp2_with fail
        refine (listed_any _ g r W xs rs (HH.out.later HB0.out)).mono ?_
        rintro _ w1 ⟨rfl, hb1⟩
        have HB1 : Hid (Below w.heap.size w w1) := HB0.out.trans (hb1.mono HB0.out.size)
        clear hb1
        go_wp2
        go_ret
        exact ⟨rfl, DuoTo.same HH.out HB1.out⟩
      · by_cases k4 : kd = 4
        · subst k4
          cases us with
          | nil =>
            go_enter Try.func6, Try.ntmps6
            go_wp2
            go_ret
            exact ⟨rfl, DuoTo.same HH.out HB0.out⟩
          | cons u us =>
            obtain ⟨b, off, hao, hb, hc⟩ := HS.out 0 (by simp)
            have hwu := HW.out u (by simp)
            have hc' : w.cell? ⟨b, off, none⟩ = some (.int .i64 u) := hc
            subst hao
            obtain ⟨w0, hw0⟩ : ∃ w0, w0 = w.alloc (.cells #[.int .i64 4, .slice (some ⟨b, off, none⟩) (u :: us).length cap, .string lo, .string hi] 30) := ⟨_, rfl⟩
            have n1 : w0.cell? ⟨w.heap.size, 1, none⟩ = some (.slice (some ⟨b, off, none⟩) (u :: us).length cap) := by rw [hw0]; simp
            have n0 : w0.cell? ⟨w.heap.size, 0, none⟩ = some (.int .i64 4) := by rw [hw0]; simp
            have nu : w0.cell? ⟨b, off, none⟩ = some (.int .i64 u) := by rw [hw0]; exact (cell_al w _ (p := ⟨b, off, none⟩) hb).trans hc'
            have HBW : Hid (Below w.heap.size w w0) := by rw [hw0]; exact HB0.out
            have hsz : w0.heap.size = w.heap.size + 1 := by rw [hw0]; simp
            have HZ : Hid _ := hsz
            clear hsz HB0
            obtain ⟨U, V, hP, hD, hdis, hsub, hlt, lx, lr, hok⟩ := HH.out
            have HP : Hid (Ps w g U xs rs) := hP
            have HD : Hid (Ds w r V xs rs) := hD
            clear hP hD hdis hsub hlt lr hok hc hc'
            generalize hn : (u :: us).length = n at *
            have hn0 : 0 < n := by rw [← hn]; simp
            have HNN : Hid _ := hn
            clear hn
            go_enter Try.func6, Try.ntmps6
            go_wp2
            rw [← hw0]
            clear hw0
            (refine wp_region_held_drew (S := (fun W' => W'.cell? ⟨w.heap.size, 1, none⟩ = some (.slice (some ⟨b, off, none⟩) n cap) ∧ W'.cell? ⟨b, off, none⟩ = some (.int .i64 u))) (by kernel_rfl) ⟨n1, nu⟩ (fun hHeld => ?_); simp only [List.size_toArray, List.length_cons, List.length_nil, Nat.reduceAdd, Array.replicate_succ, Array.replicate_zero, List.push_toArray, List.append_toArray, List.nil_append, List.cons_append])
            (refine tk0 (v := ?_) (by kernel_rfl) (by kernel_rfl) (by kernel_rfl) (fun _ _ _ h => h) (Or.inl ⟨by rfl, ?_⟩) (by assumption) ?_; rotate_left; (focus (intro w hSw; (try dsimp only at hSw); go_simp; (try first | (rw [dif_pos (by omega)]; simp only [Result.andThen_ok]) | rw [if_pos (by omega)]); (try with_reducible rfl); done)); try simp only [Act.put, List.setIfInBounds_toArray, List.set_cons_zero, List.set_cons_succ])
            (refine tk1 (v := ?_) (by kernel_rfl) (by kernel_rfl) (by kernel_rfl) (fun _ _ _ h => h) (Or.inl ⟨by rfl, ?_⟩) (by assumption) ?_; rotate_left; (focus (intro w hSw; (try dsimp only at hSw); go_simp; (try first | (rw [dif_pos (by omega)]; simp only [Result.andThen_ok]) | rw [if_pos (by omega)]); (try with_reducible rfl); done)); try simp only [Act.put, List.setIfInBounds_toArray, List.set_cons_zero, List.set_cons_succ])
            (refine tk2 (v := ?_) (by kernel_rfl) (by kernel_rfl) (by kernel_rfl) (fun _ _ _ h => h) (Or.inl ⟨by rfl, ?_⟩) (by assumption) ?_; rotate_left; (focus (intro w hSw; (try dsimp only at hSw); go_simp; (try first | (rw [dif_pos (by omega)]; simp only [Result.andThen_ok]) | rw [if_pos (by omega)]); (try with_reducible rfl); done)); try simp only [Act.put, List.setIfInBounds_toArray, List.set_cons_zero, List.set_cons_succ])
            (refine tk3 (v := ?_) (by kernel_rfl) (by kernel_rfl) (by kernel_rfl) (fun _ _ _ h => h) (Or.inl ⟨by rfl, ?_⟩) (by assumption) ?_; rotate_left; (focus (intro w hSw; (try dsimp only at hSw); go_simp; (try first | (rw [dif_pos (by omega)]; simp only [Result.andThen_ok]) | rw [if_pos (by omega)]); (try with_reducible rfl); done)); try simp only [Act.put, List.setIfInBounds_toArray, List.set_cons_zero, List.set_cons_succ])
            (refine tk4 (v := ?_) (by kernel_rfl) (by kernel_rfl) (by kernel_rfl) (fun _ _ _ h => h) (Or.inl ⟨by rfl, ?_⟩) (by assumption) ?_; rotate_left; (focus (intro w hSw; (try dsimp only at hSw); go_simp; (try first | (rw [dif_pos (by omega)]; simp only [Result.andThen_ok]) | rw [if_pos (by omega)]); (try with_reducible rfl); done)); try simp only [Act.put, List.setIfInBounds_toArray, List.set_cons_zero, List.set_cons_succ])
            (refine tk6 (v := ?_) (by kernel_rfl) (by kernel_rfl) (by kernel_rfl) (fun _ _ _ h => h) (Or.inl ⟨by rfl, ?_⟩) (by assumption) ?_; rotate_left; (focus (intro w hSw; (try dsimp only at hSw); go_simp; (try first | (rw [dif_pos (by omega)]; simp only [Result.andThen_ok]) | rw [if_pos (by omega)]); (try with_reducible rfl); done)); try simp only [Act.put, List.setIfInBounds_toArray, List.set_cons_zero, List.set_cons_succ])
            (refine tk7 (v := ?_) (by kernel_rfl) (by kernel_rfl) (by kernel_rfl) (fun _ _ _ h => h) (Or.inl ⟨by rfl, ?_⟩) (by assumption) ?_; rotate_left; (focus (intro w hSw; (try dsimp only at hSw); go_simp; (try first | (rw [dif_pos (by omega)]; simp only [Result.andThen_ok]) | rw [if_pos (by omega)]); (try with_reducible rfl); done)); try simp only [Act.put, List.setIfInBounds_toArray, List.set_cons_zero, List.set_cons_succ])
            (refine tk8 (v := ?_) (by kernel_rfl) (by kernel_rfl) (by kernel_rfl) (fun _ _ _ h => h) (Or.inl ⟨by rfl, ?_⟩) (by assumption) ?_; rotate_left; (focus (intro w hSw; (try dsimp only at hSw); go_simp; (try first | (rw [dif_pos (by omega)]; simp only [Result.andThen_ok]) | rw [if_pos (by omega)]); (try with_reducible rfl); done)); try simp only [Act.put, List.setIfInBounds_toArray, List.set_cons_zero, List.set_cons_succ])
            (refine tk9 (v := ?_) (by kernel_rfl) (by kernel_rfl) (by kernel_rfl) (fun _ _ _ h => h) (Or.inl ⟨by rfl, ?_⟩) (by assumption) ?_; rotate_left; (focus (intro w hSw; (try dsimp only at hSw); go_simp; (try first | (rw [dif_pos (by omega)]; simp only [Result.andThen_ok]) | rw [if_pos (by omega)]); (try with_reducible rfl); done)); try simp only [Act.put, List.setIfInBounds_toArray, List.set_cons_zero, List.set_cons_succ])
            (refine tk10 (v := ?_) (by kernel_rfl) (by kernel_rfl) (by kernel_rfl) (fun _ _ _ h => h) (Or.inl ⟨by rfl, ?_⟩) (by assumption) ?_; rotate_left; (focus (intro w hSw; (try dsimp only at hSw); go_simp; (try first | (rw [dif_pos (by omega)]; simp only [Result.andThen_ok]) | rw [if_pos (by omega)]); (try with_reducible rfl); done)); try simp only [Act.put, List.setIfInBounds_toArray, List.set_cons_zero, List.set_cons_succ])
            (refine wpAnyH_ready (rs := [5]) (by kernel_rfl) (by simp) ?_; refine ar5 (fun K hK => ?_) AllReadyH.nil; go_simp)
            refine (ps_has w0.drew g U xs rs u (HP.out.later HBW.out.drew) hwu).mono ?_
            rintro _ w1 ⟨rfl, hb1⟩
            have hlt0 : w.heap.size < w0.drew.heap.size := by show _ < w0.heap.size; rw [HZ.out]; omega
            have m1 : w1.cell? ⟨w.heap.size, 1, none⟩ = some (.slice (some ⟨b, off, none⟩) n cap) := (hb1.cell (p := ⟨w.heap.size, 1, none⟩) hlt0).trans n1
            have mu : w1.cell? ⟨b, off, none⟩ = some (.int .i64 u) := (hb1.cell (p := ⟨b, off, none⟩) (by show b < _; omega)).trans nu
            have HB1 : Hid (Below w.heap.size w w1) := HBW.out.drew.trans (hb1.mono HBW.out.drew.size)
            clear hb1 hlt0
            (refine hK.out _ _ ⟨m1, mu⟩ (fun hHeld => ?_); clear hK K; try simp only [Act.put, List.setIfInBounds_toArray, List.set_cons_zero, List.set_cons_succ])
            (refine wpAnyH_ready (rs := [11]) (by kernel_rfl) (by simp) ?_; refine ar11 (fun K hK => ?_) AllReadyH.nil; go_simp)
            refine (ds_has w1 r V xs rs u (HD.out.later HB1.out) lx).mono ?_
            rintro _ w2 ⟨rfl, hw2⟩
            subst hw2
            (refine hK.out _ _ ⟨m1, mu⟩ (fun hHeld => ?_); clear hK K; try simp only [Act.put, List.setIfInBounds_toArray, List.set_cons_zero, List.set_cons_succ])
            generalize isIn xs u = c at *
            have hcc : (c == c) = true := beq_self_eq_true c
            (refine tk12 (v := ?_) (by kernel_rfl) (by kernel_rfl) (by kernel_rfl) (fun _ _ _ h => h) (Or.inl ⟨by rfl, ?_⟩) (by assumption) ?_; rotate_left; (focus (intro w hSw; (try dsimp only at hSw); go_simp; (try first | (rw [dif_pos (by omega)]; simp only [Result.andThen_ok]) | rw [if_pos (by omega)]); (try with_reducible rfl); done)); try simp only [Act.put, List.setIfInBounds_toArray, List.set_cons_zero, List.set_cons_succ])
            (refine tk13 (v := ?_) (by kernel_rfl) (by kernel_rfl) (by kernel_rfl) (fun _ _ _ h => h) (Or.inl ⟨by rfl, ?_⟩) (by assumption) ?_; rotate_left; (focus (intro w hSw; (try dsimp only at hSw); go_simp; (try first | (rw [dif_pos (by omega)]; simp only [Result.andThen_ok]) | rw [if_pos (by omega)]); (try with_reducible rfl); done)); try simp only [Act.put, List.setIfInBounds_toArray, List.set_cons_zero, List.set_cons_succ])
            refine wpAnyH_done (by kernel_rfl) ?_ _
            go_wp2
            go_ret
            exact ⟨rfl, DuoTo.same HH.out HB1.out⟩
        · go_enter Try.func6, Try.ntmps6
          go_wp2
          go_ret
          exact ⟨rfl, DuoTo.same HH.out HB0.out⟩
end Go.Proofs.Ytoojfoeehdoeoaa
