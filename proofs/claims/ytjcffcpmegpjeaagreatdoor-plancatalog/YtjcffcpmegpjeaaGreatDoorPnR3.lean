import Derived.Test.YtjcffcpmegpjeaaGreatDoorPnR1
namespace Go.Proofs.YtjcffcpmegpjeaaGreatDoor
set_option linter.unusedSimpArgs false
open Go.ChangeShapes Go.WideShapes Go.ChangeAt Go.RowKit
set_option linter.unusedVariables false
set_option maxRecDepth 100000
theorem colE_chk (v : VL) (c : CD) : colE v c = if chkE v c.2.1 ≠ 0 then chkE v c.2.1 else if v.1 = 0 ∧ c.2.2 = true then 166 else 0 := by
  unfold colE chkE
  by_cases h1 : faultV v = 0
  · by_cases h2 : v.1 = 0
    · by_cases h3 : c.2.2 = true <;> simp [h1, h2, h3]
    · by_cases h3 : v.1 = c.2.1
      · have h4 : ¬ c.2.1 = 0 := by rw [← h3]; exact h2
        simp [h1, h2, h3, h4]
      · simp [h1, h2, h3]
  · simp [h1]
theorem cellsV {w : World} {g : Nat} {k i : Int} {t : ByteArray} (h : w.heap[g]? = some (.cells #[.int .i64 k, .int .i64 i, .string t] 59)) : w.cell? ⟨g, 0, none⟩ = some (.int .i64 k) ∧ w.cell? ⟨g, 1, none⟩ = some (.int .i64 i) ∧ w.cell? ⟨g, 2, none⟩ = some (.string t) := by
  unfold World.cell?
  rw [h]
  exact ⟨rfl, rfl, rfl⟩
set_option maxHeartbeats 4000000 in
theorem rowOneT (n : Nat) (v : VL) (cs : List CD) (cv : Value) (tb B : Nat) (w : World) (hB : B ≤ w.heap.size) (hn : n < cs.length) (hv : VOK v) (hc : w.cell? ⟨tb, 2, none⟩ = some cv) (hs : SeesC w B cv cs) :
    Calls Tryz.prog 46 #[.int .i64 (n : Int), .agg #[.int .i64 v.1, .int .i64 v.2.1, .string v.2.2], .pointer (some ⟨tb, 0, none⟩)] w fun e w' => e = .returned (errO (colE v cs[n])) ∧ Below w.heap.size w w' := by
  obtain ⟨ca, cc, rfl⟩ := hs.form
  have hni : (n : Int) < (cs.length : Int) := by omega
  have HB1 : Hid (Below w.heap.size w (w.alloc (.cells #[.int .i64 v.1, .int .i64 v.2.1, .string v.2.2] 59))) := boxVal w v
  have hs1 : (w.alloc (.cells #[.int .i64 v.1, .int .i64 v.2.1, .string v.2.2] 59)).heap.size = w.heap.size + 1 := szAl _ _
  have hbx : (w.alloc (.cells #[.int .i64 v.1, .int .i64 v.2.1, .string v.2.2] 59)).heap[w.heap.size]? = some (.cells #[.int .i64 v.1, .int .i64 v.2.1, .string v.2.2] 59) := by
    show (w.heap.push _)[w.heap.size]? = _
    simp
  have htl : tb < w.heap.size := World.block_lt_of_cell? _ _ hc
  have hc1 : (w.alloc (.cells #[.int .i64 v.1, .int .i64 v.2.1, .string v.2.2] 59)).cell? ⟨tb, 2, none⟩ = some (.slice ca cs.length cc) := by rw [HB1.out.cell (p := ⟨tb, 2, none⟩) htl]; exact hc
  have HS : Hid (SeesC (w.alloc (.cells #[.int .i64 v.1, .int .i64 v.2.1, .string v.2.2] 59)) B (.slice ca cs.length cc) cs) := hs.later (HB1.out.mono hB)
  obtain ⟨b, off, rfl, c0, c1, c2⟩ := HS.out.cell n hn
  have HE : Hid (colE v cs[n] = if chkE v cs[n].2.1 ≠ 0 then chkE v cs[n].2.1 else if v.1 = 0 ∧ cs[n].2.2 = true then 166 else 0) := colE_chk v cs[n]
  have hbl : b < w.heap.size + 1 := by rw [← hs1]; exact World.block_lt_of_cell? _ _ c1
  generalize cs[n] = c at *
  obtain ⟨cn, ct, nn⟩ := c
  have HCK : Hid (∀ W, Calls Tryz.prog 47 #[.agg #[.int .i64 v.1, .int .i64 v.2.1, .string v.2.2], .int .i64 ct] W fun e w' => e = .returned (errO (chkE v ct)) ∧ Below W.heap.size W w') := fun W => checkT v ct W hv
  have HN : Hid (∀ w, _) := fun w => isNullT v w
  obtain ⟨kd, i, t⟩ := v
  dsimp only at *
  obtain ⟨v0, v1, v2⟩ := cellsV hbx
  clear hc hs hv
  go_enter Tryz.func46, Tryz.ntmps46
  go_wp2_with fail
  generalize w.alloc (.cells #[.int .i64 kd, .int .i64 i, .string t] 59) = W at *
  (refine wp_region_held_drew (S := (fun w' => w'.cell? ⟨w.heap.size, 0, none⟩ = some (.int .i64 kd) ∧ w'.cell? ⟨w.heap.size, 1, none⟩ = some (.int .i64 i) ∧ w'.cell? ⟨w.heap.size, 2, none⟩ = some (.string t) ∧ w'.cell? ⟨tb, 2, none⟩ = some (.slice (some ⟨b, off, none⟩) cs.length cc) ∧ w'.cell? ⟨b, off + n * 3 + 1, none⟩ = some (.int .i64 ct))) (by kernel_rfl) ⟨v0, v1, v2, hc1, c1⟩ (fun hHeld => ?_); simp only [List.size_toArray, List.length_cons, List.length_nil, Nat.reduceAdd, Array.replicate_succ, Array.replicate_zero, List.push_toArray, List.append_toArray, List.nil_append, List.cons_append])
  (refine tk0 (v := ?_) (by kernel_rfl) (by kernel_rfl) (by kernel_rfl) (fun _ _ _ h => h) (Or.inl ⟨by rfl, ?_⟩) (by assumption) ?_; rotate_left; (focus (intro w hSw; (try dsimp only at hSw); go_simp; (try first | (rw [dif_pos (by omega)]; simp only [Result.andThen_ok]) | rw [if_pos (by omega)]); (try with_reducible rfl); done)); try simp only [Act.put, List.setIfInBounds_toArray, List.set_cons_zero, List.set_cons_succ])
  (refine tk1 (v := ?_) (by kernel_rfl) (by kernel_rfl) (by kernel_rfl) (fun _ _ _ h => h) (Or.inl ⟨by rfl, ?_⟩) (by assumption) ?_; rotate_left; (focus (intro w hSw; (try dsimp only at hSw); go_simp; (try first | (rw [dif_pos (by omega)]; simp only [Result.andThen_ok]) | rw [if_pos (by omega)]); (try with_reducible rfl); done)); try simp only [Act.put, List.setIfInBounds_toArray, List.set_cons_zero, List.set_cons_succ])
  (refine tk2 (v := ?_) (by kernel_rfl) (by kernel_rfl) (by kernel_rfl) (fun _ _ _ h => h) (Or.inl ⟨by rfl, ?_⟩) (by assumption) ?_; rotate_left; (focus (intro w hSw; (try dsimp only at hSw); go_simp; (try first | (rw [dif_pos (by omega)]; simp only [Result.andThen_ok]) | rw [if_pos (by omega)]); (try with_reducible rfl); done)); try simp only [Act.put, List.setIfInBounds_toArray, List.set_cons_zero, List.set_cons_succ])
  (refine tk3 (v := ?_) (by kernel_rfl) (by kernel_rfl) (by kernel_rfl) (fun _ _ _ h => h) (Or.inl ⟨by rfl, ?_⟩) (by assumption) ?_; rotate_left; (focus (intro w hSw; (try dsimp only at hSw); go_simp; (try first | (rw [dif_pos (by omega)]; simp only [Result.andThen_ok]) | rw [if_pos (by omega)]); (try with_reducible rfl); done)); try simp only [Act.put, List.setIfInBounds_toArray, List.set_cons_zero, List.set_cons_succ])
  (refine tk4 (v := ?_) (by kernel_rfl) (by kernel_rfl) (by kernel_rfl) (fun _ _ _ h => h) (Or.inl ⟨by rfl, ?_⟩) (by assumption) ?_; rotate_left; (focus (intro w hSw; (try dsimp only at hSw); go_simp; (try first | (rw [dif_pos (by omega)]; simp only [Result.andThen_ok]) | rw [if_pos (by omega)]); (try with_reducible rfl); done)); try simp only [Act.put, List.setIfInBounds_toArray, List.set_cons_zero, List.set_cons_succ])
  (refine tk5 (v := ?_) (by kernel_rfl) (by kernel_rfl) (by kernel_rfl) (fun _ _ _ h => h) (Or.inl ⟨by rfl, ?_⟩) (by assumption) ?_; rotate_left; (focus (intro w hSw; (try dsimp only at hSw); go_simp; (try first | (rw [dif_pos (by omega)]; simp only [Result.andThen_ok]) | rw [if_pos (by omega)]); (try with_reducible rfl); done)); try simp only [Act.put, List.setIfInBounds_toArray, List.set_cons_zero, List.set_cons_succ])
  (refine tk6 (v := ?_) (by kernel_rfl) (by kernel_rfl) (by kernel_rfl) (fun _ _ _ h => h) (Or.inl ⟨by rfl, ?_⟩) (by assumption) ?_; rotate_left; (focus (intro w hSw; (try dsimp only at hSw); go_simp; (try first | (rw [dif_pos (by omega)]; simp only [Result.andThen_ok]) | rw [if_pos (by omega)]); (try with_reducible rfl); done)); try simp only [Act.put, List.setIfInBounds_toArray, List.set_cons_zero, List.set_cons_succ])
  (refine wpAnyH_ready (rs := [7]) (by kernel_rfl) (by simp) ?_; refine ar7 (fun K hK => ?_) AllReadyH.nil; go_simp)
  go_at_call 47
  refine (HCK.out _).mono ?_
  rintro e w3 ⟨rfl, hb3⟩
  have hbW : Below W.heap.size W w3 := ⟨hb3.os, hb3.tape, hb3.output, hb3.size, hb3.block⟩
  have hwl : w.heap.size < W.heap.size := by omega
  have htW : tb < W.heap.size := by omega
  have hbbW : b < W.heap.size := by omega
  have f0 : w3.cell? ⟨w.heap.size, 0, none⟩ = some (.int .i64 kd) := by rw [hbW.cell (p := ⟨w.heap.size, 0, none⟩) hwl]; exact v0
  have f1 : w3.cell? ⟨w.heap.size, 1, none⟩ = some (.int .i64 i) := by rw [hbW.cell (p := ⟨w.heap.size, 1, none⟩) hwl]; exact v1
  have f2 : w3.cell? ⟨w.heap.size, 2, none⟩ = some (.string t) := by rw [hbW.cell (p := ⟨w.heap.size, 2, none⟩) hwl]; exact v2
  have f3 : w3.cell? ⟨tb, 2, none⟩ = some (.slice (some ⟨b, off, none⟩) cs.length cc) := by rw [hbW.cell (p := ⟨tb, 2, none⟩) htW]; exact hc1
  have f4 : w3.cell? ⟨b, off + n * 3 + 1, none⟩ = some (.int .i64 ct) := by rw [hbW.cell (p := ⟨b, off + n * 3 + 1, none⟩) hbbW]; exact c1
  have f5 : w3.cell? ⟨b, off + n * 3 + 2, none⟩ = some (.bool nn) := by rw [hbW.cell (p := ⟨b, off + n * 3 + 2, none⟩) hbbW]; exact c2
  have HB3 : Hid (Below w.heap.size w w3) := HB1.out.trans (hbW.mono (by omega))
  have hsz3 : w.heap.size < w3.heap.size := by have := hbW.size; omega
  have ht3 : tb < w3.heap.size := by omega
  have hb33 : b < w3.heap.size := by have := hbW.size; omega
  clear hb3 hbW v0 v1 v2 hc1 c0 c1 c2 HCK
  go_wp2_with fail
  (refine hK.out _ _ ⟨f0, f1, f2, f3, f4⟩ (fun hHeld => ?_); clear hK K; try simp only [Act.put, List.setIfInBounds_toArray, List.set_cons_zero, List.set_cons_succ])
  (refine tk8 (v := ?_) (by kernel_rfl) (by kernel_rfl) (by kernel_rfl) (fun _ _ _ h => h) (Or.inl ⟨by rfl, ?_⟩) (by assumption) ?_; rotate_left; (focus (intro w hSw; (try dsimp only at hSw); go_simp; (try first | (rw [dif_pos (by omega)]; simp only [Result.andThen_ok]) | rw [if_pos (by omega)]); (try with_reducible rfl); done)); try simp only [Act.put, List.setIfInBounds_toArray, List.set_cons_zero, List.set_cons_succ])
  refine wpAnyH_done (by kernel_rfl) ?_ _
  generalize chkE (kd, i, t) ct = x at *
  by_cases hx : x = 0
  · have HE2 : Hid (colE (kd, i, t) (cn, ct, nn) = if kd = 0 ∧ nn = true then 166 else 0) := by
      show _ = _
      rw [HE.out, if_neg (by simp [hx])]
    subst hx
    rw [errO_nil]
    go_wp2_with fail
    refine (HN.out _).mono ?_
    rintro e w4 ⟨rfl, hb4⟩
    have HB4 : Hid (Below w.heap.size w w4) := HB3.out.trans (Below.mono (⟨hb4.os, hb4.tape, hb4.output, hb4.size, hb4.block⟩ : Below w3.heap.size w3 w4) (by omega))
    have g3 : w4.cell? ⟨tb, 2, none⟩ = some (.slice (some ⟨b, off, none⟩) cs.length cc) := by rw [hb4.cell (p := ⟨tb, 2, none⟩) ht3]; exact f3
    have g5 : w4.cell? ⟨b, off + n * 3 + 2, none⟩ = some (.bool nn) := by rw [hb4.cell (p := ⟨b, off + n * 3 + 2, none⟩) hb33]; exact f5
    clear hb4 f0 f1 f2 f3 f4 f5 HN
    have HFn : Hid (∀ w, Calls Tryz.prog 48 #[.bool false, .int .i64 166] w fun e w' => e = .returned .nilIface ∧ w' = w) := fun w => (faultIfT false 166 (by decide) w).mono fun e w' h => ⟨h.1.trans (by rw [if_neg (by simp), errO_nil]), h.2⟩
    have HFy : Hid (∀ w, Calls Tryz.prog 48 #[.bool true, .int .i64 166] w fun e w' => e = .returned (.iface 90 (.agg #[.int .i64 166])) ∧ w' = w) := fun w => (faultIfT true 166 (by decide) w).mono fun e w' h => ⟨h.1.trans (by rw [if_pos rfl, errO_not (by decide)]), h.2⟩
    by_cases hk : kd = 0
    · rw [decide_eq_true hk]
      rcases nn with _ | _
      · have HE3 : Hid (colE (kd, i, t) (cn, ct, false) = 0) := by
          show _ = _
          rw [HE2.out, if_neg (by simp)]
        clear hk
        go_wp2_with fail
        refine (HFn.out _).mono ?_
        rintro e w5 ⟨rfl, rfl⟩
        go_wp2
        go_ret
        exact ⟨by rw [HE3.out, errO_nil]; rfl, HB4.out⟩
      · have HE3 : Hid (colE (kd, i, t) (cn, ct, true) = 166) := by
          show _ = _
          rw [HE2.out, if_pos ⟨hk, rfl⟩]
        clear hk
        go_wp2_with fail
        refine (HFy.out _).mono ?_
        rintro e w5 ⟨rfl, rfl⟩
        go_wp2
        go_ret
        exact ⟨by rw [HE3.out, errO_not (by decide)]; rfl, HB4.out⟩
    · rw [decide_eq_false hk]
      have HE3 : Hid (colE (kd, i, t) (cn, ct, nn) = 0) := by
        show _ = _
        rw [HE2.out, if_neg (fun h => hk h.1)]
      clear hk
      go_wp2_with fail
      refine (HFn.out _).mono ?_
      rintro e w5 ⟨rfl, rfl⟩
      go_wp2
      go_ret
      exact ⟨by rw [HE3.out, errO_nil]; rfl, HB4.out⟩
  · have HE2 : Hid (colE (kd, i, t) (cn, ct, nn) = x) := by
      show _ = _
      rw [HE.out, if_pos hx]
    have HNE : Hid (x ≠ 0) := hx
    rw [errO_not hx]
    clear hx
    go_wp2
    go_ret
    exact ⟨by rw [HE2.out, errO_not HNE.out]; rfl, HB3.out⟩
end Go.Proofs.YtjcffcpmegpjeaaGreatDoor

namespace Go.Proofs.YtjcffcpmegpjeaaGreatDoor
set_option linter.unusedSimpArgs false
open Go.ChangeShapes Go.WideShapes Go.ChangeAt Go.RowKit
set_option linter.unusedVariables false
set_option maxRecDepth 100000
theorem rowE_step (vs : List VL) (cs : List CD) (k : Nat) (h1 : k < vs.length) (h2 : k < cs.length) : rowE (vs.drop k) (cs.drop k) = if colE vs[k] cs[k] ≠ 0 then colE vs[k] cs[k] else rowE (vs.drop (k + 1)) (cs.drop (k + 1)) := by
  rw [List.drop_eq_getElem_cons h1, List.drop_eq_getElem_cons h2, rowE]
theorem SeesV.form {w : World} {B : Nat} {v : Value} {vs : List VL} (h : SeesV w B v vs) : ∃ a cap, v = .slice a vs.length cap := by
  obtain ⟨a, cap, e, _⟩ := h
  exact ⟨a, cap, e⟩
theorem SeesV.cell {w : World} {B n cap : Nat} {a : Option Addr} {vs : List VL} (h : SeesV w B (.slice a n cap) vs) (i : Nat) (hi : i < vs.length) : ∃ b off, a = some ⟨b, off, none⟩ ∧ w.cell? ⟨b, off + i * 3, none⟩ = some (.int .i64 vs[i].1) ∧ w.cell? ⟨b, off + i * 3 + 1, none⟩ = some (.int .i64 vs[i].2.1) ∧ w.cell? ⟨b, off + i * 3 + 2, none⟩ = some (.string vs[i].2.2) := by
  obtain ⟨ao, cap', e, h1, h2, h3⟩ := h
  injection e with e1 e2 e3
  subst e1
  obtain ⟨b, off, e, _, c0, c1, c2⟩ := h3 i hi
  exact ⟨b, off, e, c0, c1, c2⟩
set_option maxHeartbeats 4000000 in
theorem eachT (rv cv : Value) (vs : List VL) (cs : List CD) (tb B : Nat) (w : World) (hB : B ≤ w.heap.size) (hlen : vs.length = cs.length) (hvs : ∀ v ∈ vs, VOK v) (hr : SeesV w B rv vs) (hc : w.cell? ⟨tb, 2, none⟩ = some cv) (hs : SeesC w B cv cs) :
    Calls Tryz.prog 45 #[rv, .func (.func 46) #[] #[.pointer (some ⟨tb, 0, none⟩)]] w fun e w' => e = .returned (errO (rowE vs cs)) ∧ Below w.heap.size w w' := by
  obtain ⟨ra, rc, rfl⟩ := hr.form
  have HR : Hid (SeesV w B (.slice ra vs.length rc) vs) := hr
  have HCS : Hid (w.cell? ⟨tb, 2, none⟩ = some cv ∧ SeesC w B cv cs) := ⟨hc, hs⟩
  have htl : tb < w.heap.size := World.block_lt_of_cell? _ _ hc
  have HVS : Hid (∀ v ∈ vs, VOK v) := hvs
  have hl47 : vs.length ≤ 140737488355328 := by obtain ⟨_, _, _, _, h, _⟩ := hr; exact h
  have HLEN : Hid (vs.length = cs.length) := hlen
  clear hr hc hs hvs hlen
  go_enter Tryz.func45, Tryz.ntmps45
  go_wp2
  go_loopw [5, 6, 7, 10] (fun _ _ _ x wr => ∃ k : Nat, k ≤ vs.length ∧ x = .int .i64 (k : Int) ∧ rowE vs cs = rowE (vs.drop k) (cs.drop k) ∧ Below w.heap.size w wr) (fun _ _ _ x _ => vs.length - (intOf x).toNat)
  case atStart => exact ⟨0, by omega, rfl, rfl, Below.refl _ _⟩
  case round =>
    obtain ⟨k, hk, rfl, he, hb⟩ := hrel
    have HE : Hid (rowE vs cs = rowE (vs.drop k) (cs.drop k)) := he
    have HB : Hid (Below w.heap.size w wr) := hb
    clear he hb
    by_cases hkl : k < vs.length
    · have hki : (k : Int) < (vs.length : Int) := by omega
      have hkc : k < cs.length := by have := HLEN.out; omega
      obtain ⟨b, off, rfl, c0, c1, c2⟩ := (HR.out.later (HB.out.mono hB)).cell k hkl
      have HS : Hid _ := rowE_step vs cs k hkl hkc
      have HVK : Hid (VOK vs[k]) := HVS.out _ (List.getElem_mem _)
      have HBA : Hid (Below wr.heap.size wr (wr.alloc (.cells #[.int .i64 vs[k].1, .int .i64 vs[k].2.1, .string vs[k].2.2] 59))) := boxVal wr vs[k]
      have HBW : Hid (Below w.heap.size w (wr.alloc (.cells #[.int .i64 vs[k].1, .int .i64 vs[k].2.1, .string vs[k].2.2] 59))) := HB.out.trans (HBA.out.mono HB.out.size)
      have HC : Hid (Calls Tryz.prog 46 #[.int .i64 (k : Int), .agg #[.int .i64 vs[k].1, .int .i64 vs[k].2.1, .string vs[k].2.2], .pointer (some ⟨tb, 0, none⟩)] (wr.alloc (.cells #[.int .i64 vs[k].1, .int .i64 vs[k].2.1, .string vs[k].2.2] 59)) fun e w' => e = .returned (errO (colE vs[k] cs[k])) ∧ Below (wr.alloc (.cells #[.int .i64 vs[k].1, .int .i64 vs[k].2.1, .string vs[k].2.2] 59)).heap.size (wr.alloc (.cells #[.int .i64 vs[k].1, .int .i64 vs[k].2.1, .string vs[k].2.2] 59)) w') :=
        rowOneT k vs[k] cs cv tb B _ (by have := HBW.out.size; omega) hkc HVK.out (by rw [HBW.out.cell (p := ⟨tb, 2, none⟩) htl]; exact HCS.out.1) (HCS.out.2.later (HBW.out.mono hB))
      have hszA := HBW.out.size
      generalize colE vs[k] cs[k] = x at *
      generalize vs[k] = v at *
      obtain ⟨kd, i, t⟩ := v
      dsimp only at *
      go_wp2_with fail
      refine Calls.mono HC.out ?_
      rintro e w1 ⟨rfl, hb1⟩
      have HB1 : Hid (Below w.heap.size w w1) := HBW.out.trans (hb1.mono (by omega))
      clear hb1 HC
      by_cases hx : x = 0
      · have HF : Hid (rowE vs cs = rowE (vs.drop (k + 1)) (cs.drop (k + 1))) := by
          show _ = _
          rw [HE.out, HS.out, if_neg (by simp [hx])]
        subst hx
        rw [errO_nil]
        go_wp2
        go_roundw
        case rel => exact ⟨k + 1, by omega, by go_num, HF.out, HB1.out⟩
        case measure => simp [intOf]; omega
      · have HF : Hid (rowE vs cs = x) := by
          show _ = _
          rw [HE.out, HS.out, if_pos hx]
        have HNE : Hid (x ≠ 0) := hx
        rw [errO_not hx]
        clear hx
        go_wp2
        go_ret
        exact ⟨by rw [HF.out, errO_not HNE.out]; rfl, HB1.out⟩
    · have hki : ¬ (k : Int) < (vs.length : Int) := by omega
      have HF : Hid (rowE vs cs = 0) := by
        show _ = _
        rw [HE.out, List.drop_eq_nil_of_le (by omega), rowE]
        simp
      go_wp2
      go_ret
      exact ⟨by rw [HF.out, errO_nil]; rfl, HB.out⟩
end Go.Proofs.YtjcffcpmegpjeaaGreatDoor
