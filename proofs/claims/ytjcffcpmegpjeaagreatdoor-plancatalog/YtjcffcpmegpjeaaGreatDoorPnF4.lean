import Derived.Test.YtjcffcpmegpjeaaGreatDoorPnF2
namespace Go.Proofs.YtjcffcpmegpjeaaGreatDoor
set_option linter.unusedSimpArgs false
open Go.ChangeShapes Go.WideShapes Go.ChangeAt Go.RowKit
set_option linter.unusedVariables false
set_option maxRecDepth 100000
theorem intR (n : Int) (w : World) : Calls Tryz.prog 23 #[.int .i64 n] w fun e w' => e = .returned (.agg #[.int .i64 2, .int .i64 n, .string ⟨#[]⟩]) ∧ Below w.heap.size w w' := by
  have HB : Hid (Below w.heap.size w ((w.alloc (.cells #[.int .i64 2, .int .i64 n, .string ⟨#[]⟩] 59)).alloc (.cells #[.int .i64 2, .int .i64 n, .string ⟨#[]⟩] 59))) := ((Below.refl _ _).alloc (Nat.le_refl _) _).alloc (by rw [szAl]; omega) _
  go_enter Tryz.func23, Tryz.ntmps23
  go_wp2
  exact bodyPost_ret (results_cell_row (p := 2) (ty := 59) rfl _ _ w.heap.size 59 _ (0, 0) _ rfl ((Below.heap_alloc _ _ _ (by rw [szAl]; omega)).trans (heap_new _ _)) Tryz.underlying59 rfl (by kernel_rfl)) rfl ⟨rfl, HB.out⟩
/-- What is kept of the three blocks of the document's RowPair. -/
structure RQS (w W : World) (nm : ByteArray) (num : Int) (cv kv : Value) : Prop where
  below : Below w.heap.size w W
  tab : W.heap[w.heap.size]? = some (.cells #[.string nm, .int .i64 num, cv, kv] 25)
  pair : W.heap[w.heap.size + 1]? = some (.cells #[.string ⟨#[]⟩, .string ⟨#[]⟩] 28)
  own : W.heap[w.heap.size + 2]? = some (.cells #[.string ⟨#[]⟩, .string ⟨#[]⟩] 28)
  size : w.heap.size + 3 ≤ W.heap.size
theorem RQS.later {w W W' : World} {nm : ByteArray} {num : Int} {cv kv : Value} {B : Nat} (h : RQS w W nm num cv kv) (hb : Below B W W') (hB : w.heap.size + 3 ≤ B) : RQS w W' nm num cv kv :=
  ⟨h.below.trans (hb.mono (by omega)), (hb.block _ (by omega)).trans h.tab, (hb.block _ (by omega)).trans h.pair, (hb.block _ (by omega)).trans h.own, by have := hb.size; have := h.size; omega⟩
theorem RQS.cells {w W : World} {nm : ByteArray} {num : Int} {cv kv : Value} (h : RQS w W nm num cv kv) : W.cell? ⟨w.heap.size, 0, none⟩ = some (.string nm) ∧ W.cell? ⟨w.heap.size, 1, none⟩ = some (.int .i64 num) ∧ W.cell? ⟨w.heap.size, 2, none⟩ = some cv ∧ W.cell? ⟨w.heap.size, 3, none⟩ = some kv ∧ W.cell? ⟨w.heap.size + 1, 0, none⟩ = some (.string ⟨#[]⟩) ∧ W.cell? ⟨w.heap.size + 1, 1, none⟩ = some (.string ⟨#[]⟩) ∧ W.frozen? ⟨w.heap.size + 1, 0, none⟩ = false ∧ W.frozen? ⟨w.heap.size + 1, 1, none⟩ = false ∧ W.cell? ⟨w.heap.size + 2, 0, none⟩ = some (.string ⟨#[]⟩) ∧ W.cell? ⟨w.heap.size + 2, 1, none⟩ = some (.string ⟨#[]⟩) ∧ W.frozen? ⟨w.heap.size + 2, 0, none⟩ = false ∧ W.frozen? ⟨w.heap.size + 2, 1, none⟩ = false := by
  have h1 := h.tab
  have h2 := h.pair
  have h3 := h.own
  unfold World.cell? World.frozen?
  rw [h1, h2, h3]
  exact ⟨rfl, rfl, rfl, rfl, rfl, rfl, rfl, rfl, rfl, rfl, rfl, rfl⟩
theorem RQS.new (w : World) (nm : ByteArray) (num : Int) (cv kv : Value) : RQS w (((w.alloc (.cells #[.string nm, .int .i64 num, cv, kv] 25)).alloc (.cells #[.string ⟨#[]⟩, .string ⟨#[]⟩] 28)).alloc (.cells #[.string ⟨#[]⟩, .string ⟨#[]⟩] 28)) nm num cv kv := by
  have h := RPS.new w nm num cv kv
  have hz : ((w.alloc (.cells #[.string nm, .int .i64 num, cv, kv] 25)).alloc (.cells #[.string ⟨#[]⟩, .string ⟨#[]⟩] 28)).heap.size = w.heap.size + 2 := by rw [szAl, szAl]
  generalize (w.alloc (.cells #[.string nm, .int .i64 num, cv, kv] 25)).alloc (.cells #[.string ⟨#[]⟩, .string ⟨#[]⟩] 28) = W at *
  refine ⟨h.below.alloc (by omega) _, (Below.heap_alloc _ _ _ (by omega)).trans h.tab, (Below.heap_alloc _ _ _ (by omega)).trans h.pair, ?_, by rw [szAl, hz]; omega⟩
  have := heap_new W (.cells #[.string ⟨#[]⟩, .string ⟨#[]⟩] 28)
  rw [hz] at this
  exact this
theorem RQS.put {w W : World} {nm : ByteArray} {num : Int} {cv kv : Value} (h : RQS w W nm num cv kv) (k d : ByteArray) : Below w.heap.size w ((W.setCell ⟨w.heap.size + 1, 0, none⟩ (.string k)).setCell ⟨w.heap.size + 1, 1, none⟩ (.string d)) ∧ ((W.setCell ⟨w.heap.size + 1, 0, none⟩ (.string k)).setCell ⟨w.heap.size + 1, 1, none⟩ (.string d)).heap[w.heap.size + 1]? = some (.cells #[.string k, .string d] 28) :=
  ⟨(h.below.setCell (by simp only; omega) _).setCell (by simp only; omega) _, heap_set (heap_set h.pair _) _⟩
theorem heap_off {w : World} {g h j : Nat} (hn : g ≠ h) (v : Value) : (w.setCell ⟨g, j, none⟩ v).heap[h]? = w.heap[h]? := by
  show (w.heap.modify g _)[h]? = _
  rw [Array.getElem?_modify]
  simp [hn]
theorem RQS.put2 {w W : World} {nm : ByteArray} {num : Int} {cv kv : Value} (h : RQS w W nm num cv kv) (k d : ByteArray) : Below w.heap.size w ((((W.setCell ⟨w.heap.size + 2, 0, none⟩ (.string k)).setCell ⟨w.heap.size + 2, 1, none⟩ (.string d)).setCell ⟨w.heap.size + 1, 0, none⟩ (.string k)).setCell ⟨w.heap.size + 1, 1, none⟩ (.string d)) ∧ ((((W.setCell ⟨w.heap.size + 2, 0, none⟩ (.string k)).setCell ⟨w.heap.size + 2, 1, none⟩ (.string d)).setCell ⟨w.heap.size + 1, 0, none⟩ (.string k)).setCell ⟨w.heap.size + 1, 1, none⟩ (.string d)).heap[w.heap.size + 1]? = some (.cells #[.string k, .string d] 28) :=
  ⟨(((h.below.setCell (by simp only; omega) _).setCell (by simp only; omega) _).setCell (by simp only; omega) _).setCell (by simp only; omega) _, heap_set (heap_set ((heap_off (by omega) _).trans ((heap_off (by omega) _).trans h.pair)) _) _⟩
theorem rpI_err {num : Int} {cs : List CD} {ks : List Int} {vs : List VL} {E : Int} (h : rpE num cs ks vs = E) (hE : E ≠ 0) : Value.tuple #[pairV (rpK num cs ks vs) (rpD num cs ks vs), .int .i64 (rpE num cs ks vs)] = .tuple #[.agg #[.string ⟨#[]⟩, .string ⟨#[]⟩], .int .i64 E] := by
  unfold rpK rpD pairV
  rw [h, if_neg hE, if_neg hE]
theorem rpI_ok {num : Int} {cs : List CD} {ks : List Int} {vs : List VL} (h : rpE num cs ks vs = 0) : Value.tuple #[pairV (rpK num cs ks vs) (rpD num cs ks vs), .int .i64 (rpE num cs ks vs)] = .tuple #[.agg #[.string (keyT num ks vs), .string (datT vs)], .int .i64 0] := by
  unfold rpK rpD pairV
  rw [h, if_pos rfl, if_pos rfl]
theorem key_mem (num : Int) (ks : List Int) (vs : List VL) (hk : ∀ k ∈ ks, 0 ≤ k ∧ k < (vs.length : Int)) : ∀ u ∈ keyVs num ks vs, u = (2, num, ⟨#[]⟩) ∨ u ∈ vs := by
  intro u hu
  unfold keyVs at hu
  rcases List.mem_cons.1 hu with rfl | hu
  · exact Or.inl rfl
  · obtain ⟨k, hk', rfl⟩ := List.mem_map.1 hu
    have h1 := hk k hk'
    have h3 : k.toNat < vs.length := by omega
    right
    rw [List.getD_eq_getElem?_getD, List.getElem?_eq_getElem h3]
    exact List.getElem_mem h3
set_option maxHeartbeats 8000000 in
theorem RowPairR (nm : ByteArray) (num : Int) (cv kv rv : Value) (cs : List CD) (ks : List Int) (vs : List VL) (B : Nat) (w : World) (hB : B ≤ w.heap.size) (hs : SeesC w B cv cs) (hu : SeesG (Value.int .i64) w B kv ks) (hr : SeesV w B rv vs) (hvs : ∀ v ∈ vs, VOK v)
    (hl : cs.length ≤ 140737488355328) (hkl : ks.length ≤ 140737488355328) (hnum : -9223372036854775808 ≤ num ∧ num ≤ 9223372036854775807) :
    Calls Tryz.prog 8 #[.agg #[.string nm, .int .i64 num, cv, kv], rv] w fun e w' => e = .returned (.tuple #[pairV (RPK nm num cs ks vs) (RPD nm num cs ks vs), .int .i64 (RPE nm num cs ks vs)]) ∧ Below w.heap.size w w' := by
  have HN : Hid _ := RQS.new w nm num cv kv
  have HT : Hid (∀ _ : Unit, _) := fun _ => isTableR nm num cv kv cs ks B _ (by have := HN.out.size; omega) (hs.later (HN.out.below.mono hB)) (hu.later (HN.out.below.mono hB)) hl hkl
  obtain ⟨ca, cc, rfl⟩ := hs.form
  obtain ⟨ka, kc, rfl⟩ := hu.form
  obtain ⟨ra, rc, rfl⟩ := hr.form
  have HSC : Hid (SeesC w B (.slice ca cs.length cc) cs) := hs
  have HSR : Hid (SeesV w B (.slice ra vs.length rc) vs) := hr
  have HSK : Hid (SeesG (Value.int .i64) w B (.slice ka ks.length kc) ks) := hu
  have HVS : Hid (∀ v ∈ vs, VOK v) := hvs
  clear hs hu hr hvs
  by_cases ht : isTb nm num cs ks = true
  · obtain ⟨f1, f2, f3⟩ := isTb_few ht
    have HKS : Hid (∀ k ∈ ks, 0 ≤ k ∧ k < (cs.length : Int)) := f1
    have HK : RPK nm num cs ks vs = rpK num cs ks vs := if_pos ht
    have HD : RPD nm num cs ks vs = rpD num cs ks vs := if_pos ht
    have HE : RPE nm num cs ks vs = rpE num cs ks vs := if_pos ht
    rw [HK, HD, HE]
    rw [ht] at HT
    clear ht HK HD HE hl hkl f1
    go_enter Tryz.func8, Tryz.ntmps8
    go_wp2_with fail
    refine (HT.out ()).mono ?_
    rintro e w3 ⟨rfl, hb3⟩
    have HN3 : Hid (RQS w w3 nm num (.slice ca cs.length cc) (.slice ka ks.length kc)) := HN.out.later hb3 HN.out.size
    clear hb3 HT HN
    obtain ⟨t0, t1, t2, t3, t4, t5, t6, t7, t8, t9, t10, t11⟩ := HN3.out.cells
    by_cases hlen : vs.length = cs.length
    · have heq : ((vs.length : Int) != (cs.length : Int)) = false := by simp; omega
      have HEQ : Hid (vs.length = cs.length) := hlen
      have HE0 : Hid (rpE num cs ks vs = if rowE vs cs ≠ 0 then rowE vs cs else if 160 < (keyT num ks vs).size ∨ 512 < (datT vs).size then 72 else 0) := if_neg (by simp [hlen])
      clear hlen
      go_wp2
      clear heq t0 t1 t2 t3 t4 t5 t6 t7 t8 t9 t10 t11
      go_loopw [7] (fun x wr => ∃ j : Nat, j ≤ vs.length ∧ x = .int .i64 (j : Int) ∧ rowE vs cs = rowE (vs.drop j) (cs.drop j) ∧ RQS w wr nm num (.slice ca cs.length cc) (.slice ka ks.length kc)) (fun x _ => vs.length - (intOf x).toNat)
      case atStart => exact ⟨0, by omega, rfl, by simp, HN3.out⟩
      case round =>
        obtain ⟨j, hj, rfl, he, hn⟩ := hrel
        have HR : Hid (rowE vs cs = rowE (vs.drop j) (cs.drop j)) := he
        have HN4 : Hid (RQS w wr nm num (.slice ca cs.length cc) (.slice ka ks.length kc)) := hn
        clear he hn HN3
        obtain ⟨t0, t1, t2, t3, t4, t5, t6, t7, t8, t9, t10, t11⟩ := HN4.out.cells
        by_cases hjl : j < vs.length
        · have hji : (j : Int) < (vs.length : Int) := by omega
          have hjc : j < cs.length := by have := HEQ.out; omega
          have hjci : (j : Int) < (cs.length : Int) := by omega
          have HST : Hid _ := rowE_step vs cs j hjl hjc
          obtain ⟨b, off, rfl, v0, v1, v2⟩ := (HSR.out.later (HN4.out.below.mono hB)).cell j hjl
          obtain ⟨b2, off2, rfl, c0, c1, c2⟩ := (HSC.out.later (HN4.out.below.mono hB)).cell j hjc
          have HWR : Hid (∀ W, _) := fun W => wrongR vs[j] cs[j] W (HVS.out _ (List.getElem_mem hjl))
          have hbl : b < wr.heap.size := World.block_lt_of_cell? _ _ v0
          have hbl2 : b2 < wr.heap.size := World.block_lt_of_cell? _ _ c0
          have hsz := HN4.out.size
          generalize colE vs[j] cs[j] = x at *
          generalize vs[j] = v at *
          generalize cs[j] = c at *
          obtain ⟨vk, vi, vt⟩ := v
          obtain ⟨cn, ct, nn⟩ := c
          dsimp only at *
          clear hjl hjc
          go_wp2_with fail
          (refine wp_region_held_drew (S := (fun w' => w'.cell? ⟨b, off + j * 3, none⟩ = some (.int .i64 vk) ∧ w'.cell? ⟨b, off + j * 3 + 1, none⟩ = some (.int .i64 vi) ∧ w'.cell? ⟨b, off + j * 3 + 2, none⟩ = some (.string vt) ∧ w'.cell? ⟨w.heap.size, 2, none⟩ = some (.slice (some ⟨b2, off2, none⟩) cs.length cc) ∧ w'.cell? ⟨b2, off2 + j * 3, none⟩ = some (.string cn) ∧ w'.cell? ⟨b2, off2 + j * 3 + 1, none⟩ = some (.int .i64 ct) ∧ w'.cell? ⟨b2, off2 + j * 3 + 2, none⟩ = some (.bool nn))) (by kernel_rfl) ⟨v0, v1, v2, t2, c0, c1, c2⟩ (fun hHeld => ?_); simp only [List.size_toArray, List.length_cons, List.length_nil, Nat.reduceAdd, Array.replicate_succ, Array.replicate_zero, List.push_toArray, List.append_toArray, List.nil_append, List.cons_append])
          (refine tk0 (v := ?_) (by kernel_rfl) (by kernel_rfl) (by kernel_rfl) (fun _ _ _ h => h) (Or.inl ⟨by rfl, ?_⟩) (by assumption) ?_; rotate_left; (focus (intro w hSw; (try dsimp only at hSw); go_simp; (try first | (rw [dif_pos (by omega)]; simp only [Result.andThen_ok]) | rw [if_pos (by omega)]); (try with_reducible rfl); done)); try simp only [Act.put, List.setIfInBounds_toArray, List.set_cons_zero, List.set_cons_succ])
          (refine tk1 (v := ?_) (by kernel_rfl) (by kernel_rfl) (by kernel_rfl) (fun _ _ _ h => h) (Or.inl ⟨by rfl, ?_⟩) (by assumption) ?_; rotate_left; (focus (intro w hSw; (try dsimp only at hSw); go_simp; (try first | (rw [dif_pos (by omega)]; simp only [Result.andThen_ok]) | rw [if_pos (by omega)]); (try with_reducible rfl); done)); try simp only [Act.put, List.setIfInBounds_toArray, List.set_cons_zero, List.set_cons_succ])
          (refine tk2 (v := ?_) (by kernel_rfl) (by kernel_rfl) (by kernel_rfl) (fun _ _ _ h => h) (Or.inl ⟨by rfl, ?_⟩) (by assumption) ?_; rotate_left; (focus (intro w hSw; (try dsimp only at hSw); go_simp; (try first | (rw [dif_pos (by omega)]; simp only [Result.andThen_ok]) | rw [if_pos (by omega)]); (try with_reducible rfl); done)); try simp only [Act.put, List.setIfInBounds_toArray, List.set_cons_zero, List.set_cons_succ])
          (refine tk3 (v := ?_) (by kernel_rfl) (by kernel_rfl) (by kernel_rfl) (fun _ _ _ h => h) (Or.inl ⟨by rfl, ?_⟩) (by assumption) ?_; rotate_left; (focus (intro w hSw; (try dsimp only at hSw); go_simp; (try first | (rw [dif_pos (by omega)]; simp only [Result.andThen_ok]) | rw [if_pos (by omega)]); (try with_reducible rfl); done)); try simp only [Act.put, List.setIfInBounds_toArray, List.set_cons_zero, List.set_cons_succ])
          (refine tk4 (v := ?_) (by kernel_rfl) (by kernel_rfl) (by kernel_rfl) (fun _ _ _ h => h) (Or.inl ⟨by rfl, ?_⟩) (by assumption) ?_; rotate_left; (focus (intro w hSw; (try dsimp only at hSw); go_simp; (try first | (rw [dif_pos (by omega)]; simp only [Result.andThen_ok]) | rw [if_pos (by omega)]); (try with_reducible rfl); done)); try simp only [Act.put, List.setIfInBounds_toArray, List.set_cons_zero, List.set_cons_succ])
          (refine tk5 (v := ?_) (by kernel_rfl) (by kernel_rfl) (by kernel_rfl) (fun _ _ _ h => h) (Or.inl ⟨by rfl, ?_⟩) (by assumption) ?_; rotate_left; (focus (intro w hSw; (try dsimp only at hSw); go_simp; (try first | (rw [dif_pos (by omega)]; simp only [Result.andThen_ok]) | rw [if_pos (by omega)]); (try with_reducible rfl); done)); try simp only [Act.put, List.setIfInBounds_toArray, List.set_cons_zero, List.set_cons_succ])
          (refine tk6 (v := ?_) (by kernel_rfl) (by kernel_rfl) (by kernel_rfl) (fun _ _ _ h => h) (Or.inl ⟨by rfl, ?_⟩) (by assumption) ?_; rotate_left; (focus (intro w hSw; (try dsimp only at hSw); go_simp; (try first | (rw [dif_pos (by omega)]; simp only [Result.andThen_ok]) | rw [if_pos (by omega)]); (try with_reducible rfl); done)); try simp only [Act.put, List.setIfInBounds_toArray, List.set_cons_zero, List.set_cons_succ])
          (refine tk7 (v := ?_) (by kernel_rfl) (by kernel_rfl) (by kernel_rfl) (fun _ _ _ h => h) (Or.inl ⟨by rfl, ?_⟩) (by assumption) ?_; rotate_left; (focus (intro w hSw; (try dsimp only at hSw); go_simp; (try first | (rw [dif_pos (by omega)]; simp only [Result.andThen_ok]) | rw [if_pos (by omega)]); (try with_reducible rfl); done)); try simp only [Act.put, List.setIfInBounds_toArray, List.set_cons_zero, List.set_cons_succ])
          (refine tk8 (v := ?_) (by kernel_rfl) (by kernel_rfl) (by kernel_rfl) (fun _ _ _ h => h) (Or.inl ⟨by rfl, ?_⟩) (by assumption) ?_; rotate_left; (focus (intro w hSw; (try dsimp only at hSw); go_simp; (try first | (rw [dif_pos (by omega)]; simp only [Result.andThen_ok]) | rw [if_pos (by omega)]); (try with_reducible rfl); done)); try simp only [Act.put, List.setIfInBounds_toArray, List.set_cons_zero, List.set_cons_succ])
          (refine wpAnyH_ready (rs := [9]) (by kernel_rfl) (by simp) ?_; refine ar9 (fun K hK => ?_) AllReadyH.nil; go_simp)
          go_at_call 22
          refine (HWR.out _).mono ?_
          rintro e w5 ⟨rfl, hb5⟩
          have hbW : Below wr.heap.size wr w5 := ⟨hb5.os, hb5.tape, hb5.output, hb5.size, hb5.block⟩
          have f0 : w5.cell? ⟨b, off + j * 3, none⟩ = some (.int .i64 vk) := by rw [hbW.cell (p := ⟨b, off + j * 3, none⟩) hbl]; exact v0
          have f1 : w5.cell? ⟨b, off + j * 3 + 1, none⟩ = some (.int .i64 vi) := by rw [hbW.cell (p := ⟨b, off + j * 3 + 1, none⟩) hbl]; exact v1
          have f2 : w5.cell? ⟨b, off + j * 3 + 2, none⟩ = some (.string vt) := by rw [hbW.cell (p := ⟨b, off + j * 3 + 2, none⟩) hbl]; exact v2
          have f4 : w5.cell? ⟨b2, off2 + j * 3, none⟩ = some (.string cn) := by rw [hbW.cell (p := ⟨b2, off2 + j * 3, none⟩) hbl2]; exact c0
          have f5 : w5.cell? ⟨b2, off2 + j * 3 + 1, none⟩ = some (.int .i64 ct) := by rw [hbW.cell (p := ⟨b2, off2 + j * 3 + 1, none⟩) hbl2]; exact c1
          have f6 : w5.cell? ⟨b2, off2 + j * 3 + 2, none⟩ = some (.bool nn) := by rw [hbW.cell (p := ⟨b2, off2 + j * 3 + 2, none⟩) hbl2]; exact c2
          have HN5 : Hid (RQS w w5 nm num (.slice (some ⟨b2, off2, none⟩) cs.length cc) (.slice ka ks.length kc)) := HN4.out.later hbW hsz
          clear hb5 hbW t0 t1 t2 t3 t4 t5 t6 t7 t8 t9 t10 t11 v0 v1 v2 c0 c1 c2 HWR
          obtain ⟨t0, t1, t2, t3, t4, t5, t6, t7, t8, t9, t10, t11⟩ := HN5.out.cells
          go_wp2_with fail
          (refine hK.out _ _ ⟨f0, f1, f2, t2, f4, f5, f6⟩ (fun hHeld => ?_); clear hK K; try simp only [Act.put, List.setIfInBounds_toArray, List.set_cons_zero, List.set_cons_succ])
          (refine tk10 (v := ?_) (by kernel_rfl) (by kernel_rfl) (by kernel_rfl) (fun _ _ _ h => h) (Or.inl ⟨by rfl, ?_⟩) (by assumption) ?_; rotate_left; (focus (intro w hSw; (try dsimp only at hSw); go_simp; (try first | (rw [dif_pos (by omega)]; simp only [Result.andThen_ok]) | rw [if_pos (by omega)]); (try with_reducible rfl); done)); try simp only [Act.put, List.setIfInBounds_toArray, List.set_cons_zero, List.set_cons_succ])
          refine wpAnyH_done (by kernel_rfl) ?_ _
          by_cases hx : x = 0
          · have HR2 : Hid (rowE vs cs = rowE (vs.drop (j + 1)) (cs.drop (j + 1))) := HR.out.trans (HST.out.trans (if_neg (by simp [hx])))
            subst hx
            clear HR HST
            go_wp2
            go_roundw
            case rel => exact ⟨j + 1, by omega, by go_num, HR2.out, HN5.out⟩
            case measure => simp [intOf]; omega
          · have HRX : Hid (rowE vs cs = x) := HR.out.trans (HST.out.trans (if_pos hx))
            have HE : Hid (rpE num cs ks vs = x) := HE0.out.trans ((if_pos (by rw [HRX.out]; exact hx)).trans HRX.out)
            have hxb : (x != 0) = true := by simp [hx]
            have HNE : Hid (x ≠ 0) := hx
            obtain ⟨p1, p2⟩ := HN5.out.put ⟨#[]⟩ ⟨#[]⟩
            clear hx HR HST HRX HE0
            go_wp2
            exact bodyPost_ret (res_row_tmp (p := 4) (ty := 28) (q := 5) rfl _ _ (w.heap.size + 1) 28 _ (0, 0) _ rfl p2 Tryz.underlying28 rfl (by kernel_rfl)) rfl ⟨ret_same (rpI_err HE.out HNE.out), p1⟩
        · have hji : ¬ (j : Int) < (vs.length : Int) := by omega
          have HRZ : Hid (rowE vs cs = 0) := by
            have := HR.out
            rw [List.drop_eq_nil_of_le (by omega)] at this
            exact this
          have HFL : Hid (faultL vs = 0) := rowE_faults vs cs HEQ.out HRZ.out
          have HE1 : Hid (rpE num cs ks vs = if 160 < (keyT num ks vs).size ∨ 512 < (datT vs).size then 72 else 0) := HE0.out.trans (if_neg (by rw [HRZ.out]; simp))
          clear HR HRZ HE0
          generalize wr = w2 at *
          go_wp2_with fail
          refine (intR num w2).mono ?_
          rintro e w4 ⟨rfl, hb4⟩
          have HN5 : Hid (RQS w w4 nm num (.slice ca cs.length cc) (.slice ka ks.length kc)) := HN4.out.later hb4 HN4.out.size
          clear hb4 HN4 t0 t1 t2 t3 t4 t5 t6 t7 t8 t9 t10 t11
          have HBX : Hid (Below w4.heap.size w4 (w4.alloc (.cells #[.int .i64 2, .int .i64 num, .string ⟨#[]⟩] 59))) := boxVal w4 (2, num, ⟨#[]⟩)
          have HN6 : Hid (RQS w (w4.alloc (.cells #[.int .i64 2, .int .i64 num, .string ⟨#[]⟩] 59)) nm num (.slice ca cs.length cc) (.slice ka ks.length kc)) := HN5.out.later HBX.out HN5.out.size
          have HO6 : Hid (ownV (w4.alloc (.cells #[.int .i64 2, .int .i64 num, .string ⟨#[]⟩] 59)) (w.heap.size + 3) (.slice (some ⟨w4.heap.size, 0, none⟩) 1 1) [(2, num, ⟨#[]⟩)]) := own_new1 w4 (w.heap.size + 3) (2, num, ⟨#[]⟩) HN5.out.size
          go_wp2_with fail
          clear HN5 hji hj
          generalize w4.alloc (.cells #[.int .i64 2, .int .i64 num, .string ⟨#[]⟩] 59) = w5 at *
          go_loopw [9, 10] (fun v i wr => ∃ j : Nat, j ≤ ks.length ∧ i = .int .i64 (j : Int) ∧ ownV wr (w.heap.size + 3) v (keyVs num (ks.take j) vs) ∧ RQS w wr nm num (.slice ca cs.length cc) (.slice ka ks.length kc)) (fun _ i _ => ks.length - (intOf i).toNat)
          case atStart => exact ⟨0, by omega, rfl, HO6.out, HN6.out⟩
          case round =>
            obtain ⟨j, hj, rfl, ho, hn⟩ := hrel
            have HO : Hid (ownV wr (w.heap.size + 3) _ (keyVs num (ks.take j) vs)) := ho
            have HN : Hid (RQS w wr nm num (.slice ca cs.length cc) (.slice ka ks.length kc)) := hn
            clear ho hn HO6 HN6
            obtain ⟨t0, t1, t2, t3, t4, t5, t6, t7, t8, t9, t10, t11⟩ := HN.out.cells
            by_cases hjl : j < ks.length
            · have hji : (j : Int) < (ks.length : Int) := by omega
              obtain ⟨kb, ko, rfl, hck⟩ := (HSK.out.later (HN.out.below.mono hB)).cell j hjl
              have hkk := HKS.out _ (List.getElem_mem hjl)
              obtain ⟨n, hn⟩ : ∃ n : Nat, ks[j] = (n : Int) := ⟨ks[j].toNat, by omega⟩
              have hnv : n < vs.length := by have := HEQ.out; omega
              have hnvi : (n : Int) < (vs.length : Int) := by omega
              have HKV : Hid (keyVs num (ks.take (j + 1)) vs = keyVs num (ks.take j) vs ++ [vs[n]]) := by
                show keyVs num (ks.take (j + 1)) vs = _
                unfold keyVs
                rw [List.take_succ_eq_append_getElem hjl, List.map_append, hn]
                simp [hnv]
              have HKL : Hid ((keyVs num (ks.take j) vs).length ≤ 9) := by
                show _ ≤ _
                unfold keyVs
                rw [List.length_cons, List.length_map, List.length_take]
                omega
              obtain ⟨b, off, rfl, c0, c1, c2⟩ := (HSR.out.later (HN.out.below.mono hB)).cell n hnv
              have hszr := HN.out.size
              rw [hn] at hck
              generalize vs[n] = v at *
              obtain ⟨vk, vi, vt⟩ := v
              dsimp only at *
              clear hkk hn
              go_wp2_with (at_builtin; refine app_val (by rfl) _ _ (by rfl) (w.heap.size + 3) _ (keyVs num (ks.take j) vs) (vk, vi, vt) HO.out (by rfl) (by rfl) (by have := HKL.out; omega) hszr ?_; intro v' w6 hown6 hbel6; have HO6 : Hid (ownV w6 (w.heap.size + 3) v' (keyVs num (ks.take j) vs ++ [(vk, vi, vt)])) := hown6; have HN6 : Hid (RQS w w6 nm num (.slice ca cs.length cc) (.slice _ ks.length kc)) := HN.out.later hbel6 (Nat.le_refl _); clear hown6 hbel6)
              go_roundw
              case rel => exact ⟨j + 1, by omega, by go_num, by rw [HKV.out]; exact HO6.out, HN6.out⟩
              case measure => simp [intOf]; omega
            · have hji : ¬ (j : Int) < (ks.length : Int) := by omega
              have ho2 := HO.out
              rw [show j = ks.length by omega, List.take_length] at ho2
              have HO2 : Hid (ownV wr (w.heap.size + 3) _ (keyVs num ks vs)) := ho2
              clear ho2
              have hszr := HN.out.size
              have hmem := key_mem num ks vs (by have := HEQ.out; rw [this]; exact HKS.out)
              have HKV : Hid (∀ u ∈ keyVs num ks vs, VOK u) := by
                intro u hu
                rcases hmem u hu with rfl | hu
                · exact ⟨by show ByteArray.size ⟨#[]⟩ ≤ 9223372036854775807; decide, hnum⟩
                · exact HVS.out u hu
              have HKF : Hid (faultL (keyVs num ks vs) = 0) := by
                refine fault_all _ (fun u hu => ?_)
                rcases hmem u hu with rfl | hu
                · exact faultV_int num
                · exact fault_mem vs HFL.out u hu
              have HKL : Hid ((keyVs num ks vs).length ≤ 16) := by
                show _ ≤ _
                unfold keyVs
                rw [List.length_cons, List.length_map]
                omega
              obtain ⟨oa, on, oc, rfl⟩ := HO2.out.form
              have HKEY : Hid (∀ _ : Unit, Calls Tryz.prog 24 #[.slice oa on oc] wr fun e w' => e = .returned (.tuple #[.string (keyT num ks vs), .int .i64 0]) ∧ Below wr.heap.size wr w') := fun _ => (ref_keyG (.slice oa on oc) (keyVs num ks vs) wr.heap.size wr (Nat.le_refl _) (HO2.out.seesAll (by have := HKL.out; omega)) HKV.out).mono fun e w' h => ⟨h.1.trans (by rw [if_neg (by have := HKL.out; omega), if_pos HKF.out]; rfl), h.2⟩
              have HROW : Hid (∀ W, RQS w W nm num (.slice ca cs.length cc) (.slice ka ks.length kc) → Calls Tryz.prog 25 #[.slice ra vs.length rc] W fun e w' => e = .returned (.tuple #[.string (datT vs), .int .i64 0]) ∧ Below W.heap.size W w') := fun W h => (ref_rowG (.slice ra vs.length rc) vs W.heap.size W (Nat.le_refl _) ((HSR.out.later (h.below.mono hB)).mono (by have := h.size; omega)) HVS.out).mono fun e w' h => ⟨h.1.trans (by rw [if_neg (by have := HEQ.out; omega), if_pos HFL.out]; rfl), h.2⟩
              have HOK : Hid (rpE num cs ks vs = 0 → Value.tuple #[pairV (rpK num cs ks vs) (rpD num cs ks vs), .int .i64 (rpE num cs ks vs)] = .tuple #[.agg #[.string (keyT num ks vs), .string (datT vs)], .int .i64 0]) := fun h => rpI_ok h
              clear hmem HO HO2 HKV HKF HKL
              generalize keyT num ks vs = K at *
              generalize datT vs = D at *
              go_wp2_with fail
              refine (HKEY.out ()).mono ?_
              rintro e w6 ⟨rfl, hb6⟩
              have HN6 : Hid (RQS w w6 nm num (.slice ca cs.length cc) (.slice ka ks.length kc)) := HN.out.later hb6 hszr
              clear hb6 HKEY HN t0 t1 t2 t3 t4 t5 t6 t7 t8 t9 t10 t11
              go_wp2_with fail
              refine (HROW.out w6 HN6.out).mono ?_
              rintro e w7 ⟨rfl, hb7⟩
              have HN7 : Hid (RQS w w7 nm num (.slice ca cs.length cc) (.slice ka ks.length kc)) := HN6.out.later hb7 HN6.out.size
              clear hb7 HROW HN6
              obtain ⟨t0, t1, t2, t3, t4, t5, t6, t7, t8, t9, t10, t11⟩ := HN7.out.cells
              by_cases hbig : 160 < K.size ∨ 512 < D.size
              · have HE : Hid (rpE num cs ks vs = 72) := HE1.out.trans (if_pos hbig)
                obtain ⟨p1, p2⟩ := HN7.out.put ⟨#[]⟩ ⟨#[]⟩
                by_cases hk : 160 < K.size
                · have hb1 : (160 : Int) < (K.size : Int) := by omega
                  clear hbig hk
                  go_wp2
                  exact bodyPost_ret (res_row_tmp (p := 4) (ty := 28) (q := 5) rfl _ _ (w.heap.size + 1) 28 _ (0, 0) _ rfl p2 Tryz.underlying28 rfl (by kernel_rfl)) rfl ⟨ret_same (rpI_err HE.out (by decide)), p1⟩
                · have hb1 : ¬ (160 : Int) < (K.size : Int) := by omega
                  have hb2 : (512 : Int) < (D.size : Int) := by omega
                  clear hbig hk
                  go_wp2
                  exact bodyPost_ret (res_row_tmp (p := 4) (ty := 28) (q := 5) rfl _ _ (w.heap.size + 1) 28 _ (0, 0) _ rfl p2 Tryz.underlying28 rfl (by kernel_rfl)) rfl ⟨ret_same (rpI_err HE.out (by decide)), p1⟩
              · have HE : Hid (rpE num cs ks vs = 0) := HE1.out.trans (if_neg hbig)
                have hb1 : ¬ (160 : Int) < (K.size : Int) := by omega
                have hb2 : ¬ (512 : Int) < (D.size : Int) := by omega
                clear hbig
                obtain ⟨p1, p2⟩ := HN7.out.put2 K D
                go_wp2
                exact bodyPost_ret (res_row_tmp (p := 4) (ty := 28) (q := 5) rfl _ _ (w.heap.size + 1) 28 _ (0, 0) _ rfl p2 Tryz.underlying28 rfl (by kernel_rfl)) rfl ⟨ret_same (HOK.out HE.out), p1⟩
    · have hne : ((vs.length : Int) != (cs.length : Int)) = true := by simp; omega
      have HE : Hid (rpE num cs ks vs = 167) := if_pos hlen
      obtain ⟨p1, p2⟩ := HN3.out.put ⟨#[]⟩ ⟨#[]⟩
      clear hlen
      go_wp2
      exact bodyPost_ret (res_row_tmp (p := 4) (ty := 28) (q := 5) rfl _ _ (w.heap.size + 1) 28 _ (0, 0) _ rfl p2 Tryz.underlying28 rfl (by kernel_rfl)) rfl ⟨ret_same (rpI_err HE.out (by decide)), p1⟩
  · have HK : RPK nm num cs ks vs = ⟨#[]⟩ := if_neg ht
    have HD : RPD nm num cs ks vs = ⟨#[]⟩ := if_neg ht
    have HE : RPE nm num cs ks vs = 169 := if_neg ht
    rw [HK, HD, HE]
    rw [show isTb nm num cs ks = false by simpa using ht] at HT
    clear ht HK HD HE hl hkl
    go_enter Tryz.func8, Tryz.ntmps8
    go_wp2_with fail
    refine (HT.out ()).mono ?_
    rintro e w3 ⟨rfl, hb3⟩
    have HN3 : Hid (RQS w w3 nm num (.slice ca cs.length cc) (.slice ka ks.length kc)) := HN.out.later hb3 HN.out.size
    clear hb3 HT HN
    obtain ⟨t0, t1, t2, t3, t4, t5, t6, t7, t8, t9, t10, t11⟩ := HN3.out.cells
    obtain ⟨p1, p2⟩ := HN3.out.put ⟨#[]⟩ ⟨#[]⟩
    go_wp2
    exact bodyPost_ret (res_row_tmp (p := 4) (ty := 28) (q := 5) rfl _ _ (w.heap.size + 1) 28 _ (0, 0) _ rfl p2 Tryz.underlying28 rfl (by kernel_rfl)) rfl ⟨rfl, p1⟩
end Go.Proofs.YtjcffcpmegpjeaaGreatDoor

namespace Go.Proofs.YtjcffcpmegpjeaaGreatDoor
set_option linter.unusedSimpArgs false
open Go.ChangeShapes Go.WideShapes Go.ChangeAt Go.RowKit
set_option linter.unusedVariables false
set_option maxRecDepth 100000
set_option maxHeartbeats 8000000 in
theorem PairRowR (nm : ByteArray) (num : Int) (cv kv : Value) (k d : ByteArray) (cs : List CD) (ks : List Int) (B : Nat) (w : World) (hB : B ≤ w.heap.size) (hs : SeesC w B cv cs) (hu : SeesG (Value.int .i64) w B kv ks)
    (hl : cs.length ≤ 140737488355328) (hkl : ks.length ≤ 140737488355328) (hnum : -9223372036854775808 ≤ num ∧ num ≤ 9223372036854775807) (hd : d.size ≤ 1125899906842624) :
    Calls Tryz.prog 12 #[.agg #[.string nm, .int .i64 num, cv, kv], pairV k d] w (PRo w (PROK nm num cs ks k d) (rrL d 0).1) := by
  have HN : Hid _ := TPS.new w nm num cv kv k d
  obtain ⟨ca, cc, rfl⟩ := hs.form
  obtain ⟨ka, kc, rfl⟩ := hu.form
  have HRP : Hid (∀ (W : World) (rv : Value), TPS w W nm num (.slice ca cs.length cc) (.slice ka ks.length kc) k d → (rrL d 0).2.2 = 0 → ownV W (w.heap.size + 2) rv (rrL d 0).1 → Calls Tryz.prog 8 #[.agg #[.string nm, .int .i64 num, .slice ca cs.length cc, .slice ka ks.length kc], rv] W fun e w' => e = .returned (.tuple #[pairV (RPK nm num cs ks (rrL d 0).1) (RPD nm num cs ks (rrL d 0).1), .int .i64 (RPE nm num cs ks (rrL d 0).1)]) ∧ Below W.heap.size W w') := by
    intro W rv h h0 ho
    have hsz := h.size
    exact RowPairR nm num _ _ rv cs ks _ W.heap.size W (Nat.le_refl _) ((hs.later (h.below.mono hB)).up (by omega)) ((hu.later (h.below.mono hB)).up (by omega)) (ho.seesAll (by have := rrL_few d; omega)) (rrL_vok h0) hl hkl hnum
  clear hs hu
  unfold pairV
  go_enter Tryz.func12, Tryz.ntmps12
  go_wp2_with fail
  refine (refRow d _ hd).mono ?_
  rintro e w3 ⟨⟨h0, h1⟩, hb3⟩
  have HN3 : Hid (TPS w w3 nm num (.slice ca cs.length cc) (.slice ka ks.length kc) k d) := HN.out.later hb3 HN.out.size
  by_cases hc : (rrL d 0).2.2 = 0
  · obtain ⟨v, rfl, hown⟩ := h0 hc
    obtain ⟨va, vn, vc, rfl⟩ := hown.form
    have HO : Hid (ownV w3 (w.heap.size + 2) (.slice va vn vc) (rrL d 0).1) := hown.down (by simp)
    have HC : Hid ((rrL d 0).2.2 = 0) := hc
    clear hown hc h0 h1 hb3 HN
    obtain ⟨t1, t2, t3, t4, t5, t6⟩ := HN3.out.cells
    go_wp2_with fail
    refine (HRP.out w3 _ HN3.out HC.out HO.out).mono ?_
    rintro e w4 ⟨rfl, hb4⟩
    have HN4 : Hid (TPS w w4 nm num (.slice ca cs.length cc) (.slice ka ks.length kc) k d) := HN3.out.later hb4 HN3.out.size
    have HO4 : Hid (ownV w4 (w.heap.size + 2) (.slice va vn vc) (rrL d 0).1) := HO.out.same (fun k hk _ => hb4.block k hk)
    have HOK : Hid (PROK nm num cs ks k d ↔ (RPE nm num cs ks (rrL d 0).1 = 0 ∧ RPK nm num cs ks (rrL d 0).1 = k ∧ RPD nm num cs ks (rrL d 0).1 = d)) := ⟨fun h => h.2, fun h => ⟨HC.out, h⟩⟩
    clear hb4 HN3 t1 t2 t3 t4 t5 t6 HO HRP
    generalize RPE nm num cs ks (rrL d 0).1 = E at *
    generalize RPK nm num cs ks (rrL d 0).1 = K at *
    generalize RPD nm num cs ks (rrL d 0).1 = D at *
    have HB4 : Hid (Below w4.heap.size w4 (w4.alloc (.cells #[.string K, .string D] 28))) := (Below.refl _ _).alloc (Nat.le_refl _) _
    have HN5 : Hid (TPS w (w4.alloc (.cells #[.string K, .string D] 28)) nm num (.slice ca cs.length cc) (.slice ka ks.length kc) k d) := HN4.out.later HB4.out HN4.out.size
    have HO5 : Hid (ownV (w4.alloc (.cells #[.string K, .string D] 28)) (w.heap.size + 2) (.slice va vn vc) (rrL d 0).1) := HO4.out.same (fun k hk _ => HB4.out.block k hk)
    obtain ⟨t1, t2, t3, t4, t5, t6⟩ := HN5.out.cells
    unfold pairV
    by_cases hE : E = 0
    · subst hE
      by_cases hK : K.toList = k.toList
      · by_cases hD : D.toList = d.toList
        · have HY : Hid (PROK nm num cs ks k d) := HOK.out.2 ⟨rfl, ba_inj hK, ba_inj hD⟩
          have hKb : (K.toList == k.toList) = true := by simp [hK]
          have hDb : (D.toList == d.toList) = true := by simp [hD]
          clear HOK
          go_wp2
          go_ret2
          exact ⟨⟨fun _ => ⟨_, rfl, HO5.out.down (by omega)⟩, fun h => absurd HY.out h⟩, HN5.out.below⟩
        · have HNO : Hid (¬ PROK nm num cs ks k d) := fun h => hD (by rw [(HOK.out.1 h).2.2])
          have hKb : (K.toList == k.toList) = true := by simp [hK]
          have hDb : (D.toList == d.toList) = false := by simp [hD]
          clear HOK
          go_wp2
          go_ret2
          exact ⟨⟨fun h => absurd h HNO.out, fun _ => rfl⟩, HN5.out.below⟩
      · have HNO : Hid (¬ PROK nm num cs ks k d) := fun h => hK (by rw [(HOK.out.1 h).2.1])
        have hKb : (K.toList == k.toList) = false := by simp [hK]
        clear HOK
        go_wp2
        go_ret2
        exact ⟨⟨fun h => absurd h HNO.out, fun _ => rfl⟩, HN5.out.below⟩
    · have HNO : Hid (¬ PROK nm num cs ks k d) := fun h => hE (HOK.out.1 h).1
      have hEb : (E != 0) = true := by simp [hE]
      clear hE
      go_wp2
      go_ret2
      exact ⟨⟨fun h => absurd h HNO.out, fun _ => rfl⟩, HN5.out.below⟩
  · have he := h1 hc
    subst he
    have HNO : Hid (¬ PROK nm num cs ks k d) := fun h => absurd h.1 hc
    generalize (rrL d 0).2.2 = E at *
    have hcb : (E != 0) = true := by simp; exact hc
    clear h0 h1 hc hb3 HN
    go_wp2
    go_ret2
    exact ⟨⟨fun h => absurd h HNO.out, fun _ => rfl⟩, HN3.out.below⟩
theorem numT (c : Int) (w : World) : Calls Tryz.prog 9 #[.int .i64 c] w fun e w' => e = .returned (.int .i64 c) ∧ w' = w := by
  go_enter Tryz.func9, Tryz.ntmps9
  go_wp2
  go_ret
  exact ⟨rfl, rfl⟩
set_option maxHeartbeats 4000000 in
theorem sameV (a b : Value) (vs : List VL) (B C : Nat) (w : World) (ha : SeesV w B a vs) (hb : SeesV w C b vs) (hl : vs.length ≤ 140737488355328) :
    Calls Tryz.prog 11 #[a, b] w fun e w' => e = .returned (.bool true) ∧ Below w.heap.size w w' := by
  obtain ⟨aa, ac, rfl⟩ := ha.form
  obtain ⟨ba, bc, rfl⟩ := hb.form
  have HA : Hid (SeesV w B (.slice aa vs.length ac) vs) := ha
  have HB : Hid (SeesV w C (.slice ba vs.length bc) vs) := hb
  clear ha hb
  go_enter Tryz.func11, Tryz.ntmps11
  go_wp2
  go_loopw [5] (fun x wr => ∃ k : Nat, k ≤ vs.length ∧ x = .int .i64 (k : Int) ∧ Below w.heap.size w wr) (fun x _ => vs.length - (intOf x).toNat)
  case atStart => exact ⟨0, by omega, rfl, Below.refl _ _⟩
  case round =>
    obtain ⟨k, hk, rfl, hbw⟩ := hrel
    by_cases hkl : k < vs.length
    · have hki : (k : Int) < (vs.length : Int) := by omega
      obtain ⟨b1, o1, rfl, x0, x1, x2⟩ := HA.out.cell k hkl
      obtain ⟨b2, o2, rfl, y0, y1, y2⟩ := HB.out.cell k hkl
      have l1 : b1 < w.heap.size := World.block_lt_of_cell? _ _ x0
      have l2 : b2 < w.heap.size := World.block_lt_of_cell? _ _ y0
      rw [← hbw.cell (p := ⟨b1, o1 + k * 3, none⟩) l1] at x0
      rw [← hbw.cell (p := ⟨b1, o1 + k * 3 + 1, none⟩) l1] at x1
      rw [← hbw.cell (p := ⟨b1, o1 + k * 3 + 2, none⟩) l1] at x2
      rw [← hbw.cell (p := ⟨b2, o2 + k * 3, none⟩) l2] at y0
      rw [← hbw.cell (p := ⟨b2, o2 + k * 3 + 1, none⟩) l2] at y1
      rw [← hbw.cell (p := ⟨b2, o2 + k * 3 + 2, none⟩) l2] at y2
      have HW : Hid (Below w.heap.size w wr) := hbw
      clear hbw
      generalize vs[k] = v at *
      obtain ⟨vk, vi, vt⟩ := v
      dsimp only at *
      go_wp2_with fail
      (refine wp_region_held_drew (S := (fun w' => w'.cell? ⟨b1, o1 + k * 3, none⟩ = some (.int .i64 vk) ∧ w'.cell? ⟨b1, o1 + k * 3 + 1, none⟩ = some (.int .i64 vi) ∧ w'.cell? ⟨b1, o1 + k * 3 + 2, none⟩ = some (.string vt) ∧ w'.cell? ⟨b2, o2 + k * 3, none⟩ = some (.int .i64 vk) ∧ w'.cell? ⟨b2, o2 + k * 3 + 1, none⟩ = some (.int .i64 vi) ∧ w'.cell? ⟨b2, o2 + k * 3 + 2, none⟩ = some (.string vt))) (by kernel_rfl) ⟨x0, x1, x2, y0, y1, y2⟩ (fun hHeld => ?_); simp only [List.size_toArray, List.length_cons, List.length_nil, Nat.reduceAdd, Array.replicate_succ, Array.replicate_zero, List.push_toArray, List.append_toArray, List.nil_append, List.cons_append])
      (refine tk0 (v := ?_) (by kernel_rfl) (by kernel_rfl) (by kernel_rfl) (fun _ _ _ h => h) (Or.inl ⟨by rfl, ?_⟩) (by assumption) ?_; rotate_left; (focus (intro w hSw; (try dsimp only at hSw); go_simp; (try first | (rw [dif_pos (by omega)]; simp only [Result.andThen_ok]) | rw [if_pos (by omega)]); (try with_reducible rfl); done)); try simp only [Act.put, List.setIfInBounds_toArray, List.set_cons_zero, List.set_cons_succ])
      (refine tk1 (v := ?_) (by kernel_rfl) (by kernel_rfl) (by kernel_rfl) (fun _ _ _ h => h) (Or.inl ⟨by rfl, ?_⟩) (by assumption) ?_; rotate_left; (focus (intro w hSw; (try dsimp only at hSw); go_simp; (try first | (rw [dif_pos (by omega)]; simp only [Result.andThen_ok]) | rw [if_pos (by omega)]); (try with_reducible rfl); done)); try simp only [Act.put, List.setIfInBounds_toArray, List.set_cons_zero, List.set_cons_succ])
      (refine tk2 (v := ?_) (by kernel_rfl) (by kernel_rfl) (by kernel_rfl) (fun _ _ _ h => h) (Or.inl ⟨by rfl, ?_⟩) (by assumption) ?_; rotate_left; (focus (intro w hSw; (try dsimp only at hSw); go_simp; (try first | (rw [dif_pos (by omega)]; simp only [Result.andThen_ok]) | rw [if_pos (by omega)]); (try with_reducible rfl); done)); try simp only [Act.put, List.setIfInBounds_toArray, List.set_cons_zero, List.set_cons_succ])
      (refine tk3 (v := ?_) (by kernel_rfl) (by kernel_rfl) (by kernel_rfl) (fun _ _ _ h => h) (Or.inl ⟨by rfl, ?_⟩) (by assumption) ?_; rotate_left; (focus (intro w hSw; (try dsimp only at hSw); go_simp; (try first | (rw [dif_pos (by omega)]; simp only [Result.andThen_ok]) | rw [if_pos (by omega)]); (try with_reducible rfl); done)); try simp only [Act.put, List.setIfInBounds_toArray, List.set_cons_zero, List.set_cons_succ])
      (refine tk4 (v := ?_) (by kernel_rfl) (by kernel_rfl) (by kernel_rfl) (fun _ _ _ h => h) (Or.inl ⟨by rfl, ?_⟩) (by assumption) ?_; rotate_left; (focus (intro w hSw; (try dsimp only at hSw); go_simp; (try first | (rw [dif_pos (by omega)]; simp only [Result.andThen_ok]) | rw [if_pos (by omega)]); (try with_reducible rfl); done)); try simp only [Act.put, List.setIfInBounds_toArray, List.set_cons_zero, List.set_cons_succ])
      (refine tk5 (v := ?_) (by kernel_rfl) (by kernel_rfl) (by kernel_rfl) (fun _ _ _ h => h) (Or.inl ⟨by rfl, ?_⟩) (by assumption) ?_; rotate_left; (focus (intro w hSw; (try dsimp only at hSw); go_simp; (try first | (rw [dif_pos (by omega)]; simp only [Result.andThen_ok]) | rw [if_pos (by omega)]); (try with_reducible rfl); done)); try simp only [Act.put, List.setIfInBounds_toArray, List.set_cons_zero, List.set_cons_succ])
      (refine tk6 (v := ?_) (by kernel_rfl) (by kernel_rfl) (by kernel_rfl) (fun _ _ _ h => h) (Or.inl ⟨by rfl, ?_⟩) (by assumption) ?_; rotate_left; (focus (intro w hSw; (try dsimp only at hSw); go_simp; (try first | (rw [dif_pos (by omega)]; simp only [Result.andThen_ok]) | rw [if_pos (by omega)]); (try with_reducible rfl); done)); try simp only [Act.put, List.setIfInBounds_toArray, List.set_cons_zero, List.set_cons_succ])
      (refine tk7 (v := ?_) (by kernel_rfl) (by kernel_rfl) (by kernel_rfl) (fun _ _ _ h => h) (Or.inl ⟨by rfl, ?_⟩) (by assumption) ?_; rotate_left; (focus (intro w hSw; (try dsimp only at hSw); go_simp; (try first | (rw [dif_pos (by omega)]; simp only [Result.andThen_ok]) | rw [if_pos (by omega)]); (try with_reducible rfl); done)); try simp only [Act.put, List.setIfInBounds_toArray, List.set_cons_zero, List.set_cons_succ])
      (refine tk8 (v := ?_) (by kernel_rfl) (by kernel_rfl) (by kernel_rfl) (fun _ _ _ h => h) (Or.inl ⟨by rfl, ?_⟩) (by assumption) ?_; rotate_left; (focus (intro w hSw; (try dsimp only at hSw); go_simp; (try first | (rw [dif_pos (by omega)]; simp only [Result.andThen_ok]) | rw [if_pos (by omega)]); (try with_reducible rfl); done)); try simp only [Act.put, List.setIfInBounds_toArray, List.set_cons_zero, List.set_cons_succ])
      refine wpAnyH_done (by kernel_rfl) ?_ _
      go_wp2
      go_roundw
      case rel => exact ⟨k + 1, by omega, by go_num, ⟨HW.out.os, HW.out.tape, HW.out.output, HW.out.size, HW.out.block⟩⟩
      case measure => simp [intOf]; omega
    · have hki : ¬ (k : Int) < (vs.length : Int) := by omega
      go_wp2
      go_ret
      exact ⟨rfl, hbw⟩
end Go.Proofs.YtjcffcpmegpjeaaGreatDoor
