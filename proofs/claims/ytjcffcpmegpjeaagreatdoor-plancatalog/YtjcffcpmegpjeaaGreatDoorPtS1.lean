import Derived.Test.YtjcffcpmegpjeaaGreatDoorPtE4
namespace Go.Proofs.YtjcffcpmegpjeaaGreatDoor
set_option linter.unusedSimpArgs false
open Go.ChangeShapes Go.WideShapes Go.ChangeAt Go.RowKit
set_option linter.unusedVariables false
set_option maxRecDepth 100000
theorem colD_flat (d : ByteArray) (c : CD) : ((d ++ strOfNums (uvB (c.1.size : Int))) ++ c.1) ++ strOfNums [kdC c] = colD d c := by
  unfold colD nmD
  rw [ByteArray.append_assoc, ByteArray.append_assoc, ByteArray.append_assoc]
theorem enI_err {nm : ByteArray} {num : Int} {cs : List CD} {ks : List Int} {E : Int} (h : enE nm num cs ks = E) (hE : E ≠ 0) : Value.tuple #[pairV (enK nm num cs ks) (enD nm num cs ks), .int .i64 (enE nm num cs ks)] = .tuple #[.agg #[.string ⟨#[]⟩, .string ⟨#[]⟩], .int .i64 E] := by
  unfold enK enD pairV
  rw [h, if_neg hE, if_neg hE]
theorem enI_ok {nm : ByteArray} {num : Int} {cs : List CD} {ks : List Int} (h : enE nm num cs ks = 0) : Value.tuple #[pairV (enK nm num cs ks) (enD nm num cs ks), .int .i64 (enE nm num cs ks)] = .tuple #[.agg #[.string (catK nm), .string (tabD num cs ks)], .int .i64 0] := by
  unfold enK enD pairV
  rw [h, if_pos rfl, if_pos rfl]
set_option maxHeartbeats 8000000 in
theorem EncTabR (nm : ByteArray) (num : Int) (cv kv : Value) (cs : List CD) (ks : List Int) (B : Nat) (w : World) (hB : B ≤ w.heap.size) (hs : SeesC w B cv cs) (hu : SeesG (Value.int .i64) w B kv ks)
    (hl : cs.length ≤ 140737488355328) (hkl : ks.length ≤ 140737488355328) (hnum : -9223372036854775808 ≤ num ∧ num ≤ 9223372036854775807) :
    Calls Tryz.prog 14 #[.agg #[.string nm, .int .i64 num, cv, kv]] w fun e w' => e = .returned (.tuple #[pairV (enK nm num cs ks) (enD nm num cs ks), .int .i64 (enE nm num cs ks)]) ∧ Below w.heap.size w w' := by
  obtain ⟨ca, cc, rfl⟩ := hs.form
  obtain ⟨ka, kc, rfl⟩ := hu.form
  have HN : Hid _ := RQS.new w nm num (.slice ca cs.length cc) (.slice ka ks.length kc)
  have HT : Hid (∀ _ : Unit, _) := fun _ => isTableR nm num (.slice ca cs.length cc) (.slice ka ks.length kc) cs ks B _ (by have := HN.out.size; omega) (hs.later (HN.out.below.mono hB)) (hu.later (HN.out.below.mono hB)) hl hkl
  have HSC : Hid (SeesC w B (.slice ca cs.length cc) cs) := hs
  have HSK : Hid (SeesG (Value.int .i64) w B (.slice ka ks.length kc) ks) := hu
  clear hs hu
  obtain ⟨t0, t1, t2, t3, t4, t5, t6, t7, t8, t9, t10, t11⟩ := HN.out.cells
  by_cases ht : isTb nm num cs ks = true
  · obtain ⟨f1, f2, f3⟩ := isTb_few ht
    obtain ⟨g1, g2, g3⟩ := isTb_parts ht
    have HKS : Hid (∀ k ∈ ks, 0 ≤ k ∧ k < (cs.length : Int)) := f1
    have HCS : Hid (∀ j (h : j < cs.length), cs[j].1.size ≤ 32 ∧ 1 ≤ cs[j].2.1 ∧ cs[j].2.1 ≤ 3) := g3
    have HE0 : Hid (enE nm num cs ks = if 512 < (tabD num cs ks).size then 4 else 0) := if_pos ht
    have HCZ : Hid (∀ n, n ≤ cs.length → (colsD num cs n).size ≤ 20 + 43 * n) := colsD_size (fun j h => (g3 j h).1)
    have HKZ : Hid (∀ n, n ≤ ks.length → (keysD num cs ks n).size ≤ 720 + 10 * n) := keysD_size (fun j h => (g3 j h).1) f3
    rw [ht] at HT
    clear ht f1 g3 hl hkl
    go_enter Tryz.func14, Tryz.ntmps14
    go_wp2_with fail
    refine (HT.out ()).mono ?_
    rintro e w3 ⟨rfl, hb3⟩
    have HN3 : Hid (RQS w w3 nm num (.slice ca cs.length cc) (.slice ka ks.length kc)) := HN.out.later hb3 HN.out.size
    clear hb3 HT HN t0 t1 t2 t3 t4 t5 t6 t7 t8 t9 t10 t11
    obtain ⟨t0, t1, t2, t3, t4, t5, t6, t7, t8, t9, t10, t11⟩ := HN3.out.cells
    have hwn : IntKind.u64.wrap num = num := by rw [IntKind.wrap_u64]; omega
    have hwl : IntKind.u64.wrap (cs.length : Int) = (cs.length : Int) := by rw [IntKind.wrap_u64]; omega
    have HU1 : Hid (∀ W, _) := fun W => ref_uvarint num W (by omega) (by omega)
    have HU2 : Hid (∀ W, _) := fun W => ref_uvarint (cs.length : Int) W (by omega) (by omega)
    have hadd : ∀ W : World, (Op.stringOp .add (strOfNums (uvB num)) (strOfNums (uvB (cs.length : Int)))).run Tryz.prog W = .ok (.string (begD num cs)) W := fun W => addS _ _ (by rw [strOfNums_size, strOfNums_size]; have := uvB_len num; have := uvB_len (cs.length : Int); omega) W
    have HC0 : Hid (colsD num cs 0 = begD num cs) := rfl
    go_wp2_with fail
    refine (HU1.out _).mono ?_
    rintro e w4 ⟨rfl, hb4⟩
    have HN4 : Hid (RQS w w4 nm num (.slice ca cs.length cc) (.slice ka ks.length kc)) := HN3.out.later hb4 HN3.out.size
    clear hb4 HN3 t0 t1 t2 t3 t4 t5 t6 t7 t8 t9 t10 t11 HU1
    obtain ⟨t0, t1, t2, t3, t4, t5, t6, t7, t8, t9, t10, t11⟩ := HN4.out.cells
    go_wp2_with fail
    refine (HU2.out _).mono ?_
    rintro e w5 ⟨rfl, hb5⟩
    have HN5 : Hid (RQS w w5 nm num (.slice ca cs.length cc) (.slice ka ks.length kc)) := HN4.out.later hb5 HN4.out.size
    clear hb5 HN4 t0 t1 t2 t3 t4 t5 t6 t7 t8 t9 t10 t11 HU2
    go_wp2
    clear hwn hwl hadd
    go_loopw [5, 6] (fun d i wr => ∃ j : Nat, j ≤ cs.length ∧ d = .string (colsD num cs j) ∧ i = .int .i64 (j : Int) ∧ RQS w wr nm num (.slice ca cs.length cc) (.slice ka ks.length kc)) (fun _ i _ => cs.length - (intOf i).toNat)
    case atStart => exact ⟨0, by omega, by rw [HC0.out], rfl, HN5.out⟩
    case round =>
      obtain ⟨j, hj, rfl, rfl, hn⟩ := hrel
      have HNr : Hid (RQS w wr nm num (.slice ca cs.length cc) (.slice ka ks.length kc)) := hn
      clear hn HN5 HC0
      obtain ⟨t0, t1, t2, t3, t4, t5, t6, t7, t8, t9, t10, t11⟩ := HNr.out.cells
      by_cases hjl : j < cs.length
      · have hji : (j : Int) < (cs.length : Int) := by omega
        obtain ⟨b, off, rfl, c0, c1, c2⟩ := (HSC.out.later (HNr.out.below.mono hB)).cell j hjl
        obtain ⟨z1, z2, z3⟩ := HCS.out j hjl
        have HNX : Hid (colsD num cs (j + 1) = colD (colsD num cs j) cs[j]) := colsD_next hjl
        have hsz := HCZ.out j hj
        have HBC : Hid (Below wr.heap.size wr (wr.alloc (.cells #[.string cs[j].1, .int .i64 cs[j].2.1, .bool cs[j].2.2] 61))) := boxC wr cs[j]
        have HNc : Hid (RQS w (wr.alloc (.cells #[.string cs[j].1, .int .i64 cs[j].2.1, .bool cs[j].2.2] 61)) nm num (.slice (some ⟨b, off, none⟩) cs.length cc) (.slice ka ks.length kc)) := HNr.out.later HBC.out HNr.out.size
        have HU : Hid (∀ W, _) := fun W => ref_uvarint (cs[j].1.size : Int) W (by omega) (by omega)
        have HCD : Hid (((colsD num cs j ++ strOfNums (uvB (cs[j].1.size : Int))) ++ cs[j].1) ++ strOfNums [kdC cs[j]] = colD (colsD num cs j) cs[j]) := colD_flat _ _
        have HKD : Hid (kdC cs[j] = if cs[j].2.2 then cs[j].2.1 + 4 else cs[j].2.1) := rfl
        have e0 : (wr.alloc (.cells #[.string cs[j].1, .int .i64 cs[j].2.1, .bool cs[j].2.2] 61)).cell? ⟨wr.heap.size, 0, none⟩ = some (.string cs[j].1) := by simp
        generalize colD (colsD num cs j) cs[j] = D2 at *
        generalize colsD num cs j = D1 at *
        generalize kdC cs[j] = kd at *
        generalize cs[j] = c at *
        obtain ⟨cn, ct, nn⟩ := c
        dsimp only at *
        have hw1 : IntKind.u8.wrap ct = ct := by rw [IntKind.wrap_u8]; omega
        have hw2 : IntKind.u8.wrap (ct + 4) = ct + 4 := by rw [IntKind.wrap_u8]; omega
        have hw3 : IntKind.i64.wrap (ct + 4) = ct + 4 := by rw [IntKind.wrap_i64]; omega
        have hw4 : IntKind.u64.wrap (cn.size : Int) = (cn.size : Int) := by rw [IntKind.wrap_u64]; omega
        have ha1 : ∀ W : World, (Op.stringOp .add D1 (strOfNums (uvB (cn.size : Int)))).run Tryz.prog W = .ok (.string (D1 ++ strOfNums (uvB (cn.size : Int)))) W := fun W => addS _ _ (by rw [strOfNums_size]; have := uvB_len (cn.size : Int); omega) W
        have ha2 : ∀ W : World, (Op.stringOp .add (D1 ++ strOfNums (uvB (cn.size : Int))) cn).run Tryz.prog W = .ok (.string (D1 ++ strOfNums (uvB (cn.size : Int)) ++ cn)) W := fun W => addS _ _ (by rw [ByteArray.size_append, strOfNums_size]; have := uvB_len (cn.size : Int); omega) W
        have ha3 : ∀ W : World, (Op.stringOp .add (D1 ++ strOfNums (uvB (cn.size : Int)) ++ cn) (strOfNums [kd])).run Tryz.prog W = .ok (.string D2) W := fun W => by rw [← HCD.out]; exact addS _ _ (by rw [ByteArray.size_append, ByteArray.size_append, strOfNums_size, strOfNums_size]; have := uvB_len (cn.size : Int); simp; omega) W
        clear HCD
        cases nn with
        | true =>
          have hk : ct + 4 = kd := HKD.out.symm
          rw [hk] at hw2 hw3
          clear HKD
          have hgl : wr.heap.size < (wr.alloc (.cells #[.string cn, .int .i64 ct, .bool true] 61)).heap.size := by rw [szAl]; omega
          go_wp2_with fail
          generalize wr.alloc (.cells #[.string cn, .int .i64 ct, .bool true] 61) = W1 at *
          have hszc := HNc.out.size
          (refine wp_region_held_drew (S := (fun w' => w'.cell? ⟨wr.heap.size, 0, none⟩ = some (.string cn))) (by kernel_rfl) e0 (fun hHeld => ?_); simp only [List.size_toArray, List.length_cons, List.length_nil, Nat.reduceAdd, Array.replicate_succ, Array.replicate_zero, List.push_toArray, List.append_toArray, List.nil_append, List.cons_append])
          (refine tk0 (v := ?_) (by kernel_rfl) (by kernel_rfl) (by kernel_rfl) (fun _ _ _ h => h) (Or.inl ⟨by rfl, ?_⟩) (by assumption) ?_; rotate_left; (focus (intro w hSw; (try dsimp only at hSw); go_simp; (try first | (rw [dif_pos (by omega)]; simp only [Result.andThen_ok]) | rw [if_pos (by omega)]); (try with_reducible rfl); done)); try simp only [Act.put, List.setIfInBounds_toArray, List.set_cons_zero, List.set_cons_succ])
          (refine tk1 (v := ?_) (by kernel_rfl) (by kernel_rfl) (by kernel_rfl) (fun _ _ _ h => h) (Or.inl ⟨by rfl, ?_⟩) (by assumption) ?_; rotate_left; (focus (intro w hSw; (try dsimp only at hSw); go_simp; (try first | (rw [dif_pos (by omega)]; simp only [Result.andThen_ok]) | rw [if_pos (by omega)]); (try with_reducible rfl); done)); try simp only [Act.put, List.setIfInBounds_toArray, List.set_cons_zero, List.set_cons_succ])
          (refine tk2 (v := ?_) (by kernel_rfl) (by kernel_rfl) (by kernel_rfl) (fun _ _ _ h => h) (Or.inl ⟨by rfl, ?_⟩) (by assumption) ?_; rotate_left; (focus (intro w hSw; (try dsimp only at hSw); go_simp; (try first | (rw [dif_pos (by omega)]; simp only [Result.andThen_ok]) | rw [if_pos (by omega)]); (try with_reducible rfl); done)); try simp only [Act.put, List.setIfInBounds_toArray, List.set_cons_zero, List.set_cons_succ])
          (refine tk3 (v := ?_) (by kernel_rfl) (by kernel_rfl) (by kernel_rfl) (fun _ _ _ h => h) (Or.inl ⟨by rfl, ?_⟩) (by assumption) ?_; rotate_left; (focus (intro w hSw; (try dsimp only at hSw); go_simp; (try first | (rw [dif_pos (by omega)]; simp only [Result.andThen_ok]) | rw [if_pos (by omega)]); (try with_reducible rfl); done)); try simp only [Act.put, List.setIfInBounds_toArray, List.set_cons_zero, List.set_cons_succ])
          (refine tk4 (v := ?_) (by kernel_rfl) (by kernel_rfl) (by kernel_rfl) (fun _ _ _ h => h) (Or.inl ⟨by rfl, ?_⟩) (by assumption) ?_; rotate_left; (focus (intro w hSw; (try dsimp only at hSw); go_simp; (try first | (rw [dif_pos (by omega)]; simp only [Result.andThen_ok]) | rw [if_pos (by omega)]); (try with_reducible rfl); done)); try simp only [Act.put, List.setIfInBounds_toArray, List.set_cons_zero, List.set_cons_succ])
          (refine tk7 (v := ?_) (by kernel_rfl) (by kernel_rfl) (by kernel_rfl) (fun _ _ _ h => h) (Or.inl ⟨by rfl, ?_⟩) (by assumption) ?_; rotate_left; (focus (intro w hSw; (try dsimp only at hSw); go_simp; (try first | (rw [dif_pos (by omega)]; simp only [Result.andThen_ok]) | rw [if_pos (by omega)]); (try with_reducible rfl); done)); try simp only [Act.put, List.setIfInBounds_toArray, List.set_cons_zero, List.set_cons_succ])
          (refine tk8 (v := ?_) (by kernel_rfl) (by kernel_rfl) (by kernel_rfl) (fun _ _ _ h => h) (Or.inl ⟨by rfl, ?_⟩) (by assumption) ?_; rotate_left; (focus (intro w hSw; (try dsimp only at hSw); go_simp; (try first | (rw [dif_pos (by omega)]; simp only [Result.andThen_ok]) | rw [if_pos (by omega)]); (try with_reducible rfl); done)); try simp only [Act.put, List.setIfInBounds_toArray, List.set_cons_zero, List.set_cons_succ])
          (refine tk10 (v := ?_) (by kernel_rfl) (by kernel_rfl) (by kernel_rfl) (fun _ _ _ h => h) (Or.inl ⟨by rfl, ?_⟩) (by assumption) ?_; rotate_left; (focus (intro w hSw; (try dsimp only at hSw); go_simp; (try first | (rw [dif_pos (by omega)]; simp only [Result.andThen_ok]) | rw [if_pos (by omega)]); (try with_reducible rfl); done)); try simp only [Act.put, List.setIfInBounds_toArray, List.set_cons_zero, List.set_cons_succ])
          (refine tk11 (v := ?_) (by kernel_rfl) (by kernel_rfl) (by kernel_rfl) (fun _ _ _ h => h) (Or.inl ⟨by rfl, ?_⟩) (by assumption) ?_; rotate_left; (focus (intro w hSw; (try dsimp only at hSw); go_simp; (try first | (rw [dif_pos (by omega)]; simp only [Result.andThen_ok]) | rw [if_pos (by omega)]); (try with_reducible rfl); done)); try simp only [Act.put, List.setIfInBounds_toArray, List.set_cons_zero, List.set_cons_succ])
          (refine wpAnyH_ready (rs := [5, 12]) (by kernel_rfl) (by simp) ?_; refine ar5 (fun K hK => ?_) (ar12 (fun K hK => ?_) AllReadyH.nil) <;> go_simp)
          · go_at_call 30
            refine (HU.out _).mono ?_
            rintro e w6 ⟨rfl, hb6⟩
            have hbW : Below W1.heap.size W1 w6 := ⟨hb6.os, hb6.tape, hb6.output, hb6.size, hb6.block⟩
            have e6 : w6.cell? ⟨wr.heap.size, 0, none⟩ = some (.string cn) := by rw [hbW.cell (p := ⟨wr.heap.size, 0, none⟩) hgl]; exact e0
            have HN6 : Hid (RQS w w6 nm num (.slice (some ⟨b, off, none⟩) cs.length cc) (.slice ka ks.length kc)) := HNc.out.later hbW hszc
            have HB7 : Hid (Below w6.heap.size w6 (w6.alloc (.cells #[.int .u8 kd] 5))) := (Below.refl _ _).alloc (Nat.le_refl _) _
            have HN7 : Hid (RQS w (w6.alloc (.cells #[.int .u8 kd] 5)) nm num (.slice (some ⟨b, off, none⟩) cs.length cc) (.slice ka ks.length kc)) := HN6.out.later HB7.out HN6.out.size
            have hcv := (own_newB w6 w6.heap.size kd (Nat.le_refl _)).conv
            have e7 : (w6.alloc (.cells #[.int .u8 kd] 5)).cell? ⟨wr.heap.size, 0, none⟩ = some (.string cn) := by rw [HB7.out.cell (p := ⟨wr.heap.size, 0, none⟩) (World.block_lt_of_cell? _ _ e6)]; exact e6
            clear hb6 hbW HU
            go_wp2_with fail
            (refine hK.out _ _ e6 (fun hHeld => ?_); clear hK K; try simp only [Act.put, List.setIfInBounds_toArray, List.set_cons_zero, List.set_cons_succ])
            (refine tk6 (v := ?_) (by kernel_rfl) (by kernel_rfl) (by kernel_rfl) (fun _ _ _ h => h) (Or.inl ⟨by rfl, ?_⟩) (by assumption) ?_; rotate_left; (focus (intro w hSw; (try dsimp only at hSw); go_simp; (try first | (rw [dif_pos (by omega)]; simp only [Result.andThen_ok]) | rw [if_pos (by omega)]); (try with_reducible rfl); done)); try simp only [Act.put, List.setIfInBounds_toArray, List.set_cons_zero, List.set_cons_succ])
            (refine tk9 (v := ?_) (by kernel_rfl) (by kernel_rfl) (by kernel_rfl) (fun _ _ _ h => h) (Or.inl ⟨by rfl, ?_⟩) (by assumption) ?_; rotate_left; (focus (intro w hSw; (try dsimp only at hSw); go_simp; (try first | (rw [dif_pos (by omega)]; simp only [Result.andThen_ok]) | rw [if_pos (by omega)]); (try with_reducible rfl); done)); try simp only [Act.put, List.setIfInBounds_toArray, List.set_cons_zero, List.set_cons_succ])
            (refine wpAnyH_ready (rs := [12]) (by kernel_rfl) (by simp) ?_; refine ar12 (fun K hK => ?_) AllReadyH.nil; go_simp)
            (refine hK.out _ _ e7 (fun hHeld => ?_); clear hK K; try simp only [Act.put, List.setIfInBounds_toArray, List.set_cons_zero, List.set_cons_succ])
            (refine wpAnyH_more (S' := (fun w' => w'.cell? ⟨wr.heap.size, 0, none⟩ = some (.string cn) ∧ (convert 72 9 (.slice (some ⟨w6.heap.size, 0, none⟩) 1 1)).run Tryz.prog w' = .ok (.string (strOfNums [kd])) w')) (fun w h => h.1) _ _ _ _ ?_; replace hHeld := (And.intro hHeld hcv))
            (refine tk13 (v := ?_) (by kernel_rfl) (by kernel_rfl) (by kernel_rfl) (fun _ _ _ h => h) (Or.inl ⟨by rfl, ?_⟩) (by assumption) ?_; rotate_left; (focus (intro w hSw; (try dsimp only at hSw); go_simp; (try first | (rw [dif_pos (by omega)]; simp only [Result.andThen_ok]) | rw [if_pos (by omega)]); (try with_reducible rfl); done)); try simp only [Act.put, List.setIfInBounds_toArray, List.set_cons_zero, List.set_cons_succ])
            (refine tk14 (v := ?_) (by kernel_rfl) (by kernel_rfl) (by kernel_rfl) (fun _ _ _ h => h) (Or.inl ⟨by rfl, ?_⟩) (by assumption) ?_; rotate_left; (focus (intro w hSw; (try dsimp only at hSw); go_simp; (try first | (rw [dif_pos (by omega)]; simp only [Result.andThen_ok]) | rw [if_pos (by omega)]); (try with_reducible rfl); done)); try simp only [Act.put, List.setIfInBounds_toArray, List.set_cons_zero, List.set_cons_succ])
            (refine tk15 (v := ?_) (by kernel_rfl) (by kernel_rfl) (by kernel_rfl) (fun _ _ _ h => h) (Or.inl ⟨by rfl, ?_⟩) (by assumption) ?_; rotate_left; (focus (intro w hSw; (try dsimp only at hSw); go_simp; (try first | (rw [dif_pos (by omega)]; simp only [Result.andThen_ok]) | rw [if_pos (by omega)]); (try with_reducible rfl); done)); try simp only [Act.put, List.setIfInBounds_toArray, List.set_cons_zero, List.set_cons_succ])
            refine wpAnyH_done (by kernel_rfl) ?_ _
            go_wp2
            go_roundw
            case rel => exact ⟨j + 1, by omega, by rw [HNX.out], by go_num, HN7.out⟩
            case measure => simp [intOf]; omega
          · have hblk : (W1.alloc (.cells #[.int .u8 kd] 5)).heap[W1.heap.size]? = some (.cells #[.int .u8 kd] 5) := heap_new _ _
            have HCV : Hid (∀ W' : World, W'.heap[W1.heap.size]? = some (.cells #[.int .u8 kd] 5) → (convert 72 9 (.slice (some ⟨W1.heap.size, 0, none⟩) 1 1)).run Tryz.prog W' = .ok (.string (strOfNums [kd])) W') := fun W' h => (show ownB W' W1.heap.size (.slice (some ⟨W1.heap.size, 0, none⟩) 1 1) [kd] from ⟨rfl, Or.inr ⟨W1.heap.size, 1, _, rfl, Nat.le_refl _, h, Nat.le_refl _, by unfold maxLen; omega, rfl, rfl⟩⟩).conv
            have HB2 : Hid (Below W1.heap.size W1 (W1.alloc (.cells #[.int .u8 kd] 5))) := (Below.refl _ _).alloc (Nat.le_refl _) _
            have HN2 : Hid (RQS w (W1.alloc (.cells #[.int .u8 kd] 5)) nm num (.slice (some ⟨b, off, none⟩) cs.length cc) (.slice ka ks.length kc)) := HNc.out.later HB2.out hszc
            have e2 : (W1.alloc (.cells #[.int .u8 kd] 5)).cell? ⟨wr.heap.size, 0, none⟩ = some (.string cn) := by rw [HB2.out.cell (p := ⟨wr.heap.size, 0, none⟩) hgl]; exact e0
            have hz2 : (W1.alloc (.cells #[.int .u8 kd] 5)).heap.size = W1.heap.size + 1 := szAl _ _
            generalize W1.alloc (.cells #[.int .u8 kd] 5) = W2 at *
            (refine hK.out _ _ e2 (fun hHeld => ?_); clear hK K; try simp only [Act.put, List.setIfInBounds_toArray, List.set_cons_zero, List.set_cons_succ])
            (refine wpAnyH_more (S' := (fun w' => w'.cell? ⟨wr.heap.size, 0, none⟩ = some (.string cn) ∧ (convert 72 9 (.slice (some ⟨W1.heap.size, 0, none⟩) 1 1)).run Tryz.prog w' = .ok (.string (strOfNums [kd])) w')) (fun w h => h.1) _ _ _ _ ?_; replace hHeld := (And.intro hHeld (HCV.out W2.drew hblk)))
            (refine tk13 (v := ?_) (by kernel_rfl) (by kernel_rfl) (by kernel_rfl) (fun _ _ _ h => h) (Or.inl ⟨by rfl, ?_⟩) (by assumption) ?_; rotate_left; (focus (intro w hSw; (try dsimp only at hSw); go_simp; (try first | (rw [dif_pos (by omega)]; simp only [Result.andThen_ok]) | rw [if_pos (by omega)]); (try with_reducible rfl); done)); try simp only [Act.put, List.setIfInBounds_toArray, List.set_cons_zero, List.set_cons_succ])
            (refine wpAnyH_ready (rs := [5]) (by kernel_rfl) (by simp) ?_; refine ar5 (fun K hK => ?_) AllReadyH.nil; go_simp)
            go_at_call 30
            refine (HU.out _).mono ?_
            rintro e w6 ⟨rfl, hb6⟩
            have hbW : Below W2.heap.size W2 w6 := ⟨hb6.os, hb6.tape, hb6.output, hb6.size, hb6.block⟩
            have e6 : w6.cell? ⟨wr.heap.size, 0, none⟩ = some (.string cn) := by rw [hbW.cell (p := ⟨wr.heap.size, 0, none⟩) (by simp only; omega)]; exact e2
            have HN6 : Hid (RQS w w6 nm num (.slice (some ⟨b, off, none⟩) cs.length cc) (.slice ka ks.length kc)) := HN2.out.later hbW HN2.out.size
            have HC6 := HCV.out w6 ((hbW.block _ (by omega)).trans hblk)
            clear hb6 hbW HU HCV
            go_wp2_with fail
            (refine hK.out _ _ (And.intro e6 HC6) (fun hHeld => ?_); clear hK K; try simp only [Act.put, List.setIfInBounds_toArray, List.set_cons_zero, List.set_cons_succ])
            (refine tk6 (v := ?_) (by kernel_rfl) (by kernel_rfl) (by kernel_rfl) (fun _ _ _ h => h) (Or.inl ⟨by rfl, ?_⟩) (by assumption) ?_; rotate_left; (focus (intro w hSw; (try dsimp only at hSw); go_simp; (try first | (rw [dif_pos (by omega)]; simp only [Result.andThen_ok]) | rw [if_pos (by omega)]); (try with_reducible rfl); done)); try simp only [Act.put, List.setIfInBounds_toArray, List.set_cons_zero, List.set_cons_succ])
            (refine tk9 (v := ?_) (by kernel_rfl) (by kernel_rfl) (by kernel_rfl) (fun _ _ _ h => h) (Or.inl ⟨by rfl, ?_⟩) (by assumption) ?_; rotate_left; (focus (intro w hSw; (try dsimp only at hSw); go_simp; (try first | (rw [dif_pos (by omega)]; simp only [Result.andThen_ok]) | rw [if_pos (by omega)]); (try with_reducible rfl); done)); try simp only [Act.put, List.setIfInBounds_toArray, List.set_cons_zero, List.set_cons_succ])
            (refine tk14 (v := ?_) (by kernel_rfl) (by kernel_rfl) (by kernel_rfl) (fun _ _ _ h => h) (Or.inl ⟨by rfl, ?_⟩) (by assumption) ?_; rotate_left; (focus (intro w hSw; (try dsimp only at hSw); go_simp; (try first | (rw [dif_pos (by omega)]; simp only [Result.andThen_ok]) | rw [if_pos (by omega)]); (try with_reducible rfl); done)); try simp only [Act.put, List.setIfInBounds_toArray, List.set_cons_zero, List.set_cons_succ])
            (refine tk15 (v := ?_) (by kernel_rfl) (by kernel_rfl) (by kernel_rfl) (fun _ _ _ h => h) (Or.inl ⟨by rfl, ?_⟩) (by assumption) ?_; rotate_left; (focus (intro w hSw; (try dsimp only at hSw); go_simp; (try first | (rw [dif_pos (by omega)]; simp only [Result.andThen_ok]) | rw [if_pos (by omega)]); (try with_reducible rfl); done)); try simp only [Act.put, List.setIfInBounds_toArray, List.set_cons_zero, List.set_cons_succ])
            refine wpAnyH_done (by kernel_rfl) ?_ _
            go_wp2
            go_roundw
            case rel => exact ⟨j + 1, by omega, by rw [HNX.out], by go_num, HN6.out⟩
            case measure => simp [intOf]; omega
        | false =>
          have hk : ct = kd := HKD.out.symm
          subst hk
          clear HKD
          have hgl : wr.heap.size < (wr.alloc (.cells #[.string cn, .int .i64 ct, .bool false] 61)).heap.size := by rw [szAl]; omega
          go_wp2_with fail
          generalize wr.alloc (.cells #[.string cn, .int .i64 ct, .bool false] 61) = W1 at *
          have hszc := HNc.out.size
          (refine wp_region_held_drew (S := (fun w' => w'.cell? ⟨wr.heap.size, 0, none⟩ = some (.string cn))) (by kernel_rfl) e0 (fun hHeld => ?_); simp only [List.size_toArray, List.length_cons, List.length_nil, Nat.reduceAdd, Array.replicate_succ, Array.replicate_zero, List.push_toArray, List.append_toArray, List.nil_append, List.cons_append])
          (refine tk0 (v := ?_) (by kernel_rfl) (by kernel_rfl) (by kernel_rfl) (fun _ _ _ h => h) (Or.inl ⟨by rfl, ?_⟩) (by assumption) ?_; rotate_left; (focus (intro w hSw; (try dsimp only at hSw); go_simp; (try first | (rw [dif_pos (by omega)]; simp only [Result.andThen_ok]) | rw [if_pos (by omega)]); (try with_reducible rfl); done)); try simp only [Act.put, List.setIfInBounds_toArray, List.set_cons_zero, List.set_cons_succ])
          (refine tk1 (v := ?_) (by kernel_rfl) (by kernel_rfl) (by kernel_rfl) (fun _ _ _ h => h) (Or.inl ⟨by rfl, ?_⟩) (by assumption) ?_; rotate_left; (focus (intro w hSw; (try dsimp only at hSw); go_simp; (try first | (rw [dif_pos (by omega)]; simp only [Result.andThen_ok]) | rw [if_pos (by omega)]); (try with_reducible rfl); done)); try simp only [Act.put, List.setIfInBounds_toArray, List.set_cons_zero, List.set_cons_succ])
          (refine tk2 (v := ?_) (by kernel_rfl) (by kernel_rfl) (by kernel_rfl) (fun _ _ _ h => h) (Or.inl ⟨by rfl, ?_⟩) (by assumption) ?_; rotate_left; (focus (intro w hSw; (try dsimp only at hSw); go_simp; (try first | (rw [dif_pos (by omega)]; simp only [Result.andThen_ok]) | rw [if_pos (by omega)]); (try with_reducible rfl); done)); try simp only [Act.put, List.setIfInBounds_toArray, List.set_cons_zero, List.set_cons_succ])
          (refine tk3 (v := ?_) (by kernel_rfl) (by kernel_rfl) (by kernel_rfl) (fun _ _ _ h => h) (Or.inl ⟨by rfl, ?_⟩) (by assumption) ?_; rotate_left; (focus (intro w hSw; (try dsimp only at hSw); go_simp; (try first | (rw [dif_pos (by omega)]; simp only [Result.andThen_ok]) | rw [if_pos (by omega)]); (try with_reducible rfl); done)); try simp only [Act.put, List.setIfInBounds_toArray, List.set_cons_zero, List.set_cons_succ])
          (refine tk4 (v := ?_) (by kernel_rfl) (by kernel_rfl) (by kernel_rfl) (fun _ _ _ h => h) (Or.inl ⟨by rfl, ?_⟩) (by assumption) ?_; rotate_left; (focus (intro w hSw; (try dsimp only at hSw); go_simp; (try first | (rw [dif_pos (by omega)]; simp only [Result.andThen_ok]) | rw [if_pos (by omega)]); (try with_reducible rfl); done)); try simp only [Act.put, List.setIfInBounds_toArray, List.set_cons_zero, List.set_cons_succ])
          (refine tk7 (v := ?_) (by kernel_rfl) (by kernel_rfl) (by kernel_rfl) (fun _ _ _ h => h) (Or.inl ⟨by rfl, ?_⟩) (by assumption) ?_; rotate_left; (focus (intro w hSw; (try dsimp only at hSw); go_simp; (try first | (rw [dif_pos (by omega)]; simp only [Result.andThen_ok]) | rw [if_pos (by omega)]); (try with_reducible rfl); done)); try simp only [Act.put, List.setIfInBounds_toArray, List.set_cons_zero, List.set_cons_succ])
          (refine tk8 (v := ?_) (by kernel_rfl) (by kernel_rfl) (by kernel_rfl) (fun _ _ _ h => h) (Or.inl ⟨by rfl, ?_⟩) (by assumption) ?_; rotate_left; (focus (intro w hSw; (try dsimp only at hSw); go_simp; (try first | (rw [dif_pos (by omega)]; simp only [Result.andThen_ok]) | rw [if_pos (by omega)]); (try with_reducible rfl); done)); try simp only [Act.put, List.setIfInBounds_toArray, List.set_cons_zero, List.set_cons_succ])
          (refine tk10 (v := ?_) (by kernel_rfl) (by kernel_rfl) (by kernel_rfl) (fun _ _ _ h => h) (Or.inl ⟨by rfl, ?_⟩) (by assumption) ?_; rotate_left; (focus (intro w hSw; (try dsimp only at hSw); go_simp; (try first | (rw [dif_pos (by omega)]; simp only [Result.andThen_ok]) | rw [if_pos (by omega)]); (try with_reducible rfl); done)); try simp only [Act.put, List.setIfInBounds_toArray, List.set_cons_zero, List.set_cons_succ])
          (refine tk11 (v := ?_) (by kernel_rfl) (by kernel_rfl) (by kernel_rfl) (fun _ _ _ h => h) (Or.inl ⟨by rfl, ?_⟩) (by assumption) ?_; rotate_left; (focus (intro w hSw; (try dsimp only at hSw); go_simp; (try first | (rw [dif_pos (by omega)]; simp only [Result.andThen_ok]) | rw [if_pos (by omega)]); (try with_reducible rfl); done)); try simp only [Act.put, List.setIfInBounds_toArray, List.set_cons_zero, List.set_cons_succ])
          (refine wpAnyH_ready (rs := [5, 12]) (by kernel_rfl) (by simp) ?_; refine ar5 (fun K hK => ?_) (ar12 (fun K hK => ?_) AllReadyH.nil) <;> go_simp)
          · go_at_call 30
            refine (HU.out _).mono ?_
            rintro e w6 ⟨rfl, hb6⟩
            have hbW : Below W1.heap.size W1 w6 := ⟨hb6.os, hb6.tape, hb6.output, hb6.size, hb6.block⟩
            have e6 : w6.cell? ⟨wr.heap.size, 0, none⟩ = some (.string cn) := by rw [hbW.cell (p := ⟨wr.heap.size, 0, none⟩) hgl]; exact e0
            have HN6 : Hid (RQS w w6 nm num (.slice (some ⟨b, off, none⟩) cs.length cc) (.slice ka ks.length kc)) := HNc.out.later hbW hszc
            have HB7 : Hid (Below w6.heap.size w6 (w6.alloc (.cells #[.int .u8 ct] 5))) := (Below.refl _ _).alloc (Nat.le_refl _) _
            have HN7 : Hid (RQS w (w6.alloc (.cells #[.int .u8 ct] 5)) nm num (.slice (some ⟨b, off, none⟩) cs.length cc) (.slice ka ks.length kc)) := HN6.out.later HB7.out HN6.out.size
            have hcv := (own_newB w6 w6.heap.size ct (Nat.le_refl _)).conv
            have e7 : (w6.alloc (.cells #[.int .u8 ct] 5)).cell? ⟨wr.heap.size, 0, none⟩ = some (.string cn) := by rw [HB7.out.cell (p := ⟨wr.heap.size, 0, none⟩) (World.block_lt_of_cell? _ _ e6)]; exact e6
            clear hb6 hbW HU
            go_wp2_with fail
            (refine hK.out _ _ e6 (fun hHeld => ?_); clear hK K; try simp only [Act.put, List.setIfInBounds_toArray, List.set_cons_zero, List.set_cons_succ])
            (refine tk6 (v := ?_) (by kernel_rfl) (by kernel_rfl) (by kernel_rfl) (fun _ _ _ h => h) (Or.inl ⟨by rfl, ?_⟩) (by assumption) ?_; rotate_left; (focus (intro w hSw; (try dsimp only at hSw); go_simp; (try first | (rw [dif_pos (by omega)]; simp only [Result.andThen_ok]) | rw [if_pos (by omega)]); (try with_reducible rfl); done)); try simp only [Act.put, List.setIfInBounds_toArray, List.set_cons_zero, List.set_cons_succ])
            (refine tk9 (v := ?_) (by kernel_rfl) (by kernel_rfl) (by kernel_rfl) (fun _ _ _ h => h) (Or.inl ⟨by rfl, ?_⟩) (by assumption) ?_; rotate_left; (focus (intro w hSw; (try dsimp only at hSw); go_simp; (try first | (rw [dif_pos (by omega)]; simp only [Result.andThen_ok]) | rw [if_pos (by omega)]); (try with_reducible rfl); done)); try simp only [Act.put, List.setIfInBounds_toArray, List.set_cons_zero, List.set_cons_succ])
            (refine wpAnyH_ready (rs := [12]) (by kernel_rfl) (by simp) ?_; refine ar12 (fun K hK => ?_) AllReadyH.nil; go_simp)
            (refine hK.out _ _ e7 (fun hHeld => ?_); clear hK K; try simp only [Act.put, List.setIfInBounds_toArray, List.set_cons_zero, List.set_cons_succ])
            (refine wpAnyH_more (S' := (fun w' => w'.cell? ⟨wr.heap.size, 0, none⟩ = some (.string cn) ∧ (convert 72 9 (.slice (some ⟨w6.heap.size, 0, none⟩) 1 1)).run Tryz.prog w' = .ok (.string (strOfNums [ct])) w')) (fun w h => h.1) _ _ _ _ ?_; replace hHeld := (And.intro hHeld hcv))
            (refine tk13 (v := ?_) (by kernel_rfl) (by kernel_rfl) (by kernel_rfl) (fun _ _ _ h => h) (Or.inl ⟨by rfl, ?_⟩) (by assumption) ?_; rotate_left; (focus (intro w hSw; (try dsimp only at hSw); go_simp; (try first | (rw [dif_pos (by omega)]; simp only [Result.andThen_ok]) | rw [if_pos (by omega)]); (try with_reducible rfl); done)); try simp only [Act.put, List.setIfInBounds_toArray, List.set_cons_zero, List.set_cons_succ])
            (refine tk14 (v := ?_) (by kernel_rfl) (by kernel_rfl) (by kernel_rfl) (fun _ _ _ h => h) (Or.inl ⟨by rfl, ?_⟩) (by assumption) ?_; rotate_left; (focus (intro w hSw; (try dsimp only at hSw); go_simp; (try first | (rw [dif_pos (by omega)]; simp only [Result.andThen_ok]) | rw [if_pos (by omega)]); (try with_reducible rfl); done)); try simp only [Act.put, List.setIfInBounds_toArray, List.set_cons_zero, List.set_cons_succ])
            (refine tk15 (v := ?_) (by kernel_rfl) (by kernel_rfl) (by kernel_rfl) (fun _ _ _ h => h) (Or.inl ⟨by rfl, ?_⟩) (by assumption) ?_; rotate_left; (focus (intro w hSw; (try dsimp only at hSw); go_simp; (try first | (rw [dif_pos (by omega)]; simp only [Result.andThen_ok]) | rw [if_pos (by omega)]); (try with_reducible rfl); done)); try simp only [Act.put, List.setIfInBounds_toArray, List.set_cons_zero, List.set_cons_succ])
            refine wpAnyH_done (by kernel_rfl) ?_ _
            go_wp2
            go_roundw
            case rel => exact ⟨j + 1, by omega, by rw [HNX.out], by go_num, HN7.out⟩
            case measure => simp [intOf]; omega
          · have hblk : (W1.alloc (.cells #[.int .u8 ct] 5)).heap[W1.heap.size]? = some (.cells #[.int .u8 ct] 5) := heap_new _ _
            have HCV : Hid (∀ W' : World, W'.heap[W1.heap.size]? = some (.cells #[.int .u8 ct] 5) → (convert 72 9 (.slice (some ⟨W1.heap.size, 0, none⟩) 1 1)).run Tryz.prog W' = .ok (.string (strOfNums [ct])) W') := fun W' h => (show ownB W' W1.heap.size (.slice (some ⟨W1.heap.size, 0, none⟩) 1 1) [ct] from ⟨rfl, Or.inr ⟨W1.heap.size, 1, _, rfl, Nat.le_refl _, h, Nat.le_refl _, by unfold maxLen; omega, rfl, rfl⟩⟩).conv
            have HB2 : Hid (Below W1.heap.size W1 (W1.alloc (.cells #[.int .u8 ct] 5))) := (Below.refl _ _).alloc (Nat.le_refl _) _
            have HN2 : Hid (RQS w (W1.alloc (.cells #[.int .u8 ct] 5)) nm num (.slice (some ⟨b, off, none⟩) cs.length cc) (.slice ka ks.length kc)) := HNc.out.later HB2.out hszc
            have e2 : (W1.alloc (.cells #[.int .u8 ct] 5)).cell? ⟨wr.heap.size, 0, none⟩ = some (.string cn) := by rw [HB2.out.cell (p := ⟨wr.heap.size, 0, none⟩) hgl]; exact e0
            have hz2 : (W1.alloc (.cells #[.int .u8 ct] 5)).heap.size = W1.heap.size + 1 := szAl _ _
            generalize W1.alloc (.cells #[.int .u8 ct] 5) = W2 at *
            (refine hK.out _ _ e2 (fun hHeld => ?_); clear hK K; try simp only [Act.put, List.setIfInBounds_toArray, List.set_cons_zero, List.set_cons_succ])
            (refine wpAnyH_more (S' := (fun w' => w'.cell? ⟨wr.heap.size, 0, none⟩ = some (.string cn) ∧ (convert 72 9 (.slice (some ⟨W1.heap.size, 0, none⟩) 1 1)).run Tryz.prog w' = .ok (.string (strOfNums [ct])) w')) (fun w h => h.1) _ _ _ _ ?_; replace hHeld := (And.intro hHeld (HCV.out W2.drew hblk)))
            (refine tk13 (v := ?_) (by kernel_rfl) (by kernel_rfl) (by kernel_rfl) (fun _ _ _ h => h) (Or.inl ⟨by rfl, ?_⟩) (by assumption) ?_; rotate_left; (focus (intro w hSw; (try dsimp only at hSw); go_simp; (try first | (rw [dif_pos (by omega)]; simp only [Result.andThen_ok]) | rw [if_pos (by omega)]); (try with_reducible rfl); done)); try simp only [Act.put, List.setIfInBounds_toArray, List.set_cons_zero, List.set_cons_succ])
            (refine wpAnyH_ready (rs := [5]) (by kernel_rfl) (by simp) ?_; refine ar5 (fun K hK => ?_) AllReadyH.nil; go_simp)
            go_at_call 30
            refine (HU.out _).mono ?_
            rintro e w6 ⟨rfl, hb6⟩
            have hbW : Below W2.heap.size W2 w6 := ⟨hb6.os, hb6.tape, hb6.output, hb6.size, hb6.block⟩
            have e6 : w6.cell? ⟨wr.heap.size, 0, none⟩ = some (.string cn) := by rw [hbW.cell (p := ⟨wr.heap.size, 0, none⟩) (by simp only; omega)]; exact e2
            have HN6 : Hid (RQS w w6 nm num (.slice (some ⟨b, off, none⟩) cs.length cc) (.slice ka ks.length kc)) := HN2.out.later hbW HN2.out.size
            have HC6 := HCV.out w6 ((hbW.block _ (by omega)).trans hblk)
            clear hb6 hbW HU HCV
            go_wp2_with fail
            (refine hK.out _ _ (And.intro e6 HC6) (fun hHeld => ?_); clear hK K; try simp only [Act.put, List.setIfInBounds_toArray, List.set_cons_zero, List.set_cons_succ])
            (refine tk6 (v := ?_) (by kernel_rfl) (by kernel_rfl) (by kernel_rfl) (fun _ _ _ h => h) (Or.inl ⟨by rfl, ?_⟩) (by assumption) ?_; rotate_left; (focus (intro w hSw; (try dsimp only at hSw); go_simp; (try first | (rw [dif_pos (by omega)]; simp only [Result.andThen_ok]) | rw [if_pos (by omega)]); (try with_reducible rfl); done)); try simp only [Act.put, List.setIfInBounds_toArray, List.set_cons_zero, List.set_cons_succ])
            (refine tk9 (v := ?_) (by kernel_rfl) (by kernel_rfl) (by kernel_rfl) (fun _ _ _ h => h) (Or.inl ⟨by rfl, ?_⟩) (by assumption) ?_; rotate_left; (focus (intro w hSw; (try dsimp only at hSw); go_simp; (try first | (rw [dif_pos (by omega)]; simp only [Result.andThen_ok]) | rw [if_pos (by omega)]); (try with_reducible rfl); done)); try simp only [Act.put, List.setIfInBounds_toArray, List.set_cons_zero, List.set_cons_succ])
            (refine tk14 (v := ?_) (by kernel_rfl) (by kernel_rfl) (by kernel_rfl) (fun _ _ _ h => h) (Or.inl ⟨by rfl, ?_⟩) (by assumption) ?_; rotate_left; (focus (intro w hSw; (try dsimp only at hSw); go_simp; (try first | (rw [dif_pos (by omega)]; simp only [Result.andThen_ok]) | rw [if_pos (by omega)]); (try with_reducible rfl); done)); try simp only [Act.put, List.setIfInBounds_toArray, List.set_cons_zero, List.set_cons_succ])
            (refine tk15 (v := ?_) (by kernel_rfl) (by kernel_rfl) (by kernel_rfl) (fun _ _ _ h => h) (Or.inl ⟨by rfl, ?_⟩) (by assumption) ?_; rotate_left; (focus (intro w hSw; (try dsimp only at hSw); go_simp; (try first | (rw [dif_pos (by omega)]; simp only [Result.andThen_ok]) | rw [if_pos (by omega)]); (try with_reducible rfl); done)); try simp only [Act.put, List.setIfInBounds_toArray, List.set_cons_zero, List.set_cons_succ])
            refine wpAnyH_done (by kernel_rfl) ?_ _
            go_wp2
            go_roundw
            case rel => exact ⟨j + 1, by omega, by rw [HNX.out], by go_num, HN6.out⟩
            case measure => simp [intOf]; omega
      · have hji : ¬ (j : Int) < (cs.length : Int) := by omega
        have hje : j = cs.length := by omega
        have HMD : Hid (colsD num cs j ++ strOfNums (uvB (ks.length : Int)) = keysD num cs ks 0) := by
          rw [hje]
          rfl
        have hcz := HCZ.out j hj
        have hadd : ∀ W : World, (Op.stringOp .add (colsD num cs j) (strOfNums (uvB (ks.length : Int)))).run Tryz.prog W = .ok (.string (keysD num cs ks 0)) W := fun W => by rw [← HMD.out]; exact addS _ _ (by rw [strOfNums_size]; have := uvB_len (ks.length : Int); omega) W
        have HU : Hid (∀ W, _) := fun W => ref_uvarint (ks.length : Int) W (by omega) (by omega)
        have hwl : IntKind.u64.wrap (ks.length : Int) = (ks.length : Int) := by rw [IntKind.wrap_u64]; omega
        clear hje HMD
        generalize colsD num cs j = D1 at *
        go_wp2_with fail
        refine (HU.out _).mono ?_
        rintro e w6 ⟨rfl, hb6⟩
        have HN6 : Hid (RQS w w6 nm num (.slice ca cs.length cc) (.slice ka ks.length kc)) := HNr.out.later hb6 HNr.out.size
        clear hb6 t0 t1 t2 t3 t4 t5 t6 t7 t8 t9 t10 t11 HNr HU
        go_wp2
        clear hadd hwl hji hj hjl hcz
        go_loopw [5, 9] (fun d i wr => ∃ j : Nat, j ≤ ks.length ∧ d = .string (keysD num cs ks j) ∧ i = .int .i64 (j : Int) ∧ RQS w wr nm num (.slice ca cs.length cc) (.slice ka ks.length kc)) (fun _ i _ => ks.length - (intOf i).toNat)
        case atStart => exact ⟨0, by omega, rfl, rfl, HN6.out⟩
        case round =>
          obtain ⟨j, hj, rfl, rfl, hn⟩ := hrel
          have HNr : Hid (RQS w wr nm num (.slice ca cs.length cc) (.slice ka ks.length kc)) := hn
          clear hn HN6
          obtain ⟨t0, t1, t2, t3, t4, t5, t6, t7, t8, t9, t10, t11⟩ := HNr.out.cells
          by_cases hjl : j < ks.length
          · have hji : (j : Int) < (ks.length : Int) := by omega
            obtain ⟨b, off, rfl, c0⟩ := (HSK.out.later (HNr.out.below.mono hB)).cell j hjl
            have hkk := HKS.out _ (List.getElem_mem hjl)
            have HNX : Hid (keysD num cs ks (j + 1) = keyD (keysD num cs ks j) ks[j]) := keysD_next hjl
            have hsz := HKZ.out j hj
            have HKD : Hid (keyD (keysD num cs ks j) ks[j] = keysD num cs ks j ++ strOfNums (uvB ks[j])) := rfl
            generalize keyD (keysD num cs ks j) ks[j] = D2 at *
            generalize keysD num cs ks j = D1 at *
            generalize ks[j] = k at *
            have HU : Hid (∀ W, _) := fun W => ref_uvarint k W (by omega) (by omega)
            have hwk : IntKind.u64.wrap k = k := by rw [IntKind.wrap_u64]; omega
            have hadd : ∀ W : World, (Op.stringOp .add D1 (strOfNums (uvB k))).run Tryz.prog W = .ok (.string D2) W := fun W => by rw [HKD.out]; exact addS _ _ (by rw [strOfNums_size]; have := uvB_len k; omega) W
            clear HKD hkk
            go_wp2_with fail
            refine (HU.out _).mono ?_
            rintro e w7 ⟨rfl, hb7⟩
            have HN7 : Hid (RQS w w7 nm num (.slice ca cs.length cc) (.slice (some ⟨b, off, none⟩) ks.length kc)) := HNr.out.later hb7 HNr.out.size
            clear hb7 HU
            go_wp2
            go_roundw
            case rel => exact ⟨j + 1, by omega, by rw [HNX.out], by go_num, HN7.out⟩
            case measure => simp [intOf]; omega
          · have hji : ¬ (j : Int) < (ks.length : Int) := by omega
            have HTD : Hid (keysD num cs ks j = tabD num cs ks) := by
              rw [show j = ks.length by omega]
              rfl
            have HOK : Hid (enE nm num cs ks = 0 → Value.tuple #[pairV (enK nm num cs ks) (enD nm num cs ks), .int .i64 (enE nm num cs ks)] = .tuple #[.agg #[.string (catK nm), .string (tabD num cs ks)], .int .i64 0]) := fun h => enI_ok h
            rw [HTD.out]
            have HNK : Hid (∀ W, _) := fun W => catKeyR nm g1 W
            clear HTD
            generalize tabD num cs ks = D at *
            by_cases hbig : 512 < D.size
            · have HE : Hid (enE nm num cs ks = 4) := HE0.out.trans (if_pos hbig)
              have hb1 : (512 : Int) < (D.size : Int) := by omega
              obtain ⟨p1, p2⟩ := HNr.out.put ⟨#[]⟩ ⟨#[]⟩
              clear hbig
              go_wp2
              exact bodyPost_ret (res_row_tmp (p := 2) (ty := 28) (q := 3) rfl _ _ (w.heap.size + 1) 28 _ (0, 0) _ rfl p2 Tryz.underlying28 rfl (by kernel_rfl)) rfl ⟨ret_same (enI_err HE.out (by decide)), p1⟩
            · have HE : Hid (enE nm num cs ks = 0) := HE0.out.trans (if_neg hbig)
              have hb1 : ¬ (512 : Int) < (D.size : Int) := by omega
              clear hbig
              generalize catK nm = K at *
              go_wp2_with fail
              refine (HNK.out _).mono ?_
              rintro e w7 ⟨rfl, hb7⟩
              have HN7 : Hid (RQS w w7 nm num (.slice ca cs.length cc) (.slice ka ks.length kc)) := HNr.out.later hb7 HNr.out.size
              clear hb7 HNK t0 t1 t2 t3 t4 t5 t6 t7 t8 t9 t10 t11 HNr
              obtain ⟨t0, t1, t2, t3, t4, t5, t6, t7, t8, t9, t10, t11⟩ := HN7.out.cells
              obtain ⟨p1, p2⟩ := HN7.out.put2 K D
              go_wp2
              exact bodyPost_ret (res_row_tmp (p := 2) (ty := 28) (q := 3) rfl _ _ (w.heap.size + 1) 28 _ (0, 0) _ rfl p2 Tryz.underlying28 rfl (by kernel_rfl)) rfl ⟨ret_same (HOK.out HE.out), p1⟩
  · have HE : Hid (enE nm num cs ks = 169) := if_neg ht
    rw [show isTb nm num cs ks = false by simpa using ht] at HT
    clear ht hl hkl
    go_enter Tryz.func14, Tryz.ntmps14
    go_wp2_with fail
    refine (HT.out ()).mono ?_
    rintro e w3 ⟨rfl, hb3⟩
    have HN3 : Hid (RQS w w3 nm num (.slice ca cs.length cc) (.slice ka ks.length kc)) := HN.out.later hb3 HN.out.size
    clear hb3 HT HN t0 t1 t2 t3 t4 t5 t6 t7 t8 t9 t10 t11
    obtain ⟨t0, t1, t2, t3, t4, t5, t6, t7, t8, t9, t10, t11⟩ := HN3.out.cells
    obtain ⟨p1, p2⟩ := HN3.out.put ⟨#[]⟩ ⟨#[]⟩
    go_wp2
    exact bodyPost_ret (res_row_tmp (p := 2) (ty := 28) (q := 3) rfl _ _ (w.heap.size + 1) 28 _ (0, 0) _ rfl p2 Tryz.underlying28 rfl (by kernel_rfl)) rfl ⟨ret_same (enI_err HE.out (by decide)), p1⟩
end Go.Proofs.YtjcffcpmegpjeaaGreatDoor

namespace Go.Proofs.YtjcffcpmegpjeaaGreatDoor
set_option linter.unusedSimpArgs false
open Go.ChangeShapes Go.WideShapes Go.ChangeAt Go.RowKit
set_option linter.unusedVariables false
set_option maxRecDepth 100000
/-- What is kept of two tables that were handed over. -/
structure TTS (w W : World) (nm : ByteArray) (num : Int) (cv kv cv' kv' : Value) : Prop where
  below : Below w.heap.size w W
  tab : W.heap[w.heap.size]? = some (.cells #[.string nm, .int .i64 num, cv, kv] 25)
  tab2 : W.heap[w.heap.size + 1]? = some (.cells #[.string nm, .int .i64 num, cv', kv'] 25)
theorem TTS.drew {w W : World} {nm : ByteArray} {num : Int} {cv kv cv' kv' : Value} (h : TTS w W nm num cv kv cv' kv') : TTS w W.drew nm num cv kv cv' kv' := ⟨⟨h.below.os, h.below.tape, h.below.output, h.below.size, h.below.block⟩, h.tab, h.tab2⟩
theorem TTS.cells {w W : World} {nm : ByteArray} {num : Int} {cv kv cv' kv' : Value} (h : TTS w W nm num cv kv cv' kv') : W.cell? ⟨w.heap.size, 0, none⟩ = some (.string nm) ∧ W.cell? ⟨w.heap.size, 1, none⟩ = some (.int .i64 num) ∧ W.cell? ⟨w.heap.size, 2, none⟩ = some cv ∧ W.cell? ⟨w.heap.size, 3, none⟩ = some kv ∧ W.cell? ⟨w.heap.size + 1, 0, none⟩ = some (.string nm) ∧ W.cell? ⟨w.heap.size + 1, 1, none⟩ = some (.int .i64 num) ∧ W.cell? ⟨w.heap.size + 1, 2, none⟩ = some cv' ∧ W.cell? ⟨w.heap.size + 1, 3, none⟩ = some kv' := by
  have h1 := h.tab
  have h2 := h.tab2
  unfold World.cell?
  rw [h1, h2]
  exact ⟨rfl, rfl, rfl, rfl, rfl, rfl, rfl, rfl⟩
theorem TTS.new (w : World) (nm : ByteArray) (num : Int) (cv kv cv' kv' : Value) : TTS w ((w.alloc (.cells #[.string nm, .int .i64 num, cv, kv] 25)).alloc (.cells #[.string nm, .int .i64 num, cv', kv'] 25)) nm num cv kv cv' kv' := by
  have s1 : (w.alloc (.cells #[.string nm, .int .i64 num, cv, kv] 25)).heap.size = w.heap.size + 1 := szAl _ _
  refine ⟨((Below.refl _ _).alloc (Nat.le_refl _) _).alloc (by omega) _, ?_, ?_⟩
  · rw [Below.heap_alloc _ _ _ (by omega)]; exact heap_new _ _
  · have := heap_new (w.alloc (.cells #[.string nm, .int .i64 num, cv, kv] 25)) (.cells #[.string nm, .int .i64 num, cv', kv'] 25)
    rw [s1] at this
    exact this
set_option maxHeartbeats 8000000 in
theorem sameTab (nm : ByteArray) (num : Int) (cv kv cv' kv' : Value) (cs : List CD) (ks : List Int) (B : Nat) (w : World) (hB : B ≤ w.heap.size) (hs : SeesC w B cv cs) (hu : SeesG (Value.int .i64) w B kv ks) (hs' : SeesC w B cv' cs) (hu' : SeesG (Value.int .i64) w B kv' ks) (hl : cs.length ≤ 140737488355328) (hkl : ks.length ≤ 140737488355328) :
    Calls Tryz.prog 16 #[.agg #[.string nm, .int .i64 num, cv, kv], .agg #[.string nm, .int .i64 num, cv', kv']] w fun e w' => e = .returned (.bool true) ∧ Below w.heap.size w w' := by
  obtain ⟨ca, cc, rfl⟩ := hs.form
  obtain ⟨ka, kc, rfl⟩ := hu.form
  obtain ⟨ca', cc', rfl⟩ := hs'.form
  obtain ⟨ka', kc', rfl⟩ := hu'.form
  have HN : Hid _ := TTS.new w nm num (.slice ca cs.length cc) (.slice ka ks.length kc) (.slice ca' cs.length cc') (.slice ka' ks.length kc')
  have HS : Hid (SeesC w B (.slice ca cs.length cc) cs) := hs
  have HU : Hid (SeesG (Value.int .i64) w B (.slice ka ks.length kc) ks) := hu
  have HS' : Hid (SeesC w B (.slice ca' cs.length cc') cs) := hs'
  have HU' : Hid (SeesG (Value.int .i64) w B (.slice ka' ks.length kc') ks) := hu'
  clear hs hu hs' hu'
  obtain ⟨t0, t1, t2, t3, s0, s1, s2, s3⟩ := HN.out.cells
  go_enter Tryz.func16, Tryz.ntmps16
  go_wp2
  generalize (w.alloc (.cells #[.string nm, .int .i64 num, .slice ca cs.length cc, .slice ka ks.length kc] 25)).alloc (.cells #[.string nm, .int .i64 num, .slice ca' cs.length cc', .slice ka' ks.length kc'] 25) = W0 at *
  clear t0 t1 t2 t3 s0 s1 s2 s3
  go_loopw [5] (fun x wr => ∃ k : Nat, k ≤ cs.length ∧ x = .int .i64 (k : Int) ∧ TTS w wr nm num (.slice ca cs.length cc) (.slice ka ks.length kc) (.slice ca' cs.length cc') (.slice ka' ks.length kc')) (fun x _ => cs.length - (intOf x).toNat)
  case atStart => exact ⟨0, by omega, rfl, HN.out⟩
  case round =>
    obtain ⟨k, hk, rfl, hn⟩ := hrel
    have HNr : Hid (TTS w wr nm num (.slice ca cs.length cc) (.slice ka ks.length kc) (.slice ca' cs.length cc') (.slice ka' ks.length kc')) := hn
    clear hn HN
    obtain ⟨t0, t1, t2, t3, s0, s1, s2, s3⟩ := HNr.out.cells
    by_cases hkl2 : k < cs.length
    · have hki : (k : Int) < (cs.length : Int) := by omega
      obtain ⟨b1, o1, rfl, x0, x1, x2⟩ := (HS.out.later (HNr.out.below.mono hB)).cell k hkl2
      obtain ⟨b2, o2, rfl, y0, y1, y2⟩ := (HS'.out.later (HNr.out.below.mono hB)).cell k hkl2
      generalize cs[k] = c at *
      obtain ⟨cn, ct, nn⟩ := c
      dsimp only at *
      go_wp2_with fail
      (refine wp_region_held_drew (S := (fun w' => w'.cell? ⟨w.heap.size, 2, none⟩ = some (.slice (some ⟨b1, o1, none⟩) cs.length cc) ∧ w'.cell? ⟨w.heap.size + 1, 2, none⟩ = some (.slice (some ⟨b2, o2, none⟩) cs.length cc') ∧ w'.cell? ⟨b1, o1 + k * 3, none⟩ = some (.string cn) ∧ w'.cell? ⟨b1, o1 + k * 3 + 1, none⟩ = some (.int .i64 ct) ∧ w'.cell? ⟨b1, o1 + k * 3 + 2, none⟩ = some (.bool nn) ∧ w'.cell? ⟨b2, o2 + k * 3, none⟩ = some (.string cn) ∧ w'.cell? ⟨b2, o2 + k * 3 + 1, none⟩ = some (.int .i64 ct) ∧ w'.cell? ⟨b2, o2 + k * 3 + 2, none⟩ = some (.bool nn))) (by kernel_rfl) ⟨t2, s2, x0, x1, x2, y0, y1, y2⟩ (fun hHeld => ?_); simp only [List.size_toArray, List.length_cons, List.length_nil, Nat.reduceAdd, Array.replicate_succ, Array.replicate_zero, List.push_toArray, List.append_toArray, List.nil_append, List.cons_append])
      (refine tk0 (v := ?_) (by kernel_rfl) (by kernel_rfl) (by kernel_rfl) (fun _ _ _ h => h) (Or.inl ⟨by rfl, ?_⟩) (by assumption) ?_; rotate_left; (focus (intro w hSw; (try dsimp only at hSw); go_simp; (try first | (rw [dif_pos (by omega)]; simp only [Result.andThen_ok]) | rw [if_pos (by omega)]); (try with_reducible rfl); done)); try simp only [Act.put, List.setIfInBounds_toArray, List.set_cons_zero, List.set_cons_succ])
      (refine tk1 (v := ?_) (by kernel_rfl) (by kernel_rfl) (by kernel_rfl) (fun _ _ _ h => h) (Or.inl ⟨by rfl, ?_⟩) (by assumption) ?_; rotate_left; (focus (intro w hSw; (try dsimp only at hSw); go_simp; (try first | (rw [dif_pos (by omega)]; simp only [Result.andThen_ok]) | rw [if_pos (by omega)]); (try with_reducible rfl); done)); try simp only [Act.put, List.setIfInBounds_toArray, List.set_cons_zero, List.set_cons_succ])
      (refine tk2 (v := ?_) (by kernel_rfl) (by kernel_rfl) (by kernel_rfl) (fun _ _ _ h => h) (Or.inl ⟨by rfl, ?_⟩) (by assumption) ?_; rotate_left; (focus (intro w hSw; (try dsimp only at hSw); go_simp; (try first | (rw [dif_pos (by omega)]; simp only [Result.andThen_ok]) | rw [if_pos (by omega)]); (try with_reducible rfl); done)); try simp only [Act.put, List.setIfInBounds_toArray, List.set_cons_zero, List.set_cons_succ])
      (refine tk3 (v := ?_) (by kernel_rfl) (by kernel_rfl) (by kernel_rfl) (fun _ _ _ h => h) (Or.inl ⟨by rfl, ?_⟩) (by assumption) ?_; rotate_left; (focus (intro w hSw; (try dsimp only at hSw); go_simp; (try first | (rw [dif_pos (by omega)]; simp only [Result.andThen_ok]) | rw [if_pos (by omega)]); (try with_reducible rfl); done)); try simp only [Act.put, List.setIfInBounds_toArray, List.set_cons_zero, List.set_cons_succ])
      (refine tk4 (v := ?_) (by kernel_rfl) (by kernel_rfl) (by kernel_rfl) (fun _ _ _ h => h) (Or.inl ⟨by rfl, ?_⟩) (by assumption) ?_; rotate_left; (focus (intro w hSw; (try dsimp only at hSw); go_simp; (try first | (rw [dif_pos (by omega)]; simp only [Result.andThen_ok]) | rw [if_pos (by omega)]); (try with_reducible rfl); done)); try simp only [Act.put, List.setIfInBounds_toArray, List.set_cons_zero, List.set_cons_succ])
      (refine tk5 (v := ?_) (by kernel_rfl) (by kernel_rfl) (by kernel_rfl) (fun _ _ _ h => h) (Or.inl ⟨by rfl, ?_⟩) (by assumption) ?_; rotate_left; (focus (intro w hSw; (try dsimp only at hSw); go_simp; (try first | (rw [dif_pos (by omega)]; simp only [Result.andThen_ok]) | rw [if_pos (by omega)]); (try with_reducible rfl); done)); try simp only [Act.put, List.setIfInBounds_toArray, List.set_cons_zero, List.set_cons_succ])
      (refine tk6 (v := ?_) (by kernel_rfl) (by kernel_rfl) (by kernel_rfl) (fun _ _ _ h => h) (Or.inl ⟨by rfl, ?_⟩) (by assumption) ?_; rotate_left; (focus (intro w hSw; (try dsimp only at hSw); go_simp; (try first | (rw [dif_pos (by omega)]; simp only [Result.andThen_ok]) | rw [if_pos (by omega)]); (try with_reducible rfl); done)); try simp only [Act.put, List.setIfInBounds_toArray, List.set_cons_zero, List.set_cons_succ])
      (refine tk7 (v := ?_) (by kernel_rfl) (by kernel_rfl) (by kernel_rfl) (fun _ _ _ h => h) (Or.inl ⟨by rfl, ?_⟩) (by assumption) ?_; rotate_left; (focus (intro w hSw; (try dsimp only at hSw); go_simp; (try first | (rw [dif_pos (by omega)]; simp only [Result.andThen_ok]) | rw [if_pos (by omega)]); (try with_reducible rfl); done)); try simp only [Act.put, List.setIfInBounds_toArray, List.set_cons_zero, List.set_cons_succ])
      (refine tk8 (v := ?_) (by kernel_rfl) (by kernel_rfl) (by kernel_rfl) (fun _ _ _ h => h) (Or.inl ⟨by rfl, ?_⟩) (by assumption) ?_; rotate_left; (focus (intro w hSw; (try dsimp only at hSw); go_simp; (try first | (rw [dif_pos (by omega)]; simp only [Result.andThen_ok]) | rw [if_pos (by omega)]); (try with_reducible rfl); done)); try simp only [Act.put, List.setIfInBounds_toArray, List.set_cons_zero, List.set_cons_succ])
      (refine tk9 (v := ?_) (by kernel_rfl) (by kernel_rfl) (by kernel_rfl) (fun _ _ _ h => h) (Or.inl ⟨by rfl, ?_⟩) (by assumption) ?_; rotate_left; (focus (intro w hSw; (try dsimp only at hSw); go_simp; (try first | (rw [dif_pos (by omega)]; simp only [Result.andThen_ok]) | rw [if_pos (by omega)]); (try with_reducible rfl); done)); try simp only [Act.put, List.setIfInBounds_toArray, List.set_cons_zero, List.set_cons_succ])
      (refine tk10 (v := ?_) (by kernel_rfl) (by kernel_rfl) (by kernel_rfl) (fun _ _ _ h => h) (Or.inl ⟨by rfl, ?_⟩) (by assumption) ?_; rotate_left; (focus (intro w hSw; (try dsimp only at hSw); go_simp; (try first | (rw [dif_pos (by omega)]; simp only [Result.andThen_ok]) | rw [if_pos (by omega)]); (try with_reducible rfl); done)); try simp only [Act.put, List.setIfInBounds_toArray, List.set_cons_zero, List.set_cons_succ])
      refine wpAnyH_done (by kernel_rfl) ?_ _
      go_wp2
      go_roundw
      case rel => exact ⟨k + 1, by omega, by go_num, HNr.out.drew⟩
      case measure => simp [intOf]; omega
    · have hki : ¬ (k : Int) < (cs.length : Int) := by omega
      go_wp2
      generalize wr = w2 at *
      clear t0 t1 t2 t3 s0 s1 s2 s3 hki hkl2 hk
      go_loopw [6] (fun x wr => ∃ k : Nat, k ≤ ks.length ∧ x = .int .i64 (k : Int) ∧ TTS w wr nm num (.slice ca cs.length cc) (.slice ka ks.length kc) (.slice ca' cs.length cc') (.slice ka' ks.length kc')) (fun x _ => ks.length - (intOf x).toNat)
      case atStart => exact ⟨0, by omega, rfl, HNr.out⟩
      case round =>
        obtain ⟨k, hk, rfl, hn⟩ := hrel
        have HN2 : Hid (TTS w wr nm num (.slice ca cs.length cc) (.slice ka ks.length kc) (.slice ca' cs.length cc') (.slice ka' ks.length kc')) := hn
        clear hn HNr
        obtain ⟨t0, t1, t2, t3, s0, s1, s2, s3⟩ := HN2.out.cells
        by_cases hkl2 : k < ks.length
        · have hki : (k : Int) < (ks.length : Int) := by omega
          obtain ⟨b1, o1, rfl, x0⟩ := (HU.out.later (HN2.out.below.mono hB)).cell k hkl2
          obtain ⟨b2, o2, rfl, y0⟩ := (HU'.out.later (HN2.out.below.mono hB)).cell k hkl2
          generalize ks[k] = v at *
          go_wp2_with fail
          (refine wp_region_held_drew (S := (fun w' => w'.cell? ⟨w.heap.size, 3, none⟩ = some (.slice (some ⟨b1, o1, none⟩) ks.length kc) ∧ w'.cell? ⟨w.heap.size + 1, 3, none⟩ = some (.slice (some ⟨b2, o2, none⟩) ks.length kc') ∧ w'.cell? ⟨b1, o1 + k, none⟩ = some (.int .i64 v) ∧ w'.cell? ⟨b2, o2 + k, none⟩ = some (.int .i64 v))) (by kernel_rfl) ⟨t3, s3, x0, y0⟩ (fun hHeld => ?_); simp only [List.size_toArray, List.length_cons, List.length_nil, Nat.reduceAdd, Array.replicate_succ, Array.replicate_zero, List.push_toArray, List.append_toArray, List.nil_append, List.cons_append])
          (refine tk0 (v := ?_) (by kernel_rfl) (by kernel_rfl) (by kernel_rfl) (fun _ _ _ h => h) (Or.inl ⟨by rfl, ?_⟩) (by assumption) ?_; rotate_left; (focus (intro w hSw; (try dsimp only at hSw); go_simp; (try first | (rw [dif_pos (by omega)]; simp only [Result.andThen_ok]) | rw [if_pos (by omega)]); (try with_reducible rfl); done)); try simp only [Act.put, List.setIfInBounds_toArray, List.set_cons_zero, List.set_cons_succ])
          (refine tk1 (v := ?_) (by kernel_rfl) (by kernel_rfl) (by kernel_rfl) (fun _ _ _ h => h) (Or.inl ⟨by rfl, ?_⟩) (by assumption) ?_; rotate_left; (focus (intro w hSw; (try dsimp only at hSw); go_simp; (try first | (rw [dif_pos (by omega)]; simp only [Result.andThen_ok]) | rw [if_pos (by omega)]); (try with_reducible rfl); done)); try simp only [Act.put, List.setIfInBounds_toArray, List.set_cons_zero, List.set_cons_succ])
          (refine tk2 (v := ?_) (by kernel_rfl) (by kernel_rfl) (by kernel_rfl) (fun _ _ _ h => h) (Or.inl ⟨by rfl, ?_⟩) (by assumption) ?_; rotate_left; (focus (intro w hSw; (try dsimp only at hSw); go_simp; (try first | (rw [dif_pos (by omega)]; simp only [Result.andThen_ok]) | rw [if_pos (by omega)]); (try with_reducible rfl); done)); try simp only [Act.put, List.setIfInBounds_toArray, List.set_cons_zero, List.set_cons_succ])
          (refine tk3 (v := ?_) (by kernel_rfl) (by kernel_rfl) (by kernel_rfl) (fun _ _ _ h => h) (Or.inl ⟨by rfl, ?_⟩) (by assumption) ?_; rotate_left; (focus (intro w hSw; (try dsimp only at hSw); go_simp; (try first | (rw [dif_pos (by omega)]; simp only [Result.andThen_ok]) | rw [if_pos (by omega)]); (try with_reducible rfl); done)); try simp only [Act.put, List.setIfInBounds_toArray, List.set_cons_zero, List.set_cons_succ])
          (refine tk4 (v := ?_) (by kernel_rfl) (by kernel_rfl) (by kernel_rfl) (fun _ _ _ h => h) (Or.inl ⟨by rfl, ?_⟩) (by assumption) ?_; rotate_left; (focus (intro w hSw; (try dsimp only at hSw); go_simp; (try first | (rw [dif_pos (by omega)]; simp only [Result.andThen_ok]) | rw [if_pos (by omega)]); (try with_reducible rfl); done)); try simp only [Act.put, List.setIfInBounds_toArray, List.set_cons_zero, List.set_cons_succ])
          (refine tk5 (v := ?_) (by kernel_rfl) (by kernel_rfl) (by kernel_rfl) (fun _ _ _ h => h) (Or.inl ⟨by rfl, ?_⟩) (by assumption) ?_; rotate_left; (focus (intro w hSw; (try dsimp only at hSw); go_simp; (try first | (rw [dif_pos (by omega)]; simp only [Result.andThen_ok]) | rw [if_pos (by omega)]); (try with_reducible rfl); done)); try simp only [Act.put, List.setIfInBounds_toArray, List.set_cons_zero, List.set_cons_succ])
          (refine tk6 (v := ?_) (by kernel_rfl) (by kernel_rfl) (by kernel_rfl) (fun _ _ _ h => h) (Or.inl ⟨by rfl, ?_⟩) (by assumption) ?_; rotate_left; (focus (intro w hSw; (try dsimp only at hSw); go_simp; (try first | (rw [dif_pos (by omega)]; simp only [Result.andThen_ok]) | rw [if_pos (by omega)]); (try with_reducible rfl); done)); try simp only [Act.put, List.setIfInBounds_toArray, List.set_cons_zero, List.set_cons_succ])
          (refine tk7 (v := ?_) (by kernel_rfl) (by kernel_rfl) (by kernel_rfl) (fun _ _ _ h => h) (Or.inl ⟨by rfl, ?_⟩) (by assumption) ?_; rotate_left; (focus (intro w hSw; (try dsimp only at hSw); go_simp; (try first | (rw [dif_pos (by omega)]; simp only [Result.andThen_ok]) | rw [if_pos (by omega)]); (try with_reducible rfl); done)); try simp only [Act.put, List.setIfInBounds_toArray, List.set_cons_zero, List.set_cons_succ])
          (refine tk8 (v := ?_) (by kernel_rfl) (by kernel_rfl) (by kernel_rfl) (fun _ _ _ h => h) (Or.inl ⟨by rfl, ?_⟩) (by assumption) ?_; rotate_left; (focus (intro w hSw; (try dsimp only at hSw); go_simp; (try first | (rw [dif_pos (by omega)]; simp only [Result.andThen_ok]) | rw [if_pos (by omega)]); (try with_reducible rfl); done)); try simp only [Act.put, List.setIfInBounds_toArray, List.set_cons_zero, List.set_cons_succ])
          (refine tk9 (v := ?_) (by kernel_rfl) (by kernel_rfl) (by kernel_rfl) (fun _ _ _ h => h) (Or.inl ⟨by rfl, ?_⟩) (by assumption) ?_; rotate_left; (focus (intro w hSw; (try dsimp only at hSw); go_simp; (try first | (rw [dif_pos (by omega)]; simp only [Result.andThen_ok]) | rw [if_pos (by omega)]); (try with_reducible rfl); done)); try simp only [Act.put, List.setIfInBounds_toArray, List.set_cons_zero, List.set_cons_succ])
          (refine tk10 (v := ?_) (by kernel_rfl) (by kernel_rfl) (by kernel_rfl) (fun _ _ _ h => h) (Or.inl ⟨by rfl, ?_⟩) (by assumption) ?_; rotate_left; (focus (intro w hSw; (try dsimp only at hSw); go_simp; (try first | (rw [dif_pos (by omega)]; simp only [Result.andThen_ok]) | rw [if_pos (by omega)]); (try with_reducible rfl); done)); try simp only [Act.put, List.setIfInBounds_toArray, List.set_cons_zero, List.set_cons_succ])
          refine wpAnyH_done (by kernel_rfl) ?_ _
          go_wp2
          go_roundw
          case rel => exact ⟨k + 1, by omega, by go_num, HN2.out.drew⟩
          case measure => simp [intOf]; omega
        · have hki : ¬ (k : Int) < (ks.length : Int) := by omega
          go_wp2
          go_ret
          exact ⟨rfl, HN2.out.below⟩
end Go.Proofs.YtjcffcpmegpjeaaGreatDoor
