import Derived.Test.YtlnpeicflofkjaaDoorFrmE
namespace Go.Proofs.YtlnpeicflofkjaaDoor
set_option linter.unusedSimpArgs false
open Go.ChangeShapes Go.WideShapes Go.ChangeAt Go.RowKit
set_option linter.unusedVariables false
set_option maxRecDepth 100000
set_option maxHeartbeats 6400000 in
theorem refEncode_frame (k l : Int) (b : ByteArray) (w : World) (hl0 : 0 ≤ l) (hl1 : l ≤ 18446744073709551615) (hz : b.size ≤ 140737488351232) (hT : HalfAt w) :
    Calls Tryd.prog 10 #[.agg #[.int .i64 k, .int .u64 l, .string b]] w fun e w' => e = .returned (.tuple #[.string (enF k l b).1, .int .i64 (enF k l b).2]) ∧ Below w.heap.size w w' := by
  have HMm : Hid (∀ W, Calls Tryd.prog 19 #[.int .i64 k, .int .u64 l, .int .i64 (b.size : Nat)] W fun e w' => e = .returned (.bool (mayFr k l (b.size : Nat))) ∧ w' = W) := fun W => frameMay_any k l b.size W
  by_cases hm : mayFr k l (b.size : Nat) = true
  · rw [hm] at HMm
    obtain ⟨k1, k2, l1, l2, n1, n2⟩ := mayFr_kind hm
    have hk8 := may_wrap hm
    have hw32 : IntKind.u32.wrap ((b.size : Nat) : Int) = ((b.size : Nat) : Int) := by rw [IntKind.wrap_u32]; omega
    have HE0 : Hid (enF k l b = (frT k l b, 0)) := enF_yes k l b hm
    obtain ⟨X, hX⟩ : ∃ X, X = strOfNums [k, 0] := ⟨_, rfl⟩
    obtain ⟨F4, hF4⟩ : ∃ F, F = strOfNums (fxB 4 b.size) := ⟨_, rfl⟩
    obtain ⟨F8, hF8⟩ : ∃ F, F = strOfNums (fxB 8 l) := ⟨_, rfl⟩
    obtain ⟨cb, hcb⟩ : ∃ c, c = crN b.data.toList := ⟨_, rfl⟩
    have hcl : cb < 4294967296 := by rw [hcb]; exact crN_lt' _
    obtain ⟨C4, hC4⟩ : ∃ F, F = strOfNums (fxB 4 (cb : Nat)) := ⟨_, rfl⟩
    obtain ⟨T1, hT1⟩ : ∃ T, T = (⟨#[83, 70]⟩ : ByteArray) ++ X := ⟨_, rfl⟩
    obtain ⟨T2, hT2⟩ : ∃ T, T = T1 ++ F4 := ⟨_, rfl⟩
    obtain ⟨T3, hT3⟩ : ∃ T, T = T2 ++ F8 := ⟨_, rfl⟩
    obtain ⟨T4, hT4⟩ : ∃ T, T = T3 ++ C4 := ⟨_, rfl⟩
    obtain ⟨S4, hS4⟩ : ∃ T, T = smB T4 := ⟨_, rfl⟩
    obtain ⟨U, hU⟩ : ∃ T, T = T4 ++ S4 := ⟨_, rfl⟩
    obtain ⟨V, hV⟩ : ∃ T, T = U ++ b := ⟨_, rfl⟩
    have zX : X.size = 2 := by rw [hX, strOfNums_size]; rfl
    have z4 : F4.size = 4 := by rw [hF4, strOfNums_size, fxB_len]
    have z8 : F8.size = 8 := by rw [hF8, strOfNums_size, fxB_len]
    have zC : C4.size = 4 := by rw [hC4, strOfNums_size, fxB_len]
    have zS : S4.size = 4 := by rw [hS4, smB_size]
    have zT1 : T1.size = 4 := by rw [hT1, ByteArray.size_append, zX]; rfl
    have zT2 : T2.size = 8 := by rw [hT2, ByteArray.size_append, zT1, z4]
    have zT3 : T3.size = 16 := by rw [hT3, ByteArray.size_append, zT2, z8]
    have zT4 : T4.size = 20 := by rw [hT4, ByteArray.size_append, zT3, zC]
    have zU : U.size = 24 := by rw [hU, ByteArray.size_append, zT4, zS]
    have a1 : ∀ W : World, (Op.stringOp .add (⟨#[83, 70]⟩ : ByteArray) X).run Tryd.prog W = .ok (.string T1) W := fun W => by rw [hT1]; exact run_string_add_sum W _ _ (by rw [zX]; decide)
    have a2 : ∀ W : World, (Op.stringOp .add T1 F4).run Tryd.prog W = .ok (.string T2) W := fun W => by rw [hT2]; exact run_string_add_sum W _ _ (by omega)
    have a3 : ∀ W : World, (Op.stringOp .add T2 F8).run Tryd.prog W = .ok (.string T3) W := fun W => by rw [hT3]; exact run_string_add_sum W _ _ (by omega)
    have a4 : ∀ W : World, (Op.stringOp .add T3 C4).run Tryd.prog W = .ok (.string T4) W := fun W => by rw [hT4]; exact run_string_add_sum W _ _ (by omega)
    have a5 : ∀ W : World, (Op.stringOp .add T4 S4).run Tryd.prog W = .ok (.string U) W := fun W => by rw [hU]; exact run_string_add_sum W _ _ (by omega)
    have a6 : ∀ W : World, (Op.stringOp .add U b).run Tryd.prog W = .ok (.string V) W := fun W => by rw [hV]; exact run_string_add_sum W _ _ (by omega)
    have HE : Hid (enF k l b = (V, 0)) := by
      show _ = _
      rw [HE0.out, hV, hU, hS4, hT4, hT3, hT2, hT1, hX, hF4, hF8, hC4, hcb]
      rfl
    have HX : Hid (X = strOfNums [k, 0]) := hX
    have H32 : Hid (∀ W, Calls Tryd.prog 20 #[.int .u32 (b.size : Nat)] W fun e w' => e = .returned (.string F4) ∧ Below W.heap.size W w') := fun W => by rw [hF4]; exact ref_fixed32 _ W (by omega) (by omega)
    have H64 : Hid (∀ W, Calls Tryd.prog 21 #[.int .u64 l] W fun e w' => e = .returned (.string F8) ∧ Below W.heap.size W w') := fun W => by rw [hF8]; exact ref_fixed64 _ W (by omega) (by omega)
    have H32c : Hid (∀ W, Calls Tryd.prog 20 #[.int .u32 (cb : Nat)] W fun e w' => e = .returned (.string C4) ∧ Below W.heap.size W w') := fun W => by rw [hC4]; exact ref_fixed32 _ W (by omega) (by omega)
    have HC : Hid (∀ W, Calls Tryd.prog 22 #[.string b] W fun e w' => e = .returned (.int .u32 (cb : Nat)) ∧ Below W.heap.size W w') := fun W => by rw [hcb]; exact refSum_any b W (by omega)
    obtain ⟨ct, hct⟩ : ∃ c, c = crN T4.data.toList := ⟨_, rfl⟩
    have hctl : ct < 4294967296 := by rw [hct]; exact crN_lt' _
    have hS4' : S4 = strOfNums (fxB 4 (ct : Nat)) := by rw [hS4, hct]; rfl
    have HSm : Hid (∀ w0 n W, n < w0.heap.size → Bx w0 n k l b W → Calls Tryd.prog 22 #[.string T4] W fun e w' => e = .returned (.int .u32 (ct : Nat)) ∧ Bx w0 n k l b w') := fun w0 n W hn h => by rw [hct]; exact (refSum_any T4 W (by omega)).mono fun e w' ⟨he, hb⟩ => ⟨he, Bx.next hn h hb⟩
    have HSf : Hid (∀ w0 n W, n < w0.heap.size → Bx w0 n k l b W → Calls Tryd.prog 20 #[.int .u32 (ct : Nat)] W fun e w' => e = .returned (.string S4) ∧ Bx w0 n k l b w') := fun w0 n W hn h => by rw [hS4']; exact (ref_fixed32 _ W (by omega) (by omega)).mono fun e w' ⟨he, hb⟩ => ⟨he, Bx.next hn h hb⟩
    clear hct hctl hS4'
    have HBw : Hid (Below w.heap.size w (w.alloc (.cells #[.int .i64 k, .int .u64 l, .string b] 27))) := bel_al w _
    have HB0 : Hid (Bx (w.alloc (.cells #[.int .i64 k, .int .u64 l, .string b] 27)) w.heap.size k l b (w.alloc (.cells #[.int .i64 k, .int .u64 l, .string b] 27))) := ⟨BelH.start (hT.later HBw.out), by simp [go_sem], by simp [go_sem], by simp [go_sem]⟩
    have hn : w.heap.size < (w.alloc (.cells #[.int .i64 k, .int .u64 l, .string b] 27)).heap.size := by simp
    have HN : Hid (w.heap.size = w.heap.size) := rfl
    clear hX hF4 hF8 hcb hC4 hT1 hT2 hT3 hT4 hS4 hU hV HE0 zX z4 z8 zC zS zT1 zT2 zT3 zT4 zU hcl k1 k2 l1 l2 hm
    go_enter Tryd.func10, Tryd.ntmps10
    go_wp2_with fail
    refine (HMm.out _).mono ?_
    rintro e w1 ⟨rfl, rfl⟩
    go_wp2_with fail
    generalize w.alloc (.cells #[.int .i64 k, .int .u64 l, .string b] 27) = W0 at *
    have hB00 := HB0.out
    obtain ⟨n, hnn⟩ : ∃ n, n = w.heap.size := ⟨_, rfl⟩
    rw [← hnn] at hn hB00 ⊢
    clear hnn HB0
    refine wp_onceG (fun _ W => Bx W0 n k l b W) ?_
    apply Exists.intro
    constructor
    · (refine wp_region_held_drew (S := (fun W => Bx W0 n k l b W)) (by kernel_rfl) (Bx.next hn hB00 (bel_dr _)) (fun hHeld => ?_); simp only [List.size_toArray, List.length_cons, List.length_nil, Nat.reduceAdd, Array.replicate_succ, Array.replicate_zero, List.push_toArray, List.append_toArray, List.nil_append, List.cons_append])
      (refine tk0 (v := ?_) (by kernel_rfl) (by kernel_rfl) (by kernel_rfl) (fun _ _ _ h => h) (Or.inl ⟨by rfl, ?_⟩) (by assumption) ?_; rotate_left; (focus (intro w hSw; (try dsimp only at hSw); go_simp; (try first | (rw [dif_pos (by omega)]; simp only [Result.andThen_ok]) | rw [if_pos (by omega)]); (try with_reducible rfl); done)); try simp only [Act.put, List.setIfInBounds_toArray, List.set_cons_zero, List.set_cons_succ])
      (refine tk1 (v := ?_) (by kernel_rfl) (by kernel_rfl) (by kernel_rfl) (fun _ _ _ h => h) (Or.inl ⟨by rfl, ?_⟩) (by assumption) ?_; rotate_left; (focus (intro w hSw; (try dsimp only at hSw); go_simp; (try first | (rw [dif_pos (by omega)]; simp only [Result.andThen_ok]) | rw [if_pos (by omega)]); (try with_reducible rfl); done)); try simp only [Act.put, List.setIfInBounds_toArray, List.set_cons_zero, List.set_cons_succ])
      (refine tk2 (v := ?_) (by kernel_rfl) (by kernel_rfl) (by kernel_rfl) (fun _ _ _ h => h) (Or.inl ⟨by rfl, ?_⟩) (by assumption) ?_; rotate_left; (focus (intro w hSw; (try dsimp only at hSw); go_simp; (try first | (rw [dif_pos (by omega)]; simp only [Result.andThen_ok]) | rw [if_pos (by omega)]); (try with_reducible rfl); done)); try simp only [Act.put, List.setIfInBounds_toArray, List.set_cons_zero, List.set_cons_succ])
      (refine tk6 (v := ?_) (by kernel_rfl) (by kernel_rfl) (by kernel_rfl) (fun _ _ _ h => h) (Or.inl ⟨by rfl, ?_⟩) (by assumption) ?_; rotate_left; (focus (intro w hSw; (try dsimp only at hSw); go_simp; (try first | (rw [dif_pos (by omega)]; simp only [Result.andThen_ok]) | rw [if_pos (by omega)]); (try with_reducible rfl); done)); try simp only [Act.put, List.setIfInBounds_toArray, List.set_cons_zero, List.set_cons_succ])
      (refine tk7 (v := ?_) (by kernel_rfl) (by kernel_rfl) (by kernel_rfl) (fun _ _ _ h => h) (Or.inl ⟨by rfl, ?_⟩) (by assumption) ?_; rotate_left; (focus (intro w hSw; (try dsimp only at hSw); go_simp; (try first | (rw [dif_pos (by omega)]; simp only [Result.andThen_ok]) | rw [if_pos (by omega)]); (try with_reducible rfl); done)); try simp only [Act.put, List.setIfInBounds_toArray, List.set_cons_zero, List.set_cons_succ])
      (refine tk8 (v := ?_) (by kernel_rfl) (by kernel_rfl) (by kernel_rfl) (fun _ _ _ h => h) (Or.inl ⟨by rfl, ?_⟩) (by assumption) ?_; rotate_left; (focus (intro w hSw; (try dsimp only at hSw); go_simp; (try first | (rw [dif_pos (by omega)]; simp only [Result.andThen_ok]) | rw [if_pos (by omega)]); (try with_reducible rfl); done)); try simp only [Act.put, List.setIfInBounds_toArray, List.set_cons_zero, List.set_cons_succ])
      (refine tk9 (v := ?_) (by kernel_rfl) (by kernel_rfl) (by kernel_rfl) (fun _ _ _ h => h) (Or.inl ⟨by rfl, ?_⟩) (by assumption) ?_; rotate_left; (focus (intro w hSw; (try dsimp only at hSw); go_simp; (try first | (rw [dif_pos (by omega)]; simp only [Result.andThen_ok]) | rw [if_pos (by omega)]); (try with_reducible rfl); done)); try simp only [Act.put, List.setIfInBounds_toArray, List.set_cons_zero, List.set_cons_succ])
      (refine tk12 (v := ?_) (by kernel_rfl) (by kernel_rfl) (by kernel_rfl) (fun _ _ _ h => h) (Or.inl ⟨by rfl, ?_⟩) (by assumption) ?_; rotate_left; (focus (intro w hSw; (try dsimp only at hSw); go_simp; (try first | (rw [dif_pos (by omega)]; simp only [Result.andThen_ok]) | rw [if_pos (by omega)]); (try with_reducible rfl); done)); try simp only [Act.put, List.setIfInBounds_toArray, List.set_cons_zero, List.set_cons_succ])
      (refine tk13 (v := ?_) (by kernel_rfl) (by kernel_rfl) (by kernel_rfl) (fun _ _ _ h => h) (Or.inl ⟨by rfl, ?_⟩) (by assumption) ?_; rotate_left; (focus (intro w hSw; (try dsimp only at hSw); go_simp; (try first | (rw [dif_pos (by omega)]; simp only [Result.andThen_ok]) | rw [if_pos (by omega)]); (try with_reducible rfl); done)); try simp only [Act.put, List.setIfInBounds_toArray, List.set_cons_zero, List.set_cons_succ])
      (refine tk16 (v := ?_) (by kernel_rfl) (by kernel_rfl) (by kernel_rfl) (fun _ _ _ h => h) (Or.inl ⟨by rfl, ?_⟩) (by assumption) ?_; rotate_left; (focus (intro w hSw; (try dsimp only at hSw); go_simp; (try first | (rw [dif_pos (by omega)]; simp only [Result.andThen_ok]) | rw [if_pos (by omega)]); (try with_reducible rfl); done)); try simp only [Act.put, List.setIfInBounds_toArray, List.set_cons_zero, List.set_cons_succ])
      (refine tk17 (v := ?_) (by kernel_rfl) (by kernel_rfl) (by kernel_rfl) (fun _ _ _ h => h) (Or.inl ⟨by rfl, ?_⟩) (by assumption) ?_; rotate_left; (focus (intro w hSw; (try dsimp only at hSw); go_simp; (try first | (rw [dif_pos (by omega)]; simp only [Result.andThen_ok]) | rw [if_pos (by omega)]); (try with_reducible rfl); done)); try simp only [Act.put, List.setIfInBounds_toArray, List.set_cons_zero, List.set_cons_succ])
      (refine wpAnyH_ready (rs := [3, 10]) (by kernel_rfl) (by simp) ?_; refine ar3 (fun K hK => ?_) (ar10 (fun K hK => ?_) AllReadyH.nil) <;> go_simp)
      · have b1 : (fun W => Bx W0 n k l b W) (W0.alloc (.cells #[.int .u8 k, .int .u8 0] 5)).drew := by
          have hq : (fun W => Bx W0 n k l b W) W0 := hB00
          exact Bx.next hn hq ((bel_al W0 (.cells #[.int .u8 k, .int .u8 0] 5)).drew)
        have c1 : Cv W0.heap.size k X (W0.alloc (.cells #[.int .u8 k, .int .u8 0] 5)).drew := Cv.next HX.out (Cv.new W0 HX.out) (bel_dr _)
        generalize (W0.alloc (.cells #[.int .u8 k, .int .u8 0] 5)).drew = w21 at b1 c1 ⊢
        generalize W0.heap.size = g3 at c1 ⊢
        (refine hK.out _ _ b1 (fun hHeld => ?_); clear hK K; try simp only [Act.put, List.setIfInBounds_toArray, List.set_cons_zero, List.set_cons_succ])
        (refine wpAnyH_more (S' := (fun W => Bx W0 n k l b W ∧ Cv g3 k X W)) (fun W h => h.1) _ _ _ _ ?_; replace hHeld := (show (fun W => Bx W0 n k l b W ∧ Cv g3 k X W) w21 from ⟨b1, c1⟩))
        clear b1 c1
        (refine tk4 (v := ?_) (by kernel_rfl) (by kernel_rfl) (by kernel_rfl) (fun _ _ _ h => h) (Or.inl ⟨by rfl, ?_⟩) (by assumption) ?_; rotate_left; (focus (intro w hSw; (try dsimp only at hSw); go_simp; (try first | (rw [dif_pos (by omega)]; simp only [Result.andThen_ok]) | rw [if_pos (by omega)]); (try with_reducible rfl); done)); try simp only [Act.put, List.setIfInBounds_toArray, List.set_cons_zero, List.set_cons_succ])
        (refine tk5 (v := ?_) (by kernel_rfl) (by kernel_rfl) (by kernel_rfl) (fun _ _ _ h => h) (Or.inl ⟨by rfl, ?_⟩) (by assumption) ?_; rotate_left; (focus (intro w hSw; (try dsimp only at hSw); go_simp; (try first | (rw [dif_pos (by omega)]; simp only [Result.andThen_ok]) | rw [if_pos (by omega)]); (try with_reducible rfl); done)); try simp only [Act.put, List.setIfInBounds_toArray, List.set_cons_zero, List.set_cons_succ])
        (refine wpAnyH_ready (rs := [10]) (by kernel_rfl) (by simp) ?_; refine ar10 (fun K hK => ?_) AllReadyH.nil; go_simp)
        refine (H32.out _).mono ?_
        rintro e w22 ⟨rfl, hb⟩
        have F22 : (fun W => Bx W0 n k l b W ∧ Cv g3 k X W) w22 := ⟨Bx.next hn hHeld.1 hb, Cv.next HX.out hHeld.2 hb⟩
        clear hb
        go_wp2_with fail
        (refine hK.out _ _ F22 (fun hHeld => ?_); clear hK K; try simp only [Act.put, List.setIfInBounds_toArray, List.set_cons_zero, List.set_cons_succ])
        (refine tk11 (v := ?_) (by kernel_rfl) (by kernel_rfl) (by kernel_rfl) (fun _ _ _ h => h) (Or.inl ⟨by rfl, ?_⟩) (by assumption) ?_; rotate_left; (focus (intro w hSw; (try dsimp only at hSw); go_simp; (try first | (rw [dif_pos (by omega)]; simp only [Result.andThen_ok]) | rw [if_pos (by omega)]); (try with_reducible rfl); done)); try simp only [Act.put, List.setIfInBounds_toArray, List.set_cons_zero, List.set_cons_succ])
        (refine wpAnyH_ready (rs := [14]) (by kernel_rfl) (by simp) ?_; refine ar14 (fun K hK => ?_) AllReadyH.nil; go_simp)
        refine (H64.out _).mono ?_
        rintro e w23 ⟨rfl, hb⟩
        have F23 : (fun W => Bx W0 n k l b W ∧ Cv g3 k X W) w23 := ⟨Bx.next hn hHeld.1 hb, Cv.next HX.out hHeld.2 hb⟩
        clear hb
        go_wp2_with fail
        (refine hK.out _ _ F23 (fun hHeld => ?_); clear hK K; try simp only [Act.put, List.setIfInBounds_toArray, List.set_cons_zero, List.set_cons_succ])
        (refine tk15 (v := ?_) (by kernel_rfl) (by kernel_rfl) (by kernel_rfl) (fun _ _ _ h => h) (Or.inl ⟨by rfl, ?_⟩) (by assumption) ?_; rotate_left; (focus (intro w hSw; (try dsimp only at hSw); go_simp; (try first | (rw [dif_pos (by omega)]; simp only [Result.andThen_ok]) | rw [if_pos (by omega)]); (try with_reducible rfl); done)); try simp only [Act.put, List.setIfInBounds_toArray, List.set_cons_zero, List.set_cons_succ])
        (refine wpAnyH_ready (rs := [18]) (by kernel_rfl) (by simp) ?_; refine ar18 (fun K hK => ?_) AllReadyH.nil; go_simp)
        refine (HC.out _).mono ?_
        rintro e w24 ⟨rfl, hb⟩
        have F24 : (fun W => Bx W0 n k l b W ∧ Cv g3 k X W) w24 := ⟨Bx.next hn hHeld.1 hb, Cv.next HX.out hHeld.2 hb⟩
        clear hb
        go_wp2_with fail
        (refine hK.out _ _ F24 (fun hHeld => ?_); clear hK K; try simp only [Act.put, List.setIfInBounds_toArray, List.set_cons_zero, List.set_cons_succ])
        (refine wpAnyH_ready (rs := [19]) (by kernel_rfl) (by simp) ?_; refine ar19 (fun K hK => ?_) AllReadyH.nil; go_simp)
        refine (H32c.out _).mono ?_
        rintro e w25 ⟨rfl, hb⟩
        have F25 : (fun W => Bx W0 n k l b W ∧ Cv g3 k X W) w25 := ⟨Bx.next hn hHeld.1 hb, Cv.next HX.out hHeld.2 hb⟩
        clear hb
        go_wp2_with fail
        (refine hK.out _ _ F25 (fun hHeld => ?_); clear hK K; try simp only [Act.put, List.setIfInBounds_toArray, List.set_cons_zero, List.set_cons_succ])
        (refine tk20 (v := ?_) (by kernel_rfl) (by kernel_rfl) (by kernel_rfl) (fun _ _ _ h => h) (Or.inl ⟨by rfl, ?_⟩) (by assumption) ?_; rotate_left; (focus (intro w hSw; (try dsimp only at hSw); go_simp; (try first | (rw [dif_pos (by omega)]; simp only [Result.andThen_ok]) | rw [if_pos (by omega)]); (try with_reducible rfl); done)); try simp only [Act.put, List.setIfInBounds_toArray, List.set_cons_zero, List.set_cons_succ])
        (refine tk21 (v := ?_) (by kernel_rfl) (by kernel_rfl) (by kernel_rfl) (fun _ _ _ h => h) (Or.inl ⟨by rfl, ?_⟩) (by assumption) ?_; rotate_left; (focus (intro w hSw; (try dsimp only at hSw); go_simp; (try first | (rw [dif_pos (by omega)]; simp only [Result.andThen_ok]) | rw [if_pos (by omega)]); (try with_reducible rfl); done)); try simp only [Act.put, List.setIfInBounds_toArray, List.set_cons_zero, List.set_cons_succ])
        refine wpAnyH_done (by kernel_rfl) ?_ _
        exact Post3.here _ g3 hHeld.1
      · refine (H32.out _).mono ?_
        rintro e w26 ⟨rfl, hb⟩
        have F26 : (fun W => Bx W0 n k l b W) w26 := Bx.next hn hHeld hb
        clear hb
        go_wp2_with fail
        (refine hK.out _ _ F26 (fun hHeld => ?_); clear hK K; try simp only [Act.put, List.setIfInBounds_toArray, List.set_cons_zero, List.set_cons_succ])
        (refine wpAnyH_ready (rs := [3, 14]) (by kernel_rfl) (by simp) ?_; refine ar3 (fun K hK => ?_) (ar14 (fun K hK => ?_) AllReadyH.nil) <;> go_simp)
        · have b1 : (fun W => Bx W0 n k l b W) (w26.alloc (.cells #[.int .u8 k, .int .u8 0] 5)) := by
            have hq : (fun W => Bx W0 n k l b W) w26 := hHeld
            exact Bx.next hn hq (bel_al w26 (.cells #[.int .u8 k, .int .u8 0] 5))
          have c1 : Cv w26.heap.size k X (w26.alloc (.cells #[.int .u8 k, .int .u8 0] 5)) := Cv.new w26 HX.out
          generalize (w26.alloc (.cells #[.int .u8 k, .int .u8 0] 5)) = w27 at b1 c1 ⊢
          generalize w26.heap.size = g3 at c1 ⊢
          (refine hK.out _ _ b1 (fun hHeld => ?_); clear hK K; try simp only [Act.put, List.setIfInBounds_toArray, List.set_cons_zero, List.set_cons_succ])
          (refine wpAnyH_more (S' := (fun W => Bx W0 n k l b W ∧ Cv g3 k X W)) (fun W h => h.1) _ _ _ _ ?_; replace hHeld := (show (fun W => Bx W0 n k l b W ∧ Cv g3 k X W) w27 from ⟨b1, c1⟩))
          clear b1 c1
          (refine tk4 (v := ?_) (by kernel_rfl) (by kernel_rfl) (by kernel_rfl) (fun _ _ _ h => h) (Or.inl ⟨by rfl, ?_⟩) (by assumption) ?_; rotate_left; (focus (intro w hSw; (try dsimp only at hSw); go_simp; (try first | (rw [dif_pos (by omega)]; simp only [Result.andThen_ok]) | rw [if_pos (by omega)]); (try with_reducible rfl); done)); try simp only [Act.put, List.setIfInBounds_toArray, List.set_cons_zero, List.set_cons_succ])
          (refine tk5 (v := ?_) (by kernel_rfl) (by kernel_rfl) (by kernel_rfl) (fun _ _ _ h => h) (Or.inl ⟨by rfl, ?_⟩) (by assumption) ?_; rotate_left; (focus (intro w hSw; (try dsimp only at hSw); go_simp; (try first | (rw [dif_pos (by omega)]; simp only [Result.andThen_ok]) | rw [if_pos (by omega)]); (try with_reducible rfl); done)); try simp only [Act.put, List.setIfInBounds_toArray, List.set_cons_zero, List.set_cons_succ])
          (refine tk11 (v := ?_) (by kernel_rfl) (by kernel_rfl) (by kernel_rfl) (fun _ _ _ h => h) (Or.inl ⟨by rfl, ?_⟩) (by assumption) ?_; rotate_left; (focus (intro w hSw; (try dsimp only at hSw); go_simp; (try first | (rw [dif_pos (by omega)]; simp only [Result.andThen_ok]) | rw [if_pos (by omega)]); (try with_reducible rfl); done)); try simp only [Act.put, List.setIfInBounds_toArray, List.set_cons_zero, List.set_cons_succ])
          (refine wpAnyH_ready (rs := [14]) (by kernel_rfl) (by simp) ?_; refine ar14 (fun K hK => ?_) AllReadyH.nil; go_simp)
          refine (H64.out _).mono ?_
          rintro e w28 ⟨rfl, hb⟩
          have F28 : (fun W => Bx W0 n k l b W ∧ Cv g3 k X W) w28 := ⟨Bx.next hn hHeld.1 hb, Cv.next HX.out hHeld.2 hb⟩
          clear hb
          go_wp2_with fail
          (refine hK.out _ _ F28 (fun hHeld => ?_); clear hK K; try simp only [Act.put, List.setIfInBounds_toArray, List.set_cons_zero, List.set_cons_succ])
          (refine tk15 (v := ?_) (by kernel_rfl) (by kernel_rfl) (by kernel_rfl) (fun _ _ _ h => h) (Or.inl ⟨by rfl, ?_⟩) (by assumption) ?_; rotate_left; (focus (intro w hSw; (try dsimp only at hSw); go_simp; (try first | (rw [dif_pos (by omega)]; simp only [Result.andThen_ok]) | rw [if_pos (by omega)]); (try with_reducible rfl); done)); try simp only [Act.put, List.setIfInBounds_toArray, List.set_cons_zero, List.set_cons_succ])
          (refine wpAnyH_ready (rs := [18]) (by kernel_rfl) (by simp) ?_; refine ar18 (fun K hK => ?_) AllReadyH.nil; go_simp)
          refine (HC.out _).mono ?_
          rintro e w29 ⟨rfl, hb⟩
          have F29 : (fun W => Bx W0 n k l b W ∧ Cv g3 k X W) w29 := ⟨Bx.next hn hHeld.1 hb, Cv.next HX.out hHeld.2 hb⟩
          clear hb
          go_wp2_with fail
          (refine hK.out _ _ F29 (fun hHeld => ?_); clear hK K; try simp only [Act.put, List.setIfInBounds_toArray, List.set_cons_zero, List.set_cons_succ])
          (refine wpAnyH_ready (rs := [19]) (by kernel_rfl) (by simp) ?_; refine ar19 (fun K hK => ?_) AllReadyH.nil; go_simp)
          refine (H32c.out _).mono ?_
          rintro e w30 ⟨rfl, hb⟩
          have F30 : (fun W => Bx W0 n k l b W ∧ Cv g3 k X W) w30 := ⟨Bx.next hn hHeld.1 hb, Cv.next HX.out hHeld.2 hb⟩
          clear hb
          go_wp2_with fail
          (refine hK.out _ _ F30 (fun hHeld => ?_); clear hK K; try simp only [Act.put, List.setIfInBounds_toArray, List.set_cons_zero, List.set_cons_succ])
          (refine tk20 (v := ?_) (by kernel_rfl) (by kernel_rfl) (by kernel_rfl) (fun _ _ _ h => h) (Or.inl ⟨by rfl, ?_⟩) (by assumption) ?_; rotate_left; (focus (intro w hSw; (try dsimp only at hSw); go_simp; (try first | (rw [dif_pos (by omega)]; simp only [Result.andThen_ok]) | rw [if_pos (by omega)]); (try with_reducible rfl); done)); try simp only [Act.put, List.setIfInBounds_toArray, List.set_cons_zero, List.set_cons_succ])
          (refine tk21 (v := ?_) (by kernel_rfl) (by kernel_rfl) (by kernel_rfl) (fun _ _ _ h => h) (Or.inl ⟨by rfl, ?_⟩) (by assumption) ?_; rotate_left; (focus (intro w hSw; (try dsimp only at hSw); go_simp; (try first | (rw [dif_pos (by omega)]; simp only [Result.andThen_ok]) | rw [if_pos (by omega)]); (try with_reducible rfl); done)); try simp only [Act.put, List.setIfInBounds_toArray, List.set_cons_zero, List.set_cons_succ])
          refine wpAnyH_done (by kernel_rfl) ?_ _
          exact Post3.here _ g3 hHeld.1
        · refine (H64.out _).mono ?_
          rintro e w31 ⟨rfl, hb⟩
          have F31 : (fun W => Bx W0 n k l b W) w31 := Bx.next hn hHeld hb
          clear hb
          go_wp2_with fail
          (refine hK.out _ _ F31 (fun hHeld => ?_); clear hK K; try simp only [Act.put, List.setIfInBounds_toArray, List.set_cons_zero, List.set_cons_succ])
          (refine wpAnyH_ready (rs := [3, 18]) (by kernel_rfl) (by simp) ?_; refine ar3 (fun K hK => ?_) (ar18 (fun K hK => ?_) AllReadyH.nil) <;> go_simp)
          · have b1 : (fun W => Bx W0 n k l b W) (w31.alloc (.cells #[.int .u8 k, .int .u8 0] 5)) := by
              have hq : (fun W => Bx W0 n k l b W) w31 := hHeld
              exact Bx.next hn hq (bel_al w31 (.cells #[.int .u8 k, .int .u8 0] 5))
            have c1 : Cv w31.heap.size k X (w31.alloc (.cells #[.int .u8 k, .int .u8 0] 5)) := Cv.new w31 HX.out
            generalize (w31.alloc (.cells #[.int .u8 k, .int .u8 0] 5)) = w32 at b1 c1 ⊢
            generalize w31.heap.size = g3 at c1 ⊢
            (refine hK.out _ _ b1 (fun hHeld => ?_); clear hK K; try simp only [Act.put, List.setIfInBounds_toArray, List.set_cons_zero, List.set_cons_succ])
            (refine wpAnyH_more (S' := (fun W => Bx W0 n k l b W ∧ Cv g3 k X W)) (fun W h => h.1) _ _ _ _ ?_; replace hHeld := (show (fun W => Bx W0 n k l b W ∧ Cv g3 k X W) w32 from ⟨b1, c1⟩))
            clear b1 c1
            (refine tk4 (v := ?_) (by kernel_rfl) (by kernel_rfl) (by kernel_rfl) (fun _ _ _ h => h) (Or.inl ⟨by rfl, ?_⟩) (by assumption) ?_; rotate_left; (focus (intro w hSw; (try dsimp only at hSw); go_simp; (try first | (rw [dif_pos (by omega)]; simp only [Result.andThen_ok]) | rw [if_pos (by omega)]); (try with_reducible rfl); done)); try simp only [Act.put, List.setIfInBounds_toArray, List.set_cons_zero, List.set_cons_succ])
            (refine tk5 (v := ?_) (by kernel_rfl) (by kernel_rfl) (by kernel_rfl) (fun _ _ _ h => h) (Or.inl ⟨by rfl, ?_⟩) (by assumption) ?_; rotate_left; (focus (intro w hSw; (try dsimp only at hSw); go_simp; (try first | (rw [dif_pos (by omega)]; simp only [Result.andThen_ok]) | rw [if_pos (by omega)]); (try with_reducible rfl); done)); try simp only [Act.put, List.setIfInBounds_toArray, List.set_cons_zero, List.set_cons_succ])
            (refine tk11 (v := ?_) (by kernel_rfl) (by kernel_rfl) (by kernel_rfl) (fun _ _ _ h => h) (Or.inl ⟨by rfl, ?_⟩) (by assumption) ?_; rotate_left; (focus (intro w hSw; (try dsimp only at hSw); go_simp; (try first | (rw [dif_pos (by omega)]; simp only [Result.andThen_ok]) | rw [if_pos (by omega)]); (try with_reducible rfl); done)); try simp only [Act.put, List.setIfInBounds_toArray, List.set_cons_zero, List.set_cons_succ])
            (refine tk15 (v := ?_) (by kernel_rfl) (by kernel_rfl) (by kernel_rfl) (fun _ _ _ h => h) (Or.inl ⟨by rfl, ?_⟩) (by assumption) ?_; rotate_left; (focus (intro w hSw; (try dsimp only at hSw); go_simp; (try first | (rw [dif_pos (by omega)]; simp only [Result.andThen_ok]) | rw [if_pos (by omega)]); (try with_reducible rfl); done)); try simp only [Act.put, List.setIfInBounds_toArray, List.set_cons_zero, List.set_cons_succ])
            (refine wpAnyH_ready (rs := [18]) (by kernel_rfl) (by simp) ?_; refine ar18 (fun K hK => ?_) AllReadyH.nil; go_simp)
            refine (HC.out _).mono ?_
            rintro e w33 ⟨rfl, hb⟩
            have F33 : (fun W => Bx W0 n k l b W ∧ Cv g3 k X W) w33 := ⟨Bx.next hn hHeld.1 hb, Cv.next HX.out hHeld.2 hb⟩
            clear hb
            go_wp2_with fail
            (refine hK.out _ _ F33 (fun hHeld => ?_); clear hK K; try simp only [Act.put, List.setIfInBounds_toArray, List.set_cons_zero, List.set_cons_succ])
            (refine wpAnyH_ready (rs := [19]) (by kernel_rfl) (by simp) ?_; refine ar19 (fun K hK => ?_) AllReadyH.nil; go_simp)
            refine (H32c.out _).mono ?_
            rintro e w34 ⟨rfl, hb⟩
            have F34 : (fun W => Bx W0 n k l b W ∧ Cv g3 k X W) w34 := ⟨Bx.next hn hHeld.1 hb, Cv.next HX.out hHeld.2 hb⟩
            clear hb
            go_wp2_with fail
            (refine hK.out _ _ F34 (fun hHeld => ?_); clear hK K; try simp only [Act.put, List.setIfInBounds_toArray, List.set_cons_zero, List.set_cons_succ])
            (refine tk20 (v := ?_) (by kernel_rfl) (by kernel_rfl) (by kernel_rfl) (fun _ _ _ h => h) (Or.inl ⟨by rfl, ?_⟩) (by assumption) ?_; rotate_left; (focus (intro w hSw; (try dsimp only at hSw); go_simp; (try first | (rw [dif_pos (by omega)]; simp only [Result.andThen_ok]) | rw [if_pos (by omega)]); (try with_reducible rfl); done)); try simp only [Act.put, List.setIfInBounds_toArray, List.set_cons_zero, List.set_cons_succ])
            (refine tk21 (v := ?_) (by kernel_rfl) (by kernel_rfl) (by kernel_rfl) (fun _ _ _ h => h) (Or.inl ⟨by rfl, ?_⟩) (by assumption) ?_; rotate_left; (focus (intro w hSw; (try dsimp only at hSw); go_simp; (try first | (rw [dif_pos (by omega)]; simp only [Result.andThen_ok]) | rw [if_pos (by omega)]); (try with_reducible rfl); done)); try simp only [Act.put, List.setIfInBounds_toArray, List.set_cons_zero, List.set_cons_succ])
            refine wpAnyH_done (by kernel_rfl) ?_ _
            exact Post3.here _ g3 hHeld.1
          · refine (HC.out _).mono ?_
            rintro e w35 ⟨rfl, hb⟩
            have F35 : (fun W => Bx W0 n k l b W) w35 := Bx.next hn hHeld hb
            clear hb
            go_wp2_with fail
            (refine hK.out _ _ F35 (fun hHeld => ?_); clear hK K; try simp only [Act.put, List.setIfInBounds_toArray, List.set_cons_zero, List.set_cons_succ])
            (refine wpAnyH_ready (rs := [3, 19]) (by kernel_rfl) (by simp) ?_; refine ar3 (fun K hK => ?_) (ar19 (fun K hK => ?_) AllReadyH.nil) <;> go_simp)
            · have b1 : (fun W => Bx W0 n k l b W) (w35.alloc (.cells #[.int .u8 k, .int .u8 0] 5)) := by
                have hq : (fun W => Bx W0 n k l b W) w35 := hHeld
                exact Bx.next hn hq (bel_al w35 (.cells #[.int .u8 k, .int .u8 0] 5))
              have c1 : Cv w35.heap.size k X (w35.alloc (.cells #[.int .u8 k, .int .u8 0] 5)) := Cv.new w35 HX.out
              generalize (w35.alloc (.cells #[.int .u8 k, .int .u8 0] 5)) = w36 at b1 c1 ⊢
              generalize w35.heap.size = g3 at c1 ⊢
              (refine hK.out _ _ b1 (fun hHeld => ?_); clear hK K; try simp only [Act.put, List.setIfInBounds_toArray, List.set_cons_zero, List.set_cons_succ])
              (refine wpAnyH_more (S' := (fun W => Bx W0 n k l b W ∧ Cv g3 k X W)) (fun W h => h.1) _ _ _ _ ?_; replace hHeld := (show (fun W => Bx W0 n k l b W ∧ Cv g3 k X W) w36 from ⟨b1, c1⟩))
              clear b1 c1
              (refine tk4 (v := ?_) (by kernel_rfl) (by kernel_rfl) (by kernel_rfl) (fun _ _ _ h => h) (Or.inl ⟨by rfl, ?_⟩) (by assumption) ?_; rotate_left; (focus (intro w hSw; (try dsimp only at hSw); go_simp; (try first | (rw [dif_pos (by omega)]; simp only [Result.andThen_ok]) | rw [if_pos (by omega)]); (try with_reducible rfl); done)); try simp only [Act.put, List.setIfInBounds_toArray, List.set_cons_zero, List.set_cons_succ])
              (refine tk5 (v := ?_) (by kernel_rfl) (by kernel_rfl) (by kernel_rfl) (fun _ _ _ h => h) (Or.inl ⟨by rfl, ?_⟩) (by assumption) ?_; rotate_left; (focus (intro w hSw; (try dsimp only at hSw); go_simp; (try first | (rw [dif_pos (by omega)]; simp only [Result.andThen_ok]) | rw [if_pos (by omega)]); (try with_reducible rfl); done)); try simp only [Act.put, List.setIfInBounds_toArray, List.set_cons_zero, List.set_cons_succ])
              (refine tk11 (v := ?_) (by kernel_rfl) (by kernel_rfl) (by kernel_rfl) (fun _ _ _ h => h) (Or.inl ⟨by rfl, ?_⟩) (by assumption) ?_; rotate_left; (focus (intro w hSw; (try dsimp only at hSw); go_simp; (try first | (rw [dif_pos (by omega)]; simp only [Result.andThen_ok]) | rw [if_pos (by omega)]); (try with_reducible rfl); done)); try simp only [Act.put, List.setIfInBounds_toArray, List.set_cons_zero, List.set_cons_succ])
              (refine tk15 (v := ?_) (by kernel_rfl) (by kernel_rfl) (by kernel_rfl) (fun _ _ _ h => h) (Or.inl ⟨by rfl, ?_⟩) (by assumption) ?_; rotate_left; (focus (intro w hSw; (try dsimp only at hSw); go_simp; (try first | (rw [dif_pos (by omega)]; simp only [Result.andThen_ok]) | rw [if_pos (by omega)]); (try with_reducible rfl); done)); try simp only [Act.put, List.setIfInBounds_toArray, List.set_cons_zero, List.set_cons_succ])
              (refine wpAnyH_ready (rs := [19]) (by kernel_rfl) (by simp) ?_; refine ar19 (fun K hK => ?_) AllReadyH.nil; go_simp)
              refine (H32c.out _).mono ?_
              rintro e w37 ⟨rfl, hb⟩
              have F37 : (fun W => Bx W0 n k l b W ∧ Cv g3 k X W) w37 := ⟨Bx.next hn hHeld.1 hb, Cv.next HX.out hHeld.2 hb⟩
              clear hb
              go_wp2_with fail
              (refine hK.out _ _ F37 (fun hHeld => ?_); clear hK K; try simp only [Act.put, List.setIfInBounds_toArray, List.set_cons_zero, List.set_cons_succ])
              (refine tk20 (v := ?_) (by kernel_rfl) (by kernel_rfl) (by kernel_rfl) (fun _ _ _ h => h) (Or.inl ⟨by rfl, ?_⟩) (by assumption) ?_; rotate_left; (focus (intro w hSw; (try dsimp only at hSw); go_simp; (try first | (rw [dif_pos (by omega)]; simp only [Result.andThen_ok]) | rw [if_pos (by omega)]); (try with_reducible rfl); done)); try simp only [Act.put, List.setIfInBounds_toArray, List.set_cons_zero, List.set_cons_succ])
              (refine tk21 (v := ?_) (by kernel_rfl) (by kernel_rfl) (by kernel_rfl) (fun _ _ _ h => h) (Or.inl ⟨by rfl, ?_⟩) (by assumption) ?_; rotate_left; (focus (intro w hSw; (try dsimp only at hSw); go_simp; (try first | (rw [dif_pos (by omega)]; simp only [Result.andThen_ok]) | rw [if_pos (by omega)]); (try with_reducible rfl); done)); try simp only [Act.put, List.setIfInBounds_toArray, List.set_cons_zero, List.set_cons_succ])
              refine wpAnyH_done (by kernel_rfl) ?_ _
              exact Post3.here _ g3 hHeld.1
            · refine (H32c.out _).mono ?_
              rintro e w38 ⟨rfl, hb⟩
              have F38 : (fun W => Bx W0 n k l b W) w38 := Bx.next hn hHeld hb
              clear hb
              go_wp2_with fail
              (refine hK.out _ _ F38 (fun hHeld => ?_); clear hK K; try simp only [Act.put, List.setIfInBounds_toArray, List.set_cons_zero, List.set_cons_succ])
              (refine wpAnyH_ready (rs := [3]) (by kernel_rfl) (by simp) ?_; refine ar3 (fun K hK => ?_) AllReadyH.nil; go_simp)
              have b1 : (fun W => Bx W0 n k l b W) (w38.alloc (.cells #[.int .u8 k, .int .u8 0] 5)) := by
                have hq : (fun W => Bx W0 n k l b W) w38 := hHeld
                exact Bx.next hn hq (bel_al w38 (.cells #[.int .u8 k, .int .u8 0] 5))
              have c1 : Cv w38.heap.size k X (w38.alloc (.cells #[.int .u8 k, .int .u8 0] 5)) := Cv.new w38 HX.out
              generalize (w38.alloc (.cells #[.int .u8 k, .int .u8 0] 5)) = w39 at b1 c1 ⊢
              generalize w38.heap.size = g3 at c1 ⊢
              (refine hK.out _ _ b1 (fun hHeld => ?_); clear hK K; try simp only [Act.put, List.setIfInBounds_toArray, List.set_cons_zero, List.set_cons_succ])
              (refine wpAnyH_more (S' := (fun W => Bx W0 n k l b W ∧ Cv g3 k X W)) (fun W h => h.1) _ _ _ _ ?_; replace hHeld := (show (fun W => Bx W0 n k l b W ∧ Cv g3 k X W) w39 from ⟨b1, c1⟩))
              clear b1 c1
              (refine tk4 (v := ?_) (by kernel_rfl) (by kernel_rfl) (by kernel_rfl) (fun _ _ _ h => h) (Or.inl ⟨by rfl, ?_⟩) (by assumption) ?_; rotate_left; (focus (intro w hSw; (try dsimp only at hSw); go_simp; (try first | (rw [dif_pos (by omega)]; simp only [Result.andThen_ok]) | rw [if_pos (by omega)]); (try with_reducible rfl); done)); try simp only [Act.put, List.setIfInBounds_toArray, List.set_cons_zero, List.set_cons_succ])
              (refine tk5 (v := ?_) (by kernel_rfl) (by kernel_rfl) (by kernel_rfl) (fun _ _ _ h => h) (Or.inl ⟨by rfl, ?_⟩) (by assumption) ?_; rotate_left; (focus (intro w hSw; (try dsimp only at hSw); go_simp; (try first | (rw [dif_pos (by omega)]; simp only [Result.andThen_ok]) | rw [if_pos (by omega)]); (try with_reducible rfl); done)); try simp only [Act.put, List.setIfInBounds_toArray, List.set_cons_zero, List.set_cons_succ])
              (refine tk11 (v := ?_) (by kernel_rfl) (by kernel_rfl) (by kernel_rfl) (fun _ _ _ h => h) (Or.inl ⟨by rfl, ?_⟩) (by assumption) ?_; rotate_left; (focus (intro w hSw; (try dsimp only at hSw); go_simp; (try first | (rw [dif_pos (by omega)]; simp only [Result.andThen_ok]) | rw [if_pos (by omega)]); (try with_reducible rfl); done)); try simp only [Act.put, List.setIfInBounds_toArray, List.set_cons_zero, List.set_cons_succ])
              (refine tk15 (v := ?_) (by kernel_rfl) (by kernel_rfl) (by kernel_rfl) (fun _ _ _ h => h) (Or.inl ⟨by rfl, ?_⟩) (by assumption) ?_; rotate_left; (focus (intro w hSw; (try dsimp only at hSw); go_simp; (try first | (rw [dif_pos (by omega)]; simp only [Result.andThen_ok]) | rw [if_pos (by omega)]); (try with_reducible rfl); done)); try simp only [Act.put, List.setIfInBounds_toArray, List.set_cons_zero, List.set_cons_succ])
              (refine tk20 (v := ?_) (by kernel_rfl) (by kernel_rfl) (by kernel_rfl) (fun _ _ _ h => h) (Or.inl ⟨by rfl, ?_⟩) (by assumption) ?_; rotate_left; (focus (intro w hSw; (try dsimp only at hSw); go_simp; (try first | (rw [dif_pos (by omega)]; simp only [Result.andThen_ok]) | rw [if_pos (by omega)]); (try with_reducible rfl); done)); try simp only [Act.put, List.setIfInBounds_toArray, List.set_cons_zero, List.set_cons_succ])
              (refine tk21 (v := ?_) (by kernel_rfl) (by kernel_rfl) (by kernel_rfl) (fun _ _ _ h => h) (Or.inl ⟨by rfl, ?_⟩) (by assumption) ?_; rotate_left; (focus (intro w hSw; (try dsimp only at hSw); go_simp; (try first | (rw [dif_pos (by omega)]; simp only [Result.andThen_ok]) | rw [if_pos (by omega)]); (try with_reducible rfl); done)); try simp only [Act.put, List.setIfInBounds_toArray, List.set_cons_zero, List.set_cons_succ])
              refine wpAnyH_done (by kernel_rfl) ?_ _
              exact Post3.here _ g3 hHeld.1
    · intro g w1 hB
      go_wp2_with fail
      go_region_held3 (fun W => Bx W0 n k l b W) (first | assumption | exact Bx.next hn (by assumption) (bel_dr _)) (first | (go_at_call 22; refine (HSm.out W0 n _ hn (by first | assumption | exact Bx.next hn (by assumption) (bel_dr _))).mono ?_; rintro e w7 ⟨rfl, BT⟩) | (go_at_call 20; refine (HSf.out W0 n _ hn (by first | assumption | exact Bx.next hn (by assumption) (bel_dr _))).mono ?_; rintro e w8 ⟨rfl, BU⟩))
      go_wp2
      go_ret2
      exact ⟨by rw [HE.out]; rfl, HBw.out.trans (BU.1.1.mono HBw.out.size)⟩
  · have hf : mayFr k l (b.size : Nat) = false := by simpa using hm
    rw [hf] at HMm
    have HE : Hid (enF k l b = (⟨#[]⟩, 110)) := by show _ = _; unfold enF; rw [if_neg hm]; rfl
    have HBw : Hid (∀ o, Below w.heap.size w (w.alloc o)) := fun o => bel_al w o
    clear hm hf hT
    go_enter Tryd.func10, Tryd.ntmps10
    go_wp2_with fail
    refine (HMm.out _).mono ?_
    rintro e w1 ⟨rfl, rfl⟩
    go_wp2
    go_ret2
    exact ⟨by rw [HE.out]; rfl, HBw.out _⟩
end Go.Proofs.YtlnpeicflofkjaaDoor
