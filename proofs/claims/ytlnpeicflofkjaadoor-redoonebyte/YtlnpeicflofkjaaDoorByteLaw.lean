import Derived.Test.YtlnpeicflofkjaaDoorByteQ
import Derived.Test.YtlnpeicflofkjaaDoorRegS
namespace Go.Proofs.YtlnpeicflofkjaaDoor
set_option linter.unusedSimpArgs false
open Go.ChangeShapes Go.WideShapes Go.ChangeAt Go.RowKit
set_option linter.unusedVariables false
set_option maxRecDepth 100000
/-- What stands: below, and the table. -/
theorem BelH.bel {w W : World} (h : BelH w W) : Below w.heap.size w W := h.1
theorem one_dec (ah : ByteArray) (t : ByteArray) (hz : ah.size + t.size ≤ 1125899906842624) : ∀ (w0 W : World), BelH w0 W → Calls Tryd.prog 9 #[.string (ah ++ t), .int .i64 (ah.size : Nat)] W fun e w' => e = .returned (.tuple #[(dcV (ah ++ t) ah.size).1, .int .i64 (dcV (ah ++ t) ah.size).2.1, .int .i64 (dcV (ah ++ t) ah.size).2.2]) ∧ Below W.heap.size W w' ∧ BelH w0 w' := fun w0 W h =>
  (decode_any (ah ++ t) ah.size W (by omega) (by omega) (by rw [ByteArray.size_append]; omega) h.2).mono fun e w' ⟨he, hb⟩ => ⟨he, hb, h.next hb⟩
theorem dc_no {ah t : ByteArray} (h : dfE t ≠ 0) : dcV (ah ++ t) ah.size = (zeroF, (ah.size : Int), dfE t) := by rw [dc_app, if_neg h]
theorem conv_one (W : World) (g : Nat) (x : Int) (h0 : W.cell? ⟨g, 0, none⟩ = some (.int .u8 x)) :
    (convert 34 9 (.slice (some ⟨g, 0, none⟩) 1 1)).run Tryd.prog W = .ok (.string (strOfNums [x])) W :=
  run_convert_bytes_arg W 34 5 Tryd.underlying34 Tryd.underlying5 g 0 1 1 [x] rfl (fun i hi => by
    have : i = 0 := by simpa using (by omega : i < 1 → i = 0) hi
    subst this
    simpa using h0) 9 Tryd.underlying9
set_option maxHeartbeats 3200000 in
theorem byte_walk (kd ls : Int) (bd ah : ByteArray) (at_ x : Int) (w : World) (hzb : bd.size ≤ 140737488351232) (hza : ah.size ≤ 140737488351232) (a0 : -9223372036854775808 ≤ at_) (a1 : at_ ≤ 9223372036854775807) (x0 : 0 ≤ x) (x1 : x ≤ 255) (hT : HalfAt w) :
    Calls Tryd.prog 3 #[.int .i64 kd, .int .u64 ls, .string bd, .string ah, .int .i64 at_, .int .u8 x] w fun e w' => e = .returned (.bool true) ∧ Below w.heap.size w w' := by
  have HT : Hid (BelH w w) := BelH.start hT
  clear hT
  go_enter Tryd.func3, Tryd.ntmps3
  go_wp2_with fail
  refine (framed_any kd bd _ hzb).mono ?_
  rintro e w1 ⟨k, b, rfl, hb, hok⟩
  have H1 : Hid (BelH w w1) := HT.out.next hb
  clear hb HT hzb
  go_wp2_with fail
  refine (numbered_any ls _).mono ?_
  rintro e w2 ⟨l, rfl, rfl, l1, l2⟩
  have hm := hok.may l1 l2
  obtain ⟨k1, k2, _, _, n1, n2⟩ := mayFr_kind hm
  have HEn : Hid (enF k l b = (frT k l b, 0)) := enF_yes k l b hm
  have hzT := frT_size k l b
  have HEC : Hid (∀ W, HalfAt W → Calls Tryd.prog 7 #[.agg #[.int .i64 k, .int .u64 l, .string b]] W fun e w' => e = .returned (.tuple #[.string (frT k l b), .int .i64 0]) ∧ Below W.heap.size W w') := fun W h => by
    have := encode_any k l b W (by omega) (by omega) (by omega) h
    rw [HEn.out] at this
    exact this
  have hD0 := dfE_back k l b hm
  have HD0 : Hid (dcV (ah ++ frT k l b) ah.size = (.agg #[.int .i64 k, .int .u64 l, .string b], (ah.size : Int) + 24 + (b.size : Nat), 0)) := by
    show _ = _
    rw [dc_app, if_pos hD0, (frV_back k l b hm).1, (frV_back k l b hm).2]
  have HD1 : Hid (∀ a, a < 24 + b.size → dcV (ah ++ (frT k l b).extract 0 a) ah.size = (.agg #[.int .i64 0, .int .u64 0, .string ⟨#[]⟩], (ah.size : Int), 1)) := fun a ha => by
    have hd := dfE_cut k l b a hm ha
    rw [dc_no (by rw [hd]; decide), hd]
    rfl
  have HD2 : Hid (∀ t a, a < 24 + b.size → t.size = 24 + b.size → (∀ i, i < 24 + b.size → i ≠ a → bAt t i = bAt (frT k l b) i) → bAt t a ≠ bAt (frT k l b) a → ∃ c, c ≠ 0 ∧ dcV (ah ++ t) ah.size = (.agg #[.int .i64 0, .int .u64 0, .string ⟨#[]⟩], (ah.size : Int), c)) := fun t a ha hl h1 h2 => by
    have hd := dfE_turn k l b t a hm ha hl h1 h2
    exact ⟨_, hd, dc_no hd⟩
  clear HEn hD0 hm hok l1 l2 k1 k2
  have HFr : Hid (Fr3 (w2.alloc (.cells #[.int .i64 k, .int .u64 l, .string b] 27)) w2.heap.size (.int .i64 k) (.int .u64 l) (.string b)) := heap_alloc_new w2 _
  have H2 : Hid (BelH w (w2.alloc (.cells #[.int .i64 k, .int .u64 l, .string b] 27))) := BelH.alloc H1.out _
  have hlt : w2.heap.size < (w2.alloc (.cells #[.int .i64 k, .int .u64 l, .string b] 27)).heap.size := by simp
  generalize frT k l b = T at *
  go_wp2_with fail
  generalize w2.alloc (.cells #[.int .i64 k, .int .u64 l, .string b] 27) = W2 at *
  generalize w2.heap.size = g at *
  refine (HEC.out _ H2.out.2).mono ?_
  rintro e w3 ⟨rfl, hb⟩
  have H3 : Hid (BelH w w3) := H2.out.next hb
  have HF3 : Hid (Fr3 w3 g (.int .i64 k) (.int .u64 l) (.string b)) := HFr.out.later hb hlt
  have hlt3 : g < w3.heap.size := Nat.lt_of_lt_of_le hlt hb.size
  clear hb H2 HFr hlt HEC H1
  have hc1 := one_dec ah T (by omega)
  rw [HD0.out] at hc1
  have HC1 : Hid _ := hc1
  have s1 : ∀ W : World, (Op.stringOp .add ah T).run Tryd.prog W = .ok (.string (ah ++ T)) W := fun W => run_string_add_sum W _ _ (by omega)
  clear hc1 HD0
  generalize hAT : ah ++ T = AT at *
  clear hAT
  go_wp2_with (go_at_call 8; refine (numB _ _).mono ?_; rintro e w9 ⟨rfl, rfl⟩)
  refine (HC1.out w _ H3.out).mono ?_
  rintro e w4 ⟨rfl, hb, h4⟩
  have HF4 : Hid (Fr3 w4 g (.int .i64 k) (.int .u64 l) (.string b)) := HF3.out.later hb hlt3
  have H4 : Hid (BelH w w4) := h4
  have hlt4 : g < w4.heap.size := Nat.lt_of_lt_of_le hlt3 hb.size
  have q0 := HF4.out.c0
  have q1 := HF4.out.c1
  have q2 := HF4.out.c2
  have H5 : Hid (∀ o, BelH w (w4.alloc o)) := fun o => BelH.alloc h4 o
  have hgne : g ≠ w4.heap.size := by omega
  clear hb h4 HF3 hlt3 H3 HC1 s1
  have hcm : ((ah.size : Int) + 24 + (b.size : Nat) != (ah.size : Int) + (T.size : Nat)) = false := by simp; omega
  obtain ⟨a, ha, hcase⟩ : ∃ a : Nat, a < 24 + b.size ∧ ((at_ < 0 ∧ a = 0) ∨ (0 ≤ at_ ∧ at_ % (24 + (b.size : Int)) = (a : Int))) := by
    by_cases h : at_ < 0
    · exact ⟨0, by omega, .inl ⟨h, rfl⟩⟩
    · obtain ⟨m, rfl⟩ := Int.eq_ofNat_of_zero_le (by omega : 0 ≤ at_)
      refine ⟨m % (24 + b.size), Nat.mod_lt _ (by omega), .inr ⟨by omega, ?_⟩⟩
      rw [show (24 + (b.size : Int)) = ((24 + b.size : Nat) : Int) from by omega]
      first | exact (Int.natCast_emod m (24 + b.size)).symm | exact (Int.ofNat_emod m (24 + b.size)).symm | rfl
  have hc2 := one_dec ah (T.extract 0 a) (by rw [ByteArray.size_extract]; omega)
  rw [HD1.out a ha] at hc2
  have HC2 : Hid _ := hc2
  have hza2 : (T.extract 0 a).size = a := by rw [ByteArray.size_extract]; omega
  have s2 : ∀ W : World, (Op.stringOp .add ah (T.extract 0 a)).run Tryd.prog W = .ok (.string (ah ++ T.extract 0 a)) W := fun W => run_string_add_sum W _ _ (by omega)
  clear hc2 HD1
  generalize hQ : ah ++ T.extract 0 a = Q at *
  have HQ : Hid (ah ++ T.extract 0 a = Q) := hQ
  clear hQ
  rcases hcase with ⟨hneg, rfl⟩ | ⟨hpos, hrem⟩
  · have hQa : ah = Q := by
      have := HQ.out
      simpa using this
    subst hQa
    go_wp2_with fail
    refine (HC2.out w _ (H5.out _)).mono ?_
    rintro e w5 ⟨rfl, hb, h5⟩
    have H6 : Hid (BelH w w5) := h5
    have H7 : Hid (∀ o, BelH w (w5.alloc o)) := fun o => BelH.alloc h5 o
    clear hb h5 H5 HC2 s2 H4 HF4 q0 q1 q2
    by_cases hx0 : x = 0
    · subst hx0
      go_wp2
      go_ret
      exact ⟨rfl, (H7.out _).1⟩
    · have hx0' : (x == 0) = false := by simpa using hx0
      obtain ⟨xn, rfl⟩ := Int.eq_ofNat_of_zero_le x0
      have haT : 0 < T.size := by omega
      obtain ⟨t1, t2, t3⟩ := turned T 0 xn haT (by omega) (by omega)
      have hxo : bits .xor .u8 ((T[0]'haT).toNat : Int) (xn : Int) = (((T[0]'haT).toNat ^^^ xn : Nat) : Int) := u8_xor_nat _ _ (T[0]'haT).toNat_lt (by omega)
      have hBe : T.extract 0 0 ++ strOfNums [(((T[0]'haT).toNat ^^^ xn : Nat) : Int)] ++ T.extract (0 + 1) T.size = strOfNums [(((T[0]'haT).toNat ^^^ xn : Nat) : Int)] ++ T.extract 1 T.size := by simp
      rw [hBe] at t1 t2 t3
      obtain ⟨c, hc0, hdc⟩ := HD2.out _ 0 ha (t1.trans hzT) (fun i hi hne => t2 i (by omega) hne) t3
      have hzB : (strOfNums [(((T[0]'haT).toNat ^^^ xn : Nat) : Int)] ++ T.extract 1 T.size).size ≤ 131096 := by omega
      have hc3 := one_dec ah (strOfNums [(((T[0]'haT).toNat ^^^ xn : Nat) : Int)] ++ T.extract 1 T.size) (by omega)
      rw [hdc] at hc3
      have zE : (T.extract 1 T.size).size ≤ 131096 := Nat.le_trans (by rw [ByteArray.size_extract]; omega) (by omega : T.size ≤ 131096)
      have zX : (strOfNums [(((T[0]'haT).toNat ^^^ xn : Nat) : Int)]).size = 1 := by rw [strOfNums_size]; rfl
      have s4 : ∀ W : World, (Op.stringOp .add (strOfNums [(((T[0]'haT).toNat ^^^ xn : Nat) : Int)]) (T.extract 1 T.size)).run Tryd.prog W = .ok (.string (strOfNums [(((T[0]'haT).toNat ^^^ xn : Nat) : Int)] ++ T.extract 1 T.size)) W := fun W => run_string_add_sum W _ _ (by omega)
      have s5 : ∀ W : World, (Op.stringOp .add ah (strOfNums [(((T[0]'haT).toNat ^^^ xn : Nat) : Int)] ++ T.extract 1 T.size)).run Tryd.prog W = .ok (.string (ah ++ (strOfNums [(((T[0]'haT).toNat ^^^ xn : Nat) : Int)] ++ T.extract 1 T.size))) W := fun W => run_string_add_sum W _ _ (by omega)
      have HC3 : Hid _ := hc3
      have hv : ((T[0]'haT).toNat ^^^ xn) < 256 := Nat.xor_lt_two_pow (n := 8) (T[0]'haT).toNat_lt (by omega)
      clear hc3 hdc t1 t2 t3 zE hzB HD2 hBe
      generalize hR : ah ++ (strOfNums [(((T[0]'haT).toNat ^^^ xn : Nat) : Int)] ++ T.extract 1 T.size) = R at *
      generalize hB2 : strOfNums [(((T[0]'haT).toNat ^^^ xn : Nat) : Int)] ++ T.extract 1 T.size = B2 at *
      clear hR hB2
      obtain ⟨X1, hX1⟩ : ∃ X, X = strOfNums [(((T[0]'haT).toNat ^^^ xn : Nat) : Int)] := ⟨_, rfl⟩
      rw [← hX1] at s4
      have s3 : ∀ W : World, (Op.stringOp .add ByteArray.empty X1).run Tryd.prog W = .ok (.string X1) W := fun W => (run_string_add_sum W _ _ (by rw [hX1, zX]; decide)).trans (by simp)
      have s3' : ∀ W : World, (Op.stringOp .add (⟨#[]⟩ : ByteArray) X1).run Tryd.prog W = .ok (.string X1) W := s3
      have HX1 : Hid (∀ W g, W.cell? ⟨g, 0, none⟩ = some (.int .u8 (((T[0]'haT).toNat ^^^ xn : Nat) : Int)) → (convert 34 9 (.slice (some ⟨g, 0, none⟩) 1 1)).run Tryd.prog W = .ok (.string X1) W) := fun W g h => by rw [hX1]; exact conv_one W g _ h
      clear hX1 zX
      generalize (T[0]'haT).toNat ^^^ xn = y at *
      have hw1 : IntKind.i64.wrap 1 = 1 := by rw [IntKind.wrap_i64]; omega
      have hge1 : (1 : Int) ≤ (T.size : Int) := by omega
      have HzT : Hid (T.size = 24 + b.size) := hzT
      have hTl : T.size ≤ 131096 := by omega
      clear hzT
      go_wp2_with fail
      have H8 := H7.out (.cells #[.int .i64 0, .int .u64 0, .string ⟨#[]⟩] 27)
      generalize w5.alloc (.cells #[.int .i64 0, .int .u64 0, .string ⟨#[]⟩] 27) = W5 at *
      clear H7 H6
      refine wp_onceG (fun _ W => BelH w W) ?_
      apply Exists.intro
      constructor
      · (refine wp_region_held_drew (S := (fun W => BelH w W)) (by kernel_rfl) H8.drew (fun hHeld => ?_); simp only [List.size_toArray, List.length_cons, List.length_nil, Nat.reduceAdd, Array.replicate_succ, Array.replicate_zero, List.push_toArray, List.append_toArray, List.nil_append, List.cons_append])
        (refine tk0 (v := ?_) (by kernel_rfl) (by kernel_rfl) (by kernel_rfl) (fun _ _ _ h => h) (Or.inl ⟨by rfl, ?_⟩) (by assumption) ?_; rotate_left; (focus (intro w hSw; (try dsimp only at hSw); go_simp; (try first | (rw [dif_pos (by omega)]; simp only [Result.andThen_ok]) | rw [if_pos (by omega)]); (try with_reducible rfl); done)); try simp only [Act.put, List.setIfInBounds_toArray, List.set_cons_zero, List.set_cons_succ])
        (refine tk1 (v := ?_) (by kernel_rfl) (by kernel_rfl) (by kernel_rfl) (fun _ _ _ h => h) (Or.inl ⟨by rfl, ?_⟩) (by assumption) ?_; rotate_left; (focus (intro w hSw; (try dsimp only at hSw); go_simp; (try first | (rw [dif_pos (by omega)]; simp only [Result.andThen_ok]) | rw [if_pos (by omega)]); (try with_reducible rfl); done)); try simp only [Act.put, List.setIfInBounds_toArray, List.set_cons_zero, List.set_cons_succ])
        (refine tk2 (v := ?_) (by kernel_rfl) (by kernel_rfl) (by kernel_rfl) (fun _ _ _ h => h) (Or.inl ⟨by rfl, ?_⟩) (by assumption) ?_; rotate_left; (focus (intro w hSw; (try dsimp only at hSw); go_simp; (try first | (rw [dif_pos (by omega)]; simp only [Result.andThen_ok]) | rw [if_pos (by omega)]); (try with_reducible rfl); done)); try simp only [Act.put, List.setIfInBounds_toArray, List.set_cons_zero, List.set_cons_succ])
        (refine tk3 (v := ?_) (by kernel_rfl) (by kernel_rfl) (by kernel_rfl) (fun _ _ _ h => h) (Or.inl ⟨by rfl, ?_⟩) (by assumption) ?_; rotate_left; (focus (intro w hSw; (try dsimp only at hSw); go_simp; (try first | (rw [dif_pos (by omega)]; simp only [Result.andThen_ok]) | rw [if_pos (by omega)]); (try with_reducible rfl); done)); try simp only [Act.put, List.setIfInBounds_toArray, List.set_cons_zero, List.set_cons_succ])
        (refine tk4 (v := ?_) (by kernel_rfl) (by kernel_rfl) (by kernel_rfl) (fun _ _ _ h => h) (Or.inl ⟨by rfl, ?_⟩) (by assumption) ?_; rotate_left; (focus (intro w hSw; (try dsimp only at hSw); go_simp; (try first | (rw [dif_pos (by omega)]; simp only [Result.andThen_ok]) | rw [if_pos (by omega)]); (try with_reducible rfl); done)); try simp only [Act.put, List.setIfInBounds_toArray, List.set_cons_zero, List.set_cons_succ])
        (refine tk5 (v := ?_) (by kernel_rfl) (by kernel_rfl) (by kernel_rfl) (fun _ _ _ h => h) (Or.inl ⟨by rfl, ?_⟩) (by assumption) ?_; rotate_left; (focus (intro w hSw; (try dsimp only at hSw); go_simp; (try first | (rw [dif_pos (by omega)]; simp only [Result.andThen_ok]) | rw [if_pos (by omega)]); (try with_reducible rfl); done)); try simp only [Act.put, List.setIfInBounds_toArray, List.set_cons_zero, List.set_cons_succ])
        (refine tk6 (v := ?_) (by kernel_rfl) (by kernel_rfl) (by kernel_rfl) (fun _ _ _ h => h) (Or.inl ⟨by rfl, ?_⟩) (by assumption) ?_; rotate_left; (focus (intro w hSw; (try dsimp only at hSw); go_simp; (try first | (rw [dif_pos (by omega)]; simp only [Result.andThen_ok]) | rw [if_pos (by omega)]); (try with_reducible rfl); done)); try simp only [Act.put, List.setIfInBounds_toArray, List.set_cons_zero, List.set_cons_succ])
        (refine tk7 (v := ?_) (by kernel_rfl) (by kernel_rfl) (by kernel_rfl) (fun _ _ _ h => h) (Or.inl ⟨by rfl, ?_⟩) (by assumption) ?_; rotate_left; (focus (intro w hSw; (try dsimp only at hSw); go_simp; (try first | (rw [dif_pos (by omega)]; simp only [Result.andThen_ok]) | rw [if_pos (by omega)]); (try with_reducible rfl); done)); try simp only [Act.put, List.setIfInBounds_toArray, List.set_cons_zero, List.set_cons_succ])
        (refine tk11 (v := ?_) (by kernel_rfl) (by kernel_rfl) (by kernel_rfl) (fun _ _ _ h => h) (Or.inl ⟨by rfl, ?_⟩) (by assumption) ?_; rotate_left; (focus (intro w hSw; (try dsimp only at hSw); go_simp; (try first | (rw [dif_pos (by omega)]; simp only [Result.andThen_ok]) | rw [if_pos (by omega)]); (try with_reducible rfl); done)); try simp only [Act.put, List.setIfInBounds_toArray, List.set_cons_zero, List.set_cons_succ])
        (refine tk12 (v := ?_) (by kernel_rfl) (by kernel_rfl) (by kernel_rfl) (fun _ _ _ h => h) (Or.inl ⟨by rfl, ?_⟩) (by assumption) ?_; rotate_left; (focus (intro w hSw; (try dsimp only at hSw); go_simp; (try first | (rw [dif_pos (by omega)]; simp only [Result.andThen_ok]) | rw [if_pos (by omega)]); (try with_reducible rfl); done)); try simp only [Act.put, List.setIfInBounds_toArray, List.set_cons_zero, List.set_cons_succ])
        (refine tk13 (v := ?_) (by kernel_rfl) (by kernel_rfl) (by kernel_rfl) (fun _ _ _ h => h) (Or.inl ⟨by rfl, ?_⟩) (by assumption) ?_; rotate_left; (focus (intro w hSw; (try dsimp only at hSw); go_simp; (try first | (rw [dif_pos (by omega)]; simp only [Result.andThen_ok]) | rw [if_pos (by omega)]); (try with_reducible rfl); done)); try simp only [Act.put, List.setIfInBounds_toArray, List.set_cons_zero, List.set_cons_succ])
        (refine tk14 (v := ?_) (by kernel_rfl) (by kernel_rfl) (by kernel_rfl) (fun _ _ _ h => h) (Or.inl ⟨by rfl, ?_⟩) (by assumption) ?_; rotate_left; (focus (intro w hSw; (try dsimp only at hSw); go_simp; (try first | (rw [dif_pos (by omega)]; simp only [Result.andThen_ok]) | rw [if_pos (by omega)]); (try with_reducible rfl); done)); try simp only [Act.put, List.setIfInBounds_toArray, List.set_cons_zero, List.set_cons_succ])
        (refine wpAnyH_ready (rs := [8]) (by kernel_rfl) (by simp) ?_; refine ar8 (fun K hK => ?_) AllReadyH.nil; go_simp)
        have b1 : BelH w (W5.alloc (.cells #[.int .u8 (y : Nat)] 5)).drew := (BelH.alloc H8 _).drew
        have c1 : (convert 34 9 (.slice (some ⟨W5.heap.size, 0, none⟩) 1 1)).run Tryd.prog (W5.alloc (.cells #[.int .u8 (y : Nat)] 5)).drew = .ok (.string X1) (W5.alloc (.cells #[.int .u8 (y : Nat)] 5)).drew := HX1.out _ _ (by simp [go_sem])
        generalize (W5.alloc (.cells #[.int .u8 (y : Nat)] 5)).drew = w21 at b1 c1 ⊢
        generalize W5.heap.size = g3 at c1 ⊢
        (refine hK.out _ _ b1 (fun hHeld => ?_); clear hK K; try simp only [Act.put, List.setIfInBounds_toArray, List.set_cons_zero, List.set_cons_succ])
        (refine wpAnyH_more (S' := (fun W => BelH w W ∧ (convert 34 9 (.slice (some ⟨g3, 0, none⟩) 1 1)).run Tryd.prog W = .ok (.string X1) W)) (fun W h => h.1) _ _ _ _ ?_; replace hHeld := (show BelH w w21 ∧ _ from ⟨b1, c1⟩))
        (refine tk9 (v := ?_) (by kernel_rfl) (by kernel_rfl) (by kernel_rfl) (fun _ _ _ h => h) (Or.inl ⟨by rfl, ?_⟩) (by assumption) ?_; rotate_left; (focus (intro w hSw; (try dsimp only at hSw); go_simp; (try first | (rw [dif_pos (by omega)]; simp only [Result.andThen_ok]) | rw [if_pos (by omega)]); (try with_reducible rfl); done)); try simp only [Act.put, List.setIfInBounds_toArray, List.set_cons_zero, List.set_cons_succ])
        (refine tk10 (v := ?_) (by kernel_rfl) (by kernel_rfl) (by kernel_rfl) (fun _ _ _ h => h) (Or.inl ⟨by rfl, ?_⟩) (by assumption) ?_; rotate_left; (focus (intro w hSw; (try dsimp only at hSw); go_simp; (try first | (rw [dif_pos (by omega)]; simp only [Result.andThen_ok]) | rw [if_pos (by omega)]); (try with_reducible rfl); done)); try simp only [Act.put, List.setIfInBounds_toArray, List.set_cons_zero, List.set_cons_succ])
        (refine tk15 (v := ?_) (by kernel_rfl) (by kernel_rfl) (by kernel_rfl) (fun _ _ _ h => h) (Or.inl ⟨by rfl, ?_⟩) (by assumption) ?_; rotate_left; (focus (intro w hSw; (try dsimp only at hSw); go_simp; (try first | (rw [dif_pos (by omega)]; simp only [Result.andThen_ok]) | rw [if_pos (by omega)]); (try with_reducible rfl); done)); try simp only [Act.put, List.setIfInBounds_toArray, List.set_cons_zero, List.set_cons_succ])
        (refine tk16 (v := ?_) (by kernel_rfl) (by kernel_rfl) (by kernel_rfl) (fun _ _ _ h => h) (Or.inl ⟨by rfl, ?_⟩) (by assumption) ?_; rotate_left; (focus (intro w hSw; (try dsimp only at hSw); go_simp; (try first | (rw [dif_pos (by omega)]; simp only [Result.andThen_ok]) | rw [if_pos (by omega)]); (try with_reducible rfl); done)); try simp only [Act.put, List.setIfInBounds_toArray, List.set_cons_zero, List.set_cons_succ])
        refine wpAnyH_done (by kernel_rfl) ?_ _
        exact Post3.here _ g3 b1
      · intro g3 w22 h22
        have H22 : Hid (BelH w w22) := h22
        clear h22
        go_wp2_with fail
        refine (HC3.out w _ H22.out).mono ?_
        rintro e w23 ⟨rfl, hb, h23⟩
        have H24 : Hid (∀ o, BelH w (w23.alloc o)) := fun o => BelH.alloc h23 o
        clear hb h23
        have hcc : (c != 0) = true := by simpa using hc0
        go_wp2
        go_ret
        exact ⟨rfl, (H24.out _).1⟩
  · go_wp2_with fail
    refine (HC2.out w _ (H5.out _)).mono ?_
    rintro e w5 ⟨rfl, hb, h5⟩
    have H6 : Hid (BelH w w5) := h5
    have H7 : Hid (∀ o, BelH w (w5.alloc o)) := fun o => BelH.alloc h5 o
    clear hb h5 H5 HC2 s2 H4 HF4 q0 q1 q2
    by_cases hx0 : x = 0
    · subst hx0
      go_wp2
      go_ret
      exact ⟨rfl, (H7.out _).1⟩
    · have hx0' : (x == 0) = false := by simpa using hx0
      obtain ⟨xn, rfl⟩ := Int.eq_ofNat_of_zero_le x0
      have haT : a < T.size := by omega
      obtain ⟨t1, t2, t3⟩ := turned T a xn haT (by omega) (by omega)
      have hxo : bits .xor .u8 ((T[a]'haT).toNat : Int) (xn : Int) = (((T[a]'haT).toNat ^^^ xn : Nat) : Int) := u8_xor_nat _ _ (T[a]'haT).toNat_lt (by omega)
      obtain ⟨c, hc0, hdc⟩ := HD2.out _ a ha (t1.trans hzT) (fun i hi hne => t2 i (by omega) hne) t3
      have hzB : (T.extract 0 a ++ strOfNums [(((T[a]'haT).toNat ^^^ xn : Nat) : Int)] ++ T.extract (a + 1) T.size).size ≤ 131096 := by omega
      have hc3 := one_dec ah (T.extract 0 a ++ strOfNums [(((T[a]'haT).toNat ^^^ xn : Nat) : Int)] ++ T.extract (a + 1) T.size) (by omega)
      rw [hdc] at hc3
      have zE : (T.extract (a + 1) T.size).size ≤ 131096 := Nat.le_trans (by rw [ByteArray.size_extract]; omega) (by omega : T.size ≤ 131096)
      have zX : (strOfNums [(((T[a]'haT).toNat ^^^ xn : Nat) : Int)]).size = 1 := by rw [strOfNums_size]; rfl
      have zPX : (T.extract 0 a ++ strOfNums [(((T[a]'haT).toNat ^^^ xn : Nat) : Int)]).size = a + 1 := by rw [ByteArray.size_append, hza2, zX]
      have s3 : ∀ W : World, (Op.stringOp .add (T.extract 0 a) (strOfNums [(((T[a]'haT).toNat ^^^ xn : Nat) : Int)])).run Tryd.prog W = .ok (.string (T.extract 0 a ++ strOfNums [(((T[a]'haT).toNat ^^^ xn : Nat) : Int)])) W := fun W => run_string_add_sum W _ _ (by omega)
      have s4 : ∀ W : World, (Op.stringOp .add (T.extract 0 a ++ strOfNums [(((T[a]'haT).toNat ^^^ xn : Nat) : Int)]) (T.extract (a + 1) T.size)).run Tryd.prog W = .ok (.string (T.extract 0 a ++ strOfNums [(((T[a]'haT).toNat ^^^ xn : Nat) : Int)] ++ T.extract (a + 1) T.size)) W := fun W => run_string_add_sum W _ _ (by omega)
      have s5 : ∀ W : World, (Op.stringOp .add ah (T.extract 0 a ++ strOfNums [(((T[a]'haT).toNat ^^^ xn : Nat) : Int)] ++ T.extract (a + 1) T.size)).run Tryd.prog W = .ok (.string (ah ++ (T.extract 0 a ++ strOfNums [(((T[a]'haT).toNat ^^^ xn : Nat) : Int)] ++ T.extract (a + 1) T.size))) W := fun W => run_string_add_sum W _ _ (by omega)
      have HC3 : Hid _ := hc3
      have hv : ((T[a]'haT).toNat ^^^ xn) < 256 := Nat.xor_lt_two_pow (n := 8) (T[a]'haT).toNat_lt (by omega)
      clear hc3 hdc t1 t2 t3 zX zPX zE hzB HD2
      generalize hR : ah ++ (T.extract 0 a ++ strOfNums [(((T[a]'haT).toNat ^^^ xn : Nat) : Int)] ++ T.extract (a + 1) T.size) = R at *
      generalize hB2 : T.extract 0 a ++ strOfNums [(((T[a]'haT).toNat ^^^ xn : Nat) : Int)] ++ T.extract (a + 1) T.size = B2 at *
      generalize hB1 : T.extract 0 a ++ strOfNums [(((T[a]'haT).toNat ^^^ xn : Nat) : Int)] = B1 at *
      clear hR hB2 hB1
      obtain ⟨X1, hX1⟩ : ∃ X, X = strOfNums [(((T[a]'haT).toNat ^^^ xn : Nat) : Int)] := ⟨_, rfl⟩
      rw [← hX1] at s3
      have HX1 : Hid (∀ W g, W.cell? ⟨g, 0, none⟩ = some (.int .u8 (((T[a]'haT).toNat ^^^ xn : Nat) : Int)) → (convert 34 9 (.slice (some ⟨g, 0, none⟩) 1 1)).run Tryd.prog W = .ok (.string X1) W) := fun W g h => by rw [hX1]; exact conv_one W g _ h
      clear hX1
      generalize (T[a]'haT).toNat ^^^ xn = y at *
      have hw1 : IntKind.i64.wrap ((a : Int) + 1) = ((a + 1 : Nat) : Int) := by rw [IntKind.wrap_i64]; omega
      have HzT : Hid (T.size = 24 + b.size) := hzT
      have hTl : T.size ≤ 131096 := by omega
      clear hzT
      go_wp2_with fail
      have H8 := H7.out (.cells #[.int .i64 0, .int .u64 0, .string ⟨#[]⟩] 27)
      generalize w5.alloc (.cells #[.int .i64 0, .int .u64 0, .string ⟨#[]⟩] 27) = W5 at *
      clear H7 H6
      refine wp_onceG (fun _ W => BelH w W) ?_
      apply Exists.intro
      constructor
      · (refine wp_region_held_drew (S := (fun W => BelH w W)) (by kernel_rfl) H8.drew (fun hHeld => ?_); simp only [List.size_toArray, List.length_cons, List.length_nil, Nat.reduceAdd, Array.replicate_succ, Array.replicate_zero, List.push_toArray, List.append_toArray, List.nil_append, List.cons_append])
        (refine tk0 (v := ?_) (by kernel_rfl) (by kernel_rfl) (by kernel_rfl) (fun _ _ _ h => h) (Or.inl ⟨by rfl, ?_⟩) (by assumption) ?_; rotate_left; (focus (intro w hSw; (try dsimp only at hSw); go_simp; (try first | (rw [dif_pos (by omega)]; simp only [Result.andThen_ok]) | rw [if_pos (by omega)]); (try with_reducible rfl); done)); try simp only [Act.put, List.setIfInBounds_toArray, List.set_cons_zero, List.set_cons_succ])
        (refine tk1 (v := ?_) (by kernel_rfl) (by kernel_rfl) (by kernel_rfl) (fun _ _ _ h => h) (Or.inl ⟨by rfl, ?_⟩) (by assumption) ?_; rotate_left; (focus (intro w hSw; (try dsimp only at hSw); go_simp; (try first | (rw [dif_pos (by omega)]; simp only [Result.andThen_ok]) | rw [if_pos (by omega)]); (try with_reducible rfl); done)); try simp only [Act.put, List.setIfInBounds_toArray, List.set_cons_zero, List.set_cons_succ])
        (refine tk2 (v := ?_) (by kernel_rfl) (by kernel_rfl) (by kernel_rfl) (fun _ _ _ h => h) (Or.inl ⟨by rfl, ?_⟩) (by assumption) ?_; rotate_left; (focus (intro w hSw; (try dsimp only at hSw); go_simp; (try first | (rw [dif_pos (by omega)]; simp only [Result.andThen_ok]) | rw [if_pos (by omega)]); (try with_reducible rfl); done)); try simp only [Act.put, List.setIfInBounds_toArray, List.set_cons_zero, List.set_cons_succ])
        (refine tk3 (v := ?_) (by kernel_rfl) (by kernel_rfl) (by kernel_rfl) (fun _ _ _ h => h) (Or.inl ⟨by rfl, ?_⟩) (by assumption) ?_; rotate_left; (focus (intro w hSw; (try dsimp only at hSw); go_simp; (try first | (rw [dif_pos (by omega)]; simp only [Result.andThen_ok]) | rw [if_pos (by omega)]); (try with_reducible rfl); done)); try simp only [Act.put, List.setIfInBounds_toArray, List.set_cons_zero, List.set_cons_succ])
        (refine tk4 (v := ?_) (by kernel_rfl) (by kernel_rfl) (by kernel_rfl) (fun _ _ _ h => h) (Or.inl ⟨by rfl, ?_⟩) (by assumption) ?_; rotate_left; (focus (intro w hSw; (try dsimp only at hSw); go_simp; (try first | (rw [dif_pos (by omega)]; simp only [Result.andThen_ok]) | rw [if_pos (by omega)]); (try with_reducible rfl); done)); try simp only [Act.put, List.setIfInBounds_toArray, List.set_cons_zero, List.set_cons_succ])
        (refine tk5 (v := ?_) (by kernel_rfl) (by kernel_rfl) (by kernel_rfl) (fun _ _ _ h => h) (Or.inl ⟨by rfl, ?_⟩) (by assumption) ?_; rotate_left; (focus (intro w hSw; (try dsimp only at hSw); go_simp; (try first | (rw [dif_pos (by omega)]; simp only [Result.andThen_ok]) | rw [if_pos (by omega)]); (try with_reducible rfl); done)); try simp only [Act.put, List.setIfInBounds_toArray, List.set_cons_zero, List.set_cons_succ])
        (refine tk6 (v := ?_) (by kernel_rfl) (by kernel_rfl) (by kernel_rfl) (fun _ _ _ h => h) (Or.inl ⟨by rfl, ?_⟩) (by assumption) ?_; rotate_left; (focus (intro w hSw; (try dsimp only at hSw); go_simp; (try first | (rw [dif_pos (by omega)]; simp only [Result.andThen_ok]) | rw [if_pos (by omega)]); (try with_reducible rfl); done)); try simp only [Act.put, List.setIfInBounds_toArray, List.set_cons_zero, List.set_cons_succ])
        (refine tk7 (v := ?_) (by kernel_rfl) (by kernel_rfl) (by kernel_rfl) (fun _ _ _ h => h) (Or.inl ⟨by rfl, ?_⟩) (by assumption) ?_; rotate_left; (focus (intro w hSw; (try dsimp only at hSw); go_simp; (try first | (rw [dif_pos (by omega)]; simp only [Result.andThen_ok]) | rw [if_pos (by omega)]); (try with_reducible rfl); done)); try simp only [Act.put, List.setIfInBounds_toArray, List.set_cons_zero, List.set_cons_succ])
        (refine tk11 (v := ?_) (by kernel_rfl) (by kernel_rfl) (by kernel_rfl) (fun _ _ _ h => h) (Or.inl ⟨by rfl, ?_⟩) (by assumption) ?_; rotate_left; (focus (intro w hSw; (try dsimp only at hSw); go_simp; (try first | (rw [dif_pos (by omega)]; simp only [Result.andThen_ok]) | rw [if_pos (by omega)]); (try with_reducible rfl); done)); try simp only [Act.put, List.setIfInBounds_toArray, List.set_cons_zero, List.set_cons_succ])
        (refine tk12 (v := ?_) (by kernel_rfl) (by kernel_rfl) (by kernel_rfl) (fun _ _ _ h => h) (Or.inl ⟨by rfl, ?_⟩) (by assumption) ?_; rotate_left; (focus (intro w hSw; (try dsimp only at hSw); go_simp; (try first | (rw [dif_pos (by omega)]; simp only [Result.andThen_ok]) | rw [if_pos (by omega)]); (try with_reducible rfl); done)); try simp only [Act.put, List.setIfInBounds_toArray, List.set_cons_zero, List.set_cons_succ])
        (refine tk13 (v := ?_) (by kernel_rfl) (by kernel_rfl) (by kernel_rfl) (fun _ _ _ h => h) (Or.inl ⟨by rfl, ?_⟩) (by assumption) ?_; rotate_left; (focus (intro w hSw; (try dsimp only at hSw); go_simp; (try first | (rw [dif_pos (by omega)]; simp only [Result.andThen_ok]) | rw [if_pos (by omega)]); (try with_reducible rfl); done)); try simp only [Act.put, List.setIfInBounds_toArray, List.set_cons_zero, List.set_cons_succ])
        (refine tk14 (v := ?_) (by kernel_rfl) (by kernel_rfl) (by kernel_rfl) (fun _ _ _ h => h) (Or.inl ⟨by rfl, ?_⟩) (by assumption) ?_; rotate_left; (focus (intro w hSw; (try dsimp only at hSw); go_simp; (try first | (rw [dif_pos (by omega)]; simp only [Result.andThen_ok]) | rw [if_pos (by omega)]); (try with_reducible rfl); done)); try simp only [Act.put, List.setIfInBounds_toArray, List.set_cons_zero, List.set_cons_succ])
        (refine wpAnyH_ready (rs := [8]) (by kernel_rfl) (by simp) ?_; refine ar8 (fun K hK => ?_) AllReadyH.nil; go_simp)
        have b1 : BelH w (W5.alloc (.cells #[.int .u8 (y : Nat)] 5)).drew := (BelH.alloc H8 _).drew
        have c1 : (convert 34 9 (.slice (some ⟨W5.heap.size, 0, none⟩) 1 1)).run Tryd.prog (W5.alloc (.cells #[.int .u8 (y : Nat)] 5)).drew = .ok (.string X1) (W5.alloc (.cells #[.int .u8 (y : Nat)] 5)).drew := HX1.out _ _ (by simp [go_sem])
        generalize (W5.alloc (.cells #[.int .u8 (y : Nat)] 5)).drew = w21 at b1 c1 ⊢
        generalize W5.heap.size = g3 at c1 ⊢
        (refine hK.out _ _ b1 (fun hHeld => ?_); clear hK K; try simp only [Act.put, List.setIfInBounds_toArray, List.set_cons_zero, List.set_cons_succ])
        (refine wpAnyH_more (S' := (fun W => BelH w W ∧ (convert 34 9 (.slice (some ⟨g3, 0, none⟩) 1 1)).run Tryd.prog W = .ok (.string X1) W)) (fun W h => h.1) _ _ _ _ ?_; replace hHeld := (show BelH w w21 ∧ _ from ⟨b1, c1⟩))
        (refine tk9 (v := ?_) (by kernel_rfl) (by kernel_rfl) (by kernel_rfl) (fun _ _ _ h => h) (Or.inl ⟨by rfl, ?_⟩) (by assumption) ?_; rotate_left; (focus (intro w hSw; (try dsimp only at hSw); go_simp; (try first | (rw [dif_pos (by omega)]; simp only [Result.andThen_ok]) | rw [if_pos (by omega)]); (try with_reducible rfl); done)); try simp only [Act.put, List.setIfInBounds_toArray, List.set_cons_zero, List.set_cons_succ])
        (refine tk10 (v := ?_) (by kernel_rfl) (by kernel_rfl) (by kernel_rfl) (fun _ _ _ h => h) (Or.inl ⟨by rfl, ?_⟩) (by assumption) ?_; rotate_left; (focus (intro w hSw; (try dsimp only at hSw); go_simp; (try first | (rw [dif_pos (by omega)]; simp only [Result.andThen_ok]) | rw [if_pos (by omega)]); (try with_reducible rfl); done)); try simp only [Act.put, List.setIfInBounds_toArray, List.set_cons_zero, List.set_cons_succ])
        (refine tk15 (v := ?_) (by kernel_rfl) (by kernel_rfl) (by kernel_rfl) (fun _ _ _ h => h) (Or.inl ⟨by rfl, ?_⟩) (by assumption) ?_; rotate_left; (focus (intro w hSw; (try dsimp only at hSw); go_simp; (try first | (rw [dif_pos (by omega)]; simp only [Result.andThen_ok]) | rw [if_pos (by omega)]); (try with_reducible rfl); done)); try simp only [Act.put, List.setIfInBounds_toArray, List.set_cons_zero, List.set_cons_succ])
        (refine tk16 (v := ?_) (by kernel_rfl) (by kernel_rfl) (by kernel_rfl) (fun _ _ _ h => h) (Or.inl ⟨by rfl, ?_⟩) (by assumption) ?_; rotate_left; (focus (intro w hSw; (try dsimp only at hSw); go_simp; (try first | (rw [dif_pos (by omega)]; simp only [Result.andThen_ok]) | rw [if_pos (by omega)]); (try with_reducible rfl); done)); try simp only [Act.put, List.setIfInBounds_toArray, List.set_cons_zero, List.set_cons_succ])
        refine wpAnyH_done (by kernel_rfl) ?_ _
        exact Post3.here _ g3 b1
      · intro g3 w22 h22
        have H22 : Hid (BelH w w22) := h22
        clear h22
        go_wp2_with fail
        refine (HC3.out w _ H22.out).mono ?_
        rintro e w23 ⟨rfl, hb, h23⟩
        have H24 : Hid (∀ o, BelH w (w23.alloc o)) := fun o => BelH.alloc h23 o
        clear hb h23
        have hcc : (c != 0) = true := by simpa using hc0
        go_wp2
        go_ret
        exact ⟨rfl, (H24.out _).1⟩
end Go.Proofs.YtlnpeicflofkjaaDoor
