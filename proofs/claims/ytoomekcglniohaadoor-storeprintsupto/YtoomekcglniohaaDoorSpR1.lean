import Derived.Test.YtoomekcglniohaaDoorSpJ
namespace Go.Proofs.YtoomekcglniohaaDoor
open Go.ChangeShapes Go.WideShapes Go.ChangeAt Go.RowKit
set_option linter.unusedVariables false
set_option maxRecDepth 100000
theorem saddc (a b c : ByteArray) (h : a ++ b = c) (hz : c.size ≤ 140737488355328) : ∀ (w : World), (Op.stringOp .add a b).run Tryd.prog w = .ok (.string c) w := by
  subst h
  rw [ByteArray.size_append] at hz
  exact sadd a b hz
theorem conv1 (w : World) (c : Int) : (convert 44 9 (.slice (some ⟨w.heap.size, 0, none⟩) 1 1)).run Tryd.prog (w.alloc (.cells #[.int .u8 c] 5)) = .ok (.string (strOfNums [c])) (w.alloc (.cells #[.int .u8 c] 5)) := by
  refine run_convert_bytes_arg _ 44 5 Tryd.underlying44 Tryd.underlying5 w.heap.size 0 1 1 [c] rfl (fun i hi => ?_) 9 Tryd.underlying9
  have : i = 0 := by simpa using hi
  subst this
  unfold World.cell?
  rw [heap_new]
  rfl
theorem num_one (u : Nat) (h : u < 10) : strOfNums [48 + (u : Int)] = tx (Lib.decDigits u) := by
  rw [Lib.decDigits_one h]
  show (⟨#[UInt8.ofNat (48 + (u : Int)).toNat]⟩ : ByteArray) = ⟨#[UInt8.ofNat (48 + u)]⟩
  rw [show (48 + (u : Int)).toNat = 48 + u from by omega]
theorem dec_more (u : Nat) (h : ¬ u < 10) : Lib.decDigits u = Lib.decDigits (u / 10) ++ Lib.decDigits (u % 10) := by
  have h1 : Lib.decDigits (u % 10) = [UInt8.ofNat (48 + u % 10)] := Lib.decDigits_one (by omega)
  rw [h1]
  conv => lhs; rw [Lib.decDigits, dif_neg h]
theorem dec_big : Lib.decDigits 9223372036854775808 = [57, 50, 50, 51, 51, 55, 50, 48, 51, 54, 56, 53, 52, 55, 55, 53, 56, 48, 56] := by
  repeat rw [Lib.decDigits, dif_neg (by omega)]
  rw [Lib.decDigits_one (by omega)]
  rfl
theorem dec_size (u : Nat) (h : u ≤ 18446744073709551615) : (tx (Lib.decDigits u)).size ≤ 20 := by rw [tx_size, Lib.decDigits_length]; exact dec_few u h
set_option maxHeartbeats 4000000 in
theorem digN : ∀ (m u : Nat), u ≤ m → u < 9223372036854775808 → ∀ w : World, Calls Tryd.prog 10 #[.int .i64 (u : Int)] w fun e w' => e = .returned (.string (tx (Lib.decDigits u))) ∧ Below w.heap.size w w' := by
  intro m
  induction m with
  | zero =>
    intro u h1 h2 w
    have hu : u = 0 := by omega
    subst hu
    have hcv := conv1 w 48
    have hA : Below w.heap.size w (w.alloc (.cells #[.int .u8 48] 5)) := (Below.refl _ _).alloc (Nat.le_refl _) _
    have HA : Hid _ := hA
    have HE : Hid (strOfNums [48] = tx (Lib.decDigits 0)) := num_one 0 (by omega)
    clear hA
    rw [← HE.out]
    go_enter Tryd.func10, Tryd.ntmps10
    go_wp2
    go_ret
    exact ⟨rfl, HA.out⟩
  | succ m ih =>
    intro u h1 h2 w
    by_cases h10 : u < 10
    · have hcv := conv1 w (48 + (u : Int))
      have hA : Below w.heap.size w (w.alloc (.cells #[.int .u8 (48 + (u : Int))] 5)) := (Below.refl _ _).alloc (Nat.le_refl _) _
      have HA : Hid _ := hA
      have hw1 : IntKind.i64.wrap (48 + (u : Int)) = 48 + (u : Int) := by rw [IntKind.wrap_i64]; omega
      have hw2 : IntKind.u8.wrap (48 + (u : Int)) = 48 + (u : Int) := by rw [IntKind.wrap_u8]; omega
      have hn : ((u : Int) == -9223372036854775808) = false := by rw [beq_eq_false_iff_ne]; omega
      clear hA ih
      rw [← num_one u h10]
      go_enter Tryd.func10, Tryd.ntmps10
      go_wp2
      go_ret
      exact ⟨rfl, HA.out⟩
    · have HI1 : Hid (∀ W : World, _) := fun W => ih (u / 10) (by omega) (by omega) W
      have HI2 : Hid (∀ W : World, _) := fun W => ih (u % 10) (by omega) (by omega) W
      have hz := dec_size u (by omega)
      have ha := saddc (tx (Lib.decDigits (u / 10))) (tx (Lib.decDigits (u % 10))) (tx (Lib.decDigits u)) (by rw [tx_app, ← dec_more u h10]) (by omega)
      have hq : Int.tdiv (u : Int) 10 = ((u / 10 : Nat) : Int) := by rw [Int.tdiv_eq_ediv_of_nonneg (Int.natCast_nonneg _)]; omega
      have hm : Int.tmod (u : Int) 10 = ((u % 10 : Nat) : Int) := by rw [Int.tmod_eq_emod_of_nonneg (Int.natCast_nonneg _)]; omega
      have hn : ((u : Int) == -9223372036854775808) = false := by rw [beq_eq_false_iff_ne]; omega
      have h10i : ¬ (u : Int) < 10 := by omega
      have hwq : wrap64 ((u / 10 : Nat) : Int) = ((u / 10 : Nat) : Int) := by unfold wrap64; omega
      clear ih hz h10
      generalize tx (Lib.decDigits (u / 10)) = X at *
      generalize tx (Lib.decDigits (u % 10)) = Y at *
      generalize tx (Lib.decDigits u) = Z at *
      generalize ((u / 10 : Nat) : Int) = q at *
      generalize ((u % 10 : Nat) : Int) = r at *
      go_enter Tryd.func10, Tryd.ntmps10
      go_wp2_with fail
      refine (HI1.out _).mono ?_
      rintro e w1 ⟨rfl, hb1⟩
      have HB1 : Hid (Below w.heap.size w w1) := hb1
      clear hb1
      go_wp2_with fail
      refine (HI2.out _).mono ?_
      rintro e w2 ⟨rfl, hb2⟩
      have HB2 : Hid (Below w.heap.size w w2) := HB1.out.trans (hb2.mono HB1.out.size)
      clear hb2
      go_wp2
      go_ret
      exact ⟨rfl, HB2.out⟩
set_option maxHeartbeats 4000000 in
/-- The document's digits of a number. -/
theorem digR (n : Int) (h0 : -9223372036854775808 ≤ n) (h1 : n ≤ 9223372036854775807) (w : World) : Calls Tryd.prog 10 #[.int .i64 n] w fun e w' => e = .returned (.string (tx (Lib.itoa n))) ∧ Below w.heap.size w w' := by
  by_cases hp : 0 ≤ n
  · obtain ⟨u, rfl⟩ := Int.eq_ofNat_of_zero_le hp
    rw [Lib.itoa_nonneg]
    exact digN u u (Nat.le_refl _) (by omega) w
  · by_cases hm : n = -9223372036854775808
    · subst hm
      have HE : Hid (tx (Lib.itoa (-9223372036854775808)) = ⟨#[45, 57, 50, 50, 51, 51, 55, 50, 48, 51, 54, 56, 53, 52, 55, 55, 53, 56, 48, 56]⟩) := by
        show tx (Lib.itoa (-9223372036854775808)) = _
        rw [show Lib.itoa (-9223372036854775808) = 45 :: Lib.decDigits 9223372036854775808 from Lib.itoa_neg 9223372036854775808 (by omega)]
        rw [dec_big]
        rfl
      rw [HE.out]
      go_enter Tryd.func10, Tryd.ntmps10
      go_wp2
      go_ret
      exact ⟨rfl, Below.refl _ _⟩
    · obtain ⟨u, hu⟩ : ∃ u : Nat, n = -(u : Int) := ⟨n.natAbs, by omega⟩
      have hu1 : 1 ≤ u := by omega
      have HI : Hid (∀ W : World, _) := fun W => digN u u (Nat.le_refl _) (by omega) W
      have HE : Hid (⟨#[45]⟩ ++ tx (Lib.decDigits u) = tx (Lib.itoa n)) := by
        show tx [45] ++ tx (Lib.decDigits u) = _
        rw [tx_app, hu, Lib.itoa_neg u hu1]
        rfl
      have hz := dec_size u (by omega)
      have ha := sadd ⟨#[45]⟩ (tx (Lib.decDigits u)) (by show 1 + (tx (Lib.decDigits u)).size ≤ _; omega)
      rw [← HE.out]
      have hb1 : (n == -9223372036854775808) = false := by rw [beq_eq_false_iff_ne]; exact hm
      have hng : wrap64 (-n) = (u : Int) := by unfold wrap64; omega
      have hlt : n < 0 := by omega
      clear hm hu hz hp
      generalize tx (Lib.decDigits u) = X at *
      go_enter Tryd.func10, Tryd.ntmps10
      go_wp2_with fail
      refine (HI.out _).mono ?_
      rintro e w1 ⟨rfl, hb2⟩
      have HB1 : Hid (Below w.heap.size w w1) := hb2
      clear hb2
      go_wp2
      go_ret
      exact ⟨rfl, HB1.out⟩
end Go.Proofs.YtoomekcglniohaaDoor
