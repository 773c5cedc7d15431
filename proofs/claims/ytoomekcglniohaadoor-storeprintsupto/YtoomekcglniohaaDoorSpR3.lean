import Derived.Test.YtoomekcglniohaaDoorSpR2
namespace Go.Proofs.YtoomekcglniohaaDoor
open Go.ChangeShapes Go.WideShapes Go.ChangeAt Go.RowKit
set_option linter.unusedVariables false
set_option linter.unusedSimpArgs false
set_option maxRecDepth 100000
theorem wordR (v : VL) (hv : VOK v) (w : World) : Calls Tryd.prog 26 #[.agg #[.int .i64 v.1, .int .i64 v.2.1, .string v.2.2]] w fun e w' => e = .returned (.string (tx (valL v))) ∧ Below w.heap.size w w' := by
  obtain ⟨k, i, s⟩ := v
  obtain ⟨hs, h0, h1⟩ := hv
  dsimp only at hs h0 h1 ⊢
  have HA : Hid (Below w.heap.size w (w.alloc (.cells #[.int .i64 k, .int .i64 i, .string s] 65))) := (Below.refl _ _).alloc (Nat.le_refl _) _
  unfold valL
  dsimp only
  by_cases h3 : k = 3
  · subst h3
    have HR : Hid (∀ _ : Unit, _) := fun _ => quoR s hs (w.alloc (.cells #[.int .i64 3, .int .i64 i, .string s] 65))
    rw [if_pos rfl]
    generalize tx (quotL s) = X at *
    go_enter Tryd.func26, Tryd.ntmps26
    go_wp2_with fail
    refine (HR.out ()).mono ?_
    rintro e w1 ⟨rfl, rfl⟩
    go_wp2
    go_ret
    exact ⟨rfl, HA.out⟩
  · have b3 : (k == 3) = false := by simp [h3]
    rw [if_neg h3]
    clear h3
    by_cases h2 : k = 2
    · subst h2
      have HR : Hid (∀ _ : Unit, _) := fun _ => digR i h0 h1 (w.alloc (.cells #[.int .i64 2, .int .i64 i, .string s] 65))
      rw [if_pos rfl]
      generalize tx (Lib.itoa i) = X at *
      go_enter Tryd.func26, Tryd.ntmps26
      go_wp2_with fail
      refine (HR.out ()).mono ?_
      rintro e w1 ⟨rfl, hb⟩
      have HB : Hid (Below w.heap.size w w1) := HA.out.trans (hb.mono HA.out.size)
      clear hb
      go_wp2
      go_ret
      exact ⟨rfl, HB.out⟩
    · have b2 : (k == 2) = false := by simp [h2]
      rw [if_neg h2]
      clear h2
      by_cases hk : k = 1
      · subst hk
        rw [if_pos rfl]
        by_cases hi : i = 1
        · subst hi
          rw [if_pos rfl]
          go_enter Tryd.func26, Tryd.ntmps26
          go_wp2
          go_ret
          exact ⟨rfl, HA.out⟩
        · have bi : (i == 1) = false := by simp [hi]
          rw [if_neg hi]
          clear hi
          go_enter Tryd.func26, Tryd.ntmps26
          go_wp2
          go_ret
          exact ⟨rfl, HA.out⟩
      · have b1 : (k == 1) = false := by simp [hk]
        rw [if_neg hk]
        clear hk
        go_enter Tryd.func26, Tryd.ntmps26
        go_wp2
        go_ret
        exact ⟨rfl, HA.out⟩
theorem codeR (n : Int) (h0 : -9223372036854775808 ≤ n) (h1 : n ≤ 9223372036854775807) (w : World) : Calls Tryd.prog 12 #[.int .i64 n] w fun e w' => e = .returned (.string (tx (codeL n))) ∧ Below w.heap.size w w' := by
  unfold codeL
  by_cases h : n = 0
  · subst h
    rw [if_pos rfl]
    go_enter Tryd.func12, Tryd.ntmps12
    go_wp2
    go_ret
    exact ⟨rfl, Below.refl _ _⟩
  · have b : (n == 0) = false := by simp [h]
    rw [if_neg h]
    have HR : Hid (∀ W : World, _) := fun W => digR n h0 h1 W
    have hz : (tx (Lib.itoa n)).size ≤ 22 := by rw [tx_size]; exact itoa_len n h0 (by omega)
    have ha := saddc ⟨#[69]⟩ (tx (Lib.itoa n)) (tx (69 :: Lib.itoa n)) (by show tx [69] ++ _ = _; rw [tx_app]; rfl) (by rw [tx_size] at hz ⊢; rw [List.length_cons]; omega)
    clear h hz
    generalize tx (Lib.itoa n) = X at *
    go_enter Tryd.func12, Tryd.ntmps12
    go_wp2_with fail
    refine (HR.out _).mono ?_
    rintro e w1 ⟨rfl, hb⟩
    have HB : Hid (Below w.heap.size w w1) := hb
    clear hb
    go_wp2
    go_ret
    exact ⟨rfl, HB.out⟩
theorem headR (kind who : Int) (h0 : -9223372036854775808 ≤ who) (h1 : who ≤ 9223372036854775807) (w : World) : Calls Tryd.prog 11 #[.int .i64 kind, .int .i64 who] w fun e w' => e = .returned (.string (tx (headL kind who))) ∧ Below w.heap.size w w' := by
  unfold headL
  by_cases c1 : kind = 1
  · subst c1
    rw [if_pos rfl]
    have HR : Hid (∀ W : World, _) := fun W => digR who h0 h1 W
    have hz : (tx (Lib.itoa who)).size ≤ 22 := by rw [tx_size]; exact itoa_len who h0 (by omega)
    have ha := saddc ⟨#[64]⟩ (tx (Lib.itoa who)) (tx (64 :: Lib.itoa who)) (by show tx [64] ++ _ = _; rw [tx_app]; rfl) (by rw [tx_size] at hz ⊢; rw [List.length_cons]; omega)
    clear hz
    generalize tx (Lib.itoa who) = X at *
    go_enter Tryd.func11, Tryd.ntmps11
    go_wp2_with fail
    refine (HR.out _).mono ?_
    rintro e w1 ⟨rfl, hb⟩
    have HB : Hid (Below w.heap.size w w1) := hb
    clear hb
    go_wp2
    go_ret
    exact ⟨rfl, HB.out⟩
  have b1 : (kind == 1) = false := by simp [c1]
  rw [if_neg c1]
  unfold kwL
  by_cases c2 : kind = 2
  · subst c2
    rw [if_pos rfl]
    go_enter Tryd.func11, Tryd.ntmps11
    go_wp2
    go_ret
    exact ⟨rfl, Below.refl _ _⟩
  have b2 : (kind == 2) = false := by simp [c2]
  rw [if_neg c2]
  by_cases c3 : kind = 3
  · subst c3
    rw [if_pos rfl]
    go_enter Tryd.func11, Tryd.ntmps11
    go_wp2
    go_ret
    exact ⟨rfl, Below.refl _ _⟩
  have b3 : (kind == 3) = false := by simp [c3]
  rw [if_neg c3]
  by_cases c4 : kind = 4
  · subst c4
    rw [if_pos rfl]
    go_enter Tryd.func11, Tryd.ntmps11
    go_wp2
    go_ret
    exact ⟨rfl, Below.refl _ _⟩
  have b4 : (kind == 4) = false := by simp [c4]
  rw [if_neg c4]
  by_cases c5 : kind = 5
  · subst c5
    rw [if_pos rfl]
    go_enter Tryd.func11, Tryd.ntmps11
    go_wp2
    go_ret
    exact ⟨rfl, Below.refl _ _⟩
  have b5 : (kind == 5) = false := by simp [c5]
  rw [if_neg c5]
  by_cases c6 : kind = 6
  · subst c6
    rw [if_pos rfl]
    go_enter Tryd.func11, Tryd.ntmps11
    go_wp2
    go_ret
    exact ⟨rfl, Below.refl _ _⟩
  have b6 : (kind == 6) = false := by simp [c6]
  rw [if_neg c6]
  by_cases c7 : kind = 7
  · subst c7
    rw [if_pos rfl]
    go_enter Tryd.func11, Tryd.ntmps11
    go_wp2
    go_ret
    exact ⟨rfl, Below.refl _ _⟩
  have b7 : (kind == 7) = false := by simp [c7]
  rw [if_neg c7]
  by_cases c8 : kind = 8
  · subst c8
    rw [if_pos rfl]
    go_enter Tryd.func11, Tryd.ntmps11
    go_wp2
    go_ret
    exact ⟨rfl, Below.refl _ _⟩
  have b8 : (kind == 8) = false := by simp [c8]
  rw [if_neg c8]
  by_cases c9 : kind = 9
  · subst c9
    rw [if_pos rfl]
    go_enter Tryd.func11, Tryd.ntmps11
    go_wp2
    go_ret
    exact ⟨rfl, Below.refl _ _⟩
  have b9 : (kind == 9) = false := by simp [c9]
  rw [if_neg c9]
  by_cases c10 : kind = 10
  · subst c10
    rw [if_pos rfl]
    go_enter Tryd.func11, Tryd.ntmps11
    go_wp2
    go_ret
    exact ⟨rfl, Below.refl _ _⟩
  have b10 : (kind == 10) = false := by simp [c10]
  rw [if_neg c10]
  by_cases c11 : kind = 11
  · subst c11
    rw [if_pos rfl]
    go_enter Tryd.func11, Tryd.ntmps11
    go_wp2
    go_ret
    exact ⟨rfl, Below.refl _ _⟩
  have b11 : (kind == 11) = false := by simp [c11]
  rw [if_neg c11]
  by_cases c12 : kind = 12
  · subst c12
    rw [if_pos rfl]
    go_enter Tryd.func11, Tryd.ntmps11
    go_wp2
    go_ret
    exact ⟨rfl, Below.refl _ _⟩
  have b12 : (kind == 12) = false := by simp [c12]
  rw [if_neg c12]
  clear c1 c2 c3 c4 c5 c6 c7 c8 c9 c10 c11 c12
  go_enter Tryd.func11, Tryd.ntmps11
  go_wp2
  go_ret
  exact ⟨rfl, Below.refl _ _⟩
end Go.Proofs.YtoomekcglniohaaDoor
