import Derived.Test.YtbkaahmkaphfoabVals4
import Derived.Test.YtbkaahmkaphfoabAbove
namespace Go.Proofs.Ytbkaahmkaphfoab
open Go.ChangeShapes Go.WideShapes Go.ChangeAt Go.RowKit
set_option linter.unusedVariables false

set_option maxRecDepth 100000 in
set_option maxHeartbeats 800000 in
theorem after_ref (s : ByteArray) (w : World) (hs : s.size ≤ 140737488351232) :
    Calls Try.prog 28 #[.string s] w fun e w' => AfterSays s e ∧ Below w.heap.size w w' := by
  go_enter Try.func28, Try.ntmps28
  go_wp2
  go_loop [4] (fun l => ∃ k : Nat, k ≤ s.size ∧ l = .int .i64 (k : Int) ∧ (∀ i (h : i < s.size), k ≤ i → s[i] = 255)) (fun l => (intOf l).toNat)
  case atStart => exact ⟨s.size, Nat.le_refl _, rfl, fun i h h' => by omega⟩
  case round =>
    obtain ⟨k, hk, rfl, hall⟩ := hrel
    have H : Hid (∀ i (h : i < s.size), k ≤ i → s[i] = 255) := hall
    clear hall
    rcases Nat.eq_zero_or_pos k with rfl | hp
    · go_wp2
      go_ret2
      exact ⟨.inl ⟨rfl, fun i h => H.out i h (by omega)⟩, Below.refl _ _⟩
    · obtain ⟨j, rfl⟩ : ∃ j, k = j + 1 := ⟨k - 1, by omega⟩
      have hj : j < s.size := by omega
      have hjz : ((j : Int) + 1 == 0) = false := by simp; omega
      have hcv := conv_one
      have hjc : ((j + 1 : Nat) : Int) = (j : Int) + 1 := by omega
      rw [hjc]
      clear hjc
      have hsub : (j : Int) + 1 - 1 = (j : Int) := by omega
      go_wp2
      · have e255 : ((s[j].toNat : Int) == 255) = true := by assumption
        go_round
        case rel =>
          refine ⟨j, by omega, by go_num, ?_⟩
          intro i h hji
          rcases Nat.eq_or_lt_of_le hji with rfl | hlt
          · simp at e255
            exact UInt8.toNat_inj.1 (by simp; omega)
          · exact H.out i h (by omega)
        case measure => simp [intOf]; try omega
      · have e255 : ((s[j].toNat : Int) == 255) = false := by assumption
        have hadd : ∀ (w : World) (x : Int), (Op.stringOp .add (s.extract 0 j) (strOfNums [x])).run Try.prog w = .ok (.string (s.extract 0 j ++ strOfNums [x])) w := fun w x => run_string_add_sum w _ _ (by rw [strOfNums_size, ByteArray.size_extract]; simp; omega)
        go_region
        go_wp2
        go_ret2
        refine ⟨.inr ⟨j, hj, rfl, ?_, fun i h hji => H.out i h (by omega)⟩, ((Below.refl _ _).alloc (Nat.le_refl _) _).drew⟩
        intro e
        rw [e] at e255
        simp at e255
theorem after_one {s : ByteArray} {e e' : Ending} (h : AfterSays s e) (h' : AfterSays s e') : e = e' := by
  rcases h with ⟨rfl, ha⟩ | ⟨j, hj, rfl, hne, ha⟩
  · rcases h' with ⟨rfl, _⟩ | ⟨j, hj, rfl, hne, _⟩
    · rfl
    · exact absurd (ha j hj) hne
  · rcases h' with ⟨rfl, hb⟩ | ⟨i, hi, rfl, hne', hb⟩
    · exact absurd (hb j hj) hne
    · have : i = j := by
        rcases Nat.lt_trichotomy i j with h | h | h
        · exact absurd (hb j hj h) hne
        · exact h
        · exact absurd (ha i hi h) hne'
      subst this; rfl
theorem after_form {s : ByteArray} {e : Ending} (h : AfterSays s e) : ∃ r ok, e = .returned (.tuple #[.string r, .bool ok]) := by
  rcases h with ⟨rfl, _⟩ | ⟨j, hj, rfl, _⟩
  · exact ⟨_, _, rfl⟩
  · exact ⟨_, _, rfl⟩
/-- What holds of every world from the second room on. -/
def CompS (w : World) (M : Nat) (a b c d c0 d0 : Value) (vs us : List (Int × Int × ByteArray)) (W : World) : Prop :=
  SeesV W M a vs ∧ SeesV W M b us ∧ SeesV W M c0 vs ∧ SeesV W M d0 us ∧ SeesV W M c (vs ++ [markV]) ∧ SeesV W M d (us ++ [markV]) ∧ M ≤ W.heap.size ∧ w.heap.size ≤ M ∧ Below w.heap.size w W
section
variable {w : World} {M : Nat} {a b c d c0 d0 : Value} {vs us : List (Int × Int × ByteArray)}
theorem CompS.later {W W' : World} (h : CompS w M a b c d c0 d0 vs us W) (hb : Below M W W') : CompS w M a b c d c0 d0 vs us W' := by
  obtain ⟨h1, h2, h3, h4, h5, h6, h7, h8, h9⟩ := h
  exact ⟨h1.later hb, h2.later hb, h3.later hb, h4.later hb, h5.later hb, h6.later hb, Nat.le_trans h7 hb.size, h8, h9.trans (hb.mono h8)⟩
theorem CompS.drew {W : World} (h : CompS w M a b c d c0 d0 vs us W) : CompS w M a b c d c0 d0 vs us W.drew := h.later (Below.refl _ _).drew
theorem compS_x1 {W : World} (h : CompS w M a b c d c0 d0 vs us W) : Calls Try.prog 22 #[c0, d0] W fun e w' => e = .returned (.int .i64 (cmpL vs us)) ∧ CompS w M a b c d c0 d0 vs us w' :=
  (compare_own c0 d0 vs us M W h.2.2.2.2.2.2.1 h.2.2.1 h.2.2.2.1).mono fun e w' ⟨he, hb⟩ => ⟨he, h.later hb⟩
theorem compS_x2 {W : World} (h : CompS w M a b c d c0 d0 vs us W) : Calls Try.prog 23 #[a, b] W fun e w' => e = .returned (.int .i64 (cmpL vs us)) ∧ CompS w M a b c d c0 d0 vs us w' :=
  (compare_ref a b vs us M W h.2.2.2.2.2.2.1 h.1 h.2.1).mono fun e w' ⟨he, hb⟩ => ⟨he, h.later hb⟩
theorem compS_x3 {W : World} (h : CompS w M a b c d c0 d0 vs us W) : Calls Try.prog 22 #[d0, c0] W fun e w' => e = .returned (.int .i64 (cmpL us vs)) ∧ CompS w M a b c d c0 d0 vs us w' :=
  (compare_own d0 c0 us vs M W h.2.2.2.2.2.2.1 h.2.2.2.1 h.2.2.1).mono fun e w' ⟨he, hb⟩ => ⟨he, h.later hb⟩
theorem compS_x4 {W : World} (h : CompS w M a b c d c0 d0 vs us W) : Calls Try.prog 23 #[b, a] W fun e w' => e = .returned (.int .i64 (cmpL us vs)) ∧ CompS w M a b c d c0 d0 vs us w' :=
  (compare_ref b a us vs M W h.2.2.2.2.2.2.1 h.2.1 h.1).mono fun e w' ⟨he, hb⟩ => ⟨he, h.later hb⟩
theorem compS_y1 {W : World} (h : CompS w M a b c d c0 d0 vs us W) (hr : (vs.length + 1) * 32 ≤ 140737488355328) : Calls Try.prog 21 #[a] W fun e w' => ∃ r, e = .returned r ∧ SeesV w' w'.heap.size r (vs ++ [markV]) ∧ CompS w M a b c d c0 d0 vs us w' :=
  (room_any a vs M W h.2.2.2.2.2.2.1 h.1 hr).mono fun e w' ⟨g, cap, he, ho, hb⟩ => ⟨_, he, by have := ho.sees (us := vs ++ [markV]) (by simp) (by rw [List.take_length]) (by simp) (by simp; omega); simpa using this, h.later (hb.mono h.2.2.2.2.2.2.1)⟩
theorem compS_y2 {W : World} (h : CompS w M a b c d c0 d0 vs us W) (hr : (us.length + 1) * 32 ≤ 140737488355328) : Calls Try.prog 21 #[b] W fun e w' => ∃ r, e = .returned r ∧ SeesV w' w'.heap.size r (us ++ [markV]) ∧ CompS w M a b c d c0 d0 vs us w' :=
  (room_any b us M W h.2.2.2.2.2.2.1 h.2.1 hr).mono fun e w' ⟨g, cap, he, ho, hb⟩ => ⟨_, he, by have := ho.sees (us := us ++ [markV]) (by simp) (by rw [List.take_length]) (by simp) (by simp; omega); simpa using this, h.later (hb.mono h.2.2.2.2.2.2.1)⟩
theorem compS_z1 {W : World} {r : Value} (h : CompS w M a b c d c0 d0 vs us W) (hr : SeesV W W.heap.size r (vs ++ [markV])) : Calls Try.prog 24 #[c, r] W fun e w' => e = .returned (.bool true) ∧ CompS w M a b c d c0 d0 vs us w' :=
  (same_true c r _ W.heap.size W (Nat.le_refl _) (h.2.2.2.2.1.mono h.2.2.2.2.2.2.1) hr).mono fun e w' ⟨he, hb⟩ => ⟨he, h.later (hb.mono h.2.2.2.2.2.2.1)⟩
theorem compS_z2 {W : World} {r : Value} (h : CompS w M a b c d c0 d0 vs us W) (hr : SeesV W W.heap.size r (us ++ [markV])) : Calls Try.prog 24 #[d, r] W fun e w' => e = .returned (.bool true) ∧ CompS w M a b c d c0 d0 vs us w' :=
  (same_true d r _ W.heap.size W (Nat.le_refl _) (h.2.2.2.2.2.1.mono h.2.2.2.2.2.2.1) hr).mono fun e w' ⟨he, hb⟩ => ⟨he, h.later (hb.mono h.2.2.2.2.2.2.1)⟩
theorem compS_v1 {W : World} (h : CompS w M a b c d c0 d0 vs us W) (x y : Int × Int × ByteArray) : Calls Try.prog 25 #[.agg #[.int .i64 x.1, .int .i64 x.2.1, .string x.2.2], .agg #[.int .i64 y.1, .int .i64 y.2.1, .string y.2.2]] W fun e w' => e = .returned (.int .i64 (cmpV x y)) ∧ CompS w M a b c d c0 d0 vs us w' :=
  (cmpVal x y W).mono fun e w' ⟨he, hb⟩ => ⟨he, h.later (hb.mono h.2.2.2.2.2.2.1)⟩
theorem compS_v2 {W : World} (h : CompS w M a b c d c0 d0 vs us W) (x y : Int × Int × ByteArray) : Calls Try.prog 26 #[.agg #[.int .i64 x.1, .int .i64 x.2.1, .string x.2.2], .agg #[.int .i64 y.1, .int .i64 y.2.1, .string y.2.2]] W fun e w' => e = .returned (.int .i64 (cmpV x y)) ∧ CompS w M a b c d c0 d0 vs us w' :=
  (ref_cmpVal x y W).mono fun e w' ⟨he, hb⟩ => ⟨he, h.later (hb.mono h.2.2.2.2.2.2.1)⟩
end
end Go.Proofs.Ytbkaahmkaphfoab
