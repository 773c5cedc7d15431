import Derived.Test.YtngkooonfldphaaJudLaw
namespace Go.Proofs.Ytngkooonfldphaa
open Go.ChangeShapes Go.WideShapes Go.ChangeAt Go.RowKit
set_option linter.unusedVariables false
set_option maxRecDepth 100000
theorem fate_no (e a : Int) (w : World) : Calls Try.prog 7 #[.bool false, .int .u64 e, .int .u64 a] w fun x w' => x = .returned (.bool false) ∧ w' = w := by
  go_enter Try.func7, Try.ntmps7
  go_wp2
  go_ret
  exact ⟨rfl, rfl⟩
theorem fate_le (e a : Int) (h : e ≤ a) (w : World) : Calls Try.prog 7 #[.bool true, .int .u64 e, .int .u64 a] w fun x w' => x = .returned (.bool true) ∧ w' = w := by
  go_enter Try.func7, Try.ntmps7
  go_wp2
  go_ret
  exact ⟨by simp, rfl⟩
theorem fate_gt (e a : Int) (h : a < e) (w : World) : Calls Try.prog 7 #[.bool true, .int .u64 e, .int .u64 a] w fun x w' => x = .returned (.bool false) ∧ w' = w := by
  go_enter Try.func7, Try.ntmps7
  go_wp2
  go_ret
  exact ⟨by simp; exact h, rfl⟩
/-- The law behind its four calls of the tables, the answers given. -/
def Fates (s e a l b z : Int) : Prop := ∀ w : World, jB false s e a = b → jE false s e a = z → Calls Try.prog 3 #[.int .i64 s, .int .u64 e, .int .u64 a, .int .u64 l] w fun x w' => x = .returned (.bool true) ∧ w' = w
theorem fates1 (e a l : Int) : Fates 1 e a l 0 1 := by
  intro w hB hE
  go_enter Try.func3, Try.ntmps3
  go_wp2_with fail
  refine (judgeB _ _ _ _ _).mono ?_
  rintro x w1 ⟨rfl, rfl⟩
  rw [hB]
  go_wp2_with fail
  refine (judgeE _ _ _ _ _).mono ?_
  rintro x w1 ⟨rfl, rfl⟩
  rw [hE]
  clear hB hE
  go_wp2_with fail
  refine (judgeB _ _ _ _ _).mono ?_
  rintro x w1 ⟨rfl, rfl⟩
  rw [jB_own]
  go_wp2_with fail
  refine (judgeE _ _ _ _ _).mono ?_
  rintro x w1 ⟨rfl, rfl⟩
  rw [jE_own]
  rcases Int.lt_or_le a l with h | h
  rotate_left
  · go_wp2
    go_ret
    exact ⟨rfl, rfl⟩
  · go_wp2_with fail
    refine (fate_gt _ _ h _).mono ?_
    rintro x w1 ⟨rfl, rfl⟩
    go_wp2_with fail
    refine (fate_no _ _ _).mono ?_
    rintro x w1 ⟨rfl, rfl⟩
    go_wp2
    go_ret
    exact ⟨rfl, rfl⟩
theorem fates20 (a l : Int) : Fates 2 0 a l 5 5 := by
  intro w hB hE
  go_enter Try.func3, Try.ntmps3
  go_wp2_with fail
  refine (judgeB _ _ _ _ _).mono ?_
  rintro x w1 ⟨rfl, rfl⟩
  rw [hB]
  go_wp2_with fail
  refine (judgeE _ _ _ _ _).mono ?_
  rintro x w1 ⟨rfl, rfl⟩
  rw [hE]
  clear hB hE
  go_wp2_with fail
  refine (judgeB _ _ _ _ _).mono ?_
  rintro x w1 ⟨rfl, rfl⟩
  rw [jB_own]
  go_wp2_with fail
  refine (judgeE _ _ _ _ _).mono ?_
  rintro x w1 ⟨rfl, rfl⟩
  rw [jE_own]
  go_wp2
  go_ret
  exact ⟨rfl, rfl⟩
theorem fates2a (e a l : Int) (h0 : e ≠ 0) (h : e ≤ a) : Fates 2 e a l 2 3 := by
  intro w hB hE
  go_enter Try.func3, Try.ntmps3
  go_wp2_with fail
  refine (judgeB _ _ _ _ _).mono ?_
  rintro x w1 ⟨rfl, rfl⟩
  rw [hB]
  go_wp2_with fail
  refine (judgeE _ _ _ _ _).mono ?_
  rintro x w1 ⟨rfl, rfl⟩
  rw [hE]
  clear hB hE
  go_wp2_with fail
  refine (judgeB _ _ _ _ _).mono ?_
  rintro x w1 ⟨rfl, rfl⟩
  rw [jB_own]
  go_wp2_with fail
  refine (judgeE _ _ _ _ _).mono ?_
  rintro x w1 ⟨rfl, rfl⟩
  rw [jE_own]
  go_wp2_with fail
  refine (fate_le _ _ h _).mono ?_
  rintro x w1 ⟨rfl, rfl⟩
  go_wp2_with fail
  refine (fate_no _ _ _).mono ?_
  rintro x w1 ⟨rfl, rfl⟩
  go_wp2
  go_ret
  exact ⟨rfl, rfl⟩
theorem fates2b (e a l : Int) (h0 : e ≠ 0) (h : a < e) : Fates 2 e a l 0 1 := by
  intro w hB hE
  go_enter Try.func3, Try.ntmps3
  go_wp2_with fail
  refine (judgeB _ _ _ _ _).mono ?_
  rintro x w1 ⟨rfl, rfl⟩
  rw [hB]
  go_wp2_with fail
  refine (judgeE _ _ _ _ _).mono ?_
  rintro x w1 ⟨rfl, rfl⟩
  rw [hE]
  clear hB hE
  go_wp2_with fail
  refine (judgeB _ _ _ _ _).mono ?_
  rintro x w1 ⟨rfl, rfl⟩
  rw [jB_own]
  go_wp2_with fail
  refine (judgeE _ _ _ _ _).mono ?_
  rintro x w1 ⟨rfl, rfl⟩
  rw [jE_own]
  go_wp2_with fail
  refine (fate_gt _ _ h _).mono ?_
  rintro x w1 ⟨rfl, rfl⟩
  go_wp2_with fail
  refine (fate_no _ _ _).mono ?_
  rintro x w1 ⟨rfl, rfl⟩
  go_wp2
  go_ret
  exact ⟨rfl, rfl⟩
theorem fates3a (e a l : Int) (h : e ≤ a) : Fates 3 e a l 1 0 := by
  intro w hB hE
  go_enter Try.func3, Try.ntmps3
  go_wp2_with fail
  refine (judgeB _ _ _ _ _).mono ?_
  rintro x w1 ⟨rfl, rfl⟩
  rw [hB]
  go_wp2_with fail
  refine (judgeE _ _ _ _ _).mono ?_
  rintro x w1 ⟨rfl, rfl⟩
  rw [hE]
  clear hB hE
  go_wp2_with fail
  refine (judgeB _ _ _ _ _).mono ?_
  rintro x w1 ⟨rfl, rfl⟩
  rw [jB_own]
  go_wp2_with fail
  refine (judgeE _ _ _ _ _).mono ?_
  rintro x w1 ⟨rfl, rfl⟩
  rw [jE_own]
  go_wp2_with fail
  refine (fate_le _ _ h _).mono ?_
  rintro x w1 ⟨rfl, rfl⟩
  go_wp2
  go_ret
  exact ⟨rfl, rfl⟩
theorem fates3b (e a l : Int) (h : a < e) : Fates 3 e a l 0 1 := by
  intro w hB hE
  go_enter Try.func3, Try.ntmps3
  go_wp2_with fail
  refine (judgeB _ _ _ _ _).mono ?_
  rintro x w1 ⟨rfl, rfl⟩
  rw [hB]
  go_wp2_with fail
  refine (judgeE _ _ _ _ _).mono ?_
  rintro x w1 ⟨rfl, rfl⟩
  rw [hE]
  clear hB hE
  go_wp2_with fail
  refine (judgeB _ _ _ _ _).mono ?_
  rintro x w1 ⟨rfl, rfl⟩
  rw [jB_own]
  go_wp2_with fail
  refine (judgeE _ _ _ _ _).mono ?_
  rintro x w1 ⟨rfl, rfl⟩
  rw [jE_own]
  go_wp2_with fail
  refine (fate_gt _ _ h _).mono ?_
  rintro x w1 ⟨rfl, rfl⟩
  go_wp2
  go_ret
  exact ⟨rfl, rfl⟩
theorem fates4 (e a l : Int) : Fates 4 e a l 0 1 := by
  intro w hB hE
  go_enter Try.func3, Try.ntmps3
  go_wp2_with fail
  refine (judgeB _ _ _ _ _).mono ?_
  rintro x w1 ⟨rfl, rfl⟩
  rw [hB]
  go_wp2_with fail
  refine (judgeE _ _ _ _ _).mono ?_
  rintro x w1 ⟨rfl, rfl⟩
  rw [hE]
  clear hB hE
  go_wp2_with fail
  refine (judgeB _ _ _ _ _).mono ?_
  rintro x w1 ⟨rfl, rfl⟩
  rw [jB_own]
  go_wp2_with fail
  refine (judgeE _ _ _ _ _).mono ?_
  rintro x w1 ⟨rfl, rfl⟩
  rw [jE_own]
  go_wp2_with fail
  refine (fate_no _ _ _).mono ?_
  rintro x w1 ⟨rfl, rfl⟩
  go_wp2
  go_ret
  exact ⟨rfl, rfl⟩
theorem fates5 (e a l : Int) : Fates 5 e a l 4 4 := by
  intro w hB hE
  go_enter Try.func3, Try.ntmps3
  go_wp2_with fail
  refine (judgeB _ _ _ _ _).mono ?_
  rintro x w1 ⟨rfl, rfl⟩
  rw [hB]
  go_wp2_with fail
  refine (judgeE _ _ _ _ _).mono ?_
  rintro x w1 ⟨rfl, rfl⟩
  rw [hE]
  clear hB hE
  go_wp2_with fail
  refine (judgeB _ _ _ _ _).mono ?_
  rintro x w1 ⟨rfl, rfl⟩
  rw [jB_own]
  go_wp2_with fail
  refine (judgeE _ _ _ _ _).mono ?_
  rintro x w1 ⟨rfl, rfl⟩
  rw [jE_own]
  go_wp2
  go_ret
  exact ⟨rfl, rfl⟩
theorem fatesN (s e a l : Int) (h1 : s ≠ 1) (h2 : s ≠ 2) (h3 : s ≠ 3) (h4 : s ≠ 4) (h5 : s ≠ 5) : Fates s e a l 0 0 := by
  intro w hB hE
  go_enter Try.func3, Try.ntmps3
  go_wp2_with fail
  refine (judgeB _ _ _ _ _).mono ?_
  rintro x w1 ⟨rfl, rfl⟩
  rw [hB]
  go_wp2_with fail
  refine (judgeE _ _ _ _ _).mono ?_
  rintro x w1 ⟨rfl, rfl⟩
  rw [hE]
  clear hB hE
  go_wp2_with fail
  refine (judgeB _ _ _ _ _).mono ?_
  rintro x w1 ⟨rfl, rfl⟩
  rw [jB_own]
  go_wp2_with fail
  refine (judgeE _ _ _ _ _).mono ?_
  rintro x w1 ⟨rfl, rfl⟩
  rw [jE_own]
  go_wp2
  go_ret
  exact ⟨rfl, rfl⟩
theorem fates_walk (s e a l : Int) (w : World) : Calls Try.prog 3 #[.int .i64 s, .int .u64 e, .int .u64 a, .int .u64 l] w fun x w' => x = .returned (.bool true) ∧ w' = w := by
  by_cases h1 : s = 1
  · subst h1; exact fates1 e a l w rfl rfl
  by_cases h2 : s = 2
  · subst h2
    by_cases h0 : e = 0
    · subst h0; exact fates20 a l w rfl rfl
    · rcases Int.lt_or_le a e with h | h
      · exact fates2b e a l h0 h w (by unfold jB; simp [h0]; omega) (by unfold jE; simp [h0]; omega)
      · exact fates2a e a l h0 h w (by unfold jB; simp [h0]; omega) (by unfold jE; simp [h0]; omega)
  by_cases h3 : s = 3
  · subst h3
    rcases Int.lt_or_le a e with h | h
    · exact fates3b e a l h w (by unfold jB; simp; omega) (by unfold jE; simp; omega)
    · exact fates3a e a l h w (by unfold jB; simp; omega) (by unfold jE; simp; omega)
  by_cases h4 : s = 4
  · subst h4; exact fates4 e a l w rfl rfl
  by_cases h5 : s = 5
  · subst h5; exact fates5 e a l w rfl rfl
  exact fatesN s e a l h1 h2 h3 h4 h5 w (by unfold jB; simp [h2, h3, h5]) (by unfold jE; simp [h1, h2, h3, h4, h5])
end Go.Proofs.Ytngkooonfldphaa
