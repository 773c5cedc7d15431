import Derived.Test.YtegnmflbbpfdhaaGreatSdP
import Derived.Test.YtegnmflbbpfdhaaGreatSchP3
namespace Go.Proofs.YtegnmflbbpfdhaaGreat
open Go.ChangeShapes Go.WideShapes Go.ChangeAt Go.RowKit Go.MuLone Go.RwLone
set_option linter.unusedVariables false
theorem one_small (b : Nat) (h : b < 256) : (one b).2.2 ≤ 300 := by
  unfold one
  repeat' split
  all_goals (simp; try omega)
theorem dL_small : ∀ (n : Nat) (l : List UInt8), l.length ≤ n → ∀ p ∈ dL l, p.2.2 ≤ 300
  | _, [], _ => by simp [dL]
  | _, [b], _ => by
    intro p hp
    simp [dL] at hp
    subst hp
    exact one_small _ b.toNat_lt
  | n + 1, b :: c :: r, h => by
    simp only [List.length_cons] at h
    intro p hp
    by_cases h1 : b.toNat / 32 = 1
    · simp only [dL, h1, if_true, List.mem_cons] at hp
      rcases hp with rfl | hp
      · have := c.toNat_lt
        simp only
        omega
      · exact dL_small n r (by omega) p hp
    · simp only [dL, h1, if_false, List.mem_cons] at hp
      rcases hp with rfl | hp
      · exact one_small _ b.toNat_lt
      · exact dL_small n (c :: r) (by simp; omega) p hp
end Go.Proofs.YtegnmflbbpfdhaaGreat
