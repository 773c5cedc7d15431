import Derived.Test.YtfofionocnbohaaDoorCards
import Derived.JoinedCond
import Derived.SevenTiedAt
import Derived.KernelRfl
import Derived.WalkKit
namespace Go.Proofs.YtfofionocnbohaaDoor.planLikesUpto
set_option maxHeartbeats 100000000 in
theorem closed_facts : joinedFacts Tryd.pinned.checked.prog 3 Tryd.f3 (Rows.OpenSpec.upto Rows.planLikesSpec).bare Rows.planLikesUptoRow = true := by
  unfold joinedFacts
  simp only [Bool.and_eq_true]
  repeat' apply And.intro
  all_goals (as_aux_lemma => kernel_rfl)
set_option maxHeartbeats 100000000 in
theorem goes_fact : false = Rows.planLikesUptoRow.goesBy Tryd.pinned.checked.prog := by kernel_rfl
end Go.Proofs.YtfofionocnbohaaDoor.planLikesUpto
