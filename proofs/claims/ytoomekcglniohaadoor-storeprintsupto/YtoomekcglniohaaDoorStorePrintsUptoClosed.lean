import Derived.Test.YtoomekcglniohaaDoorCards
import Derived.JoinedCond
import Derived.SevenTiedAt
import Derived.KernelRfl
import Derived.WalkKit
namespace Go.Proofs.YtoomekcglniohaaDoor.storePrintsUpto
set_option maxHeartbeats 100000000 in
theorem closed_facts : joinedFacts Tryd.pinned.checked.prog 3 Tryd.f3 (Rows.OpenSpec.upto Rows.storePrintsSpec).bare Rows.storePrintsUptoRow = true := by
  unfold joinedFacts
  simp only [Bool.and_eq_true]
  repeat' apply And.intro
  all_goals (as_aux_lemma => kernel_rfl)
set_option maxHeartbeats 100000000 in
theorem goes_fact : false = Rows.storePrintsUptoRow.goesBy Tryd.pinned.checked.prog := by kernel_rfl
end Go.Proofs.YtoomekcglniohaaDoor.storePrintsUpto
