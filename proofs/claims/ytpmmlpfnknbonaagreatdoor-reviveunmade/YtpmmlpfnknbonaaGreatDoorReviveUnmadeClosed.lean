import Derived.Test.YtpmmlpfnknbonaaGreatDoorCards
import Derived.JoinedCond
import Derived.SevenTiedAt
import Derived.KernelRfl
import Derived.WalkKit
namespace Go.Proofs.YtpmmlpfnknbonaaGreatDoor.reviveUnmade
set_option maxHeartbeats 100000000 in
theorem closed_facts : joinedFacts Tryz.pinned.checked.prog 3 Tryz.f3 (OpenSpec.ofChange Rows.reviveUnmadeSpec).bare Rows.reviveUnmadeRow = true := by
  unfold joinedFacts
  simp only [Bool.and_eq_true]
  repeat' apply And.intro
  all_goals (as_aux_lemma => kernel_rfl)
set_option maxHeartbeats 100000000 in
theorem goes_fact : true = Rows.reviveUnmadeRow.goesBy Tryz.pinned.checked.prog := by kernel_rfl
end Go.Proofs.YtpmmlpfnknbonaaGreatDoor.reviveUnmade
