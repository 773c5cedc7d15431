import Derived.Test.YtlidkdnfibfnfaaGreatDoorCards
import Derived.JoinedCond
import Derived.SevenTiedAt
import Derived.KernelRfl
import Derived.WalkKit
namespace Go.Proofs.YtlidkdnfibfnfaaGreatDoor.tongueLexes
set_option maxHeartbeats 100000000 in
theorem closed_facts : joinedFacts Tryz.pinned.checked.prog 3 Tryz.f3 (OpenSpec.ofChange Rows.tongueLexesSpec).bare Rows.tongueLexesRow = true := by
  unfold joinedFacts
  simp only [Bool.and_eq_true]
  repeat' apply And.intro
  all_goals (as_aux_lemma => kernel_rfl)
set_option maxHeartbeats 100000000 in
theorem goes_fact : false = Rows.tongueLexesRow.goesBy Tryz.pinned.checked.prog := by kernel_rfl
end Go.Proofs.YtlidkdnfibfnfaaGreatDoor.tongueLexes
