import Derived.Test.YtkgagbmcmapngaaRows
import Derived.WalkKit
import Derived.ProofKit
import Derived.OpenShut
import Derived.ShutString
import Derived.WalkLawsBesides
import Derived.Outline
import Derived.Laws.BitsAllLaws
namespace Go.Proofs.Ytkgagbmcmapngaa
open Go.ChangeShapes Go.WideShapes Go.ChangeAt Go.RowKit

def timeV (t : Int) : Int × Int := if t ≤ 4611686018427387903 then (t, 0) else (0, 10)
def txnV (t : Int) : Int × Int := if t ≤ 4611686018427387903 then (9223372036854775808 + t, 0) else (0, 10)
def splitV (w : Int) : Int × Int := if w ≤ 4611686018427387903 then (1, w) else if w = 9223372036854775807 then (3, 0) else if 9223372036854775808 ≤ w ∧ w ≤ 13835058055282163711 then (2, w - 9223372036854775808) else (0, 0)
def linkV (s : Int) (m : Bool) : Int × Int := if 0 ≤ s ∧ s ≤ 2147483647 then (2 * s + (if m then 1 else 0), 0) else (0, 10)
def ofLinkV (w : Int) : Int × Bool × Int := if w / 2 ≤ 2147483647 then (w / 2, w % 2 == 1, 0) else (0, false, 10)

theorem tup2 {k l : IntKind} {a b : Int} {c : Int × Int} (h : c = (a, b)) : Ending.returned (.tuple #[.int k a, .int l b]) = .returned (.tuple #[.int k c.1, .int l c.2]) := by
  rw [h]
theorem tup3 {k l : IntKind} {a b : Int} {x : Bool} {c : Int × Bool × Int} (h : c = (a, x, b)) : Ending.returned (.tuple #[.int k a, .bool x, .int l b]) = .returned (.tuple #[.int k c.1, .bool c.2.1, .int l c.2.2]) := by
  rw [h]
theorem or_top (t : Int) (h0 : 0 ≤ t) (h : t ≤ 4611686018427387903) : bits .or .u64 9223372036854775808 t = 9223372036854775808 + t := by
  rw [u64_or _ _ (by omega) (by omega) (by omega) (by omega)]
  have := nat_join 63 9223372036854775808 t.toNat (by decide) (by omega)
  simp only [show (9223372036854775808 : Int).toNat = 9223372036854775808 from rfl]
  rw [this]; omega
theorem or_one (t : Int) (h0 : 0 ≤ t) (h : t ≤ 2147483647) : bits .or .u64 (t * 2) 1 = 2 * t + 1 := by
  rw [u64_or _ _ (by omega) (by omega) (by omega) (by omega)]
  have := nat_join 1 (t * 2).toNat 1 (by omega) (by decide)
  simp only [show (1 : Int).toNat = 1 from rfl]
  rw [this]; omega
theorem and_one (t : Int) (h0 : 0 ≤ t) (h : t ≤ 18446744073709551615) : (bits .and .u64 t 1 != 0) = (t % 2 == 1) := by
  rw [u64_and _ _ (by omega) (by omega) (by omega) (by omega)]
  have := nat_mask1 t.toNat
  simp only [show (1 : Int).toNat = 1 from rfl]
  rw [this, Bool.eq_iff_iff, bne_iff_ne, beq_iff_eq]; omega
theorem split11 (x : Int) (w : World) (h0 : 0 ≤ x) (h1 : x ≤ 18446744073709551615) :
    Calls Try.prog 6 #[.int .u64 x] w fun e w' => e = .returned (.tuple #[.int .i64 (splitV x).1, .int .u64 (splitV x).2]) ∧ w' = w := by
  go_enter Try.func6, Try.ntmps6
  go_wp2
  all_goals go_ret2
  · exact ⟨tup2 (by unfold splitV; rw [if_pos (by assumption)]), rfl⟩
  · have e : x = 9223372036854775807 := by rename_i h; simpa using h
    exact ⟨tup2 (by unfold splitV; rw [if_neg (by omega), if_pos e]), rfl⟩
  all_goals
    have e : ¬ x = 9223372036854775807 := by
      have h : (x == 9223372036854775807) = false := by assumption
      simpa using h
  · exact ⟨tup2 (by unfold splitV; rw [if_neg (by omega), if_neg e, if_pos (by omega)]), rfl⟩
  · exact ⟨tup2 (by unfold splitV; rw [if_neg (by omega), if_neg e, if_neg (by omega)]), rfl⟩
  · exact ⟨tup2 (by unfold splitV; rw [if_neg (by omega), if_neg e, if_neg (by omega)]), rfl⟩
theorem split16 (x : Int) (w : World) (h0 : 0 ≤ x) (h1 : x ≤ 18446744073709551615) :
    Calls Try.prog 7 #[.int .u64 x] w fun e w' => e = .returned (.tuple #[.int .i64 (splitV x).1, .int .u64 (splitV x).2]) ∧ w' = w := by
  go_enter Try.func7, Try.ntmps7
  go_wp2
  all_goals go_ret2
  · exact ⟨tup2 (by unfold splitV; rw [if_pos (by assumption)]), rfl⟩
  · have e : x = 9223372036854775807 := by rename_i h; simpa using h
    exact ⟨tup2 (by unfold splitV; rw [if_neg (by omega), if_pos e]), rfl⟩
  all_goals
    have e : ¬ x = 9223372036854775807 := by
      have h : (x == 9223372036854775807) = false := by assumption
      simpa using h
  · exact ⟨tup2 (by unfold splitV; rw [if_neg (by omega), if_neg e, if_pos (by omega)]), rfl⟩
  · exact ⟨tup2 (by unfold splitV; rw [if_neg (by omega), if_neg e, if_neg (by omega)]), rfl⟩
  · exact ⟨tup2 (by unfold splitV; rw [if_neg (by omega), if_neg e, if_neg (by omega)]), rfl⟩
end Go.Proofs.Ytkgagbmcmapngaa
