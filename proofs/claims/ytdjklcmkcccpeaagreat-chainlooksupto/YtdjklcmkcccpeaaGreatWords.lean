import Derived.Test.YtdjklcmkcccpeaaGreatRows
import Derived.WalkKit
import Derived.ProofKit
import Derived.OpenShut
import Derived.ShutString
import Derived.WalkLawsBesides
import Derived.Outline
import Derived.Laws.BitsAllLaws
namespace Go.Proofs.YtdjklcmkcccpeaaGreat
open Go.ChangeShapes Go.WideShapes Go.ChangeAt Go.RowKit

def timeV (t : Int) : Int × Int := if t ≤ 4611686018427387903 then (t, 0) else (0, 10)
def txnV (t : Int) : Int × Int := if t ≤ 4611686018427387903 then (9223372036854775808 + t, 0) else (0, 10)
def splitV (w : Int) : Int × Int := if w ≤ 4611686018427387903 then (1, w) else if w = 9223372036854775807 then (3, 0) else if 9223372036854775808 ≤ w ∧ w ≤ 13835058055282163711 then (2, w - 9223372036854775808) else (0, 0)
def linkV (s : Int) (m : Bool) : Int × Int := if 0 ≤ s ∧ s ≤ 2147483647 then (2 * s + (if m then 1 else 0), 0) else (0, 10)
def ofLinkV (w : Int) : Int × Bool × Int := if w / 2 ≤ 2147483647 then (w / 2, w % 2 == 1, 0) else (0, false, 10)

theorem tup2 {k l : IntKind} {a b : Int} {c : Int × Int} (h : c = (a, b)) : Ending.returned (.tuple #[.int k a, .int l b]) = .returned (.tuple #[.int k c.1, .int l c.2]) := by
  rw [h]
theorem tup3 {k l : IntKind} {a b : Int} {x : Bool} {c : Int × Bool × Int} (h : c = (a, x, b)) : Ending.returned (.tuple #[.int k a, .bool x, .int l b]) = .returned (.tuple #[.int k c.1, .bool c.2.1, .int l c.2.2]) := by
  rw [h]
theorem or_top (t : Int) (h0 : 0 ≤ t) (h : t ≤ 4611686018427387903) : bits .or .u64 9223372036854775808 t = 9223372036854775808 + t := by
  rw [u64_or _ _ (by omega) (by omega) (by omega) (by omega)]
  have := nat_join 63 9223372036854775808 t.toNat (by decide) (by omega)
  simp only [show (9223372036854775808 : Int).toNat = 9223372036854775808 from rfl]
  rw [this]; omega
theorem or_one (t : Int) (h0 : 0 ≤ t) (h : t ≤ 2147483647) : bits .or .u64 (t * 2) 1 = 2 * t + 1 := by
  rw [u64_or _ _ (by omega) (by omega) (by omega) (by omega)]
  have := nat_join 1 (t * 2).toNat 1 (by omega) (by decide)
  simp only [show (1 : Int).toNat = 1 from rfl]
  rw [this]; omega
theorem and_one (t : Int) (h0 : 0 ≤ t) (h : t ≤ 18446744073709551615) : (bits .and .u64 t 1 != 0) = (t % 2 == 1) := by
  rw [u64_and _ _ (by omega) (by omega) (by omega) (by omega)]
  have := nat_mask1 t.toNat
  simp only [show (1 : Int).toNat = 1 from rfl]
  rw [this, Bool.eq_iff_iff, bne_iff_ne, beq_iff_eq]; omega
theorem link12 (x : Int) (m : Bool) (w : World) (h0 : -9223372036854775808 ≤ x) (h1 : x ≤ 9223372036854775807) :
    Calls Tryz.prog 113 #[.int .i64 x, .bool m] w fun e w' => e = .returned (.tuple #[.int .u64 (linkV x m).1, .int .i64 (linkV x m).2]) ∧ w' = w := by
  by_cases hx : 0 ≤ x ∧ x ≤ 2147483647
  · obtain ⟨a, b⟩ := hx
    cases m
    · go_enter Tryz.func113, Tryz.ntmps113
      go_wp2
      go_ret2
      exact ⟨tup2 (by unfold linkV; rw [if_pos ⟨a, b⟩]; simp; try omega), rfl⟩
    · go_enter Tryz.func113, Tryz.ntmps113
      go_wp2
      go_ret2
      exact ⟨tup2 (by unfold linkV; rw [if_pos ⟨a, b⟩]; first | (rw [or_one x a b]; simp; done) | (simp; done) | (simp; omega)), rfl⟩
  · go_enter Tryz.func113, Tryz.ntmps113
    go_wp2
    all_goals go_ret2
    all_goals first | (exfalso; omega) | exact ⟨tup2 (by unfold linkV; rw [if_neg hx]), rfl⟩
theorem link17 (x : Int) (m : Bool) (w : World) (h0 : -9223372036854775808 ≤ x) (h1 : x ≤ 9223372036854775807) :
    Calls Tryz.prog 188 #[.int .i64 x, .bool m] w fun e w' => e = .returned (.tuple #[.int .u64 (linkV x m).1, .int .i64 (linkV x m).2]) ∧ w' = w := by
  by_cases hx : 0 ≤ x ∧ x ≤ 2147483647
  · obtain ⟨a, b⟩ := hx
    cases m
    · go_enter Tryz.func188, Tryz.ntmps188
      go_wp2
      go_ret2
      exact ⟨tup2 (by unfold linkV; rw [if_pos ⟨a, b⟩]; simp; try omega), rfl⟩
    · go_enter Tryz.func188, Tryz.ntmps188
      go_wp2
      go_ret2
      exact ⟨tup2 (by unfold linkV; rw [if_pos ⟨a, b⟩]; first | (rw [or_one x a b]; simp; done) | (simp; done) | (simp; omega)), rfl⟩
  · go_enter Tryz.func188, Tryz.ntmps188
    go_wp2
    all_goals go_ret2
    all_goals first | (exfalso; omega) | exact ⟨tup2 (by unfold linkV; rw [if_neg hx]), rfl⟩
theorem of13 (x : Int) (w : World) (h0 : 0 ≤ x) (h1 : x ≤ 18446744073709551615) :
    Calls Tryz.prog 134 #[.int .u64 x] w fun e w' => e = .returned (.tuple #[.int .i64 (ofLinkV x).1, .bool (ofLinkV x).2.1, .int .i64 (ofLinkV x).2.2]) ∧ w' = w := by
  go_enter Tryz.func134, Tryz.ntmps134
  go_wp2
  all_goals go_ret3
  · exact ⟨tup3 (by unfold ofLinkV; rw [if_neg (by omega)]), rfl⟩
  · exact ⟨tup3 (by unfold ofLinkV; rw [if_pos (by assumption)]; rw [and_one x h0 h1]), rfl⟩
theorem of18 (x : Int) (w : World) (h0 : 0 ≤ x) (h1 : x ≤ 18446744073709551615) :
    Calls Tryz.prog 223 #[.int .u64 x] w fun e w' => e = .returned (.tuple #[.int .i64 (ofLinkV x).1, .bool (ofLinkV x).2.1, .int .i64 (ofLinkV x).2.2]) ∧ w' = w := by
  go_enter Tryz.func223, Tryz.ntmps223
  go_wp2
  all_goals go_ret3
  · exact ⟨tup3 (by unfold ofLinkV; rw [if_neg (by omega)]), rfl⟩
  · exact ⟨tup3 (by unfold ofLinkV; rw [if_pos (by assumption)]), rfl⟩
end Go.Proofs.YtdjklcmkcccpeaaGreat
