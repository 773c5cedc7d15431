import Derived.Test.YteekompojgbkhaaGreatRows
import Derived.WalkKit
import Derived.ProofKit
import Derived.OpenShut
import Derived.ShutString
import Derived.WalkLawsBesides
import Derived.Outline
import Derived.Laws.BitsAllLaws
import Derived.Deep.RegionHeld3
namespace Go.Proofs.YteekompojgbkhaaGreat
open Go.ChangeShapes Go.WideShapes Go.ChangeAt Go.RowKit

def timeV (t : Int) : Int × Int := if t ≤ 4611686018427387903 then (t, 0) else (0, 10)
def txnV (t : Int) : Int × Int := if t ≤ 4611686018427387903 then (9223372036854775808 + t, 0) else (0, 10)
def splitV (w : Int) : Int × Int := if w ≤ 4611686018427387903 then (1, w) else if w = 9223372036854775807 then (3, 0) else if 9223372036854775808 ≤ w ∧ w ≤ 13835058055282163711 then (2, w - 9223372036854775808) else (0, 0)
def linkV (s : Int) (m : Bool) : Int × Int := if 0 ≤ s ∧ s ≤ 2147483647 then (2 * s + (if m then 1 else 0), 0) else (0, 10)
def ofLinkV (w : Int) : Int × Bool × Int := if w / 2 ≤ 2147483647 then (w / 2, w % 2 == 1, 0) else (0, false, 10)

theorem tup2 {k l : IntKind} {a b : Int} {c : Int × Int} (h : c = (a, b)) : Ending.returned (.tuple #[.int k a, .int l b]) = .returned (.tuple #[.int k c.1, .int l c.2]) := by
  rw [h]
theorem tup3 {k l : IntKind} {a b : Int} {x : Bool} {c : Int × Bool × Int} (h : c = (a, x, b)) : Ending.returned (.tuple #[.int k a, .bool x, .int l b]) = .returned (.tuple #[.int k c.1, .bool c.2.1, .int l c.2.2]) := by
  rw [h]
theorem or_one (t : Int) (h0 : 0 ≤ t) (h : t ≤ 2147483647) : bits .or .u64 (t * 2) 1 = 2 * t + 1 := by
  rw [u64_or _ _ (by omega) (by omega) (by omega) (by omega)]
  have := nat_join 1 (t * 2).toNat 1 (by omega) (by decide)
  simp only [show (1 : Int).toNat = 1 from rfl]
  rw [this]; omega
theorem and_one (t : Int) (h0 : 0 ≤ t) (h : t ≤ 18446744073709551615) : (bits .and .u64 t 1 != 0) = (t % 2 == 1) := by
  rw [u64_and _ _ (by omega) (by omega) (by omega) (by omega)]
  have := nat_mask1 t.toNat
  simp only [show (1 : Int).toNat = 1 from rfl]
  rw [this, Bool.eq_iff_iff, bne_iff_ne, beq_iff_eq]; omega
theorem link12 (x : Int) (m : Bool) (w : World) (h0 : -9223372036854775808 ≤ x) (h1 : x ≤ 9223372036854775807) :
    Calls Tryz.prog 109 #[.int .i64 x, .bool m] w fun e w' => e = .returned (.tuple #[.int .u64 (linkV x m).1, .int .i64 (linkV x m).2]) ∧ w' = w := by
  by_cases hx : 0 ≤ x ∧ x ≤ 2147483647
  · obtain ⟨a, b⟩ := hx
    cases m
    · go_enter Tryz.func109, Tryz.ntmps109
      go_wp2
      go_ret2
      exact ⟨tup2 (by unfold linkV; rw [if_pos ⟨a, b⟩]; simp; try omega), rfl⟩
    · go_enter Tryz.func109, Tryz.ntmps109
      go_wp2
      go_ret2
      exact ⟨tup2 (by unfold linkV; rw [if_pos ⟨a, b⟩]; first | (rw [or_one x a b]; simp; done) | (simp; done) | (simp; omega)), rfl⟩
  · go_enter Tryz.func109, Tryz.ntmps109
    go_wp2
    all_goals go_ret2
    all_goals first | (exfalso; omega) | exact ⟨tup2 (by unfold linkV; rw [if_neg hx]), rfl⟩
theorem of13 (x : Int) (w : World) (h0 : 0 ≤ x) (h1 : x ≤ 18446744073709551615) :
    Calls Tryz.prog 126 #[.int .u64 x] w fun e w' => e = .returned (.tuple #[.int .i64 (ofLinkV x).1, .bool (ofLinkV x).2.1, .int .i64 (ofLinkV x).2.2]) ∧ w' = w := by
  go_enter Tryz.func126, Tryz.ntmps126
  go_wp2
  all_goals go_ret3
  · exact ⟨tup3 (by unfold ofLinkV; rw [if_neg (by omega)]), rfl⟩
  · exact ⟨tup3 (by unfold ofLinkV; rw [if_pos (by assumption)]; rw [and_one x h0 h1]), rfl⟩
end Go.Proofs.YteekompojgbkhaaGreat

namespace Go.Proofs.YteekompojgbkhaaGreat
theorem rgO {ops : Array Oper} {i : Nat} {o : Oper} {r : List Oper} (he : ops.toList.drop i = o :: r) : ops[i]? = some o := by
  have h : (ops.toList.drop i)[0]? = some o := by rw [he]; rfl
  rw [List.getElem?_drop] at h
  simpa using h
/-- Number i of a drawn region is taken. -/
theorem rgT (i : Nat) {P : Program} {md : Region.Mode} {ops : Array Oper} {Q : Exit → Act → World → Prop} {S : World → Prop} {o : Oper} {r : List Oper} {v : Value} {fuel : Nat} {listed : Array Bool} {a a' : Act} {w : World}
    (he : ops.toList.drop i = o :: r := by rfl)
    (hc : (Region.noSelect ops && Region.free md ops listed i && (Region.ready md ops listed).contains i) = true := by kernel_rfl)
    (hQ : ∀ c a w, Q (.panic c) (a.put o.dst v) w → Q (.panic c) a w := by exact fun _ _ _ h => h)
    (hw : Region.wanted o (yielded ops a.tmps) = true := by rfl)
    (hS : S w := by assumption)
    (hy : ∀ w, S w → (execOp a.eval o).run P w = .ok (.value v) w := by (intro w hSw; (try dsimp only at hSw); go_simp; (try first | (rw [dif_pos (by omega)]; simp only [Result.andThen_ok]) | rw [if_pos (by omega)]); (try with_reducible rfl); done))
    (ha : a.put o.dst v = a' := by (try simp only [Act.put, List.setIfInBounds_toArray, List.set_cons_zero, List.set_cons_succ]); rfl)
    (h : wpAnyH P md ops Q S fuel (listed.setIfInBounds i true) a' w) : wpAnyH P md ops Q S (fuel + 1) listed a w := by
  subst ha
  simp only [Bool.and_eq_true] at hc
  exact wpAnyH_take (rgO he) hc.1.1 hc.1.2 hc.2 hQ (Or.inl ⟨hw, hy⟩) hS h
/-- Number i, which is not wanted, is passed over. -/
theorem rgK (i : Nat) {P : Program} {md : Region.Mode} {ops : Array Oper} {Q : Exit → Act → World → Prop} {S : World → Prop} {o : Oper} {r : List Oper} {fuel : Nat} {listed : Array Bool} {a a' : Act} {w : World}
    (he : ops.toList.drop i = o :: r := by rfl)
    (hc : (Region.noSelect ops && Region.free md ops listed i && (Region.ready md ops listed).contains i) = true := by kernel_rfl)
    (hQ : ∀ c a w, Q (.panic c) (a.put o.dst undef) w → Q (.panic c) a w := by exact fun _ _ _ h => h)
    (hw : Region.wanted o (yielded ops a.tmps) = false := by rfl)
    (hS : S w := by assumption)
    (ha : a.put o.dst undef = a' := by (try simp only [Act.put, List.setIfInBounds_toArray, List.set_cons_zero, List.set_cons_succ]); rfl)
    (h : wpAnyH P md ops Q S fuel (listed.setIfInBounds i true) a' w) : wpAnyH P md ops Q S (fuel + 1) listed a w := by
  subst ha
  simp only [Bool.and_eq_true] at hc
  exact wpAnyH_take (rgO he) hc.1.1 hc.1.2 hc.2 hQ (Or.inr ⟨hw, rfl⟩) hS h
theorem rgA (i : Nat) {P : Program} {md : Region.Mode} {ops : Array Oper} {Q : Exit → Act → World → Prop} {S : World → Prop} {o : Oper} {r : List Oper} {fuel : Nat} {listed : Array Bool} {a : Act} {w : World} {rs : List Nat} (he : ops.toList.drop i = o :: r)
    (h : ∀ K : Act → World → Prop, Shut (∀ a w, S w → (S w → wpAnyH P md ops Q S fuel (listed.setIfInBounds i true) a w) → K a w) → if Region.wanted o (yielded ops a.tmps) = true then Oper.wp P o a w K Q else K (a.put o.dst undef) w) (hs : AllReadyH P md ops Q S fuel listed a w rs) : AllReadyH P md ops Q S fuel listed a w (i :: rs) := AllReadyH.cons (rgO he) h hs
/-- Number i alone is ready. -/
theorem rgS (i : Nat) {P : Program} {md : Region.Mode} {ops : Array Oper} {Q : Exit → Act → World → Prop} {S : World → Prop} {o : Oper} {r : List Oper} {fuel : Nat} {listed : Array Bool} {a : Act} {w : World} (he : ops.toList.drop i = o :: r := by rfl)
    (hr : Region.ready md ops listed = [i] := by kernel_rfl)
    (h : ∀ K : Act → World → Prop, Shut (∀ a w, S w → (S w → wpAnyH P md ops Q S fuel (listed.setIfInBounds i true) a w) → K a w) → if Region.wanted o (yielded ops a.tmps) = true then Oper.wp P o a w K Q else K (a.put o.dst undef) w) : wpAnyH P md ops Q S (fuel + 1) listed a w :=
  wpAnyH_ready hr (by simp) (AllReadyH.cons (rgO he) h AllReadyH.nil)
end Go.Proofs.YteekompojgbkhaaGreat
