import Derived.Lib.SplitLaws
import Derived.Test.YtoomekcglniohaaDoorRows
import Derived.WalkKit
import Derived.ProofKit
import Derived.Below
import Derived.OwnWalk
import Derived.Laws.OwnMore
import Derived.Laws.Rows
import Derived.RegionCalls
namespace Go.Proofs.YtoomekcglniohaaDoor
open Go.ChangeShapes Go.WideShapes Go.ChangeAt Go.RowKit
set_option linter.unusedVariables false
set_option maxRecDepth 100000
/-- The slice value v reads as the list xs, in blocks below B. -/
def SeesG {α : Type} (f : α → Value) (w : World) (B : Nat) (v : Value) (xs : List α) : Prop :=
  ∃ a cap, v = .slice a xs.length cap ∧ xs.length ≤ cap ∧ ∀ i (hi : i < xs.length), ∃ b off, a = some ⟨b, off, none⟩ ∧ b < B ∧ w.cell? ⟨b, off + i, none⟩ = some (f xs[i])
theorem SeesG.later {α : Type} {f : α → Value} {w w' : World} {B : Nat} {v : Value} {xs : List α} (h : SeesG f w B v xs) (hb : Below B w w') : SeesG f w' B v xs := by
  obtain ⟨a, cap, e, hc, hx⟩ := h
  refine ⟨a, cap, e, hc, fun i hi => ?_⟩
  obtain ⟨b, off, e1, e2, e3⟩ := hx i hi
  exact ⟨b, off, e1, e2, by rw [hb.cell e2]; exact e3⟩
theorem SeesG.up {α : Type} {f : α → Value} {w : World} {B C : Nat} {v : Value} {xs : List α} (h : SeesG f w B v xs) (hb : B ≤ C) : SeesG f w C v xs := by
  obtain ⟨a, cap, e, hc, hx⟩ := h
  refine ⟨a, cap, e, hc, fun i hi => ?_⟩
  obtain ⟨b, off, e1, e2, e3⟩ := hx i hi
  exact ⟨b, off, e1, Nat.lt_of_lt_of_le e2 hb, e3⟩
theorem SeesG.form {α : Type} {f : α → Value} {w : World} {B : Nat} {v : Value} {xs : List α} (h : SeesG f w B v xs) : ∃ a cap, v = .slice a xs.length cap := by
  obtain ⟨a, cap, e, _⟩ := h
  exact ⟨a, cap, e⟩
theorem SeesG.cell {α : Type} {f : α → Value} {w : World} {B : Nat} {a : Option Addr} {n cap : Nat} {xs : List α} (h : SeesG f w B (.slice a n cap) xs) (i : Nat) (hi : i < xs.length) : ∃ b off, a = some ⟨b, off, none⟩ ∧ w.cell? ⟨b, off + i, none⟩ = some (f xs[i]) := by
  obtain ⟨a', cap', e, hc, hx⟩ := h
  injection e with e1 e2 e3
  subst e1
  obtain ⟨b, off, e1, _, e3⟩ := hx i hi
  exact ⟨b, off, e1, e3⟩
theorem own_sees {α : Type} {f : α → Value} {w : World} {B : Nat} {e : TypeId} {v : Value} {xs : List α} (h : w.ownsRow B e 1 v xs.length (xs.map f)) : SeesG f w w.heap.size v xs := by
  have hh := h
  rcases h.2 with ⟨rfl, hn⟩ | ⟨g, cap, cur, rfl, hb, hg, hnc, hm, hs, ht⟩
  · exact ⟨none, 0, by rw [hn], by omega, fun i hi => by omega⟩
  · refine ⟨some ⟨g, 0, none⟩, cap, rfl, by omega, fun i hi => ⟨g, 0, rfl, ?_, ?_⟩⟩
    · rcases Nat.lt_or_ge g w.heap.size with h | h
      · exact h
      · rw [Array.getElem?_eq_none h] at hg; cases hg
    · rw [Nat.zero_add, World.ownsRow.cellAt hh _ (by omega), List.getElem?_map, List.getElem?_eq_getElem hi]
      rfl
theorem addr_add (b off k : Nat) : (⟨b, off, none⟩ : Addr).add k = ⟨b, off + k, none⟩ := by unfold Addr.add; split <;> simp_all
/-- The part of a row from a place on. -/
theorem slice_sees {α : Type} {f : α → Value} {w : World} {B : Nat} {a : Option Addr} {n cap : Nat} {xs : List α} (t : TypeId) (hu : Tryd.prog.underlying t = some (.slice (Tryd.prog.elem t))) (hs : ∀ w, (sizeOf (Tryd.prog.elem t)).run Tryd.prog w = .ok 1 w)
    (h : SeesG f w B (.slice a n cap) xs) (k : Nat) (hk : k ≤ xs.length) :
    ∃ a' cap', (Instr.slice t (.slice a n cap) (some (.int .i64 (k : Int))) none none).run Tryd.prog w = .ok (.slice a' (xs.drop k).length cap') w ∧ SeesG f w B (.slice a' (xs.drop k).length cap') (xs.drop k) := by
  obtain ⟨a0, cap0, e, hc, hx⟩ := h
  injection e with e1 e2 e3
  subst e1 e2 e3
  rw [run_slice_l w t a xs.length cap hu .i64 k (by omega) (by omega), hs]
  have e4 : (xs.drop k).length = xs.length - k := List.length_drop
  simp only [Result.andThen, sliced, Int.toNat_natCast]
  refine ⟨_, _, by rw [e4], ?_⟩
  refine ⟨_, _, rfl, by omega, fun i hi => ?_⟩
  have hi' : k + i < xs.length := by omega
  obtain ⟨b, off, e1, e2, e3⟩ := hx (k + i) hi'
  subst e1
  refine ⟨b, off + k, ?_, e2, ?_⟩
  · rw [if_neg (by omega)]; simp [addr_add]
  · rw [List.getElem_drop, Nat.add_assoc]; exact e3
end Go.Proofs.YtoomekcglniohaaDoor
