import Derived.Lib.SplitLaws
import Derived.Test.YtjcffcpmegpjeaaGreatDoorRows
import Derived.WalkKit
import Derived.ProofKit
import Derived.Below
import Derived.OwnWalk
import Derived.Laws.OwnMore
import Derived.Laws.Rows
import Derived.RegionCalls
namespace Go.Proofs.YtjcffcpmegpjeaaGreatDoor
open Go.ChangeShapes Go.WideShapes Go.ChangeAt Go.RowKit
set_option linter.unusedVariables false
set_option maxRecDepth 100000
/-- The slice value v reads as the list xs, in blocks below B. -/
def SeesG {α : Type} (f : α → Value) (w : World) (B : Nat) (v : Value) (xs : List α) : Prop :=
  ∃ a cap, v = .slice a xs.length cap ∧ xs.length ≤ cap ∧ ∀ i (hi : i < xs.length), ∃ b off, a = some ⟨b, off, none⟩ ∧ b < B ∧ w.cell? ⟨b, off + i, none⟩ = some (f xs[i])
theorem SeesG.later {α : Type} {f : α → Value} {w w' : World} {B : Nat} {v : Value} {xs : List α} (h : SeesG f w B v xs) (hb : Below B w w') : SeesG f w' B v xs := by
  obtain ⟨a, cap, e, hc, hx⟩ := h
  refine ⟨a, cap, e, hc, fun i hi => ?_⟩
  obtain ⟨b, off, e1, e2, e3⟩ := hx i hi
  exact ⟨b, off, e1, e2, by rw [hb.cell e2]; exact e3⟩
theorem SeesG.up {α : Type} {f : α → Value} {w : World} {B C : Nat} {v : Value} {xs : List α} (h : SeesG f w B v xs) (hb : B ≤ C) : SeesG f w C v xs := by
  obtain ⟨a, cap, e, hc, hx⟩ := h
  refine ⟨a, cap, e, hc, fun i hi => ?_⟩
  obtain ⟨b, off, e1, e2, e3⟩ := hx i hi
  exact ⟨b, off, e1, Nat.lt_of_lt_of_le e2 hb, e3⟩
theorem SeesG.form {α : Type} {f : α → Value} {w : World} {B : Nat} {v : Value} {xs : List α} (h : SeesG f w B v xs) : ∃ a cap, v = .slice a xs.length cap := by
  obtain ⟨a, cap, e, _⟩ := h
  exact ⟨a, cap, e⟩
theorem SeesG.cell {α : Type} {f : α → Value} {w : World} {B : Nat} {a : Option Addr} {n cap : Nat} {xs : List α} (h : SeesG f w B (.slice a n cap) xs) (i : Nat) (hi : i < xs.length) : ∃ b off, a = some ⟨b, off, none⟩ ∧ w.cell? ⟨b, off + i, none⟩ = some (f xs[i]) := by
  obtain ⟨a', cap', e, hc, hx⟩ := h
  injection e with e1 e2 e3
  subst e1
  obtain ⟨b, off, e1, _, e3⟩ := hx i hi
  exact ⟨b, off, e1, e3⟩
theorem own_sees {α : Type} {f : α → Value} {w : World} {B : Nat} {e : TypeId} {v : Value} {xs : List α} (h : w.ownsRow B e 1 v xs.length (xs.map f)) : SeesG f w w.heap.size v xs := by
  have hh := h
  rcases h.2 with ⟨rfl, hn⟩ | ⟨g, cap, cur, rfl, hb, hg, hnc, hm, hs, ht⟩
  · exact ⟨none, 0, by rw [hn], by omega, fun i hi => by omega⟩
  · refine ⟨some ⟨g, 0, none⟩, cap, rfl, by omega, fun i hi => ⟨g, 0, rfl, ?_, ?_⟩⟩
    · rcases Nat.lt_or_ge g w.heap.size with h | h
      · exact h
      · rw [Array.getElem?_eq_none h] at hg; cases hg
    · rw [Nat.zero_add, World.ownsRow.cellAt hh _ (by omega), List.getElem?_map, List.getElem?_eq_getElem hi]
      rfl
theorem addr_add (b off k : Nat) : (⟨b, off, none⟩ : Addr).add k = ⟨b, off + k, none⟩ := by unfold Addr.add; split <;> simp_all
/-- The part of a row from a place on. -/
theorem slice_sees {α : Type} {f : α → Value} {w : World} {B : Nat} {a : Option Addr} {n cap : Nat} {xs : List α} (t : TypeId) (hu : Tryz.prog.underlying t = some (.slice (Tryz.prog.elem t))) (hs : ∀ w, (sizeOf (Tryz.prog.elem t)).run Tryz.prog w = .ok 1 w)
    (h : SeesG f w B (.slice a n cap) xs) (k : Nat) (hk : k ≤ xs.length) :
    ∃ a' cap', (Instr.slice t (.slice a n cap) (some (.int .i64 (k : Int))) none none).run Tryz.prog w = .ok (.slice a' (xs.drop k).length cap') w ∧ SeesG f w B (.slice a' (xs.drop k).length cap') (xs.drop k) := by
  obtain ⟨a0, cap0, e, hc, hx⟩ := h
  injection e with e1 e2 e3
  subst e1 e2 e3
  rw [run_slice_l w t a xs.length cap hu .i64 k (by omega) (by omega), hs]
  have e4 : (xs.drop k).length = xs.length - k := List.length_drop
  simp only [Result.andThen, sliced, Int.toNat_natCast]
  refine ⟨_, _, by rw [e4], ?_⟩
  refine ⟨_, _, rfl, by omega, fun i hi => ?_⟩
  have hi' : k + i < xs.length := by omega
  obtain ⟨b, off, e1, e2, e3⟩ := hx (k + i) hi'
  subst e1
  refine ⟨b, off + k, ?_, e2, ?_⟩
  · rw [if_neg (by omega)]; simp [addr_add]
  · rw [List.getElem_drop, Nat.add_assoc]; exact e3
end Go.Proofs.YtjcffcpmegpjeaaGreatDoor

namespace Go.Proofs.YtjcffcpmegpjeaaGreatDoor
open Go.ChangeShapes Go.WideShapes Go.ChangeAt Go.RowKit
set_option linter.unusedVariables false
set_option maxRecDepth 100000
/-- A column: its name, its type, whether it is not null. -/
abbrev CD := ByteArray × Int × Bool
abbrev VL := Int × Int × ByteArray
def okNm (n : ByteArray) : Bool := decide (1 ≤ n.size) && decide (n.size ≤ 32)
def okTy (k : Int) : Bool := decide (k = 1) || (decide (k = 2) || decide (k = 3))
def okCo (c : CD) : Bool := okNm c.1 && okTy c.2.1
def okCs (cs : List CD) : Bool := decide (1 ≤ cs.length) && decide (cs.length ≤ 16) && cs.all okCo
def nnAt (cs : List CD) (k : Nat) : Bool := match cs[k]? with | some c => c.2.2 | none => false
def okPl (cs : List CD) (k : Int) : Bool := decide (0 ≤ k) && decide (k < (cs.length : Int)) && nnAt cs k.toNat
def okKs (cs : List CD) (ks : List Int) : Bool := decide (1 ≤ ks.length) && decide (ks.length ≤ 8) && ks.all (okPl cs)
def nmsC (cs : List CD) : List ByteArray := cs.map fun c => c.1
/-- Is it a table? -/
def isTb (nm : ByteArray) (num : Int) (cs : List CD) (ks : List Int) : Bool :=
  okNm nm && decide (1 ≤ num) && okCs cs && (okKs cs ks && decide (nmsC cs).Nodup && decide ks.Nodup)
theorem nodup_iff {α : Type} [DecidableEq α] (l : List α) : l.Nodup ↔ ∀ i (h : i < l.length), l[i] ∉ l.take i := by
  unfold List.Nodup
  rw [List.pairwise_iff_getElem]
  constructor
  · intro h i hi hm
    obtain ⟨j, hj, e⟩ := List.mem_iff_getElem.1 hm
    rw [List.length_take] at hj
    rw [List.getElem_take] at e
    exact h j i (by omega) hi (by omega) e
  · intro h i j hi hj hij e
    apply h j hj
    rw [← e]
    exact List.mem_iff_getElem.2 ⟨i, by rw [List.length_take]; omega, by rw [List.getElem_take]⟩
end Go.Proofs.YtjcffcpmegpjeaaGreatDoor
