import Derived.Test.YtdpebhdjcgiboaaGreatRows
import Derived.WalkKit
import Derived.ProofKit
import Derived.OpenShut
import Derived.ShutString
import Derived.WalkLawsBesides
import Derived.Outline
import Derived.WalkSpells
import Derived.BigRegion
import Derived.Deep.QuietTactic
import Derived.BigQuiet
import Derived.Deep.RegionWith
import Derived.Deep.RegionHeld3
import Derived.Laws.BitsAllLaws
import Derived.Lib.Bytealg
import Derived.Lib.Strings
import Derived.Laws.Externs
import Derived.Laws.OwnMore
import Derived.Laws.StructEq
import Derived.Laws.Small
import Derived.Laws.Rows
import Derived.OwnWalk
import Derived.Below
import Derived.Test.YtdpebhdjcgiboaaGreatJSdP
namespace Go.Proofs.YtdpebhdjcgiboaaGreat
open Go.ChangeShapes Go.WideShapes Go.ChangeAt Go.RowKit
set_option linter.unusedVariables false

/-- The slice value v holds the picks vs, in blocks below B. -/
def SeesP (w : World) (B : Nat) (v : Value) (vs : List (Int × Int × Int)) : Prop :=
  ∃ ao cap, v = .slice ao vs.length cap ∧ vs.length ≤ cap ∧ vs.length ≤ 140737488355328 ∧ (∀ i (hi : i < vs.length), ∃ b off, ao = some ⟨b, off, none⟩ ∧ b < B ∧ w.cell? ⟨b, off + i * 3, none⟩ = some (.int .i64 vs[i].1) ∧ w.cell? ⟨b, off + i * 3 + 1, none⟩ = some (.int .i64 vs[i].2.1) ∧ w.cell? ⟨b, off + i * 3 + 2, none⟩ = some (.int .i64 vs[i].2.2))
theorem SeesP.later {w w' : World} {B : Nat} {v : Value} {vs : List (Int × Int × Int)} (h : SeesP w B v vs) (hb : Below B w w') : SeesP w' B v vs := by
  obtain ⟨ao, cap, rfl, h1, h2, h3⟩ := h
  refine ⟨ao, cap, rfl, h1, h2, fun i hi => ?_⟩
  obtain ⟨b, off, e, hbB, c0, c1, c2⟩ := h3 i hi
  exact ⟨b, off, e, hbB, by rw [hb.cell hbB]; exact c0, by rw [hb.cell hbB]; exact c1, by rw [hb.cell hbB]; exact c2⟩
theorem SeesP.mono {w : World} {B B' : Nat} {v : Value} {vs : List (Int × Int × Int)} (h : SeesP w B v vs) (hb : B ≤ B') : SeesP w B' v vs := by
  obtain ⟨ao, cap, rfl, h1, h2, h3⟩ := h
  refine ⟨ao, cap, rfl, h1, h2, fun i hi => ?_⟩
  obtain ⟨b, off, e, hbB, c0, c1, c2⟩ := h3 i hi
  exact ⟨b, off, e, by omega, c0, c1, c2⟩
def cellP (a : Int × Int × Int) : List Value := [.int .i64 a.1, .int .i64 a.2.1, .int .i64 a.2.2]
def cellsP (vs : List (Int × Int × Int)) : List Value := vs.flatMap cellP
theorem cellsP_get : ∀ (vs : List (Int × Int × Int)) (i : Nat) (hi : i < vs.length), (cellsP vs)[i * 3]? = some (.int .i64 vs[i].1) ∧ (cellsP vs)[i * 3 + 1]? = some (.int .i64 vs[i].2.1) ∧ (cellsP vs)[i * 3 + 2]? = some (.int .i64 vs[i].2.2)
  | v :: vs, 0, _ => by simp [cellsP, cellP]
  | v :: vs, i + 1, hi => by
    have := cellsP_get vs i (by simp at hi; omega)
    have e : cellsP (v :: vs) = .int .i64 v.1 :: .int .i64 v.2.1 :: .int .i64 v.2.2 :: cellsP vs := rfl
    rw [e, show (i + 1) * 3 = i * 3 + 1 + 1 + 1 from by omega]
    simpa using this
/-- The slice value v holds just the values vs, in a row of the call's own. -/
def ownP (w : World) (B : Nat) (v : Value) (vs : List (Int × Int × Int)) : Prop := w.ownsRow B 110 3 v vs.length (cellsP vs)
set_option maxRecDepth 100000 in
theorem ownP.len {w : World} {B : Nat} {v : Value} {xs : List (Int × Int × Int)} (h : ownP w B v xs) : (Builtin.len_ #[26] 3 #[v]).run Tryz.prog w = .ok (.int .i64 xs.length) w := by
  rcases h with ⟨h1, ⟨rfl, h2⟩ | ⟨g, cap, cur, rfl, hb, hg, hr⟩⟩
  · rw [h2]; rfl
  · rfl
theorem ownP.same {w w' : World} {B : Nat} {v : Value} {xs : List (Int × Int × Int)} (h : ownP w B v xs) (hk : ∀ k, k < w.heap.size → B ≤ k → w'.heap[k]? = w.heap[k]?) : ownP w' B v xs := by
  rcases h with ⟨h1, h2 | ⟨g, cap, cur, rfl, hb, hg, hr⟩⟩
  · exact ⟨h1, .inl h2⟩
  · exact ⟨h1, .inr ⟨g, cap, cur, rfl, hb, by rw [hk g (Array.getElem?_eq_some_iff.1 hg).1 hb]; exact hg, hr⟩⟩
theorem ownP.down {w : World} {B B' : Nat} {v : Value} {vs : List (Int × Int × Int)} (h : ownP w B v vs) (hB : B' ≤ B) : ownP w B' v vs := by
  rcases h with ⟨h1, h2 | ⟨g, cap, cur, rfl, hb, hr⟩⟩
  · exact ⟨h1, .inl h2⟩
  · exact ⟨h1, .inr ⟨g, cap, cur, rfl, Nat.le_trans hB hb, hr⟩⟩
end Go.Proofs.YtdpebhdjcgiboaaGreat

namespace Go.Proofs.YtdpebhdjcgiboaaGreat
open Go.ChangeShapes Go.WideShapes Go.ChangeAt Go.RowKit
set_option linter.unusedVariables false

/-- The pick that one byte alone stands for. -/
def one (b : Nat) : Int × Int × Int :=
  if b / 32 = 0 then (1, ((b % 32 : Nat) : Int), 1) else if b / 32 = 2 then (3, ((b % 32 : Nat) : Int), 1) else if b / 32 = 3 then (4, 0, ((b % 32 + 1 : Nat) : Int)) else if b / 32 = 4 then (5, ((b % 32 : Nat) : Int), 1) else if b = 160 then (6, 0, 0) else (0, 0, (b : Int))
/-- The first entry of a schedule, and its size. -/
def ent : List UInt8 → (Int × Int × Int) × Nat
  | [] => ((0, 0, 0), 0)
  | [b] => (one b.toNat, 1)
  | b :: c :: _ => if b.toNat / 32 = 1 then ((2, ((b.toNat % 32 : Nat) : Int), ((c.toNat + 1 : Nat) : Int)), 2) else (one b.toNat, 1)
/-- What a schedule is read as. -/
def dL : List UInt8 → List (Int × Int × Int)
  | [] => []
  | [b] => [one b.toNat]
  | b :: c :: r => if b.toNat / 32 = 1 then (2, ((b.toNat % 32 : Nat) : Int), ((c.toNat + 1 : Nat) : Int)) :: dL r else one b.toNat :: dL (c :: r)
/-- What entry answers. -/
def entA (r : (Int × Int × Int) × Nat) : Value := .tuple #[.agg #[.int .i64 r.1.1, .int .i64 r.1.2.1, .int .i64 r.1.2.2], .int .i64 (r.2 : Int)]
end Go.Proofs.YtdpebhdjcgiboaaGreat

namespace Go.Proofs.YtdpebhdjcgiboaaGreat
open Go.ChangeShapes Go.WideShapes Go.ChangeAt Go.RowKit
set_option linter.unusedVariables false

def strLen : Value → Nat
  | .string t => t.size
  | _ => 0
end Go.Proofs.YtdpebhdjcgiboaaGreat

namespace Go.Proofs.YtdpebhdjcgiboaaGreat
open Go.ChangeShapes Go.WideShapes Go.ChangeAt Go.RowKit Go.MuLone Go.RwLone
set_option linter.unusedVariables false
end Go.Proofs.YtdpebhdjcgiboaaGreat
