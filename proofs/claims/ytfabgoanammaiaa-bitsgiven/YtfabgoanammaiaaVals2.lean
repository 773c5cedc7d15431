import Derived.Test.YtfabgoanammaiaaVals1
namespace Go.Proofs.Ytfabgoanammaiaa
open Go.ChangeShapes Go.WideShapes Go.ChangeAt Go.RowKit
set_option linter.unusedVariables false

/-- The slice value v holds the values vs, in blocks below B. -/
def SeesV (w : World) (B : Nat) (v : Value) (vs : List (Int × Int × ByteArray)) : Prop :=
  ∃ ao cap, v = .slice ao vs.length cap ∧ vs.length ≤ cap ∧ vs.length ≤ 140737488355328 ∧ (∀ i (hi : i < vs.length), ∃ b off, ao = some ⟨b, off, none⟩ ∧ b < B ∧ w.cell? ⟨b, off + i * 3, none⟩ = some (.int .i64 vs[i].1) ∧ w.cell? ⟨b, off + i * 3 + 1, none⟩ = some (.int .i64 vs[i].2.1) ∧ w.cell? ⟨b, off + i * 3 + 2, none⟩ = some (.string vs[i].2.2))
theorem SeesV.later {w w' : World} {B : Nat} {v : Value} {vs : List (Int × Int × ByteArray)} (h : SeesV w B v vs) (hb : Below B w w') : SeesV w' B v vs := by
  obtain ⟨ao, cap, rfl, h1, h2, h3⟩ := h
  refine ⟨ao, cap, rfl, h1, h2, fun i hi => ?_⟩
  obtain ⟨b, off, e, hbB, c0, c1, c2⟩ := h3 i hi
  exact ⟨b, off, e, hbB, by rw [hb.cell hbB]; exact c0, by rw [hb.cell hbB]; exact c1, by rw [hb.cell hbB]; exact c2⟩
theorem SeesV.mono {w : World} {B B' : Nat} {v : Value} {vs : List (Int × Int × ByteArray)} (h : SeesV w B v vs) (hb : B ≤ B') : SeesV w B' v vs := by
  obtain ⟨ao, cap, rfl, h1, h2, h3⟩ := h
  refine ⟨ao, cap, rfl, h1, h2, fun i hi => ?_⟩
  obtain ⟨b, off, e, hbB, c0, c1, c2⟩ := h3 i hi
  exact ⟨b, off, e, by omega, c0, c1, c2⟩
def cmpL : List (Int × Int × ByteArray) → List (Int × Int × ByteArray) → Int
  | [], [] => 0
  | [], _ :: _ => -1
  | _ :: _, [] => 1
  | a :: x, b :: y => if cmpV a b ≠ 0 then cmpV a b else cmpL x y
theorem cmpL_step (vs us : List (Int × Int × ByteArray)) (k : Nat) (h1 : k < vs.length) (h2 : k < us.length) : cmpL (vs.drop k) (us.drop k) = if cmpV vs[k] us[k] ≠ 0 then cmpV vs[k] us[k] else cmpL (vs.drop (k + 1)) (us.drop (k + 1)) := by
  rw [List.drop_eq_getElem_cons h1, List.drop_eq_getElem_cons h2, cmpL]
theorem cmpL_more (vs us : List (Int × Int × ByteArray)) (k : Nat) (h1 : k < vs.length) (h2 : us.length ≤ k) : cmpL (vs.drop k) (us.drop k) = 1 := by
  rw [List.drop_eq_getElem_cons h1, List.drop_eq_nil_of_le h2, cmpL]
theorem cmpL_less (vs us : List (Int × Int × ByteArray)) (k : Nat) (h1 : vs.length ≤ k) (h2 : k < us.length) : cmpL (vs.drop k) (us.drop k) = -1 := by
  rw [List.drop_eq_getElem_cons h2, List.drop_eq_nil_of_le h1, cmpL]
theorem cmpL_same (vs us : List (Int × Int × ByteArray)) (k : Nat) (h1 : vs.length ≤ k) (h2 : us.length ≤ k) : cmpL (vs.drop k) (us.drop k) = 0 := by
  rw [List.drop_eq_nil_of_le h1, List.drop_eq_nil_of_le h2, cmpL]
theorem ret_eq {a b : Int} (h : a = b) : Ending.returned (.int .i64 a) = .returned (.int .i64 b) := by rw [h]
end Go.Proofs.Ytfabgoanammaiaa
