import Derived.Test.YtoojfoeehdoeoaaNt4
import Derived.DeepKeys4
import Derived.WideKeyMaps
namespace Go.Proofs.Ytoojfoeehdoeoaa
open Go.ChangeShapes Go.WideShapes Go.ChangeAt Go.RowKit Go.Maps
set_option linter.unusedVariables false
set_option maxRecDepth 100000
abbrev R2 : Type := ByteArray × ByteArray
def valR (x : R2) : Value := .agg #[.string x.1, .string x.2]
theorem laidOut0 : laidOutB Try.prog = true := by kernel_rfl
theorem rowR0 : (60 : TypeId) < Try.prog.types.size := of_decide_eq_true (by kernel_rfl)
theorem wideR0 : (match Try.prog.underlying 60 with | some (.array _ _) | some (.struct _) => true | _ => false) = true := by rw [Try.underlying60]
theorem klawR : WideMaps.KeyLaw Try.prog 60 := deep_law_laid laidOut0 (m := 3) (by omega) rowR0 (by kernel_rfl) wideR0
theorem lawR : Keyed Try.prog 60 := Keyed.of_law klawR
/-- Two texts that a key can hold. -/
def okR (x : R2) : Prop := x.1.size ≤ 140737488355328 ∧ x.2.size ≤ 140737488355328
def litR (x : R2) : Lit := .string (keyBytes [.string x.1.data.toList, .string x.2.data.toList])
theorem cellsR0 : Try.prog.cellsOf 60 = 2 := by kernel_rfl
theorem cellsS0 : Try.prog.cellsOf 9 = 1 := by kernel_rfl
theorem keyTR : Try.prog.keyType 60 = true := by kernel_rfl
theorem keyLS (d : Nat) (a : ByteArray) (h : a.size ≤ maxLen) : Try.prog.keyLits (d + 1) 9 [.string a] = some [.string a.data.toList] := by
  unfold Program.keyLits
  simp only [Try.underlying9, if_pos h]
theorem keyLR (d : Nat) (a b : ByteArray) (h1 : a.size ≤ maxLen) (h2 : b.size ≤ maxLen) : Try.prog.keyLits (d + 2) 60 [.string a, .string b] = some [.string a.data.toList, .string b.data.toList] := by
  unfold Program.keyLits
  simp [Try.underlying60, cellsR0, cellsS0, keyLS d a h1, keyLS d b h2]
theorem litR_of {x : R2} (h : okR x) : keyOf Try.prog 60 (valR x) = some (litR x) := by
  obtain ⟨h1, h2⟩ := h
  have e2 : (valR x).formed Try.prog 60 = true := by simp [valR, Value.formed, Try.underlying60, cellsR0]
  have e3 := keyLR (Try.prog.types.size - 1) x.1 x.2 (by unfold maxLen; omega) (by unfold maxLen; omega)
  have e4 : Try.prog.types.size - 1 + 2 = Try.prog.types.size + 1 := by have h0 : (60 : Nat) < Try.prog.types.size := rowR0; omega
  rw [e4] at e3
  unfold keyOf
  rw [Try.underlying60]
  simp only [keyTR, e2, Bool.and_self, if_true]
  have e5 : (valR x).cells.toList = [.string x.1, .string x.2] := rfl
  rw [e5, e3]
  rfl
def isInR (xs : List R2) (x : R2) : Bool := xs.any (fun y => decide (y.1 = x.1) && decide (y.2 = x.2))
theorem valR_inj {x y : R2} (h : valR x = valR y) : x = y := by
  unfold valR at h
  simp at h
  exact Prod.ext h.1 h.2
theorem isInR_iff (xs : List R2) (x : R2) : isInR xs x = true ↔ x ∈ xs := by
  unfold isInR
  rw [List.any_eq_true]
  constructor
  · rintro ⟨y, hy, e⟩
    simp at e
    have : y = x := Prod.ext e.1 e.2
    exact this ▸ hy
  · intro h
    exact ⟨x, h, by simp⟩
theorem litR_str {x : R2} (h : okR x) : ∃ s, litR x = .string s := ⟨_, rfl⟩
theorem has_litR (xs : List R2) (x : R2) (hx : okR x) (hxs : ∀ y ∈ xs, okR y) : Maps.has (setOf (H := Unit) (.agg []) (xs.map litR)) (litR x) = isInR xs x := by
  rw [has_setOf]
  · rw [Bool.eq_iff_iff, isInR_iff, List.any_eq_true]
    constructor
    · rintro ⟨l, hl, e⟩
      obtain ⟨y, hy, rfl⟩ := List.mem_map.1 hl
      obtain ⟨s, es⟩ := litR_str (hxs y hy)
      obtain ⟨t, et⟩ := litR_str hx
      have : litR y = litR x := by
        rw [es, et] at e ⊢
        simpa [Lit.sameKey] using e
      have h1 := litR_of (hxs y hy)
      rw [this] at h1
      exact valR_inj (lawR.inj h1 (litR_of hx)) ▸ hy
    · intro h
      refine ⟨litR x, List.mem_map_of_mem h, ?_⟩
      obtain ⟨t, et⟩ := litR_str hx
      rw [et]
      simp [Lit.sameKey]
  · intro y hy
    obtain ⟨z, hz, rfl⟩ := List.mem_map.1 hy
    exact lawR.key (litR_of (hxs z hz))
def cellsR : List R2 → List Value
  | [] => []
  | x :: xs => .string x.1 :: .string x.2 :: cellsR xs
theorem cellsR_app : ∀ (xs ys : List R2), cellsR (xs ++ ys) = cellsR xs ++ cellsR ys
  | [], _ => rfl
  | x :: xs, ys => by simp [cellsR, cellsR_app xs ys]
theorem cellsR_len : ∀ (xs : List R2), (cellsR xs).length = xs.length * 2
  | [] => rfl
  | x :: xs => by simp [cellsR, cellsR_len xs]; omega
theorem cellsR_get : ∀ (xs : List R2) (i : Nat) (hi : i < xs.length), (cellsR xs)[i * 2]? = some (.string xs[i].1) ∧ (cellsR xs)[i * 2 + 1]? = some (.string xs[i].2)
  | x :: xs, 0, _ => by simp [cellsR]
  | x :: xs, i + 1, hi => by
    have := cellsR_get xs i (by simpa using hi)
    rw [show (i + 1) * 2 = i * 2 + 1 + 1 from by omega]
    simpa [cellsR] using this
abbrev OnR := On (α := R2) 60 60 2 cellsR litR
end Go.Proofs.Ytoojfoeehdoeoaa
