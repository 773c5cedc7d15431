import Derived.Test.YtmolfemcciljjaaNumbers
namespace Go.Proofs.Ytmolfemcciljjaa
open Go.ChangeShapes Go.WideShapes Go.ChangeAt Go.RowKit

theorem made_ownB {w : World} {B g n : Nat} (h : w.ownsRow B 5 1 (.slice (some ⟨g, 0, none⟩) n n) n (madeCells (Value.int .u8 0).cells (n * 1)).toList) : ownB w B (.slice (some ⟨g, 0, none⟩) n n) (List.replicate n 0) := by
  have e : (madeCells (Value.int .u8 0).cells (n * 1)).toList = (List.replicate n (0 : Int)).map (Value.int .u8) := by
    simp only [madeCells, Value.cells]
    apply List.ext_getElem
    · simp
    · intro i h1 h2
      simp [Nat.mod_one]
  rw [e] at h
  unfold ownB
  rw [List.length_replicate]
  exact h
theorem own_cell {w : World} {B g n cap : Nat} {ys : List Int} (h : ownB w B (.slice (some ⟨g, 0, none⟩) n cap) ys) (hl : ys.length = n) (k : Nat) (hk : k < n) : ∃ c, w.cell? ⟨g, k, none⟩ = some (.int .u8 c) := by
  unfold ownB at h
  rw [hl] at h
  have := World.ownsRow.cellAt h k (by omega)
  rw [this]
  exact ⟨ys[k], by simp [List.getElem?_eq_getElem (show k < ys.length by omega)]⟩
theorem own_free {w : World} {B g n cap : Nat} {ys : List Int} (h : ownB w B (.slice (some ⟨g, 0, none⟩) n cap) ys) (hl : ys.length = n) (k : Nat) : w.frozen? ⟨g, k, none⟩ = false := by
  unfold ownB at h
  rw [hl] at h
  exact World.ownsRow.frozenAt h k
theorem own_put {w : World} {B g n cap : Nat} {ys : List Int} (h : ownB w B (.slice (some ⟨g, 0, none⟩) n cap) ys) (hl : ys.length = n) (k : Nat) (c : Int) : ownB (w.setCell ⟨g, k, none⟩ (.int .u8 c)) B (.slice (some ⟨g, 0, none⟩) n cap) (ys.set k c) := by
  unfold ownB at h ⊢
  rw [List.length_set, List.map_set]
  rw [hl] at h ⊢
  exact (World.ownsRow.stored h k _).1

theorem take_put {ys : List Int} {n k : Nat} {v : Int} (h : ys.take k = (fxB n v).take k) (hl : ys.length = n) (hk : k < n) : (ys.set k (v / 2 ^ (8 * k) % 256)).take (k + 1) = (fxB n v).take (k + 1) := by
  have e : (256 : Int) ^ k = 2 ^ (8 * k) := by rw [Int.pow_mul]; rfl
  apply List.ext_getElem?
  intro i
  rw [List.getElem?_take, List.getElem?_take]
  split
  · rw [List.getElem?_set]
    by_cases hi : k = i
    · subst hi
      rw [if_pos rfl, if_pos (by omega), fxB_get n k v hk, e]
    · rw [if_neg hi]
      have := congrArg (fun l : List Int => l[i]?) h
      simp only [List.getElem?_take] at this
      rwa [if_pos (by omega), if_pos (by omega)] at this
  · rfl

/-- A blob's two answers. -/
def blobV (s : ByteArray) : ByteArray × Int := if s.size ≤ 1048576 then (strOfNums (uvB s.size) ++ s, 0) else (ByteArray.empty, 4)
theorem uvB_len (v : Int) : (uvB v).length ≤ 10 ∧ 1 ≤ (uvB v).length := uvF_len 9 v
theorem tupS {l : IntKind} {a : ByteArray} {b : Int} {c : ByteArray × Int} (h : c = (a, b)) : Ending.returned (.tuple #[.string a, .int l b]) = .returned (.tuple #[.string c.1, .int l c.2]) := by
  rw [h]
end Go.Proofs.Ytmolfemcciljjaa
