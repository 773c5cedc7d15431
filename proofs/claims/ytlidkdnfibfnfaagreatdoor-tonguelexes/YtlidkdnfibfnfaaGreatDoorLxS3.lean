import Derived.Test.YtlidkdnfibfnfaaGreatDoorLxS2
import Derived.Deep.QuietTactic
import Derived.BigQuiet
namespace Go.Proofs.YtlidkdnfibfnfaaGreatDoor
open Go.ChangeShapes Go.WideShapes Go.ChangeAt Go.RowKit
set_option linter.unusedVariables false
set_option maxRecDepth 100000
/-- A scanner in the block R: its text, and the place. -/
def Sc (w : World) (R : Nat) (s : ByteArray) (p : Nat) : Prop := w.heap[R]? = some (.cells #[.string s, .int .i64 p] 42 (0, 0))
theorem Sc.cell0 {w : World} {R : Nat} {s : ByteArray} {p : Nat} (h : Sc w R s p) : w.cell? ⟨R, 0, none⟩ = some (.string s) := by
  unfold Sc at h
  simp [World.cell?, h]
theorem Sc.cell1 {w : World} {R : Nat} {s : ByteArray} {p : Nat} (h : Sc w R s p) : w.cell? ⟨R, 1, none⟩ = some (.int .i64 p) := by
  unfold Sc at h
  simp [World.cell?, h]
theorem Sc.free {w : World} {R : Nat} {s : ByteArray} {p : Nat} (h : Sc w R s p) (j : Nat) : w.frozen? ⟨R, j, none⟩ = false := by
  unfold Sc at h
  simp [World.frozen?, h]
theorem Sc.drew {w : World} {R : Nat} {s : ByteArray} {p : Nat} (h : Sc w R s p) : Sc w.drew R s p := h
theorem Sc.move {w : World} {R : Nat} {s : ByteArray} {p : Nat} (h : Sc w R s p) (q : Nat) : Sc (w.setCell ⟨R, 1, none⟩ (.int .i64 q)) R s q := by
  unfold Sc at h ⊢
  simp [World.setCell, Array.getElem?_modify, h]
theorem Sc.lt {w : World} {R : Nat} {s : ByteArray} {p : Nat} (h : Sc w R s p) : R < w.heap.size := by
  rcases Nat.lt_or_ge R w.heap.size with h1 | h1
  · exact h1
  · unfold Sc at h
    rw [Array.getElem?_eq_none h1] at h
    cases h
theorem Sc.later {w w' : World} {R : Nat} {s : ByteArray} {p : Nat} (h : Sc w R s p) (hb : Below w.heap.size w w') : Sc w' R s p := (hb.block R h.lt).trans h
theorem Sc.other {W : World} {R : Nat} {s : ByteArray} {q : Nat} (h : Sc W R s q) {p : Addr} (v : Value) (hp : R ≠ p.block) : Sc (W.setCell p v) R s q := (Below.heap_setCell W p v R hp).trans h
theorem Sc.drewN {w : World} {R : Nat} {s : ByteArray} {p : Nat} (h : Sc w R s p) (n : Nat) : Sc (w.drewN n) R s p := by
  have e : (w.drewN n).heap = w.heap := by induction n generalizing w with
    | zero => rfl
    | succ n ih => exact ih (w := w.drew) h
  unfold Sc at h ⊢
  rw [e]; exact h
theorem restT (R : Nat) (s : ByteArray) (p : Nat) (w : World) (h : Sc w R s p) (hs : s.size ≤ 65536) (hp : p ≤ s.size) :
    Calls Tryz.prog 24 #[.pointer (some ⟨R, 0, none⟩)] w fun e w' => e = .returned (.string (s.extract p s.size)) ∧ ∃ n, w' = w.drewN n := by
  have c0 := h.cell0
  have c1 := h.cell1
  go_enter Tryz.func24, Tryz.ntmps24
  go_wp2
  go_quiet (fail)
  go_wp2
  go_ret
  exact ⟨rfl, _, rfl⟩
end Go.Proofs.YtlidkdnfibfnfaaGreatDoor
