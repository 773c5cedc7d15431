import Derived.Test.YtmolfemcciljjaaReads3
import Derived.Test.YtmolfemcciljjaaDecP
import Derived.Test.YtmolfemcciljjaaRegG
import Derived.Deep.QuietTactic
import Derived.BigQuiet
namespace Go.Proofs.Ytmolfemcciljjaa
open Go.ChangeShapes Go.WideShapes Go.ChangeAt Go.RowKit
set_option linter.unusedVariables false
set_option maxRecDepth 100000
/-- A reader of commits at the block R: the text, and the place. -/
def RdC (w : World) (R : Nat) (s : ByteArray) (p : Nat) : Prop := w.heap[R]? = some (.cells #[.string s, .int .i64 p] 53 (0, 0))
theorem RdC.cell0 {w : World} {R : Nat} {s : ByteArray} {p : Nat} (h : RdC w R s p) : w.cell? ⟨R, 0, none⟩ = some (.string s) := by
  unfold RdC at h
  simp [World.cell?, h]
theorem RdC.cell1 {w : World} {R : Nat} {s : ByteArray} {p : Nat} (h : RdC w R s p) : w.cell? ⟨R, 1, none⟩ = some (.int .i64 p) := by
  unfold RdC at h
  simp [World.cell?, h]
theorem RdC.free {w : World} {R : Nat} {s : ByteArray} {p : Nat} (h : RdC w R s p) (j : Nat) : w.frozen? ⟨R, j, none⟩ = false := by
  unfold RdC at h
  simp [World.frozen?, h]
theorem RdC.drew {w : World} {R : Nat} {s : ByteArray} {p : Nat} (h : RdC w R s p) : RdC w.drew R s p := h
theorem RdC.move {w : World} {R : Nat} {s : ByteArray} {p : Nat} (h : RdC w R s p) (q : Nat) : RdC (w.setCell ⟨R, 1, none⟩ (.int .i64 q)) R s q := by
  unfold RdC at h ⊢
  simp [World.setCell, Array.getElem?_modify, h]
theorem RdC.lt {w : World} {R : Nat} {s : ByteArray} {p : Nat} (h : RdC w R s p) : R < w.heap.size := by
  rcases Nat.lt_or_ge R w.heap.size with h1 | h1
  · exact h1
  · unfold RdC at h
    rw [Array.getElem?_eq_none h1] at h
    cases h
theorem RdC.later {w w' : World} {R : Nat} {s : ByteArray} {p : Nat} (h : RdC w R s p) (hb : Below w.heap.size w w') : RdC w' R s p := (hb.block R h.lt).trans h
theorem RdC.drewN {w : World} {R : Nat} {s : ByteArray} {p : Nat} (h : RdC w R s p) (n : Nat) : RdC (w.drewN n) R s p := by
  have e : (w.drewN n).heap = w.heap := by induction n generalizing w with
    | zero => rfl
    | succ n ih => exact ih (w := w.drew) h
  unfold RdC at h ⊢
  rw [e]; exact h
theorem leftC (R : Nat) (s : ByteArray) (p : Nat) (w : World) (h : RdC w R s p) (hs : s.size ≤ 1125899906842624) :
    Calls Try.prog 21 #[.pointer (some ⟨R, 0, none⟩)] w fun e w' => e = .returned (.bool (decide (p < s.size))) ∧ ∃ n, w' = w.drewN n := by
  have c0 := h.cell0
  have c1 := h.cell1
  go_enter Try.func21, Try.ntmps21
  go_wp2
  go_quiet (fail)
  go_wp2
  go_ret
  exact ⟨rfl, _, rfl⟩
/-- A piece is read: its value, and the reader behind it; or the reading gives up. -/
def TookC (R : Nat) (s : ByteArray) (p : Nat) (w : World) (v : Value) (q : Option Nat) (e : Ending) (w' : World) : Prop :=
  Fr R w w' ∧ ((∃ n, q = some n ∧ e = .returned v ∧ RdC w' R s n) ∨ (q = none ∧ e = oops 112))
abbrev TkS (w : World) (R : Nat) (s : ByteArray) (p : Nat) (W : World) : Prop := Below w.heap.size w W ∧ W.cell? ⟨R, 0, none⟩ = some (.string s) ∧ W.cell? ⟨R, 1, none⟩ = some (.int .i64 p)
theorem TkS.drew {w W : World} {R : Nat} {s : ByteArray} {p : Nat} (h : TkS w R s p W) : TkS w R s p W.drew := ⟨h.1.drew, h.2.1, h.2.2⟩
theorem TkS.next {w W W' : World} {R : Nat} {s : ByteArray} {p : Nat} (h : TkS w R s p W) (hR : R < w.heap.size) (hb : Below W.heap.size W W') : TkS w R s p W' :=
  have hlt : R < W.heap.size := Nat.lt_of_lt_of_le hR h.1.size
  ⟨h.1.trans (hb.mono h.1.size), (hb.cell (p := ⟨R, 0, none⟩) hlt).trans h.2.1, (hb.cell (p := ⟨R, 1, none⟩) hlt).trans h.2.2⟩
set_option maxHeartbeats 1600000 in
theorem takeU (R : Nat) (s : ByteArray) (p : Nat) (w : World) (h : RdC w R s p) (hp : p ≤ s.size) (hs : s.size ≤ 1125899906842624) :
    Calls Try.prog 23 #[.pointer (some ⟨R, 0, none⟩), .func (.func 24) #[] #[]] w (TookC R s p w (.int .u64 ( (ruV s p).1 : Nat)) (if (ruV s p).2.2 = 0 then some (p + (ruV s p).2.1) else none)) := by
  have hT : TkS w R s p w := ⟨Below.refl _ _, h.cell0, h.cell1⟩
  have HU : Hid (∀ W, TkS w R s p W → Calls Try.prog 24 #[.string s, .int .i64 p] W fun e w' => e = .returned (.tuple #[.int .u64 (rU s p).1, .int .i64 (rU s p).2.1, .int .i64 (rU s p).2.2]) ∧ TkS w R s p w') := fun W hW => (ReadUvarint_any s p W (by omega) (by omega) hs).mono fun e w' ⟨he, hb⟩ => ⟨he, hW.next h.lt hb⟩
  have HR : Hid (RdC w R s p) := h
  clear h
  by_cases hc : (ruV s p).2.2 = 0
  · have he : rU s (p : Int) = (((ruV s p).1 : Int), (p : Int) + (ruV s p).2.1, 0) := rd3_ok s p (0 : Int) (tU s) hp hc
    rw [he] at HU
    have hin := (ruV_bound s p).2.2.2.2 hc
    rw [if_pos hc]
    clear hc he
    generalize (ruV s p).1 = v at *
    generalize (ruV s p).2.1 = n at *
    go_enter Try.func23, Try.ntmps23
    go_wp2
    go_region_held3 (fun W => TkS w R s p W) (first | assumption | exact TkS.drew (by assumption)) (first | (go_at_call 24; refine (HU.out _ (by first | assumption | exact TkS.drew (by assumption))).mono ?_; rintro e w7 ⟨rfl, BT⟩))
    have HB : Hid (Below w.heap.size w w7) := BT.1
    have c1 := BT.2.2
    have f1 := (HR.out.later BT.1).free 1
    have HR7 : Hid (RdC w7 R s p) := HR.out.later BT.1
    clear BT
    go_wp2
    go_ret
    refine ⟨(Fr.of (Nat.le_of_lt HR.out.lt) HB.out).setCell rfl _, .inl ⟨p + n, rfl, rfl, ?_⟩⟩
    have := HR7.out.move (p + n)
    rw [Int.natCast_add] at this
    exact this
  · have he : rU s (p : Int) = ((0 : Int), (p : Int), (ruV s p).2.2) := rd3_err s p (0 : Int) (tU s) hp hc
    rw [he] at HU
    rw [if_neg hc]
    have hcc : ((ruV s p).2.2 != 0) = true := by simpa using hc
    clear he hc
    generalize (ruV s p).2.2 = c at *
    go_enter Try.func23, Try.ntmps23
    go_wp2
    go_region_held3 (fun W => TkS w R s p W) (first | assumption | exact TkS.drew (by assumption)) (first | (go_at_call 24; refine (HU.out _ (by first | assumption | exact TkS.drew (by assumption))).mono ?_; rintro e w7 ⟨rfl, BT⟩))
    have HB : Hid (Below w.heap.size w w7) := BT.1
    clear BT
    go_wp2
    exact ⟨rfl, Fr.of (Nat.le_of_lt HR.out.lt) HB.out, .inr ⟨rfl, rfl⟩⟩
set_option maxHeartbeats 1600000 in
theorem takeB (R : Nat) (s : ByteArray) (p : Nat) (w : World) (h : RdC w R s p) (hp : p ≤ s.size) (hs : s.size ≤ 1125899906842624) :
    Calls Try.prog 19 #[.pointer (some ⟨R, 0, none⟩), .func (.func 20) #[] #[]] w (TookC R s p w (.string (rbV s p 1048576).1) (if (rbV s p 1048576).2.2 = 0 then some (p + (rbV s p 1048576).2.1) else none)) := by
  have hT : TkS w R s p w := ⟨Below.refl _ _, h.cell0, h.cell1⟩
  have HU : Hid (∀ W, TkS w R s p W → Calls Try.prog 20 #[.string s, .int .i64 p] W fun e w' => e = .returned (.tuple #[.string (rB s p).1, .int .i64 (rB s p).2.1, .int .i64 (rB s p).2.2]) ∧ TkS w R s p w') := fun W hW => (ReadBlob_any s p W (by omega) (by omega) hs).mono fun e w' ⟨he, hb⟩ => ⟨he, hW.next h.lt hb⟩
  have HR : Hid (RdC w R s p) := h
  clear h
  by_cases hc : (rbV s p 1048576).2.2 = 0
  · have he : rB s (p : Int) = ((rbV s p 1048576).1, (p : Int) + (rbV s p 1048576).2.1, 0) := rd3_ok s p ByteArray.empty (tB s) hp hc
    rw [he] at HU
    have hin := (rb_form s p 1048576 hc).2.2.2
    rw [if_pos hc]
    clear hc he
    generalize (rbV s p 1048576).1 = v at *
    generalize (rbV s p 1048576).2.1 = n at *
    go_enter Try.func19, Try.ntmps19
    go_wp2
    go_region_held3 (fun W => TkS w R s p W) (first | assumption | exact TkS.drew (by assumption)) (first | (go_at_call 20; refine (HU.out _ (by first | assumption | exact TkS.drew (by assumption))).mono ?_; rintro e w7 ⟨rfl, BT⟩))
    have HB : Hid (Below w.heap.size w w7) := BT.1
    have c1 := BT.2.2
    have f1 := (HR.out.later BT.1).free 1
    have HR7 : Hid (RdC w7 R s p) := HR.out.later BT.1
    clear BT
    go_wp2
    go_ret
    refine ⟨(Fr.of (Nat.le_of_lt HR.out.lt) HB.out).setCell rfl _, .inl ⟨p + n, rfl, rfl, ?_⟩⟩
    have := HR7.out.move (p + n)
    rw [Int.natCast_add] at this
    exact this
  · have he : rB s (p : Int) = (ByteArray.empty, (p : Int), (rbV s p 1048576).2.2) := rd3_err s p ByteArray.empty (tB s) hp hc
    rw [he] at HU
    rw [if_neg hc]
    have hcc : ((rbV s p 1048576).2.2 != 0) = true := by simpa using hc
    clear he hc
    generalize (rbV s p 1048576).2.2 = c at *
    go_enter Try.func19, Try.ntmps19
    go_wp2
    go_region_held3 (fun W => TkS w R s p W) (first | assumption | exact TkS.drew (by assumption)) (first | (go_at_call 20; refine (HU.out _ (by first | assumption | exact TkS.drew (by assumption))).mono ?_; rintro e w7 ⟨rfl, BT⟩))
    have HB : Hid (Below w.heap.size w w7) := BT.1
    clear BT
    go_wp2
    exact ⟨rfl, Fr.of (Nat.le_of_lt HR.out.lt) HB.out, .inr ⟨rfl, rfl⟩⟩
end Go.Proofs.Ytmolfemcciljjaa
