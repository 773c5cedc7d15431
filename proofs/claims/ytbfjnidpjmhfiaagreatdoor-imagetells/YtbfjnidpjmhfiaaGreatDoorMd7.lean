import Derived.Test.YtbfjnidpjmhfiaaGreatDoorMd1
import Derived.Test.YtbfjnidpjmhfiaaGreatDoorReads7
namespace Go.Proofs.YtbfjnidpjmhfiaaGreatDoor
open Go.ChangeShapes Go.WideShapes Go.ChangeAt Go.RowKit
set_option linter.unusedVariables false
set_option maxRecDepth 100000
/-- A loose reader at the block C: the text, the place, whether it has run out. -/
def Cu (w : World) (C : Nat) (s : ByteArray) (p : Nat) (bad : Bool) : Prop := w.heap[C]? = some (.cells #[.string s, .int .i64 p, .bool bad] 75 (0, 0))
theorem Cu.cell {w : World} {C : Nat} {s : ByteArray} {p : Nat} {bad : Bool} (h : Cu w C s p bad) (j : Nat) : w.cell? ⟨C, j, none⟩ = (#[.string s, .int .i64 p, .bool bad] : Array Value)[j]? := cells_at h j
theorem Cu.free {w : World} {C : Nat} {s : ByteArray} {p : Nat} {bad : Bool} (h : Cu w C s p bad) (j : Nat) : w.frozen? ⟨C, j, none⟩ = false := by
  unfold Cu at h
  simp [World.frozen?, h]
theorem Cu.lt {w : World} {C : Nat} {s : ByteArray} {p : Nat} {bad : Bool} (h : Cu w C s p bad) : C < w.heap.size := (Array.getElem?_eq_some_iff.1 h).1
theorem Cu.later {w w' : World} {B C : Nat} {s : ByteArray} {p : Nat} {bad : Bool} (h : Cu w C s p bad) (hb : Below B w w') (hB : C < B) : Cu w' C s p bad := (hb.block C hB).trans h
theorem Cu.other {W : World} {C : Nat} {s : ByteArray} {q : Nat} {bad : Bool} (h : Cu W C s q bad) {p : Addr} (v : Value) (hp : C ≠ p.block) : Cu (W.setCell p v) C s q bad := (Below.heap_setCell W p v C hp).trans h
theorem Cu.move {w : World} {C : Nat} {s : ByteArray} {p : Nat} {bad : Bool} (h : Cu w C s p bad) (q : Nat) : Cu (w.setCell ⟨C, 1, none⟩ (.int .i64 q)) C s q bad := by
  unfold Cu at h ⊢
  simp [World.setCell, Array.getElem?_modify, h]
theorem Cu.spoil {w : World} {C : Nat} {s : ByteArray} {p : Nat} {bad : Bool} (h : Cu w C s p bad) (c : Bool) : Cu (w.setCell ⟨C, 2, none⟩ (.bool c)) C s p c := by
  unfold Cu at h ⊢
  simp [World.setCell, Array.getElem?_modify, h]
/-- A piece is read loosely: whatever it is, and what stands there if it is a piece of the form F. -/
def CuR (C : Nat) (s : ByteArray) (p : Nat) (bad : Bool) (w : World) (k : IntKind) (hi : Int) (F : Int → List Int) (e : Ending) (w' : World) : Prop :=
  Fr C w w' ∧ ∃ v q bad', e = .returned (.int k v) ∧ Cu w' C s q bad' ∧ 0 ≤ v ∧ v ≤ hi ∧ q ≤ s.size ∧ ∀ x, 0 ≤ x → x ≤ hi → bad = false → HasAt s p (F x) → v = x ∧ q = p + (F x).length ∧ bad' = false
abbrev TkU (w : World) (C : Nat) (s : ByteArray) (p : Nat) (W : World) : Prop := Below w.heap.size w W ∧ W.cell? ⟨C, 0, none⟩ = some (.string s) ∧ W.cell? ⟨C, 1, none⟩ = some (.int .i64 p)
theorem TkU.drew {w W : World} {C : Nat} {s : ByteArray} {p : Nat} (h : TkU w C s p W) : TkU w C s p W.drew := ⟨h.1.drew, h.2.1, h.2.2⟩
set_option maxHeartbeats 1600000 in
theorem numberU (C : Nat) (s : ByteArray) (p : Nat) (bad : Bool) (w : World) (h : Cu w C s p bad) (hp : p ≤ s.size) (hs : s.size ≤ 1125899906842624) :
    Calls Tryz.prog 37 #[.pointer (some ⟨C, 0, none⟩)] w (CuR C s p bad w .u64 18446744073709551615 uvB) := by
  have hc0 : w.cell? ⟨C, 0, none⟩ = some (.string s) := h.cell 0
  have hc1 : w.cell? ⟨C, 1, none⟩ = some (.int .i64 p) := h.cell 1
  have hT : TkU w C s p w := ⟨Below.refl _ _, hc0, hc1⟩
  have HC : Hid (Cu w C s p bad) := h
  have HU : Hid (∀ W, TkU w C s p W → Calls Tryz.prog 65 #[.string s, .int .i64 p] W fun e w' => e = .returned (.tuple #[.int .u64 (rU s p).1, .int .i64 (rU s p).2.1, .int .i64 (rU s p).2.2]) ∧ TkU w C s p w') := fun W hW => (ref_uv s p W hs).mono fun e w' ⟨he, hb⟩ => ⟨he, by rw [hb]; exact hW⟩
  have HB : Hid (∀ x : Int, 0 ≤ x → x ≤ 18446744073709551615 → HasAt s p (uvB x) → ruV s p = (x.toNat, (uvB x).length, 0)) := fun x h0 h1 hh => by
    obtain ⟨n, rfl⟩ := Int.eq_ofNat_of_zero_le h0
    rw [Int.toNat_natCast]
    exact ru_back0 s p n hh (by omega)
  clear h hc0 hc1
  by_cases hc : (ruV s p).2.2 = 0
  · have he : rU s (p : Int) = (((ruV s p).1 : Int), (p : Int) + (ruV s p).2.1, 0) := rd3_ok s p (0 : Int) (tU s) hp hc
    rw [he] at HU
    have hin := (ruV_bound s p).2.2.2.2 hc
    have hvb : ((ruV s p).1 : Int) ≤ 18446744073709551615 := by
      have := (rU_bounds s p).2.1
      rw [he] at this
      exact this
    have HB2 : Hid (∀ x : Int, 0 ≤ x → x ≤ 18446744073709551615 → HasAt s p (uvB x) → ((ruV s p).1 : Int) = x ∧ p + (ruV s p).2.1 = p + (uvB x).length) := fun x h0 h1 hh => by
      rw [HB.out x h0 h1 hh]
      exact ⟨by simp only; omega, rfl⟩
    clear hc he HB
    generalize (ruV s p).1 = v at *
    generalize (ruV s p).2.1 = n at *
    go_enter Tryz.func37, Tryz.ntmps37
    go_wp2
    go_region_held3 (fun W => TkU w C s p W) (first | assumption | exact TkU.drew (by assumption)) (first | (go_at_call 65; refine (HU.out _ (by first | assumption | exact TkU.drew (by assumption))).mono ?_; rintro e w7 ⟨rfl, BT⟩))
    have HBl : Hid (Below w.heap.size w w7) := BT.1
    have hC7 := HC.out.later BT.1 HC.out.lt
    have c1 : w7.cell? ⟨C, 1, none⟩ = some (.int .i64 p) := hC7.cell 1
    have c2 : w7.cell? ⟨C, 2, none⟩ = some (.bool bad) := hC7.cell 2
    have f1 := hC7.free 1
    have f2 := hC7.free 2
    have HC7 : Hid (Cu w7 C s p bad) := hC7
    clear BT hC7
    cases bad
    · go_wp2
      go_ret
      refine ⟨(Fr.of (Nat.le_of_lt HC.out.lt) HBl.out).setCell rfl _, v, p + n, false, rfl, ?_, by omega, hvb, hin, fun x h0 h1 hb hh => ⟨(HB2.out x h0 h1 hh).1, (HB2.out x h0 h1 hh).2, rfl⟩⟩
      have := HC7.out.move (p + n)
      rw [Int.natCast_add] at this
      exact this
    · go_wp2
      go_ret
      refine ⟨(Fr.of (Nat.le_of_lt HC.out.lt) HBl.out).setCell rfl _, 0, p, true, rfl, HC7.out.spoil true, by omega, by omega, hp, fun x h0 h1 hb hh => ?_⟩
      cases hb
  · have he : rU s (p : Int) = ((0 : Int), (p : Int), (ruV s p).2.2) := rd3_err s p (0 : Int) (tU s) hp hc
    rw [he] at HU
    have hcc : ((ruV s p).2.2 != 0) = true := by simpa using hc
    have HB2 : Hid (∀ x : Int, 0 ≤ x → x ≤ 18446744073709551615 → HasAt s p (uvB x) → False) := fun x h0 h1 hh => by
      apply hc
      rw [HB.out x h0 h1 hh]
    clear he hc HB
    generalize (ruV s p).2.2 = c at *
    go_enter Tryz.func37, Tryz.ntmps37
    go_wp2
    go_region_held3 (fun W => TkU w C s p W) (first | assumption | exact TkU.drew (by assumption)) (first | (go_at_call 65; refine (HU.out _ (by first | assumption | exact TkU.drew (by assumption))).mono ?_; rintro e w7 ⟨rfl, BT⟩))
    have HBl : Hid (Below w.heap.size w w7) := BT.1
    have hC7 := HC.out.later BT.1 HC.out.lt
    have c1 : w7.cell? ⟨C, 1, none⟩ = some (.int .i64 p) := hC7.cell 1
    have c2 : w7.cell? ⟨C, 2, none⟩ = some (.bool bad) := hC7.cell 2
    have f1 := hC7.free 1
    have f2 := hC7.free 2
    have HC7 : Hid (Cu w7 C s p bad) := hC7
    clear BT hC7
    go_wp2
    go_ret
    refine ⟨(Fr.of (Nat.le_of_lt HC.out.lt) HBl.out).setCell rfl _, 0, p, true, rfl, HC7.out.spoil true, by omega, by omega, hp, fun x h0 h1 hb hh => (HB2.out x h0 h1 hh).elim⟩
theorem smallU (C : Nat) (s : ByteArray) (p : Nat) (bad : Bool) (w : World) (h : Cu w C s p bad) (hp : p ≤ s.size) (hs : s.size ≤ 1125899906842624) :
    Calls Tryz.prog 36 #[.pointer (some ⟨C, 0, none⟩)] w (CuR C s p bad w .i64 1099511627776 uvB) := by
  have HN : Hid (∀ _ : Unit, _) := fun _ => numberU C s p bad w h hp hs
  clear h hp
  go_enter Tryz.func36, Tryz.ntmps36
  go_wp2_with fail
  refine (HN.out ()).mono ?_
  rintro e w1 ⟨hf, v, q, bad', rfl, hc, h0, h1, hq, hx⟩
  have HF : Hid _ := hf
  have HC : Hid _ := hc
  have HX : Hid _ := hx
  clear hf hc hx HN
  by_cases hv : v ≤ 1099511627776
  · have hd : decide (1099511627776 < v) = false := decide_eq_false (by omega)
    go_wp2
    go_ret
    exact ⟨HF.out, v, q, bad', rfl, HC.out, h0, hv, hq, fun x a b c d => HX.out x a (by omega) c d⟩
  · have hd : decide (1099511627776 < v) = true := decide_eq_true (by omega)
    go_wp2
    go_ret
    refine ⟨HF.out, 1099511627776, q, bad', rfl, HC.out, by omega, by omega, hq, fun x a b c d => ?_⟩
    have := HX.out x a (by omega) c d
    omega
end Go.Proofs.YtbfjnidpjmhfiaaGreatDoor
