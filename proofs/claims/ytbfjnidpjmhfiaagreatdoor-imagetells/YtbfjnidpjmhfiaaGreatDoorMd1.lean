import Derived.Test.YtbfjnidpjmhfiaaGreatDoorReads3
import Derived.Test.YtbfjnidpjmhfiaaGreatDoorMfP
import Derived.Test.YtbfjnidpjmhfiaaGreatDoorRegG
import Derived.Deep.QuietTactic
import Derived.BigQuiet
namespace Go.Proofs.YtbfjnidpjmhfiaaGreatDoor
open Go.ChangeShapes Go.WideShapes Go.ChangeAt Go.RowKit
set_option linter.unusedVariables false
set_option maxRecDepth 100000
theorem hideG {P : Prop} (h : Hid P) : P := h.out
/-- A reader of a file at the block R: the text, and the place. -/
def RdI (w : World) (R : Nat) (s : ByteArray) (p : Nat) : Prop := w.heap[R]? = some (.cells #[.string s, .int .i64 p] 133 (0, 0))
theorem RdI.cell0 {w : World} {R : Nat} {s : ByteArray} {p : Nat} (h : RdI w R s p) : w.cell? ⟨R, 0, none⟩ = some (.string s) := by
  unfold RdI at h
  simp [World.cell?, h]
theorem RdI.cell1 {w : World} {R : Nat} {s : ByteArray} {p : Nat} (h : RdI w R s p) : w.cell? ⟨R, 1, none⟩ = some (.int .i64 p) := by
  unfold RdI at h
  simp [World.cell?, h]
theorem RdI.free {w : World} {R : Nat} {s : ByteArray} {p : Nat} (h : RdI w R s p) (j : Nat) : w.frozen? ⟨R, j, none⟩ = false := by
  unfold RdI at h
  simp [World.frozen?, h]
theorem RdI.drew {w : World} {R : Nat} {s : ByteArray} {p : Nat} (h : RdI w R s p) : RdI w.drew R s p := h
theorem RdI.move {w : World} {R : Nat} {s : ByteArray} {p : Nat} (h : RdI w R s p) (q : Nat) : RdI (w.setCell ⟨R, 1, none⟩ (.int .i64 q)) R s q := by
  unfold RdI at h ⊢
  simp [World.setCell, Array.getElem?_modify, h]
theorem RdI.lt {w : World} {R : Nat} {s : ByteArray} {p : Nat} (h : RdI w R s p) : R < w.heap.size := by
  rcases Nat.lt_or_ge R w.heap.size with h1 | h1
  · exact h1
  · unfold RdI at h
    rw [Array.getElem?_eq_none h1] at h
    cases h
theorem RdI.later {w w' : World} {R : Nat} {s : ByteArray} {p : Nat} (h : RdI w R s p) (hb : Below w.heap.size w w') : RdI w' R s p := (hb.block R h.lt).trans h
theorem RdI.other {W : World} {R : Nat} {s : ByteArray} {q : Nat} (h : RdI W R s q) {p : Addr} (v : Value) (hp : R ≠ p.block) : RdI (W.setCell p v) R s q := (Below.heap_setCell W p v R hp).trans h
theorem giveUpI_no (c : Int) (w : World) : Calls Tryz.prog 63 #[.bool false, .int .i64 c] w fun e w' => e = .returned (.tuple #[]) ∧ w' = w := by
  go_enter Tryz.func63, Tryz.ntmps63
  go_wp2
  go_end0
  exact ⟨rfl, rfl⟩
theorem giveUpI_yes (c : Int) (w : World) : Calls Tryz.prog 63 #[.bool true, .int .i64 c] w fun e w' => e = oops c ∧ w' = w := by
  go_enter Tryz.func63, Tryz.ntmps63
  go_wp2
  exact ⟨rfl, rfl, rfl⟩
theorem RdI.drewN {w : World} {R : Nat} {s : ByteArray} {p : Nat} (h : RdI w R s p) (n : Nat) : RdI (w.drewN n) R s p := by
  have e : (w.drewN n).heap = w.heap := by induction n generalizing w with
    | zero => rfl
    | succ n ih => exact ih (w := w.drew) h
  unfold RdI at h ⊢
  rw [e]; exact h
theorem leftI (R : Nat) (s : ByteArray) (p : Nat) (w : World) (h : RdI w R s p) (hs : s.size ≤ 1125899906842624) :
    Calls Tryz.prog 64 #[.pointer (some ⟨R, 0, none⟩)] w fun e w' => e = .returned (.bool (decide (p < s.size))) ∧ ∃ n, w' = w.drewN n := by
  have c0 := h.cell0
  have c1 := h.cell1
  go_enter Tryz.func64, Tryz.ntmps64
  go_wp2
  go_quiet (fail)
  go_wp2
  go_ret
  exact ⟨rfl, _, rfl⟩
/-- A number is read, and the reader stands behind it; or the reading gives up. -/
def TookI (R : Nat) (s : ByteArray) (w : World) (k : IntKind) (r : Option (Int × Nat)) (e : Ending) (w' : World) : Prop :=
  Fr R w w' ∧ ((∃ x q, r = some (x, q) ∧ e = .returned (.int k x) ∧ RdI w' R s q) ∨ (r = none ∧ e = oops 125))
abbrev TkI (w : World) (R : Nat) (s : ByteArray) (p : Nat) (W : World) : Prop := Below w.heap.size w W ∧ W.cell? ⟨R, 0, none⟩ = some (.string s) ∧ W.cell? ⟨R, 1, none⟩ = some (.int .i64 p)
theorem TkI.drew {w W : World} {R : Nat} {s : ByteArray} {p : Nat} (h : TkI w R s p W) : TkI w R s p W.drew := ⟨h.1.drew, h.2.1, h.2.2⟩
theorem TkI.next {w W W' : World} {R : Nat} {s : ByteArray} {p : Nat} (h : TkI w R s p W) (hR : R < w.heap.size) (hb : Below W.heap.size W W') : TkI w R s p W' :=
  have hlt : R < W.heap.size := Nat.lt_of_lt_of_le hR h.1.size
  ⟨h.1.trans (hb.mono h.1.size), (hb.cell (p := ⟨R, 0, none⟩) hlt).trans h.2.1, (hb.cell (p := ⟨R, 1, none⟩) hlt).trans h.2.2⟩
/-- A number, without a bound. -/
def rdT (s : ByteArray) (p : Nat) : Option (Int × Nat) := if (ruV s p).2.2 = 0 then some (((ruV s p).1 : Int), p + (ruV s p).2.1) else none
theorem rdU_T (s : ByteArray) (p : Nat) (most : Int) : rdU s p most = (rdT s p).bind fun x => if x.1 ≤ most then some x else none := by
  unfold rdU rdT
  by_cases h : (ruV s p).2.2 = 0
  · rw [if_pos h]
    simp [h]
  · rw [if_neg h, if_neg (fun x => h x.1)]
    rfl
set_option maxHeartbeats 1600000 in
theorem takeUI (R : Nat) (s : ByteArray) (p : Nat) (w : World) (h : RdI w R s p) (hp : p ≤ s.size) (hs : s.size ≤ 1125899906842624) :
    Calls Tryz.prog 79 #[.pointer (some ⟨R, 0, none⟩), .func (.func 80) #[] #[]] w (TookI R s w .u64 (rdT s p)) := by
  have hT : TkI w R s p w := ⟨Below.refl _ _, h.cell0, h.cell1⟩
  have HU : Hid (∀ W, TkI w R s p W → Calls Tryz.prog 80 #[.string s, .int .i64 p] W fun e w' => e = .returned (.tuple #[.int .u64 (rU s p).1, .int .i64 (rU s p).2.1, .int .i64 (rU s p).2.2]) ∧ TkI w R s p w') := fun W hW => (ReadUvarint_any s p W (by omega) (by omega) hs).mono fun e w' ⟨he, hb⟩ => ⟨he, hW.next h.lt hb⟩
  have HR : Hid (RdI w R s p) := h
  clear h
  unfold rdT
  by_cases hc : (ruV s p).2.2 = 0
  · have he : rU s (p : Int) = (((ruV s p).1 : Int), (p : Int) + (ruV s p).2.1, 0) := rd3_ok s p (0 : Int) (tU s) hp hc
    rw [he] at HU
    have hin := (ruV_bound s p).2.2.2.2 hc
    rw [if_pos hc]
    clear hc he
    generalize (ruV s p).1 = v at *
    generalize (ruV s p).2.1 = n at *
    go_enter Tryz.func79, Tryz.ntmps79
    go_wp2
    go_region_held3 (fun W => TkI w R s p W) (first | assumption | exact TkI.drew (by assumption)) (first | (go_at_call 80; refine (HU.out _ (by first | assumption | exact TkI.drew (by assumption))).mono ?_; rintro e w7 ⟨rfl, BT⟩))
    have HB : Hid (Below w.heap.size w w7) := BT.1
    have c1 := BT.2.2
    have f1 := (HR.out.later BT.1).free 1
    have HR7 : Hid (RdI w7 R s p) := HR.out.later BT.1
    clear BT
    go_wp2_with fail
    refine (giveUpI_no 125 w7).mono ?_
    rintro e w8 ⟨rfl, rfl⟩
    go_wp2
    go_ret
    refine ⟨(Fr.of (Nat.le_of_lt HR.out.lt) HB.out).setCell rfl _, .inl ⟨_, p + n, rfl, rfl, ?_⟩⟩
    have := HR7.out.move (p + n)
    rw [Int.natCast_add] at this
    exact this
  · have he : rU s (p : Int) = ((0 : Int), (p : Int), (ruV s p).2.2) := rd3_err s p (0 : Int) (tU s) hp hc
    rw [he] at HU
    rw [if_neg hc]
    have hcc : ((ruV s p).2.2 != 0) = true := by simpa using hc
    clear he hc
    generalize (ruV s p).2.2 = c at *
    go_enter Tryz.func79, Tryz.ntmps79
    go_wp2
    go_region_held3 (fun W => TkI w R s p W) (first | assumption | exact TkI.drew (by assumption)) (first | (go_at_call 80; refine (HU.out _ (by first | assumption | exact TkI.drew (by assumption))).mono ?_; rintro e w7 ⟨rfl, BT⟩))
    have HB : Hid (Below w.heap.size w w7) := BT.1
    clear BT
    go_wp2_with fail
    refine (giveUpI_yes 125 w7).mono ?_
    rintro e w8 ⟨rfl, rfl⟩
    exact ⟨rfl, Fr.of (Nat.le_of_lt HR.out.lt) HB.out, .inr ⟨rfl, rfl⟩⟩
set_option maxHeartbeats 1600000 in
theorem takeFI (R : Nat) (s : ByteArray) (p : Nat) (w : World) (h : RdI w R s p) (hp : p ≤ s.size) (hs : s.size ≤ 1125899906842624) :
    Calls Tryz.prog 86 #[.pointer (some ⟨R, 0, none⟩), .func (.func 87) #[] #[]] w (TookI R s w .u32 (rdF4 s p)) := by
  have hT : TkI w R s p w := ⟨Below.refl _ _, h.cell0, h.cell1⟩
  have HU : Hid (∀ W, TkI w R s p W → Calls Tryz.prog 87 #[.string s, .int .i64 p] W fun e w' => e = .returned (.tuple #[.int .u32 (rF s p).1, .int .i64 (rF s p).2.1, .int .i64 (rF s p).2.2]) ∧ TkI w R s p w') := fun W hW => (ReadFixed32_any s p W (by omega) (by omega) hs).mono fun e w' ⟨he, hb⟩ => ⟨he, hW.next h.lt hb⟩
  have HR : Hid (RdI w R s p) := h
  clear h
  unfold rdF4
  by_cases hc : p + 4 ≤ s.size
  · have he : rF s (p : Int) = ((fxV s p 4 : Int), (p : Int) + (4 : Nat), 0) := rd3_ok s p (0 : Int) (tF s) hp (by show fxE s p 4 = 0; unfold fxE; rw [if_pos hc])
    rw [he] at HU
    rw [if_pos hc]
    clear he
    generalize fxV s p 4 = v at *
    go_enter Tryz.func86, Tryz.ntmps86
    go_wp2
    go_region_held3 (fun W => TkI w R s p W) (first | assumption | exact TkI.drew (by assumption)) (first | (go_at_call 87; refine (HU.out _ (by first | assumption | exact TkI.drew (by assumption))).mono ?_; rintro e w7 ⟨rfl, BT⟩))
    have HB : Hid (Below w.heap.size w w7) := BT.1
    have c1 := BT.2.2
    have f1 := (HR.out.later BT.1).free 1
    have HR7 : Hid (RdI w7 R s p) := HR.out.later BT.1
    clear BT
    go_wp2_with fail
    refine (giveUpI_no 125 w7).mono ?_
    rintro e w8 ⟨rfl, rfl⟩
    go_wp2
    go_ret
    refine ⟨(Fr.of (Nat.le_of_lt HR.out.lt) HB.out).setCell rfl _, .inl ⟨_, p + 4, rfl, rfl, ?_⟩⟩
    have := HR7.out.move (p + 4)
    rw [Int.natCast_add] at this
    exact this
  · have he : rF s (p : Int) = ((0 : Int), (p : Int), 11) := (by have h2 : fxE s p 4 = 11 := (by unfold fxE; rw [if_neg hc]); have := rd3_err s p (0 : Int) (tF s) hp (by show fxE s p 4 ≠ 0; rw [h2]; decide); rw [show (tF s p).2.2 = 11 from h2] at this; exact this)
    rw [he] at HU
    rw [if_neg hc]
    clear he
    go_enter Tryz.func86, Tryz.ntmps86
    go_wp2
    go_region_held3 (fun W => TkI w R s p W) (first | assumption | exact TkI.drew (by assumption)) (first | (go_at_call 87; refine (HU.out _ (by first | assumption | exact TkI.drew (by assumption))).mono ?_; rintro e w7 ⟨rfl, BT⟩))
    have HB : Hid (Below w.heap.size w w7) := BT.1
    clear BT
    go_wp2_with fail
    refine (giveUpI_yes 125 w7).mono ?_
    rintro e w8 ⟨rfl, rfl⟩
    exact ⟨rfl, Fr.of (Nat.le_of_lt HR.out.lt) HB.out, .inr ⟨rfl, rfl⟩⟩
theorem numberI (R : Nat) (s : ByteArray) (p : Nat) (most : Int) (w : World) (h : RdI w R s p) (hp : p ≤ s.size) (hs : s.size ≤ 1125899906842624) :
    Calls Tryz.prog 60 #[.pointer (some ⟨R, 0, none⟩), .int .u64 most] w (TookI R s w .u64 (rdU s p most)) := by
  rw [rdU_T]
  have HT : Hid (∀ _ : Unit, _) := fun _ => takeUI R s p w h hp hs
  clear h hp
  generalize rdT s p = r at *
  go_enter Tryz.func60, Tryz.ntmps60
  go_wp2_with fail
  refine (HT.out ()).mono ?_
  rintro e w1 ⟨hf, ⟨x, q, rfl, rfl, hr⟩ | ⟨rfl, rfl⟩⟩
  · have HF : Hid _ := hf
    have HR : Hid _ := hr
    clear hf hr HT
    by_cases hx : x ≤ most
    · have HE : Hid ((some (x, q)).bind (fun y : Int × Nat => if y.1 ≤ most then some y else none) = some (x, q)) := by show _ = _; simp [hx]
      have hxd : decide (most < x) = false := decide_eq_false (by omega)
      go_wp2_with fail
      refine (giveUpI_no 125 w1).mono ?_
      rintro e w2 ⟨rfl, rfl⟩
      go_wp2
      go_ret
      exact ⟨HF.out, .inl ⟨x, q, HE.out, rfl, HR.out⟩⟩
    · have HE : Hid ((some (x, q)).bind (fun y : Int × Nat => if y.1 ≤ most then some y else none) = none) := by show _ = _; simp [hx]
      go_wp2_with fail
      refine (giveUpI_yes 125 w1).mono ?_
      rintro e w2 ⟨rfl, rfl⟩
      exact ⟨rfl, HF.out, .inr ⟨HE.out, rfl⟩⟩
  · exact ⟨rfl, hf, .inr ⟨rfl, rfl⟩⟩
theorem countI (R : Nat) (s : ByteArray) (p : Nat) (most : Int) (w : World) (h : RdI w R s p) (hp : p ≤ s.size) (hs : s.size ≤ 1125899906842624) (h0 : 0 ≤ most) (h1 : most ≤ 9223372036854775807) :
    Calls Tryz.prog 59 #[.pointer (some ⟨R, 0, none⟩), .int .i64 most] w (TookI R s w .i64 (rdU s p most)) := by
  have HT : Hid (∀ _ : Unit, _) := fun _ => numberI R s p most w h hp hs
  have HB : Hid (∀ x q, rdU s p most = some (x, q) → 0 ≤ x ∧ x ≤ most) := fun x q h => ⟨(rdU_form h).2.2.1, (rdU_form h).2.2.2⟩
  clear h hp
  generalize rdU s p most = r at *
  go_enter Tryz.func59, Tryz.ntmps59
  go_wp2_with fail
  refine (HT.out ()).mono ?_
  rintro e w1 ⟨hf, ⟨x, q, rfl, rfl, hr⟩ | ⟨rfl, rfl⟩⟩
  · have HF : Hid _ := hf
    have HR : Hid _ := hr
    obtain ⟨b0, b1⟩ := HB.out x q rfl
    clear hf hr HT HB
    go_wp2
    go_ret
    exact ⟨HF.out, .inl ⟨x, q, rfl, rfl, HR.out⟩⟩
  · exact ⟨rfl, hf, .inr ⟨rfl, rfl⟩⟩
end Go.Proofs.YtbfjnidpjmhfiaaGreatDoor
