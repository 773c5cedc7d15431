import Derived.Test.YtlnpeicflofkjaaDoorFrmP2
import Derived.Deep.RegionHeld3
namespace Go.Proofs.YtlnpeicflofkjaaDoor
open Go.ChangeShapes Go.WideShapes Go.ChangeAt Go.RowKit
set_option linter.unusedVariables false
set_option maxRecDepth 100000
/-- What stands while sums are asked. -/
def BelH (w W : World) : Prop := Below w.heap.size w W ∧ HalfAt W
theorem BelH.drew {w W : World} (h : BelH w W) : BelH w W.drew := ⟨h.1.drew, h.2.later ((Below.refl _ _).drew)⟩
theorem BelH.next {w W W' : World} (h : BelH w W) (hb : Below W.heap.size W W') : BelH w W' := ⟨h.1.trans (hb.mono h.1.size), h.2.later hb⟩
theorem BelH.start {w : World} (h : HalfAt w) : BelH w w := ⟨Below.refl _ _, h⟩
/-- A region ends as it should, with an act and a world that hang on one number (a new block's). -/
def Post3 (A : Nat → Act) (S : Nat → World → Prop) : Exit → Act → World → Prop
  | .normal, b, w' => ∃ g, b = A g ∧ S g w'
  | _, _, _ => False
theorem Post3.here (A : Nat → Act) {S : Nat → World → Prop} (g : Nat) {w' : World} (h : S g w') : Post3 A S .normal (A g) w' := ⟨g, rfl, h⟩
theorem wp_onceG {P : Program} {c : Code} {Q : Exit → Act → World → Prop} {a : Act} {w : World} (S : Nat → World → Prop) (h : ∃ A : Nat → Act, c.wp P (Post3 A S) a w ∧ ∀ g w', S g w' → Q .normal (A g) w') : c.wp P Q a w := by
  obtain ⟨A, h1, h2⟩ := h
  refine Code.wp_mono ?_ h1
  intro e b w' h
  cases e <;> first | exact h.elim | (obtain ⟨g, rfl, h3⟩ := h; exact h2 _ _ h3)
theorem bytes_beq (a b : ByteArray) : (a.toList == b.toList) = decide (a = b) := by
  rw [Bool.eq_iff_iff]
  simp only [beq_iff_eq, decide_eq_true_eq, ByteArray.toList_eq]
  constructor
  · intro h
    exact ByteArray.ext (Array.toList_inj.1 h)
  · intro h
    rw [h]
theorem isSummed_any (t : ByteArray) (w : World) (hz : t.size = 24) (hT : HalfAt w) : Calls Tryd.prog 29 #[.string t] w fun e w' => e = .returned (.bool (decide (fxV t 20 4 = crN (t.extract 0 20).data.toList))) ∧ Below w.heap.size w w' := by
  have HE : Hid (decide (fxV t 20 4 = crN (t.extract 0 20).data.toList) = ((t.extract 20 24).toList == (smB (t.extract 0 20)).toList)) := by
    show _ = _
    rw [bytes_beq, Bool.eq_iff_iff, decide_eq_true_eq, decide_eq_true_eq]
    exact (four_iff t 20 _ (by omega) (crN_lt' _)).symm
  have HS : Hid (∀ W, BelH w W → Calls Tryd.prog 16 #[.string (t.extract 0 20)] W fun e w' => e = .returned (.string (smB (t.extract 0 20))) ∧ BelH w w') := fun W h => (sumOf_any _ W (by rw [ByteArray.size_extract]; omega) h.2).mono fun e w' ⟨he, hb⟩ => ⟨he, h.next hb⟩
  generalize decide (fxV t 20 4 = crN (t.extract 0 20).data.toList) = r at *
  have h0 : BelH w w := BelH.start hT
  have H0 : Hid (BelH w w) := h0
  clear h0 hT
  go_enter Tryd.func29, Tryd.ntmps29
  go_wp2
  have h0 := H0.out
  go_region_held3 (fun W => BelH w W) (first | assumption | exact BelH.drew (by assumption)) (first | (go_at_call 16; refine (HS.out _ (by first | assumption | exact BelH.drew (by assumption))).mono ?_; rintro e w7 ⟨rfl, BT⟩))
  go_wp2
  go_ret
  exact ⟨by rw [HE.out]; rfl, BT.1⟩
theorem rfix32_any (s : ByteArray) (p : Nat) (w : World) (h : p + 4 ≤ s.size) (hs : s.size ≤ 1125899906842624) : Calls Tryd.prog 30 #[.string s, .int .i64 p] w fun e w' => e = .returned (.int .u32 (fxV s p 4 : Nat)) ∧ Below w.heap.size w w' := by
  have he : rF s (p : Int) = (((fxV s p 4 : Nat) : Int), (p : Int) + 4, 0) := by
    have := rd3_ok s p (0 : Int) (tF s) (by omega) (by show fxE s p 4 = 0; unfold fxE; rw [if_pos h])
    exact this
  have hc := ReadFixed32_any s p w (by omega) (by omega) hs
  rw [he] at hc
  have HC : Hid (∀ _ : Unit, _) := fun _ => hc
  clear hc he
  go_enter Tryd.func30, Tryd.ntmps30
  go_wp2_with fail
  refine (HC.out ()).mono ?_
  rintro e w1 ⟨rfl, hb⟩
  have HB : Hid (Below w.heap.size w w1) := hb
  clear hb HC
  go_wp2
  go_ret
  exact ⟨rfl, HB.out⟩
theorem rfix64_any (s : ByteArray) (p : Nat) (w : World) (h : p + 8 ≤ s.size) (hs : s.size ≤ 1125899906842624) : Calls Tryd.prog 31 #[.string s, .int .i64 p] w fun e w' => e = .returned (.int .u64 (fxV s p 8 : Nat)) ∧ Below w.heap.size w w' := by
  have he : rX s (p : Int) = (((fxV s p 8 : Nat) : Int), (p : Int) + 8, 0) := by
    have := rd3_ok s p (0 : Int) (tX s) (by omega) (by show fxE s p 8 = 0; unfold fxE; rw [if_pos h])
    exact this
  have hc := ReadFixed64_any s p w (by omega) (by omega) hs
  rw [he] at hc
  have HC : Hid (∀ _ : Unit, _) := fun _ => hc
  clear hc he
  go_enter Tryd.func31, Tryd.ntmps31
  go_wp2_with fail
  refine (HC.out ()).mono ?_
  rintro e w1 ⟨rfl, hb⟩
  have HB : Hid (Below w.heap.size w w1) := hb
  clear hb HC
  go_wp2
  go_ret
  exact ⟨rfl, HB.out⟩
end Go.Proofs.YtlnpeicflofkjaaDoor
