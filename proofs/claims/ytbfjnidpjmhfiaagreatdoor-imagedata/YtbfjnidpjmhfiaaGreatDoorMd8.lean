import Derived.Test.YtbfjnidpjmhfiaaGreatDoorMd7
import Derived.Test.YtbfjnidpjmhfiaaGreatDoorMfR
import Derived.Test.YtbfjnidpjmhfiaaGreatDoorMf8
namespace Go.Proofs.YtbfjnidpjmhfiaaGreatDoor
open Go.ChangeShapes Go.WideShapes Go.ChangeAt Go.RowKit
set_option linter.unusedVariables false
set_option maxRecDepth 100000
/-- A file is opened loosely. -/
def OpR (b mg : ByteArray) (w : World) (e : Ending) (w' : World) : Prop := Below w.heap.size w w' ∧ ((opE b mg = 0 ∧ ∃ C, e = .returned (.tuple #[.pointer (some ⟨C, 0, none⟩), .int .i64 0]) ∧ w.heap.size ≤ C ∧ Cu w' C (b.extract 8 (b.size - 4)) 0 false) ∨ (opE b mg ≠ 0 ∧ e = .returned (.tuple #[.pointer none, .int .i64 (opE b mg)])))
set_option maxHeartbeats 1600000 in
theorem opened_any (b mg : ByteArray) (w : World) (hm : mg.size = 8) (hs : b.size ≤ 1125899906842624) : Calls Tryz.prog 35 #[.string b, .string mg] w (OpR b mg w) := by
  by_cases h1 : b.size < 12
  · have hd1 : decide ((b.size : Int) < 12) = true := decide_eq_true (by omega)
    have HE : Hid (opE b mg = 123) := by show _ = _; unfold opE; rw [if_pos h1]
    go_enter Tryz.func35, Tryz.ntmps35
    go_wp2
    go_ret2
    exact ⟨Below.refl _ _, .inr ⟨by rw [HE.out]; decide, by rw [HE.out]; rfl⟩⟩
  · have hge : 12 ≤ b.size := by omega
    have hd1 : decide ((b.size : Int) < 12) = false := decide_eq_false (by omega)
    have hbq := bytes_beq (b.extract 0 8) mg
    by_cases h2 : b.extract 0 8 = mg
    · rw [decide_eq_true h2] at hbq
      have HE : Hid (opE b mg = if ¬ (crN (b.extract 0 (b.size - 4)).data.toList : Nat) = fxV b (b.size - 4) 4 then 124 else 0) := by show _ = _; unfold opE; rw [if_neg h1, if_neg (fun h => h h2)]
      have hsz : (b.extract 0 (b.size - 4)).size = b.size - 4 := by rw [ByteArray.size_extract]; omega
      have hsz2 : (b.extract 8 (b.size - 4)).size = b.size - 12 := by rw [ByteArray.size_extract]; omega
      have hxl : ((b.size : Int) - 4).toNat = b.size - 4 := by omega
      have hcr : (crN (b.extract 0 (b.size - 4)).data.toList : Nat) ≤ 4294967295 := by unfold crN; omega
      have HF : Hid (decide (crN (b.extract 0 (b.size - 4)).data.toList = fxV b (b.size - 4) 4) = ((strOfNums (fxB 4 (crN (b.extract 0 (b.size - 4)).data.toList : Nat))).toList == (b.extract (b.size - 4) b.size).toList)) := by
        show _ = _
        rw [bytes_beq]
        exact fx4_str b (b.size - 4) _ (by omega) (by omega)
      clear h1 h2
      have HS : Hid (∀ W, Below w.heap.size w W → Calls Tryz.prog 57 #[.string (b.extract 0 (b.size - 4))] W fun e w' => e = .returned (.int .u32 (crN (b.extract 0 (b.size - 4)).data.toList : Nat)) ∧ Below w.heap.size w w') := fun W hW => (refSum_any W (b.extract 0 (b.size - 4)) (by omega)).mono fun e w' ⟨he, hb⟩ => ⟨he, hW.trans (hb.mono hW.size)⟩
      have HX : Hid (∀ W, Below w.heap.size w W → Calls Tryz.prog 56 #[.int .u32 (crN (b.extract 0 (b.size - 4)).data.toList : Nat)] W fun e w' => e = .returned (.string (strOfNums (fxB 4 (crN (b.extract 0 (b.size - 4)).data.toList : Nat)))) ∧ Below w.heap.size w w') := fun W hW => (ref_fixed32 _ W (by omega) (by omega)).mono fun e w' ⟨he, hb⟩ => ⟨he, hW.trans (hb.mono hW.size)⟩
      generalize crN (b.extract 0 (b.size - 4)).data.toList = c at *
      generalize fxV b (b.size - 4) 4 = x at *
      go_enter Tryz.func35, Tryz.ntmps35
      go_wp2_with fail
      have hbw : Below w.heap.size w w := Below.refl _ _
      have hxa : (4 : Int) ≤ (b.size : Int) := by omega
      have hxb : (b.size : Int) - 4 ≤ (b.size : Int) := by omega
      have hxc : (0 : Int) ≤ (b.size : Int) - 4 := by omega
      generalize strOfNums (fxB 4 (c : Int)) = t4 at *
      generalize hq : ((t4).toList == (b.extract (b.size - 4) b.size).toList) = qq at *
      go_region_held3 (fun W => Below w.heap.size w W) (first | assumption | exact Below.drew (by assumption)) (first | (go_at_call 57; refine (HS.out _ (by first | assumption | exact Below.drew (by assumption))).mono ?_; rintro e w7 ⟨rfl, BT⟩) | (go_at_call 56; refine (HX.out _ (by first | assumption | exact Below.drew (by assumption))).mono ?_; rintro e w8 ⟨rfl, BT8⟩))
      have HB8 : Hid (Below w.heap.size w w8) := BT8
      clear BT BT8
      by_cases hx : c = x
      · rw [decide_eq_true hx] at HF
        have hqt : qq = true := HF.out.symm
        subst hqt
        have HE2 : Hid (opE b mg = 0) := by show _ = _; rw [HE.out, if_neg (fun h => h hx)]
        clear hx hq
        go_wp2
        go_ret2
        refine ⟨HB8.out.alloc HB8.out.size _, .inl ⟨HE2.out, w8.heap.size, rfl, HB8.out.size, ?_⟩⟩
        exact heap_alloc_new w8 _
      · rw [decide_eq_false hx] at HF
        have hqt : qq = false := HF.out.symm
        subst hqt
        have HE2 : Hid (opE b mg = 124) := by show _ = _; rw [HE.out, if_pos hx]
        clear hx hq
        go_wp2
        go_ret2
        exact ⟨HB8.out, .inr ⟨by rw [HE2.out]; decide, by rw [HE2.out]; rfl⟩⟩
    · rw [decide_eq_false h2] at hbq
      have HE : Hid (opE b mg = 122) := by show _ = _; unfold opE; rw [if_neg h1, if_pos h2]
      clear h1 h2
      go_enter Tryz.func35, Tryz.ntmps35
      go_wp2
      go_ret2
      exact ⟨Below.refl _ _, .inr ⟨by rw [HE.out]; decide, by rw [HE.out]; rfl⟩⟩
end Go.Proofs.YtbfjnidpjmhfiaaGreatDoor
