import Derived.Test.YtbfjnidpjmhfiaaGreatDoorMf5
namespace Go.Proofs.YtbfjnidpjmhfiaaGreatDoor
open Go.ChangeShapes Go.WideShapes Go.ChangeAt Go.RowKit
set_option linter.unusedVariables false
set_option maxRecDepth 100000
theorem txtN_mg : txtN ⟨#[83, 84, 82, 65, 77, 65, 78, 49]⟩ = mgM := by decide
set_option maxHeartbeats 1600000 in
theorem begin_any (w : World) (B : Nat) (s : ByteArray) (hs : s.size ≤ 1000) (hB : B ≤ w.heap.size) :
    Calls Tryz.prog 25 #[.string s] w fun e w' => ∃ g vb, e = .returned (.pointer (some ⟨g, 0, none⟩)) ∧ Wr w' B g vb (txtN s) ∧ w.heap.size ≤ vb ∧ w.heap.size ≤ g ∧ g < w'.heap.size ∧ Below w.heap.size w w' := by
  have hcv := conv_bytes w s
  obtain ⟨ho, hb⟩ := conv_ownMB w B s hB (by omega)
  have HO : Hid _ := ho
  have HB : Hid _ := hb
  generalize Lib.bytesWorld w 5 s = w1 at *
  generalize grownCap w s.size 0 5 = cp at *
  have HV : Hid (w.heap.size < w1.heap.size) := (ownsM.lt ho w.heap.size rfl).2
  clear ho hb
  go_enter Tryz.func25, Tryz.ntmps25
  go_wp2
  go_ret
  have hv := HV.out
  have hb2 : Below w1.heap.size w1 (w1.alloc (.cells #[.slice (some ⟨w.heap.size, 0, none⟩) s.size cp] 87)) := (Below.refl _ _).alloc (Nat.le_refl _) _
  refine ⟨w1.heap.size, w.heap.size, rfl, ⟨⟨_, _, by simp, HO.out.later hb2⟩, by simp, by omega, by omega⟩, Nat.le_refl _, by omega, by simp, HB.out.trans (hb2.mono (by omega))⟩
set_option maxHeartbeats 1600000 in
theorem end_any (w : World) (B g vb : Nat) (xs : List Int) (h : Wr w B g vb xs) (hl : xs.length ≤ 140737488355000) (hT : HalfAt w) :
    Calls Tryz.prog 28 #[.pointer (some ⟨g, 0, none⟩)] w fun e w' => e = .returned (.string (strOfNums xs ++ strOfNums (fxB 4 (crN (strOfNums xs).data.toList : Nat)))) ∧ Below w.heap.size w w' := by
  obtain ⟨⟨n, cap, hc, ho⟩, hf, hne, hlo⟩ := h
  have hcv := ho.conv
  have HT : Hid (HalfAt w) := hT
  have hsz : (strOfNums xs).size = xs.length := strOfNums_size xs
  have hcr : (crN (strOfNums xs).data.toList : Nat) ≤ 4294967295 := by unfold crN; omega
  generalize strOfNums xs = s at *
  have HC : Hid (Calls Tryz.prog 52 #[.slice (some ⟨w.heap.size, 0, none⟩) 1 1] (w.alloc (.cells #[.string s] 9)) fun e w' => e = .returned (.int .u32 (crN s.data.toList : Nat)) ∧ Below w.heap.size w w') := checksum_new s w (by omega) HT.out
  generalize crN s.data.toList = c at *
  have hfs : (strOfNums (fxB 4 (c : Int))).size = 4 := by rw [strOfNums_size, fxB_len]
  have HF : Hid (∀ W, Calls Tryz.prog 44 #[.int .u32 (c : Int)] W fun e w' => e = .returned (.string (strOfNums (fxB 4 (c : Int)))) ∧ Below W.heap.size W w') := fun W => fixed32 (c : Int) W (by omega) (by omega)
  generalize strOfNums (fxB 4 (c : Int)) = t at *
  have hadd : ∀ (w : World), (Op.stringOp .add s t).run Tryz.prog w = .ok (.string (s ++ t)) w := fun w => run_string_add_sum w _ _ (by omega)
  clear ho
  go_enter Tryz.func28, Tryz.ntmps28
  go_wp2_with fail
  refine HC.out.mono ?_
  rintro _ w1 ⟨rfl, hb1⟩
  have HB1 : Hid (Below w.heap.size w w1) := hb1
  clear hb1
  go_wp2_with fail
  refine (HF.out w1).mono ?_
  rintro _ w2 ⟨rfl, hb2⟩
  have HB2 : Hid (Below w.heap.size w w2) := HB1.out.trans (hb2.mono HB1.out.size)
  clear hb2
  go_wp2
  go_ret
  exact ⟨rfl, HB2.out⟩
end Go.Proofs.YtbfjnidpjmhfiaaGreatDoor
