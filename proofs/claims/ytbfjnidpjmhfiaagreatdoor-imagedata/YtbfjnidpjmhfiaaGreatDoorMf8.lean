import Derived.Test.YtbfjnidpjmhfiaaGreatDoorMf6
import Derived.Test.YtbfjnidpjmhfiaaGreatDoorSums1
namespace Go.Proofs.YtbfjnidpjmhfiaaGreatDoor
open Go.ChangeShapes Go.WideShapes Go.ChangeAt Go.RowKit
set_option linter.unusedVariables false
set_option maxRecDepth 100000
theorem sees_oneR (h : Nat) (p : ByteArray) (W : World) (hc : W.cell? ⟨h, 0, none⟩ = some (.string p)) (hh : h < W.heap.size) : SeesS W W.heap.size (.slice (some ⟨h, 0, none⟩) 1 1) [p] := sees_one (w := W) (p := p) h hc hh
set_option maxHeartbeats 1600000 in
theorem refSum_any (w : World) (s : ByteArray) (hs : s.size ≤ 9223372036854775807) : Calls Tryz.prog 57 #[.string s] w fun e w' => e = .returned (.int .u32 (crN s.data.toList : Nat)) ∧ Below w.heap.size w w' := by
  have hsee : SeesS (w.alloc (.cells #[.string s] 9)) (w.alloc (.cells #[.string s] 9)).heap.size (.slice (some ⟨w.heap.size, 0, none⟩) 1 1) [s] := sees_oneR w.heap.size s _ (by simp) (by simp)
  have HC : Hid (Calls Tryz.prog 76 #[.slice (some ⟨w.heap.size, 0, none⟩) 1 1] (w.alloc (.cells #[.string s] 9)) fun e w' => e = .returned (.int .u32 (crN s.data.toList : Nat)) ∧ w' = w.alloc (.cells #[.string s] 9)) := by
    refine (ref_checksum _ [s] _ _ hsee (by simpa using hs)).mono fun e w' ⟨he, hw⟩ => ⟨?_, hw⟩
    rw [he]
    simp [joinS]
  generalize crN s.data.toList = c at *
  clear hsee
  go_enter Tryz.func57, Tryz.ntmps57
  go_wp2_with fail
  refine HC.out.mono ?_
  rintro _ w1 ⟨rfl, hw1⟩
  subst hw1
  go_wp2
  go_ret
  exact ⟨rfl, (Below.refl _ _).alloc (Nat.le_refl _) _⟩
set_option maxHeartbeats 1600000 in
theorem sealed_any (w : World) (B : Nat) (mg : ByteArray) (v : Value) (xs : List Int) (hm : mg.size = 8) (h : ownMB w B v xs) (hl : xs.length ≤ 140737488355000) :
    Calls Tryz.prog 32 #[.string mg, v] w fun e w' => e = .returned (.string ((mg ++ strOfNums xs) ++ strOfNums (fxB 4 (crN (mg ++ strOfNums xs).data.toList : Nat)))) ∧ Below w.heap.size w w' := by
  have hcv := h.conv
  have hv : ∃ a n c, v = .slice a n c := by
    obtain ⟨g, cap, cur, fz, rfl, _⟩ := h
    exact ⟨_, _, _, rfl⟩
  obtain ⟨a, n, cc, rfl⟩ := hv
  have hsz : (strOfNums xs).size = xs.length := strOfNums_size xs
  generalize strOfNums xs = s at *
  have hadd1 : ∀ (w : World), (Op.stringOp .add mg s).run Tryz.prog w = .ok (.string (mg ++ s)) w := fun w => run_string_add_sum w _ _ (by omega)
  have hsz2 : (mg ++ s).size = 8 + xs.length := by rw [ByteArray.size_append]; omega
  generalize mg ++ s = u at *
  have hcr : (crN u.data.toList : Nat) ≤ 4294967295 := by unfold crN; omega
  have HC : Hid (∀ W, Calls Tryz.prog 57 #[.string u] W fun e w' => e = .returned (.int .u32 (crN u.data.toList : Nat)) ∧ Below W.heap.size W w') := fun W => refSum_any W u (by omega)
  generalize crN u.data.toList = c at *
  have HF : Hid (∀ W, Calls Tryz.prog 56 #[.int .u32 (c : Int)] W fun e w' => e = .returned (.string (strOfNums (fxB 4 (c : Int)))) ∧ Below W.heap.size W w') := fun W => ref_fixed32 (c : Int) W (by omega) (by omega)
  have hfs : (strOfNums (fxB 4 (c : Int))).size = 4 := by rw [strOfNums_size, fxB_len]
  generalize strOfNums (fxB 4 (c : Int)) = t at *
  have hadd : ∀ (w : World), (Op.stringOp .add u t).run Tryz.prog w = .ok (.string (u ++ t)) w := fun w => run_string_add_sum w _ _ (by omega)
  clear h
  go_enter Tryz.func32, Tryz.ntmps32
  go_wp2_with fail
  refine (HC.out w).mono ?_
  rintro _ w1 ⟨rfl, hb1⟩
  have HB1 : Hid (Below w.heap.size w w1) := hb1
  clear hb1
  go_wp2_with fail
  refine (HF.out w1).mono ?_
  rintro _ w2 ⟨rfl, hb2⟩
  have HB2 : Hid (Below w.heap.size w w2) := HB1.out.trans (hb2.mono HB1.out.size)
  clear hb2
  go_wp2
  go_ret
  exact ⟨rfl, HB2.out⟩
end Go.Proofs.YtbfjnidpjmhfiaaGreatDoor
