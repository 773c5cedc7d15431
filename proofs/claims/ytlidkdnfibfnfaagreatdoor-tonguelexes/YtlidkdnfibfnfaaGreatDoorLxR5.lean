import Derived.Test.YtlidkdnfibfnfaaGreatDoorLxR4
namespace Go.Proofs.YtlidkdnfibfnfaaGreatDoor
open Go.ChangeShapes Go.WideShapes Go.ChangeAt Go.RowKit
set_option linter.unusedVariables false
set_option maxRecDepth 100000
def numsL (l : List UInt8) : List Int := l.map (fun c => (c.toNat : Int))
theorem numsL_len (l : List UInt8) : (numsL l).length = l.length := by unfold numsL; simp
theorem numsL_str (l : List UInt8) : strOfNums (numsL l) = ⟨l.toArray⟩ := by
  have := strTxt ⟨l.toArray⟩
  rwa [show txtN ⟨l.toArray⟩ = numsL l from by unfold txtN numsL; simp] at this
theorem numsL_app (l : List UInt8) (c : UInt8) : numsL (l ++ [c]) = numsL l ++ [(c.toNat : Int)] := by unfold numsL; simp
theorem quoP_step {s : ByteArray} {q j : Nat} {acc : List UInt8} (h : j < s.size) (h1 : bA s j ≠ q) : quoP s q j acc = quoP s q (j + 1) (acc ++ [s[j]]) := by rw [quoP_eq, dif_pos h, if_pos h1]
theorem quoP_two {s : ByteArray} {q j : Nat} {acc : List UInt8} (h : j < s.size) (h1 : bA s j = q) (h2 : bA s (j + 1) = q) : quoP s q j acc = quoP s q (j + 2) (acc ++ [s[j]]) := by rw [quoP_eq, dif_pos h, if_neg (fun h => h h1), if_pos h2]
theorem quoP_end {s : ByteArray} {q j : Nat} {acc : List UInt8} (h : j < s.size) (h1 : bA s j = q) (h2 : ¬ bA s (j + 1) = q) : quoP s q j acc = some (acc, j + 1) := by rw [quoP_eq, dif_pos h, if_neg (fun h => h h1), if_neg h2]
theorem quoP_none {s : ByteArray} {q j : Nat} {acc : List UInt8} (h : ¬ j < s.size) : quoP s q j acc = none := by rw [quoP_eq, dif_neg h]
def quoV : Option (List UInt8 × Nat) → Value
  | some (l, j) => .tuple #[.string ⟨l.toArray⟩, .int .i64 (j : Int)]
  | none => .tuple #[.string ⟨#[]⟩, .int .i64 (-1)]
set_option maxHeartbeats 12800000 in
theorem refQuoted (s : ByteArray) (i q : Nat) (w : World) (hs : s.size ≤ 65536) (hi : i < s.size) (hq : q < 256) : Calls Tryz.prog 20 #[.string s, .int .i64 (i : Int), .int .u8 (q : Int)] w fun e w' => e = .returned (quoV (quoP s q (i + 1) [])) ∧ Below w.heap.size w w' := by
  go_enter Tryz.func20, Tryz.ntmps20
  go_wp2_with fail
  go_loopw [8, 9] (fun b x wr => ∃ (j : Nat) (acc : List UInt8), j ≤ s.size ∧ acc.length ≤ j ∧ x = .int .i64 (j : Int) ∧ ownB wr w.heap.size b (numsL acc) ∧ quoP s q (i + 1) [] = quoP s q j acc ∧ Below w.heap.size w wr) (fun _ x _ => s.size - (intOf x).toNat)
  case atStart => exact ⟨i + 1, [], by omega, by simp, by go_num, ownB_nil _ _, rfl, Below.refl _ _⟩
  case round =>
    obtain ⟨j, acc, hj, hal, rfl, hown, hn, hbel⟩ := hrel
    have HN : Hid (quoP s q (i + 1) [] = quoP s q j acc) := hn
    have HB : Hid (Below w.heap.size w wr) := hbel
    have hBr : w.heap.size ≤ wr.heap.size := by have := hbel.size; omega
    have HO : Hid (ownB wr w.heap.size _ (numsL acc)) := hown
    clear hn hbel hown
    by_cases hjl : j < s.size
    · have hjj : (j : Int) < (s.size : Int) := by omega
      have hb0 := bA_of hjl
      by_cases hqj : s[j].toNat = q
      · have e1 : ((s[j].toNat : Nat) : Int) = (q : Int) := by omega
        by_cases hjl1 : j + 1 < s.size
        · have hj1 : (j : Int) + 1 < (s.size : Int) := by omega
          have hb1 := bA_of hjl1
          by_cases hq1 : s[j + 1].toNat = q
          · have e2 : ((s[j + 1].toNat : Nat) : Int) = (q : Int) := by omega
            have HE : Hid (quoP s q (i + 1) [] = quoP s q (j + 2) (acc ++ [s[j]])) := HN.out.trans (quoP_two hjl (by omega) (by omega))
            go_wp2_with (at_builtin; refine app_one (by rfl) _ _ (by rfl) w.heap.size _ (numsL acc) _ HO.out (by rfl) (by rfl) (by rw [numsL_len]; omega) hBr ?_; intro v' w1 hown1 hbel1; have HO1 : Hid _ := hown1; have HB1 : Hid _ := hbel1; clear hown1 hbel1)
            go_roundw
            case rel => exact ⟨j + 2, acc ++ [s[j]], by omega, by simp; omega, by go_num, by rw [numsL_app, hqj]; exact HO1.out, HE.out, HB.out.trans HB1.out⟩
            case measure => simp [intOf]; omega
          · have e2 : ¬ ((s[j + 1].toNat : Nat) : Int) = (q : Int) := by omega
            have HE : Hid (quoP s q (i + 1) [] = some (acc, j + 1)) := HN.out.trans (quoP_end hjl (by omega) (by omega))
            have hcv := HO.out.conv
            rw [numsL_str] at hcv
            go_wp2
            go_ret2
            exact ⟨by rw [HE.out]; rfl, HB.out⟩
        · have hj1 : ¬ (j : Int) + 1 < (s.size : Int) := by omega
          have hb1 : bA s (j + 1) = 256 := bA_out (by omega)
          have HE : Hid (quoP s q (i + 1) [] = some (acc, j + 1)) := HN.out.trans (quoP_end hjl (by omega) (by omega))
          have hcv := HO.out.conv
          rw [numsL_str] at hcv
          go_wp2
          go_ret2
          exact ⟨by rw [HE.out]; rfl, HB.out⟩
      · have e1 : ¬ ((s[j].toNat : Nat) : Int) = (q : Int) := by omega
        have HE : Hid (quoP s q (i + 1) [] = quoP s q (j + 1) (acc ++ [s[j]])) := HN.out.trans (quoP_step hjl (by omega))
        go_wp2_with (at_builtin; refine app_one (by rfl) _ _ (by rfl) w.heap.size _ (numsL acc) _ HO.out (by rfl) (by rfl) (by rw [numsL_len]; omega) hBr ?_; intro v' w1 hown1 hbel1; have HO1 : Hid _ := hown1; have HB1 : Hid _ := hbel1; clear hown1 hbel1)
        go_roundw
        case rel => exact ⟨j + 1, acc ++ [s[j]], by omega, by simp; omega, by go_num, by rw [numsL_app]; exact HO1.out, HE.out, HB.out.trans HB1.out⟩
        case measure => simp [intOf]; omega
    · have hjj : ¬ (j : Int) < (s.size : Int) := by omega
      have HE : Hid (quoP s q (i + 1) [] = none) := HN.out.trans (quoP_none hjl)
      go_wp2
      go_ret2
      exact ⟨by rw [HE.out]; rfl, HB.out⟩
end Go.Proofs.YtlidkdnfibfnfaaGreatDoor
