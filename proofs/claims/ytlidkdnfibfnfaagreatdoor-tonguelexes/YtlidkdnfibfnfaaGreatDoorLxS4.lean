import Derived.Test.YtlidkdnfibfnfaaGreatDoorLxS3
namespace Go.Proofs.YtlidkdnfibfnfaaGreatDoor
open Go.ChangeShapes Go.WideShapes Go.ChangeAt Go.RowKit
set_option linter.unusedVariables false
set_option maxRecDepth 100000
/-- Whether a text begins with another. -/
theorem preLite (b m : ByteArray) (w : World) (hm : m.size ≤ 65536) (hs : b.size ≤ 65536) :
    Calls Tryz.prog 40 #[.string b, .string m] w fun e w' => e = .returned (.bool (decide (b.extract 0 m.size = m))) ∧ w' = w := by
  by_cases h : m.size ≤ b.size
  · have h' : (m.size : Int) ≤ (b.size : Int) := by omega
    go_enter Tryz.func40, Tryz.ntmps40
    go_wp2
    go_ret
    refine ⟨?_, rfl⟩
    rw [← str_beq]
    rfl
  · have h' : ¬ (m.size : Int) ≤ (b.size : Int) := by omega
    have HD : Hid (decide (b.extract 0 m.size = m) = false) := decide_eq_false (fun e => by
      have h2 : (b.extract 0 m.size).size = m.size := by rw [e]
      rw [ByteArray.size_extract] at h2
      omega)
    go_enter Tryz.func40, Tryz.ntmps40
    go_wp2
    go_ret
    exact ⟨by rw [HD.out]; rfl, rfl⟩
theorem preT (b m : ByteArray) (w : World) (hm : m.size ≤ 65536) (hs : b.size ≤ 65536) :
    Calls Tryz.prog 23 #[.string b, .string m] w fun e w' => e = .returned (.bool (decide (b.extract 0 m.size = m))) ∧ w' = w := by
  have HC : Hid (∀ _ : Unit, _) := fun _ => preLite b m w hm hs
  generalize decide (b.extract 0 m.size = m) = c at *
  go_enter Tryz.func23, Tryz.ntmps23
  go_wp2_with fail
  refine (HC.out ()).mono ?_
  rintro e w1 ⟨rfl, rfl⟩
  go_wp2
  go_ret
  exact ⟨rfl, rfl⟩
/-- Two bytes at the place p of a text, as the rest from p on begins. -/
theorem rest_two {s : ByteArray} {p : Nat} (x y : UInt8) (hp : p ≤ s.size) : decide ((s.extract p s.size).extract 0 (ByteArray.mk #[x, y]).size = ByteArray.mk #[x, y]) = decide (bA s p = x.toNat ∧ bA s (p + 1) = y.toNat) := by
  have e : (s.extract p s.size).extract 0 (ByteArray.mk #[x, y]).size = s.extract p (min (p + 2) s.size) := by
    rw [ByteArray.extract_extract]
    rfl
  rw [e]
  by_cases h1 : p + 1 < s.size
  · have h2 : min (p + 2) s.size = p + 2 := by omega
    rw [h2, ← str_beq, show (ByteArray.mk #[x, y]).toList = [x, y] from by rw [ByteArray.toList_eq], two_at h1, bA_of (by omega : p < s.size), bA_of h1]
  · rw [decide_eq_false, decide_eq_false]
    · intro h
      have h3 := bA_out (s := s) (i := p + 1) (by omega)
      have := y.toNat_lt
      omega
    · intro h
      have h3 : (s.extract p (min (p + 2) s.size)).size = 2 := by rw [h]; rfl
      rw [ByteArray.size_extract] at h3
      omega
end Go.Proofs.YtlidkdnfibfnfaaGreatDoor
