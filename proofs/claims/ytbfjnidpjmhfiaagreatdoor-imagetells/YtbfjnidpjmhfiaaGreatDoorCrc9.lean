import Derived.Test.YtbfjnidpjmhfiaaGreatDoorCrc8
namespace Go.Proofs.YtbfjnidpjmhfiaaGreatDoor
open Go.ChangeShapes Go.WideShapes Go.ChangeAt Go.RowKit Go.MuLone
set_option linter.unusedVariables false

theorem checksum_none (w : World) (hT : HalfAt w) : Calls Tryz.prog 52 #[.slice none 0 0] w fun e w' => e = .returned (.int .u32 0) ∧ Below w.heap.size w w' := by
  refine (checksum_any (.slice none 0 0) [] w.heap.size w (Nat.le_refl _) ⟨none, 0, rfl, by simp, by simp, fun i hi => by simp at hi⟩ (fun p hp => by simp at hp) hT (half_pos hT)).mono fun e w' ⟨he, hb⟩ => ⟨?_, hb⟩
  rw [he]
  rfl
theorem checksum_three (x y z : ByteArray) (w : World) (hx : x.size ≤ 9223372036854775807) (hy : y.size ≤ 9223372036854775807) (hz : z.size ≤ 9223372036854775807) (hT : HalfAt w) :
    Calls Tryz.prog 52 #[.slice (some ⟨w.heap.size, 0, none⟩) 3 3] (w.alloc (.cells #[.string x, .string y, .string z] 9)) fun e w' => e = .returned (.int .u32 (crN (x.data.toList ++ y.data.toList ++ z.data.toList) : Nat)) ∧ Below w.heap.size w w' := by
  have hb : Below w.heap.size w (w.alloc (.cells #[.string x, .string y, .string z] 9)) := (Below.refl _ _).alloc (Nat.le_refl _) _
  have hT2 := hT.later hb
  have hs : SeesS (w.alloc (.cells #[.string x, .string y, .string z] 9)) (w.alloc (.cells #[.string x, .string y, .string z] 9)).heap.size (.slice (some ⟨w.heap.size, 0, none⟩) 3 3) [x, y, z] :=
    ⟨_, _, rfl, by simp, by simp, fun i hi => ⟨_, _, rfl, by simp, by
      have h3 : i < 3 := hi
      have : i = 0 ∨ i = 1 ∨ i = 2 := by omega
      rcases this with e | e | e <;> subst e <;> simp [go_sem]⟩⟩
  refine (checksum_any _ [x, y, z] _ _ (Nat.le_refl _) hs (by simp; exact ⟨hx, hy, hz⟩) hT2 (half_pos hT2)).mono fun e w' ⟨he, hb2⟩ => ⟨?_, hb.trans (hb2.mono hb.size)⟩
  rw [he]
  simp [joinS]
end Go.Proofs.YtbfjnidpjmhfiaaGreatDoor
