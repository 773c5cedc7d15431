import Derived.Test.YtjkipbjphdfemaaDoorCrc8
namespace Go.Proofs.YtjkipbjphdfemaaDoor
open Go.ChangeShapes Go.WideShapes Go.ChangeAt Go.RowKit Go.MuLone
set_option linter.unusedVariables false

set_option maxRecDepth 100000 in
set_option maxHeartbeats 1600000 in
theorem extend_any (c : Nat) (s : ByteArray) (w : World) (hc : c < 4294967296) (hz : s.size ≤ 9223372036854775807) (hT : HalfAt w) :
    Calls Tryd.prog 7 #[.int .u32 (c : Int), .string s] w fun e w' => e = .returned (.int .u32 (4294967295 - ovN (4294967295 - c) s.data.toList : Nat)) ∧ Below w.heap.size w w' := by
  have hzv := zeroSum
  have HF : Hid (Fresh (w.alloc (.cells zeroC 50)) w.heap.size) := fresh_new w
  have HB0 : Hid (Below w.heap.size w (w.alloc (.cells zeroC 50))) := (Below.refl _ _).alloc (Nat.le_refl _) _
  have HT : Hid (HalfAt (w.alloc (.cells zeroC 50))) := hT.later HB0.out
  have HG : Hid (0 < w.heap.size) := half_pos hT
  have h1 := u32_compl c hc
  have hq := ovN_lt s.data.toList (4294967295 - c) (by omega)
  have h2 := u32_compl _ hq
  clear hT
  go_enter Tryd.func7, Tryd.ntmps7
  go_wp2_with fail
  refine (over_any w.heap.size w.heap.size _ s (4294967295 - c) hz (by omega) (Nat.le_refl _) HT.out HG.out (.inl HF.out)).mono ?_
  rintro e w2 ⟨rfl, hs2, hb2⟩
  have HB2 : Hid (Below w.heap.size w w2) := HB0.out.trans hb2
  clear hs2 hb2
  go_wp2
  go_ret
  exact ⟨rfl, HB2.out⟩
theorem extend_crN (l : List UInt8) (s : ByteArray) (w : World) (hz : s.size ≤ 9223372036854775807) (hT : HalfAt w) :
    Calls Tryd.prog 7 #[.int .u32 (crN l : Nat), .string s] w fun e w' => e = .returned (.int .u32 (crN (l ++ s.data.toList) : Nat)) ∧ Below w.heap.size w w' := by
  refine (extend_any (crN l) s w (crN_lt l) hz hT).mono fun e w' ⟨he, hb⟩ => ⟨?_, hb⟩
  rw [he]
  have l1 := ovN_lt l 4294967295 (by omega)
  have e1 : 4294967295 - crN l = ovN 4294967295 l := by unfold crN; omega
  rw [e1, ← ovN_app]
  rfl
theorem checksum_none (w : World) (hT : HalfAt w) : Calls Tryd.prog 6 #[.slice none 0 0] w fun e w' => e = .returned (.int .u32 0) ∧ Below w.heap.size w w' := by
  refine (checksum_any (.slice none 0 0) [] w.heap.size w (Nat.le_refl _) ⟨none, 0, rfl, by simp, by simp, fun i hi => by simp at hi⟩ (fun p hp => by simp at hp) hT (half_pos hT)).mono fun e w' ⟨he, hb⟩ => ⟨?_, hb⟩
  rw [he]
  rfl
theorem checksum_three (x y z : ByteArray) (w : World) (hx : x.size ≤ 9223372036854775807) (hy : y.size ≤ 9223372036854775807) (hz : z.size ≤ 9223372036854775807) (hT : HalfAt w) :
    Calls Tryd.prog 6 #[.slice (some ⟨w.heap.size, 0, none⟩) 3 3] (w.alloc (.cells #[.string x, .string y, .string z] 9)) fun e w' => e = .returned (.int .u32 (crN (x.data.toList ++ y.data.toList ++ z.data.toList) : Nat)) ∧ Below w.heap.size w w' := by
  have hb : Below w.heap.size w (w.alloc (.cells #[.string x, .string y, .string z] 9)) := (Below.refl _ _).alloc (Nat.le_refl _) _
  have hT2 := hT.later hb
  have hs : SeesS (w.alloc (.cells #[.string x, .string y, .string z] 9)) (w.alloc (.cells #[.string x, .string y, .string z] 9)).heap.size (.slice (some ⟨w.heap.size, 0, none⟩) 3 3) [x, y, z] :=
    ⟨_, _, rfl, by simp, by simp, fun i hi => ⟨_, _, rfl, by simp, by
      have h3 : i < 3 := hi
      have : i = 0 ∨ i = 1 ∨ i = 2 := by omega
      rcases this with e | e | e <;> subst e <;> simp [go_sem]⟩⟩
  refine (checksum_any _ [x, y, z] _ _ (Nat.le_refl _) hs (by simp; exact ⟨hx, hy, hz⟩) hT2 (half_pos hT2)).mono fun e w' ⟨he, hb2⟩ => ⟨?_, hb.trans (hb2.mono hb.size)⟩
  rw [he]
  simp [joinS]
end Go.Proofs.YtjkipbjphdfemaaDoor
