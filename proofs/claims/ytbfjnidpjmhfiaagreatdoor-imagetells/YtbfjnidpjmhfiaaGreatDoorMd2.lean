import Derived.Test.YtbfjnidpjmhfiaaGreatDoorMd1
import Derived.Test.YtbfjnidpjmhfiaaGreatDoorCrc6
namespace Go.Proofs.YtbfjnidpjmhfiaaGreatDoor
open Go.ChangeShapes Go.WideShapes Go.ChangeAt Go.RowKit
set_option linter.unusedVariables false
set_option maxRecDepth 100000
theorem bytes_beq (a b : ByteArray) : (a.toList == b.toList) = decide (a = b) := by
  rw [Bool.eq_iff_iff]
  simp only [beq_iff_eq, decide_eq_true_eq, ByteArray.toList_eq]
  constructor
  · intro h
    exact ByteArray.ext (Array.toList_inj.1 h)
  · rintro rfl
    rfl
theorem lite_pre (b mg : ByteArray) (w : World) (hm : mg.size = 8) (hb : 8 ≤ b.size) (hs : b.size ≤ 1125899906842624) :
    Calls Tryz.prog 94 #[.string b, .string mg] w fun e w' => e = .returned (.bool (decide (b.extract 0 8 = mg))) ∧ w' = w := by
  have hms : mg.size ≤ b.size := by omega
  go_enter Tryz.func94, Tryz.ntmps94
  go_wp2
  go_ret
  refine ⟨?_, rfl⟩
  rw [← bytes_beq]
  rfl
theorem has_pre (b mg : ByteArray) (w : World) (hm : mg.size = 8) (hb : 8 ≤ b.size) (hs : b.size ≤ 1125899906842624) :
    Calls Tryz.prog 77 #[.string b, .string mg] w fun e w' => e = .returned (.bool (decide (b.extract 0 8 = mg))) ∧ w' = w := by
  have HC : Hid (∀ _ : Unit, _) := fun _ => lite_pre b mg w hm hb hs
  generalize decide (b.extract 0 8 = mg) = c at *
  go_enter Tryz.func77, Tryz.ntmps77
  go_wp2_with fail
  refine (HC.out ()).mono ?_
  rintro e w1 ⟨rfl, rfl⟩
  go_wp2
  go_ret
  exact ⟨rfl, rfl⟩
set_option maxHeartbeats 1600000 in
theorem sumAtEnd_any (b : ByteArray) (w : World) (hb : 4 ≤ b.size) (hs : b.size ≤ 1125899906842624) :
    Calls Tryz.prog 78 #[.string b] w fun e w' => e = .returned (.int .u32 (fxV b (b.size - 4) 4 : Nat)) ∧ Below w.heap.size w w' := by
  have HC : Hid (∀ W, Calls Tryz.prog 87 #[.string b, .int .i64 ((b.size : Int) - 4)] W fun e w' => e = .returned (.tuple #[.int .u32 ((fxV b (b.size - 4) 4 : Nat) : Int), .int .i64 (((b.size - 4 : Nat) : Int) + (4 : Nat)), .int .i64 0]) ∧ Below W.heap.size W w') := fun W => by
    have hi : ((b.size : Int) - 4) = ((b.size - 4 : Nat) : Int) := by omega
    rw [hi]
    generalize hp : b.size - 4 = p at *
    have hp4 : p + 4 ≤ b.size := by omega
    have he : rF b (p : Int) = ((fxV b p 4 : Int), (p : Int) + (4 : Nat), 0) := rd3_ok b p (0 : Int) (tF b) (by omega) (by show fxE b p 4 = 0; unfold fxE; rw [if_pos hp4])
    have := ReadFixed32_any b (p : Int) W (by omega) (by omega) hs
    rw [he] at this
    exact this
  generalize fxV b (b.size - 4) 4 = x at *
  go_enter Tryz.func78, Tryz.ntmps78
  go_wp2_with fail
  refine (HC.out _).mono ?_
  rintro e w1 ⟨rfl, hb1⟩
  have HB : Hid (Below w.heap.size w w1) := hb1
  clear hb1 HC
  go_wp2
  go_ret
  exact ⟨rfl, HB.out⟩
/-- How the opening of a file ends. -/
def opE (b mg : ByteArray) : Int := if b.size < 12 then 123 else if ¬ b.extract 0 8 = mg then 122 else if ¬ (crN (b.extract 0 (b.size - 4)).data.toList : Nat) = fxV b (b.size - 4) 4 then 124 else 0
/-- A file is opened: the reader behind its letters; or the reading gives up. -/
def OpI (b mg : ByteArray) (w : World) (e : Ending) (w' : World) : Prop := Below w.heap.size w w' ∧ ((opE b mg = 0 ∧ ∃ R, e = .returned (.pointer (some ⟨R, 0, none⟩)) ∧ w.heap.size ≤ R ∧ RdI w' R (b.extract 0 (b.size - 4)) 8) ∨ (opE b mg ≠ 0 ∧ e = oops (opE b mg)))
set_option maxHeartbeats 1600000 in
theorem open_any (b mg : ByteArray) (w : World) (hm : mg.size = 8) (hs : b.size ≤ 1125899906842624) (hT : HalfAt w) :
    Calls Tryz.prog 58 #[.string b, .string mg] w (OpI b mg w) := by
  have HT : Hid (HalfAt w) := hT
  clear hT
  have hmi : (mg.size : Int) = 8 := by omega
  by_cases h1 : b.size < 12
  · have hd1 : decide ((b.size : Int) < 12) = true := decide_eq_true (by omega)
    have HE : Hid (opE b mg = 123) := by show _ = _; unfold opE; rw [if_pos h1]
    go_enter Tryz.func58, Tryz.ntmps58
    go_wp2_with fail
    refine (giveUpI_yes 123 w).mono ?_
    rintro e w2 ⟨rfl, rfl⟩
    exact ⟨rfl, Below.refl _ _, .inr ⟨by rw [HE.out]; decide, by rw [HE.out]; rfl⟩⟩
  · have hge : 12 ≤ b.size := by omega
    have hd1 : decide ((b.size : Int) < 12) = false := decide_eq_false (by omega)
    by_cases h2 : b.extract 0 8 = mg
    · have HP : Hid (∀ W, Calls Tryz.prog 77 #[.string b, .string mg] W fun e w' => e = .returned (.bool true) ∧ w' = W) := fun W => by
        have := has_pre b mg W hm (by omega) hs
        rwa [decide_eq_true h2] at this
      have HE : Hid (opE b mg = if ¬ (crN (b.extract 0 (b.size - 4)).data.toList : Nat) = fxV b (b.size - 4) 4 then 124 else 0) := by show _ = _; unfold opE; rw [if_neg h1, if_neg (fun h => h h2)]
      have hsz : (b.extract 0 (b.size - 4)).size = b.size - 4 := by rw [ByteArray.size_extract]; omega
      have HC : Hid (∀ _ : Unit, _) := fun _ => checksum_new (b.extract 0 (b.size - 4)) w (by omega) HT.out
      have HA : Hid (∀ W, _) := fun W => sumAtEnd_any b W (by omega) hs
      have hxl : ((b.size : Int) - 4).toNat = b.size - 4 := by omega
      clear h1 h2
      go_enter Tryz.func58, Tryz.ntmps58
      go_wp2_with fail
      refine (giveUpI_no 123 w).mono ?_
      rintro e w2 ⟨rfl, rfl⟩
      go_wp2_with fail
      refine (HP.out w2).mono ?_
      rintro e w3 ⟨rfl, rfl⟩
      go_wp2_with fail
      refine (giveUpI_no 122 w3).mono ?_
      rintro e w4 ⟨rfl, rfl⟩
      go_wp2_with fail
      refine (HC.out ()).mono ?_
      rintro e w5 ⟨rfl, hb5⟩
      have HB5 : Hid (Below w4.heap.size w4 w5) := hb5
      clear HC hb5
      generalize crN (b.extract 0 (b.size - 4)).data.toList = c at *
      go_wp2_with fail
      refine (HA.out w5).mono ?_
      rintro e w6 ⟨rfl, hb6⟩
      have HB6 : Hid (Below w4.heap.size w4 w6) := HB5.out.trans (hb6.mono HB5.out.size)
      clear HA hb6 HB5
      generalize fxV b (b.size - 4) 4 = x at *
      by_cases hx : c = x
      · have HE2 : Hid (opE b mg = 0) := by show _ = _; rw [HE.out, if_neg (fun h => h hx)]
        subst hx
        go_wp2_with fail
        refine (giveUpI_no 124 w6).mono ?_
        rintro e w7 ⟨rfl, rfl⟩
        go_wp2
        go_ret
        refine ⟨HB6.out.alloc HB6.out.size _, .inl ⟨HE2.out, w7.heap.size, rfl, HB6.out.size, ?_⟩⟩
        exact heap_alloc_new w7 _
      · have HE2 : Hid (opE b mg = 124) := by show _ = _; rw [HE.out, if_pos hx]
        have hxd : ((c : Int) != (x : Int)) = true := by rw [bne_iff_ne]; omega
        clear hx
        go_wp2_with fail
        refine (giveUpI_yes 124 w6).mono ?_
        rintro e w7 ⟨rfl, rfl⟩
        exact ⟨rfl, HB6.out, .inr ⟨by rw [HE2.out]; decide, by rw [HE2.out]; rfl⟩⟩
    · have HP : Hid (∀ W, Calls Tryz.prog 77 #[.string b, .string mg] W fun e w' => e = .returned (.bool false) ∧ w' = W) := fun W => by
        have := has_pre b mg W hm (by omega) hs
        rwa [decide_eq_false h2] at this
      have HE : Hid (opE b mg = 122) := by show _ = _; unfold opE; rw [if_neg h1, if_pos h2]
      clear h1 h2
      go_enter Tryz.func58, Tryz.ntmps58
      go_wp2_with fail
      refine (giveUpI_no 123 w).mono ?_
      rintro e w2 ⟨rfl, rfl⟩
      go_wp2_with fail
      refine (HP.out w2).mono ?_
      rintro e w3 ⟨rfl, rfl⟩
      go_wp2_with fail
      refine (giveUpI_yes 122 w3).mono ?_
      rintro e w4 ⟨rfl, rfl⟩
      exact ⟨rfl, Below.refl _ _, .inr ⟨by rw [HE.out]; decide, by rw [HE.out]; rfl⟩⟩
end Go.Proofs.YtbfjnidpjmhfiaaGreatDoor
