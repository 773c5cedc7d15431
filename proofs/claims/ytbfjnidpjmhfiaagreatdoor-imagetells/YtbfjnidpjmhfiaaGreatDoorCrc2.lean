import Derived.Test.YtbfjnidpjmhfiaaGreatDoorMuLocks
import Derived.Test.YtbfjnidpjmhfiaaGreatDoorCrc1
import Derived.Conc.MuLone
import Derived.WalkKit
import Derived.ProofKit
import Derived.OpenShut
import Derived.ShutString
import Derived.WalkLawsBesides
import Derived.Outline
import Derived.WalkSpells
import Derived.BigRegion
import Derived.Defers
import Derived.RegionCalls
import Derived.Laws.Pointers
import Derived.Laws.LoneSync
import Derived.Laws.NewBlocks
import Derived.Laws.BitsAllLaws
import Derived.Deep.RegionWith
namespace Go.Proofs.YtbfjnidpjmhfiaaGreatDoor
open Go.ChangeShapes Go.WideShapes Go.ChangeAt Go.RowKit Go.MuLone
set_option linter.unusedVariables false

/-- A region ends as it should, with this act and this world. -/
def Post1 (A : Act) (W' : World) : Exit → Act → World → Prop
  | .normal, b, w' => b = A ∧ w' = W'
  | _, _, _ => False
theorem Post1.here (A : Act) (W' : World) : Post1 A W' .normal A W' := ⟨rfl, rfl⟩
theorem wp_once {P : Program} {c : Code} {Q : Exit → Act → World → Prop} {a : Act} {w : World} (h : ∃ A W', c.wp P (Post1 A W') a w ∧ Q .normal A W') : c.wp P Q a w := by
  obtain ⟨A, W', h1, h2⟩ := h
  refine Code.wp_mono ?_ h1
  intro e b w' h
  cases e <;> first | exact h.elim | (obtain ⟨rfl, rfl⟩ := h; exact h2)
/-- A region ends as it should, with this act, in a world of which S holds. -/
def Post2 (A : Act) (S : World → Prop) : Exit → Act → World → Prop
  | .normal, b, w' => b = A ∧ S w'
  | _, _, _ => False
theorem Post2.here (A : Act) {S : World → Prop} {w' : World} (h : S w') : Post2 A S .normal A w' := ⟨rfl, h⟩
theorem wp_onceS {P : Program} {c : Code} {Q : Exit → Act → World → Prop} {a : Act} {w : World} (S : World → Prop) (h : ∃ A, c.wp P (Post2 A S) a w ∧ ∀ w', S w' → Q .normal A w') : c.wp P Q a w := by
  obtain ⟨A, h1, h2⟩ := h
  refine Code.wp_mono ?_ h1
  intro e b w' h
  cases e <;> first | exact h.elim | (obtain ⟨rfl, h3⟩ := h; exact h2 _ h3)
/-- The table of half bytes in its variable. -/
def HalfAt (w : World) : Prop := ∀ j, j < 16 → w.cell? ⟨0, j, none⟩ = some (.int .u32 (crT_of j : Nat))
theorem half_and (r : Nat) (hr : r < 4294967296) : bits .and .u32 (r : Int) 15 = ((r % 16 : Nat) : Int) := by
  have := u32_and_nat r 15 hr (by omega)
  rw [nat_mask4] at this
  exact this
theorem half_xor (r : Nat) (hr : r < 4294967296) : bits .xor .u32 ((crT_of (r % 16) : Nat) : Int) ((r : Int) / 16) = ((hN r : Nat) : Int) := by
  have := u32_xor_nat (crT_of (r % 16)) (r / 16) (crT_lt ⟨r % 16, by omega⟩) (by omega)
  rw [show ((r : Int) / 16) = ((r / 16 : Nat) : Int) by omega]
  exact this
set_option maxRecDepth 100000 in
theorem moveByte_any (r : Nat) (w : World) (hr : r < 4294967296) (hT : HalfAt w) :
    Calls Tryz.prog 90 #[.int .u32 (r : Int)] w fun e w' => e = .returned (.int .u32 (mN r : Nat)) ∧ w' = w := by
  have h1 := half_and r hr
  have hx := half_xor r hr
  have c1 := hT (r % 16) (by omega)
  have hl := hN_lt r hr
  have h2 := half_and (hN r) hl
  have hx2 := half_xor (hN r) hl
  have c2 := hT (hN r % 16) (by omega)
  have HM : Hid (mN r = hN (hN r)) := rfl
  generalize hN r = q at *
  clear hT
  go_enter Tryz.func90, Tryz.ntmps90
  go_wp2
  go_ret
  exact ⟨by rw [HM.out]; rfl, rfl⟩
/-- A summer at the block b: its Once (three cells) and its wide table. -/
def WideAt (w : World) (b k : Nat) : Prop := (∀ j, j < k → w.cell? ⟨b, 3 + j, none⟩ = some (.int .u32 (mN j : Nat))) ∧ (∀ j, k ≤ j → j < 256 → w.cell? ⟨b, 3 + j, none⟩ = some (.int .u32 0)) ∧ ∀ j, w.frozen? ⟨b, j, none⟩ = false
theorem WideAt.put {wr : World} {b k : Nat} (h : WideAt wr b k) (hk : k < 256) : WideAt (wr.setCell ⟨b, 3 + k, none⟩ (.int .u32 (mN k : Nat))).drew b (k + 1) := by
  obtain ⟨h1, h2, h3⟩ := h
  refine ⟨fun j hj => ?_, fun j hj hj2 => ?_, fun j => ?_⟩
  · by_cases e : j = k
    · subst e
      exact World.cell?_setCell_same wr ⟨b, 3 + j, none⟩ _ (h2 j (by omega) hk)
    · exact (World.cell?_setCell_other wr ⟨b, 3 + k, none⟩ ⟨b, 3 + j, none⟩ _ (by simp <;> omega)).trans (h1 j (by omega))
  · exact (World.cell?_setCell_other wr ⟨b, 3 + k, none⟩ ⟨b, 3 + j, none⟩ _ (by simp <;> omega)).trans (h2 j (by omega) hj2)
  · have := h3 j
    simp [this]
set_option maxRecDepth 100000 in
set_option maxHeartbeats 1600000 in
theorem widen_any (b B : Nat) (w : World) (hb : B ≤ b) (hT : HalfAt w) (hg : 0 < B) (hw : WideAt w b 0) :
    Calls Tryz.prog 92 #[.pointer (some ⟨b, 0, none⟩)] w fun e w' => e = .returned (.tuple #[]) ∧ WideAt w' b 256 ∧ Below B w w' ∧ (∀ j, j < 3 → w'.cell? ⟨b, j, none⟩ = w.cell? ⟨b, j, none⟩) := by
  go_enter Tryz.func92, Tryz.ntmps92
  go_wp2
  go_loopw [3] (fun i wr => ∃ k : Nat, k ≤ 256 ∧ i = .int .i64 k ∧ WideAt wr b k ∧ Below B w wr ∧ (∀ j, j < 3 → wr.cell? ⟨b, j, none⟩ = w.cell? ⟨b, j, none⟩)) (fun i _ => 256 - (intOf i).toNat)
  case atStart => exact ⟨0, by omega, rfl, hw, Below.refl _ _, fun _ _ => rfl⟩
  case round =>
    obtain ⟨k, hk, rfl, hwk, hbel, hlow⟩ := hrel
    have HB : Hid (Below B w wr) := hbel
    have HL : Hid (∀ j, j < 3 → wr.cell? ⟨b, j, none⟩ = w.cell? ⟨b, j, none⟩) := hlow
    have HT : Hid (HalfAt wr) := fun j hj => (hbel.cell (p := ⟨0, j, none⟩) hg).trans (hT j hj)
    have HW : Hid (WideAt wr b k) := hwk
    clear hbel hlow hwk
    by_cases h1 : k < 256
    · have c1 : wr.cell? ⟨b, 3 + k, none⟩ = some (.int .u32 0) := HW.out.2.1 k (by omega) h1
      have f1 : wr.frozen? ⟨b, 3 + k, none⟩ = false := HW.out.2.2 _
      have c2 : wr.drew.cell? ⟨b, 3 + k, none⟩ = some (.int .u32 0) := c1
      have f2 : wr.drew.frozen? ⟨b, 3 + k, none⟩ = false := f1
      have HTd : Hid (HalfAt wr.drew) := HT.out
      have hz : IntKind.u32.wrap (k : Int) = (k : Int) := by rw [IntKind.wrap_u32']; omega
      go_wp2_with fail
      refine wp_once ?_
      apply Exists.intro
      apply Exists.intro
      constructor
      · go_region_with (first | (go_at_call 90; refine (moveByte_any k wr.drew (by omega) HTd.out).mono ?_; rintro e w' ⟨rfl, rfl⟩))
        all_goals exact Post1.here _ _
      have HW2 : Hid (WideAt (wr.setCell ⟨b, 3 + k, none⟩ (.int .u32 (mN k : Nat))).drew b (k + 1)) := HW.out.put h1
      have HB2 : Hid (Below B w (wr.setCell ⟨b, 3 + k, none⟩ (.int .u32 (mN k : Nat))).drew) := (HB.out.setCell hb _).drew
      have HL2 : Hid (∀ j, j < 3 → (wr.setCell ⟨b, 3 + k, none⟩ (.int .u32 (mN k : Nat))).drew.cell? ⟨b, j, none⟩ = w.cell? ⟨b, j, none⟩) := fun j hj => (World.cell?_setCell_other wr ⟨b, 3 + k, none⟩ ⟨b, j, none⟩ _ (by simp <;> omega)).trans (HL.out j hj)
      clear c1 f1 c2 f2 HW HB HL HT HTd
      go_wp2
      go_roundw
      case rel => exact ⟨k + 1, by omega, by go_num, HW2.out, HB2.out, HL2.out⟩
      case measure => simp [intOf]; omega
    · go_wp2
      go_end0
      have e : k = 256 := by omega
      subst e
      exact ⟨rfl, HW.out, HB.out, HL.out⟩
end Go.Proofs.YtbfjnidpjmhfiaaGreatDoor
