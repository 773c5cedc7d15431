import Derived.Test.YtbfjnidpjmhfiaaGreatDoorCrc2
namespace Go.Proofs.YtbfjnidpjmhfiaaGreatDoor
open Go.ChangeShapes Go.WideShapes Go.ChangeAt Go.RowKit Go.MuLone
set_option linter.unusedVariables false

theorem store_deferred (a : Addr) (x : Value) (u : FrameMode) (w : World) (hc : w.cell? a = some x) (hz : w.frozen? a = false) :
    CallsD Tryz.prog 112 #[.pointer (some a), .bool true] u w fun e u' w' => u' = u ∧ (e = .returned (.tuple #[]) ∧ w' = w.drew.setCell a (.int .u32 1)) := by
  have hc' : w.drew.cell? a = some x := by go_simp
  have hz' : w.drew.frozen? a = false := by go_simp
  have hst := run_call_store (P := Tryz.prog) Tryz.func115 (by kernel_rfl) (by kernel_rfl) (by kernel_rfl) (by kernel_rfl) (k := .u32) (y := 1) hc' hz'
  go_enter_d Tryz.func112, Tryz.ntmps112
  go_wp2
  go_region_calls
  all_goals (go_end0; exact ⟨rfl, rfl⟩)
/-- A summer at the block b whose table is not yet made, its lock free. -/
def Fresh (w : World) (b : Nat) : Prop := w.cell? ⟨b, 0, none⟩ = some (.int .u32 0) ∧ w.cell? ⟨b, 1, none⟩ = some (.int .i32 0) ∧ WideAt w b 0
/-- One whose table is made. -/
def Wide (w : World) (b : Nat) : Prop := w.cell? ⟨b, 0, none⟩ = some (.int .u32 1) ∧ w.cell? ⟨b, 1, none⟩ = some (.int .i32 0) ∧ WideAt w b 256
theorem WideAt.past {w w' : World} {b k : Nat} (h : WideAt w b k) (hc : ∀ j, 3 ≤ j → w'.cell? ⟨b, j, none⟩ = w.cell? ⟨b, j, none⟩) (hf : ∀ j, w'.frozen? ⟨b, j, none⟩ = w.frozen? ⟨b, j, none⟩) : WideAt w' b k :=
  ⟨fun j hj => (hc _ (by omega)).trans (h.1 j hj), fun j h1 h2 => (hc _ (by omega)).trans (h.2.1 j h1 h2), fun j => (hf j).trans (h.2.2 j)⟩
set_option maxRecDepth 100000 in
set_option maxHeartbeats 1600000 in
theorem slow_any (b B : Nat) (w : World) (hb : B ≤ b) (hT : HalfAt w) (hg : 0 < B) (hF : Fresh w b) :
    Calls Tryz.prog 103 #[.pointer (some ⟨b, 0, none⟩), .func (.func 92) #[.pointer (some ⟨b, 0, none⟩)] #[]] w fun e w' => e = .returned (.tuple #[]) ∧ Wide w' b ∧ Below B w w' := by
  obtain ⟨h0, h1, hw⟩ := hF
  have f0 := hw.2.2 0
  have f1 := hw.2.2 1
  have hl := run_call_load (P := Tryz.prog) Tryz.func109 (by kernel_rfl) (by kernel_rfl) (by kernel_rfl) .u32 (by kernel_rfl) (w := w.setCell ⟨b, 1, none⟩ (.int .i32 1)) (a := ⟨b, 0, none⟩) (x := 0) ((World.cell?_setCell_other _ ⟨b, 1, none⟩ ⟨b, 0, none⟩ _ (by simp)).trans h0)
  have hnot : ∀ (x : Bool) (w : World), (Op.unary .not (.bool x)).run Tryz.prog w = .ok (.bool (!x)) w := fun _ _ => rfl
  have HW1 : Hid (WideAt (w.setCell ⟨b, 1, none⟩ (.int .i32 1)) b 0) := hw.past (fun j hj => World.cell?_setCell_other w ⟨b, 1, none⟩ ⟨b, j, none⟩ _ (by simp <;> omega)) (fun j => by simp)
  have HB1 : Hid (Below B w (w.setCell ⟨b, 1, none⟩ (.int .i32 1))) := (Below.refl _ _).setCell hb _
  have HT1 : Hid (HalfAt (w.setCell ⟨b, 1, none⟩ (.int .i32 1))) := fun j hj => (HB1.out.cell (p := ⟨0, j, none⟩) hg).trans (hT j hj)
  have C0 : Hid ((w.setCell ⟨b, 1, none⟩ (.int .i32 1)).cell? ⟨b, 0, none⟩ = some (.int .u32 0)) := (World.cell?_setCell_other _ ⟨b, 1, none⟩ ⟨b, 0, none⟩ _ (by simp)).trans h0
  have C1 : Hid ((w.setCell ⟨b, 1, none⟩ (.int .i32 1)).cell? ⟨b, 1, none⟩ = some (.int .i32 1)) := World.cell?_setCell_same w _ _ h1
  clear hw hT
  go_enter_defers Tryz.func103, Tryz.ntmps103
  go_wp2_with (first | (go_at_call 110; refine (lock_free muLib ⟨b, 1, none⟩ _ h1 f1).mono ?_; rintro e w' ⟨rfl, rfl⟩) | (go_at_call 102; go_in) | (go_at_call 92; refine (widen_any b B _ hb HT1.out hg HW1.out).mono ?_; rintro e w' ⟨rfl, hW, hB, hL⟩))
  have HW2 : Hid (WideAt w' b 256) := hW
  have HB2 : Hid (Below B w w') := HB1.out.trans hB
  have c0 : w'.cell? ⟨b, 0, none⟩ = some (.int .u32 0) := (hL 0 (by omega)).trans C0.out
  have c1 : w'.cell? ⟨b, 1, none⟩ = some (.int .i32 1) := (hL 1 (by omega)).trans C1.out
  have z0 : w'.frozen? ⟨b, 0, none⟩ = false := hW.2.2 0
  have z1 : w'.frozen? ⟨b, 1, none⟩ = false := hW.2.2 1
  clear hW hB hL C0 C1 HW1 HB1 HT1 hl
  go_wp2
  refine leaves_cons (f := 112) (args := #[.pointer (some ⟨b, 0, none⟩), .bool true]) (by simp) (by simp [go_sem]) ?_
  refine (store_deferred ⟨b, 0, none⟩ (.int .u32 0) .returning _ c0 z0).mono ?_
  rintro e u' w'' ⟨rfl, rfl, rfl⟩
  refine leaves_cons (f := 111) (args := #[.pointer (some ⟨b, 1, none⟩)]) (by simp [settle]) (by simp [go_sem]) ?_
  refine (unlock_deferred muLib ⟨b, 1, none⟩ _ _ ?_ (by simp [z1])).mono ?_
  · exact (World.cell?_setCell_other _ ⟨b, 0, none⟩ ⟨b, 1, none⟩ _ (by simp)).trans c1
  rintro e u' w'' ⟨rfl, rfl, rfl⟩
  refine ⟨.tuple #[], by simp [results, Tryz.results103], rfl, ⟨?_, ?_, ?_⟩, ?_⟩
  · exact (World.cell?_setCell_other _ ⟨b, 1, none⟩ ⟨b, 0, none⟩ _ (by simp)).trans (World.cell?_setCell_same _ ⟨b, 0, none⟩ _ c0)
  · exact World.cell?_setCell_same _ ⟨b, 1, none⟩ _ ((World.cell?_setCell_other _ ⟨b, 0, none⟩ ⟨b, 1, none⟩ _ (by simp)).trans c1)
  · exact HW2.out.past (fun j hj => (World.cell?_setCell_other _ ⟨b, 1, none⟩ ⟨b, j, none⟩ _ (by simp <;> omega)).trans (World.cell?_setCell_other _ ⟨b, 0, none⟩ ⟨b, j, none⟩ _ (by simp <;> omega))) (fun j => by simp)
  · exact ((HB2.out.drew).setCell hb _).setCell hb _
set_option maxRecDepth 100000 in
set_option maxHeartbeats 1600000 in
theorem do_first (b B : Nat) (w : World) (hb : B ≤ b) (hT : HalfAt w) (hg : 0 < B) (hF : Fresh w b) :
    Calls Tryz.prog 91 #[.pointer (some ⟨b, 0, none⟩), .func (.func 92) #[.pointer (some ⟨b, 0, none⟩)] #[]] w fun e w' => e = .returned (.tuple #[]) ∧ Wide w' b ∧ Below B w w' := by
  have h0 := hF.1
  have hl := run_call_load (P := Tryz.prog) Tryz.func109 (by kernel_rfl) (by kernel_rfl) (by kernel_rfl) .u32 (by kernel_rfl) h0
  have hnot : ∀ (x : Bool) (w : World), (Op.unary .not (.bool x)).run Tryz.prog w = .ok (.bool (!x)) w := fun _ _ => rfl
  have HF : Hid (Fresh w b) := hF
  have HT : Hid (HalfAt w) := hT
  clear hF hT
  go_enter Tryz.func91, Tryz.ntmps91
  go_wp2_with (first | (go_at_call 103; refine (slow_any b B _ hb HT.out hg HF.out).mono ?_; rintro e w' ⟨rfl, hW, hB⟩) | (go_at_call 102; go_in))
  go_end0
  exact ⟨rfl, hW, hB⟩
theorem do_done (b : Nat) (fv : Value) (w : World) (hW : Wide w b) :
    Calls Tryz.prog 91 #[.pointer (some ⟨b, 0, none⟩), fv] w fun e w' => e = .returned (.tuple #[]) ∧ w' = w := by
  have h0 := hW.1
  have hl := run_call_load (P := Tryz.prog) Tryz.func109 (by kernel_rfl) (by kernel_rfl) (by kernel_rfl) .u32 (by kernel_rfl) h0
  have hnot : ∀ (x : Bool) (w : World), (Op.unary .not (.bool x)).run Tryz.prog w = .ok (.bool (!x)) w := fun _ _ => rfl
  go_enter Tryz.func91, Tryz.ntmps91
  go_wp2
  go_end0
  exact ⟨rfl, rfl⟩
end Go.Proofs.YtbfjnidpjmhfiaaGreatDoor
