import Derived.Test.YtjcffcpmegpjeaaGreatDoorPtS1
namespace Go.Proofs.YtjcffcpmegpjeaaGreatDoor
set_option linter.unusedSimpArgs false
open Go.ChangeShapes Go.WideShapes Go.ChangeAt Go.RowKit
set_option linter.unusedVariables false
set_option maxRecDepth 100000
theorem takenU_ok (R : Nat) (v nx x : Int) (w : World) (hc : w.cell? ⟨R, 1, none⟩ = some (.int .i64 x)) (hf : w.frozen? ⟨R, 1, none⟩ = false) : Calls Tryz.prog 112 #[.pointer (some ⟨R, 0, none⟩), .int .u64 v, .int .i64 nx, .int .i64 0] w fun e w' => e = .returned (.int .u64 v) ∧ w' = w.setCell ⟨R, 1, none⟩ (.int .i64 nx) := by
  go_enter Tryz.func112, Tryz.ntmps112
  go_wp2
  go_ret
  exact ⟨rfl, rfl⟩
theorem takenU_no (r : Value) (v nx c : Int) (hc : c ≠ 0) (w : World) : Calls Tryz.prog 112 #[r, .int .u64 v, .int .i64 nx, .int .i64 c] w fun e w' => e = oops 169 ∧ w' = w := by
  have hcb : (c != 0) = true := by simp [hc]
  go_enter Tryz.func112, Tryz.ntmps112
  go_wp2
  exact ⟨rfl, rfl, rfl⟩
theorem takenS_ok (R : Nat) (v : ByteArray) (nx x : Int) (w : World) (hc : w.cell? ⟨R, 1, none⟩ = some (.int .i64 x)) (hf : w.frozen? ⟨R, 1, none⟩ = false) : Calls Tryz.prog 145 #[.pointer (some ⟨R, 0, none⟩), .string v, .int .i64 nx, .int .i64 0] w fun e w' => e = .returned (.string v) ∧ w' = w.setCell ⟨R, 1, none⟩ (.int .i64 nx) := by
  go_enter Tryz.func145, Tryz.ntmps145
  go_wp2
  go_ret
  exact ⟨rfl, rfl⟩
theorem takenS_no (r : Value) (v : ByteArray) (nx c : Int) (hc : c ≠ 0) (w : World) : Calls Tryz.prog 145 #[r, .string v, .int .i64 nx, .int .i64 c] w fun e w' => e = oops 169 ∧ w' = w := by
  have hcb : (c != 0) = true := by simp [hc]
  go_enter Tryz.func145, Tryz.ntmps145
  go_wp2
  exact ⟨rfl, rfl, rfl⟩
/-- A reader of a definition's bytes, in a block. -/
def Rp (w : World) (R : Nat) (s : ByteArray) (p : Int) : Prop := w.heap[R]? = some (.cells #[.string s, .int .i64 p] 145)
theorem Rp.cells {w : World} {R : Nat} {s : ByteArray} {p : Int} (h : Rp w R s p) : w.cell? ⟨R, 0, none⟩ = some (.string s) ∧ w.cell? ⟨R, 1, none⟩ = some (.int .i64 p) ∧ w.frozen? ⟨R, 1, none⟩ = false ∧ R < w.heap.size := by
  have hb : R < w.heap.size := (Array.getElem?_eq_some_iff.1 h).1
  unfold Rp at h
  unfold World.cell? World.frozen?
  rw [h]
  exact ⟨rfl, rfl, rfl, hb⟩
theorem Rp.set {w : World} {R : Nat} {s : ByteArray} {p : Int} (h : Rp w R s p) (q : Int) : Rp (w.setCell ⟨R, 1, none⟩ (.int .i64 q)) R s q := heap_set h _
/-- What a step of a reader answers: v, and P holds; or it gives up. -/
def Got (c : Int) (v : Value) (P : Prop) (e : Ending) : Prop := (c = 0 → e = .returned v ∧ P) ∧ (c ≠ 0 → e = oops 169)
theorem Got.yes {v : Value} {P : Prop} (h : P) : Got 0 v P (.returned v) := ⟨fun _ => ⟨rfl, h⟩, fun h => absurd rfl h⟩
theorem Got.no {c : Int} {v : Value} {P : Prop} (h : c ≠ 0) : Got c v P (oops 169) := ⟨fun e => absurd e h, fun _ => rfl⟩
set_option maxHeartbeats 4000000 in
theorem numberT (R : Nat) (s : ByteArray) (p : Int) (w : World) (h : Rp w R s p) (h0 : -9223372036854775808 ≤ p) (h1 : p ≤ 9223372036854775807) (hs : s.size ≤ 1125899906842624) :
    Calls Tryz.prog 93 #[.pointer (some ⟨R, 0, none⟩)] w fun e w' => Got (rU s p).2.2 (.int .u64 (rU s p).1) (Rp w' R s (rU s p).2.1) e ∧ Fr R w w' := by
  obtain ⟨c0, c1, c2, c3⟩ := h.cells
  have HR : Hid (∀ W, _) := fun W => ReadUvarint_any s p W h0 h1 hs
  have HP : Hid (Rp w R s p) := h
  clear h
  generalize rU s p = r at *
  obtain ⟨v, q, c⟩ := r
  dsimp only at *
  go_enter Tryz.func93, Tryz.ntmps93
  go_wp2_with fail
  (refine wp_region_held_drew (S := (fun w' => w'.cell? ⟨R, 0, none⟩ = some (.string s) ∧ w'.cell? ⟨R, 1, none⟩ = some (.int .i64 p))) (by kernel_rfl) ⟨c0, c1⟩ (fun hHeld => ?_); simp only [List.size_toArray, List.length_cons, List.length_nil, Nat.reduceAdd, Array.replicate_succ, Array.replicate_zero, List.push_toArray, List.append_toArray, List.nil_append, List.cons_append])
  (refine tk0 (v := ?_) (by kernel_rfl) (by kernel_rfl) (by kernel_rfl) (fun _ _ _ h => h) (Or.inl ⟨by rfl, ?_⟩) (by assumption) ?_; rotate_left; (focus (intro w hSw; (try dsimp only at hSw); go_simp; (try first | (rw [dif_pos (by omega)]; simp only [Result.andThen_ok]) | rw [if_pos (by omega)]); (try with_reducible rfl); done)); try simp only [Act.put, List.setIfInBounds_toArray, List.set_cons_zero, List.set_cons_succ])
  (refine tk1 (v := ?_) (by kernel_rfl) (by kernel_rfl) (by kernel_rfl) (fun _ _ _ h => h) (Or.inl ⟨by rfl, ?_⟩) (by assumption) ?_; rotate_left; (focus (intro w hSw; (try dsimp only at hSw); go_simp; (try first | (rw [dif_pos (by omega)]; simp only [Result.andThen_ok]) | rw [if_pos (by omega)]); (try with_reducible rfl); done)); try simp only [Act.put, List.setIfInBounds_toArray, List.set_cons_zero, List.set_cons_succ])
  (refine tk2 (v := ?_) (by kernel_rfl) (by kernel_rfl) (by kernel_rfl) (fun _ _ _ h => h) (Or.inl ⟨by rfl, ?_⟩) (by assumption) ?_; rotate_left; (focus (intro w hSw; (try dsimp only at hSw); go_simp; (try first | (rw [dif_pos (by omega)]; simp only [Result.andThen_ok]) | rw [if_pos (by omega)]); (try with_reducible rfl); done)); try simp only [Act.put, List.setIfInBounds_toArray, List.set_cons_zero, List.set_cons_succ])
  (refine tk3 (v := ?_) (by kernel_rfl) (by kernel_rfl) (by kernel_rfl) (fun _ _ _ h => h) (Or.inl ⟨by rfl, ?_⟩) (by assumption) ?_; rotate_left; (focus (intro w hSw; (try dsimp only at hSw); go_simp; (try first | (rw [dif_pos (by omega)]; simp only [Result.andThen_ok]) | rw [if_pos (by omega)]); (try with_reducible rfl); done)); try simp only [Act.put, List.setIfInBounds_toArray, List.set_cons_zero, List.set_cons_succ])
  (refine tk4 (v := ?_) (by kernel_rfl) (by kernel_rfl) (by kernel_rfl) (fun _ _ _ h => h) (Or.inl ⟨by rfl, ?_⟩) (by assumption) ?_; rotate_left; (focus (intro w hSw; (try dsimp only at hSw); go_simp; (try first | (rw [dif_pos (by omega)]; simp only [Result.andThen_ok]) | rw [if_pos (by omega)]); (try with_reducible rfl); done)); try simp only [Act.put, List.setIfInBounds_toArray, List.set_cons_zero, List.set_cons_succ])
  (refine tk5 (v := ?_) (by kernel_rfl) (by kernel_rfl) (by kernel_rfl) (fun _ _ _ h => h) (Or.inl ⟨by rfl, ?_⟩) (by assumption) ?_; rotate_left; (focus (intro w hSw; (try dsimp only at hSw); go_simp; (try first | (rw [dif_pos (by omega)]; simp only [Result.andThen_ok]) | rw [if_pos (by omega)]); (try with_reducible rfl); done)); try simp only [Act.put, List.setIfInBounds_toArray, List.set_cons_zero, List.set_cons_succ])
  (refine tk6 (v := ?_) (by kernel_rfl) (by kernel_rfl) (by kernel_rfl) (fun _ _ _ h => h) (Or.inl ⟨by rfl, ?_⟩) (by assumption) ?_; rotate_left; (focus (intro w hSw; (try dsimp only at hSw); go_simp; (try first | (rw [dif_pos (by omega)]; simp only [Result.andThen_ok]) | rw [if_pos (by omega)]); (try with_reducible rfl); done)); try simp only [Act.put, List.setIfInBounds_toArray, List.set_cons_zero, List.set_cons_succ])
  (refine tk7 (v := ?_) (by kernel_rfl) (by kernel_rfl) (by kernel_rfl) (fun _ _ _ h => h) (Or.inl ⟨by rfl, ?_⟩) (by assumption) ?_; rotate_left; (focus (intro w hSw; (try dsimp only at hSw); go_simp; (try first | (rw [dif_pos (by omega)]; simp only [Result.andThen_ok]) | rw [if_pos (by omega)]); (try with_reducible rfl); done)); try simp only [Act.put, List.setIfInBounds_toArray, List.set_cons_zero, List.set_cons_succ])
  (refine wpAnyH_ready (rs := [8]) (by kernel_rfl) (by simp) ?_; refine ar8 (fun K hK => ?_) AllReadyH.nil; go_simp)
  go_at_call 111
  refine (HR.out _).mono ?_
  rintro e w3 ⟨rfl, hb3⟩
  have hbW : Below w.heap.size w w3 := ⟨hb3.os, hb3.tape, hb3.output, hb3.size, hb3.block⟩
  have HP3 : Hid (Rp w3 R s p) := (hbW.block _ c3).trans HP.out
  have HF3 : Hid (Fr R w w3) := Fr.of (by omega) hbW
  clear hb3 hbW HR c0 c1 c2 c3
  obtain ⟨c0, c1, c2, c3⟩ := HP3.out.cells
  go_wp2_with fail
  (refine hK.out _ _ ⟨c0, c1⟩ (fun hHeld => ?_); clear hK K; try simp only [Act.put, List.setIfInBounds_toArray, List.set_cons_zero, List.set_cons_succ])
  (refine tk9 (v := ?_) (by kernel_rfl) (by kernel_rfl) (by kernel_rfl) (fun _ _ _ h => h) (Or.inl ⟨by rfl, ?_⟩) (by assumption) ?_; rotate_left; (focus (intro w hSw; (try dsimp only at hSw); go_simp; (try first | (rw [dif_pos (by omega)]; simp only [Result.andThen_ok]) | rw [if_pos (by omega)]); (try with_reducible rfl); done)); try simp only [Act.put, List.setIfInBounds_toArray, List.set_cons_zero, List.set_cons_succ])
  (refine tk10 (v := ?_) (by kernel_rfl) (by kernel_rfl) (by kernel_rfl) (fun _ _ _ h => h) (Or.inl ⟨by rfl, ?_⟩) (by assumption) ?_; rotate_left; (focus (intro w hSw; (try dsimp only at hSw); go_simp; (try first | (rw [dif_pos (by omega)]; simp only [Result.andThen_ok]) | rw [if_pos (by omega)]); (try with_reducible rfl); done)); try simp only [Act.put, List.setIfInBounds_toArray, List.set_cons_zero, List.set_cons_succ])
  (refine tk11 (v := ?_) (by kernel_rfl) (by kernel_rfl) (by kernel_rfl) (fun _ _ _ h => h) (Or.inl ⟨by rfl, ?_⟩) (by assumption) ?_; rotate_left; (focus (intro w hSw; (try dsimp only at hSw); go_simp; (try first | (rw [dif_pos (by omega)]; simp only [Result.andThen_ok]) | rw [if_pos (by omega)]); (try with_reducible rfl); done)); try simp only [Act.put, List.setIfInBounds_toArray, List.set_cons_zero, List.set_cons_succ])
  (refine tk12 (v := ?_) (by kernel_rfl) (by kernel_rfl) (by kernel_rfl) (fun _ _ _ h => h) (Or.inl ⟨by rfl, ?_⟩) (by assumption) ?_; rotate_left; (focus (intro w hSw; (try dsimp only at hSw); go_simp; (try first | (rw [dif_pos (by omega)]; simp only [Result.andThen_ok]) | rw [if_pos (by omega)]); (try with_reducible rfl); done)); try simp only [Act.put, List.setIfInBounds_toArray, List.set_cons_zero, List.set_cons_succ])
  (refine tk13 (v := ?_) (by kernel_rfl) (by kernel_rfl) (by kernel_rfl) (fun _ _ _ h => h) (Or.inl ⟨by rfl, ?_⟩) (by assumption) ?_; rotate_left; (focus (intro w hSw; (try dsimp only at hSw); go_simp; (try first | (rw [dif_pos (by omega)]; simp only [Result.andThen_ok]) | rw [if_pos (by omega)]); (try with_reducible rfl); done)); try simp only [Act.put, List.setIfInBounds_toArray, List.set_cons_zero, List.set_cons_succ])
  (refine tk14 (v := ?_) (by kernel_rfl) (by kernel_rfl) (by kernel_rfl) (fun _ _ _ h => h) (Or.inl ⟨by rfl, ?_⟩) (by assumption) ?_; rotate_left; (focus (intro w hSw; (try dsimp only at hSw); go_simp; (try first | (rw [dif_pos (by omega)]; simp only [Result.andThen_ok]) | rw [if_pos (by omega)]); (try with_reducible rfl); done)); try simp only [Act.put, List.setIfInBounds_toArray, List.set_cons_zero, List.set_cons_succ])
  (refine tk15 (v := ?_) (by kernel_rfl) (by kernel_rfl) (by kernel_rfl) (fun _ _ _ h => h) (Or.inl ⟨by rfl, ?_⟩) (by assumption) ?_; rotate_left; (focus (intro w hSw; (try dsimp only at hSw); go_simp; (try first | (rw [dif_pos (by omega)]; simp only [Result.andThen_ok]) | rw [if_pos (by omega)]); (try with_reducible rfl); done)); try simp only [Act.put, List.setIfInBounds_toArray, List.set_cons_zero, List.set_cons_succ])
  refine wpAnyH_done (by kernel_rfl) ?_ _
  by_cases hc : c = 0
  · subst hc
    go_wp2_with fail
    refine (takenU_ok R v q p _ c1 c2).mono ?_
    rintro e w4 ⟨rfl, rfl⟩
    go_wp2
    go_ret
    exact ⟨Got.yes (HP3.out.set q), HF3.out.setCell rfl _⟩
  · have HC : Hid (c ≠ 0) := hc
    clear hc
    go_wp2_with fail
    refine (takenU_no _ v q c HC.out _).mono ?_
    rintro e w4 ⟨rfl, rfl⟩
    unfold oops
    go_wp2
    exact ⟨rfl, Got.no HC.out, HF3.out⟩
set_option maxHeartbeats 4000000 in
theorem blobT (R : Nat) (s : ByteArray) (p : Int) (w : World) (h : Rp w R s p) (h0 : -9223372036854775808 ≤ p) (h1 : p ≤ 9223372036854775807) (hs : s.size ≤ 1125899906842624) :
    Calls Tryz.prog 113 #[.pointer (some ⟨R, 0, none⟩)] w fun e w' => Got (rB s p).2.2 (.string (rB s p).1) (Rp w' R s (rB s p).2.1) e ∧ Fr R w w' := by
  obtain ⟨c0, c1, c2, c3⟩ := h.cells
  have HR : Hid (∀ W, _) := fun W => ReadBlob_any s p W h0 h1 hs
  have HP : Hid (Rp w R s p) := h
  clear h
  generalize rB s p = r at *
  obtain ⟨v, q, c⟩ := r
  dsimp only at *
  go_enter Tryz.func113, Tryz.ntmps113
  go_wp2_with fail
  (refine wp_region_held_drew (S := (fun w' => w'.cell? ⟨R, 0, none⟩ = some (.string s) ∧ w'.cell? ⟨R, 1, none⟩ = some (.int .i64 p))) (by kernel_rfl) ⟨c0, c1⟩ (fun hHeld => ?_); simp only [List.size_toArray, List.length_cons, List.length_nil, Nat.reduceAdd, Array.replicate_succ, Array.replicate_zero, List.push_toArray, List.append_toArray, List.nil_append, List.cons_append])
  (refine tk0 (v := ?_) (by kernel_rfl) (by kernel_rfl) (by kernel_rfl) (fun _ _ _ h => h) (Or.inl ⟨by rfl, ?_⟩) (by assumption) ?_; rotate_left; (focus (intro w hSw; (try dsimp only at hSw); go_simp; (try first | (rw [dif_pos (by omega)]; simp only [Result.andThen_ok]) | rw [if_pos (by omega)]); (try with_reducible rfl); done)); try simp only [Act.put, List.setIfInBounds_toArray, List.set_cons_zero, List.set_cons_succ])
  (refine tk1 (v := ?_) (by kernel_rfl) (by kernel_rfl) (by kernel_rfl) (fun _ _ _ h => h) (Or.inl ⟨by rfl, ?_⟩) (by assumption) ?_; rotate_left; (focus (intro w hSw; (try dsimp only at hSw); go_simp; (try first | (rw [dif_pos (by omega)]; simp only [Result.andThen_ok]) | rw [if_pos (by omega)]); (try with_reducible rfl); done)); try simp only [Act.put, List.setIfInBounds_toArray, List.set_cons_zero, List.set_cons_succ])
  (refine tk2 (v := ?_) (by kernel_rfl) (by kernel_rfl) (by kernel_rfl) (fun _ _ _ h => h) (Or.inl ⟨by rfl, ?_⟩) (by assumption) ?_; rotate_left; (focus (intro w hSw; (try dsimp only at hSw); go_simp; (try first | (rw [dif_pos (by omega)]; simp only [Result.andThen_ok]) | rw [if_pos (by omega)]); (try with_reducible rfl); done)); try simp only [Act.put, List.setIfInBounds_toArray, List.set_cons_zero, List.set_cons_succ])
  (refine tk3 (v := ?_) (by kernel_rfl) (by kernel_rfl) (by kernel_rfl) (fun _ _ _ h => h) (Or.inl ⟨by rfl, ?_⟩) (by assumption) ?_; rotate_left; (focus (intro w hSw; (try dsimp only at hSw); go_simp; (try first | (rw [dif_pos (by omega)]; simp only [Result.andThen_ok]) | rw [if_pos (by omega)]); (try with_reducible rfl); done)); try simp only [Act.put, List.setIfInBounds_toArray, List.set_cons_zero, List.set_cons_succ])
  (refine tk4 (v := ?_) (by kernel_rfl) (by kernel_rfl) (by kernel_rfl) (fun _ _ _ h => h) (Or.inl ⟨by rfl, ?_⟩) (by assumption) ?_; rotate_left; (focus (intro w hSw; (try dsimp only at hSw); go_simp; (try first | (rw [dif_pos (by omega)]; simp only [Result.andThen_ok]) | rw [if_pos (by omega)]); (try with_reducible rfl); done)); try simp only [Act.put, List.setIfInBounds_toArray, List.set_cons_zero, List.set_cons_succ])
  (refine tk5 (v := ?_) (by kernel_rfl) (by kernel_rfl) (by kernel_rfl) (fun _ _ _ h => h) (Or.inl ⟨by rfl, ?_⟩) (by assumption) ?_; rotate_left; (focus (intro w hSw; (try dsimp only at hSw); go_simp; (try first | (rw [dif_pos (by omega)]; simp only [Result.andThen_ok]) | rw [if_pos (by omega)]); (try with_reducible rfl); done)); try simp only [Act.put, List.setIfInBounds_toArray, List.set_cons_zero, List.set_cons_succ])
  (refine tk6 (v := ?_) (by kernel_rfl) (by kernel_rfl) (by kernel_rfl) (fun _ _ _ h => h) (Or.inl ⟨by rfl, ?_⟩) (by assumption) ?_; rotate_left; (focus (intro w hSw; (try dsimp only at hSw); go_simp; (try first | (rw [dif_pos (by omega)]; simp only [Result.andThen_ok]) | rw [if_pos (by omega)]); (try with_reducible rfl); done)); try simp only [Act.put, List.setIfInBounds_toArray, List.set_cons_zero, List.set_cons_succ])
  (refine tk7 (v := ?_) (by kernel_rfl) (by kernel_rfl) (by kernel_rfl) (fun _ _ _ h => h) (Or.inl ⟨by rfl, ?_⟩) (by assumption) ?_; rotate_left; (focus (intro w hSw; (try dsimp only at hSw); go_simp; (try first | (rw [dif_pos (by omega)]; simp only [Result.andThen_ok]) | rw [if_pos (by omega)]); (try with_reducible rfl); done)); try simp only [Act.put, List.setIfInBounds_toArray, List.set_cons_zero, List.set_cons_succ])
  (refine wpAnyH_ready (rs := [8]) (by kernel_rfl) (by simp) ?_; refine ar8 (fun K hK => ?_) AllReadyH.nil; go_simp)
  go_at_call 144
  refine (HR.out _).mono ?_
  rintro e w3 ⟨rfl, hb3⟩
  have hbW : Below w.heap.size w w3 := ⟨hb3.os, hb3.tape, hb3.output, hb3.size, hb3.block⟩
  have HP3 : Hid (Rp w3 R s p) := (hbW.block _ c3).trans HP.out
  have HF3 : Hid (Fr R w w3) := Fr.of (by omega) hbW
  clear hb3 hbW HR c0 c1 c2 c3
  obtain ⟨c0, c1, c2, c3⟩ := HP3.out.cells
  go_wp2_with fail
  (refine hK.out _ _ ⟨c0, c1⟩ (fun hHeld => ?_); clear hK K; try simp only [Act.put, List.setIfInBounds_toArray, List.set_cons_zero, List.set_cons_succ])
  (refine tk9 (v := ?_) (by kernel_rfl) (by kernel_rfl) (by kernel_rfl) (fun _ _ _ h => h) (Or.inl ⟨by rfl, ?_⟩) (by assumption) ?_; rotate_left; (focus (intro w hSw; (try dsimp only at hSw); go_simp; (try first | (rw [dif_pos (by omega)]; simp only [Result.andThen_ok]) | rw [if_pos (by omega)]); (try with_reducible rfl); done)); try simp only [Act.put, List.setIfInBounds_toArray, List.set_cons_zero, List.set_cons_succ])
  (refine tk10 (v := ?_) (by kernel_rfl) (by kernel_rfl) (by kernel_rfl) (fun _ _ _ h => h) (Or.inl ⟨by rfl, ?_⟩) (by assumption) ?_; rotate_left; (focus (intro w hSw; (try dsimp only at hSw); go_simp; (try first | (rw [dif_pos (by omega)]; simp only [Result.andThen_ok]) | rw [if_pos (by omega)]); (try with_reducible rfl); done)); try simp only [Act.put, List.setIfInBounds_toArray, List.set_cons_zero, List.set_cons_succ])
  (refine tk11 (v := ?_) (by kernel_rfl) (by kernel_rfl) (by kernel_rfl) (fun _ _ _ h => h) (Or.inl ⟨by rfl, ?_⟩) (by assumption) ?_; rotate_left; (focus (intro w hSw; (try dsimp only at hSw); go_simp; (try first | (rw [dif_pos (by omega)]; simp only [Result.andThen_ok]) | rw [if_pos (by omega)]); (try with_reducible rfl); done)); try simp only [Act.put, List.setIfInBounds_toArray, List.set_cons_zero, List.set_cons_succ])
  (refine tk12 (v := ?_) (by kernel_rfl) (by kernel_rfl) (by kernel_rfl) (fun _ _ _ h => h) (Or.inl ⟨by rfl, ?_⟩) (by assumption) ?_; rotate_left; (focus (intro w hSw; (try dsimp only at hSw); go_simp; (try first | (rw [dif_pos (by omega)]; simp only [Result.andThen_ok]) | rw [if_pos (by omega)]); (try with_reducible rfl); done)); try simp only [Act.put, List.setIfInBounds_toArray, List.set_cons_zero, List.set_cons_succ])
  (refine tk13 (v := ?_) (by kernel_rfl) (by kernel_rfl) (by kernel_rfl) (fun _ _ _ h => h) (Or.inl ⟨by rfl, ?_⟩) (by assumption) ?_; rotate_left; (focus (intro w hSw; (try dsimp only at hSw); go_simp; (try first | (rw [dif_pos (by omega)]; simp only [Result.andThen_ok]) | rw [if_pos (by omega)]); (try with_reducible rfl); done)); try simp only [Act.put, List.setIfInBounds_toArray, List.set_cons_zero, List.set_cons_succ])
  (refine tk14 (v := ?_) (by kernel_rfl) (by kernel_rfl) (by kernel_rfl) (fun _ _ _ h => h) (Or.inl ⟨by rfl, ?_⟩) (by assumption) ?_; rotate_left; (focus (intro w hSw; (try dsimp only at hSw); go_simp; (try first | (rw [dif_pos (by omega)]; simp only [Result.andThen_ok]) | rw [if_pos (by omega)]); (try with_reducible rfl); done)); try simp only [Act.put, List.setIfInBounds_toArray, List.set_cons_zero, List.set_cons_succ])
  (refine tk15 (v := ?_) (by kernel_rfl) (by kernel_rfl) (by kernel_rfl) (fun _ _ _ h => h) (Or.inl ⟨by rfl, ?_⟩) (by assumption) ?_; rotate_left; (focus (intro w hSw; (try dsimp only at hSw); go_simp; (try first | (rw [dif_pos (by omega)]; simp only [Result.andThen_ok]) | rw [if_pos (by omega)]); (try with_reducible rfl); done)); try simp only [Act.put, List.setIfInBounds_toArray, List.set_cons_zero, List.set_cons_succ])
  refine wpAnyH_done (by kernel_rfl) ?_ _
  by_cases hc : c = 0
  · subst hc
    go_wp2_with fail
    refine (takenS_ok R v q p _ c1 c2).mono ?_
    rintro e w4 ⟨rfl, rfl⟩
    go_wp2
    go_ret
    exact ⟨Got.yes (HP3.out.set q), HF3.out.setCell rfl _⟩
  · have HC : Hid (c ≠ 0) := hc
    clear hc
    go_wp2_with fail
    refine (takenS_no _ v q c HC.out _).mono ?_
    rintro e w4 ⟨rfl, rfl⟩
    unfold oops
    go_wp2
    exact ⟨rfl, Got.no HC.out, HF3.out⟩
end Go.Proofs.YtjcffcpmegpjeaaGreatDoor

namespace Go.Proofs.YtjcffcpmegpjeaaGreatDoor
set_option linter.unusedSimpArgs false
open Go.ChangeShapes Go.WideShapes Go.ChangeAt Go.RowKit
set_option linter.unusedVariables false
set_option maxRecDepth 100000
/-- What a column's bytes are read as: its error, its place behind, itself. -/
def cdE (s : ByteArray) (p : Int) : Int := if (rB s p).2.2 = 0 then (rU s (rB s p).2.1).2.2 else (rB s p).2.2
def cdV (s : ByteArray) (p : Int) : CD := ((rB s p).1, (rU s (rB s p).2.1).1 % 4, decide (4 ≤ (rU s (rB s p).2.1).1))
def cdP (s : ByteArray) (p : Int) : Int := (rU s (rB s p).2.1).2.1
theorem Rp.fr {w w' : World} {R R2 : Nat} {s : ByteArray} {p : Int} (h : Rp w R s p) (hf : Fr R2 w w') (hn : R ≠ R2) : Rp w' R s p := (hf.rest R h.cells.2.2.2 hn).trans h
set_option maxHeartbeats 4000000 in
theorem colReadT (R : Nat) (s : ByteArray) (p : Int) (w : World) (h : Rp w R s p) (h0 : -9223372036854775808 ≤ p) (h1 : p ≤ 9223372036854775807) (hs : s.size ≤ 1125899906842624)
    (hq : (rB s p).2.2 = 0 → -9223372036854775808 ≤ (rB s p).2.1 ∧ (rB s p).2.1 ≤ 9223372036854775807) (hv : (rB s p).2.2 = 0 → (rU s (rB s p).2.1).2.2 = 0 → 0 ≤ (rU s (rB s p).2.1).1 ∧ (rU s (rB s p).2.1).1 ≤ 18446744073709551615) :
    Calls Tryz.prog 94 #[.pointer (some ⟨R, 0, none⟩)] w fun e w' => Got (cdE s p) (.agg #[.string (cdV s p).1, .int .i64 (cdV s p).2.1, .bool (cdV s p).2.2]) (Rp w' R s (cdP s p)) e ∧ Fr R w w' := by
  have hRw := h.cells.2.2.2
  have HF1 : Hid (Fr R w (w.alloc (.cells #[.string ⟨#[]⟩, .int .i64 0, .bool false] 61))) := (Fr.refl R w).alloc (by omega) _
  have HP1 : Hid (Rp (w.alloc (.cells #[.string ⟨#[]⟩, .int .i64 0, .bool false] 61)) R s p) := (Below.heap_alloc _ _ _ hRw).trans h
  have HX1 : Hid ((w.alloc (.cells #[.string ⟨#[]⟩, .int .i64 0, .bool false] 61)).heap[w.heap.size]? = some (.cells #[.string ⟨#[]⟩, .int .i64 0, .bool false] 61)) := heap_new _ _
  have HBL : Hid (∀ W, Rp W R s p → _) := fun W (h : Rp W R s p) => blobT R s p W h h0 h1 hs
  have HNU : Hid ((rB s p).2.2 = 0 → ∀ W, Rp W R s (rB s p).2.1 → _) := fun hz W (h : Rp W R s (rB s p).2.1) => numberT R s (rB s p).2.1 W h (hq hz).1 (hq hz).2 hs
  have HE : Hid (cdE s p = if (rB s p).2.2 = 0 then (rU s (rB s p).2.1).2.2 else (rB s p).2.2) := rfl
  have HV : Hid (cdV s p = ((rB s p).1, (rU s (rB s p).2.1).1 % 4, decide (4 ≤ (rU s (rB s p).2.1).1))) := rfl
  have HQ : Hid (cdP s p = (rU s (rB s p).2.1).2.1) := rfl
  have HVB : Hid ((rB s p).2.2 = 0 → (rU s (rB s p).2.1).2.2 = 0 → 0 ≤ (rU s (rB s p).2.1).1 ∧ (rU s (rB s p).2.1).1 ≤ 18446744073709551615) := hv
  clear h hq hv
  generalize cdE s p = E at *
  generalize cdV s p = V at *
  generalize cdP s p = P at *
  generalize rB s p = rb at *
  obtain ⟨bn, bp, bc⟩ := rb
  dsimp only at *
  generalize rU s bp = ru at *
  obtain ⟨uv, up, uc⟩ := ru
  dsimp only at *
  go_enter Tryz.func94, Tryz.ntmps94
  go_wp2_with fail
  refine (HBL.out _ HP1.out).mono ?_
  generalize hW1 : w.alloc (.cells #[.string ⟨#[]⟩, .int .i64 0, .bool false] 61) = W1 at *
  rintro e w2 ⟨⟨g0, g1⟩, hf2⟩
  have HF2 : Hid (Fr R w w2) := HF1.out.trans hf2
  have hX2 : w2.heap[w.heap.size]? = some (.cells #[.string ⟨#[]⟩, .int .i64 0, .bool false] 61) := (hf2.rest _ (Array.getElem?_eq_some_iff.1 HX1.out).1 (by omega)).trans HX1.out
  have HX2 : Hid (w2.heap[w.heap.size]? = some (.cells #[.string ⟨#[]⟩, .int .i64 0, .bool false] 61)) := hX2
  clear hf2 HF1 HX1 HBL hX2 hW1
  by_cases hb : bc = 0
  · obtain ⟨rfl, hp2⟩ := g0 hb
    have HP2 : Hid (Rp w2 R s bp) := hp2
    have HE2 : Hid (E = uc) := HE.out.trans (if_pos hb)
    have HNU2 : Hid _ := HNU.out hb
    have HVB2 : Hid (uc = 0 → 0 ≤ uv ∧ uv ≤ 18446744073709551615) := HVB.out hb
    clear g0 g1 hp2 hb HE HNU HVB
    go_wp2_with fail
    refine (HNU2.out w2 HP2.out).mono ?_
    rintro e w3 ⟨⟨g0, g1⟩, hf3⟩
    have HF3 : Hid (Fr R w w3) := HF2.out.trans hf3
    have hX3 : w3.heap[w.heap.size]? = some (.cells #[.string ⟨#[]⟩, .int .i64 0, .bool false] 61) := (hf3.rest _ (Array.getElem?_eq_some_iff.1 HX2.out).1 (by omega)).trans HX2.out
    by_cases hu : uc = 0
    · obtain ⟨rfl, hp3⟩ := g0 hu
      obtain ⟨z0, z1⟩ := HVB2.out hu
      have HP3 : Hid (Rp w3 R s up) := hp3
      subst hu
      have x0 : w3.cell? ⟨w.heap.size, 0, none⟩ = some (.string ⟨#[]⟩) := by unfold World.cell?; rw [hX3]; rfl
      have x1 : w3.cell? ⟨w.heap.size, 1, none⟩ = some (.int .i64 0) := by unfold World.cell?; rw [hX3]; rfl
      have x2 : w3.cell? ⟨w.heap.size, 2, none⟩ = some (.bool false) := by unfold World.cell?; rw [hX3]; rfl
      have y0 : w3.frozen? ⟨w.heap.size, 0, none⟩ = false := by unfold World.frozen?; rw [hX3]; rfl
      have y1 : w3.frozen? ⟨w.heap.size, 1, none⟩ = false := by unfold World.frozen?; rw [hX3]; rfl
      have y2 : w3.frozen? ⟨w.heap.size, 2, none⟩ = false := by unfold World.frozen?; rw [hX3]; rfl
      have hm : Int.tmod uv 4 = uv % 4 := Int.tmod_eq_emod_of_nonneg z0
      have hw : IntKind.i64.wrap (uv % 4) = uv % 4 := by rw [IntKind.wrap_i64]; omega
      clear g0 g1 hp3 hf3
      have HVV : Hid (V = (bn, uv % 4, decide (4 ≤ uv))) := HV.out
      have HXX : Hid ((((w3.setCell ⟨w.heap.size, 0, none⟩ (.string bn)).setCell ⟨w.heap.size, 1, none⟩ (.int .i64 (uv % 4))).setCell ⟨w.heap.size, 2, none⟩ (.bool (decide (4 ≤ uv)))).heap[w.heap.size]? = some (.cells #[.string bn, .int .i64 (uv % 4), .bool (decide (4 ≤ uv))] 61)) := heap_set (heap_set (heap_set hX3 _) _) _
      have HPP : Hid (Rp (((w3.setCell ⟨w.heap.size, 0, none⟩ (.string bn)).setCell ⟨w.heap.size, 1, none⟩ (.int .i64 (uv % 4))).setCell ⟨w.heap.size, 2, none⟩ (.bool (decide (4 ≤ uv)))) R s up) := (heap_off (by omega) _).trans ((heap_off (by omega) _).trans ((heap_off (by omega) _).trans HP3.out))
      have HFF : Hid (Fr R w (((w3.setCell ⟨w.heap.size, 0, none⟩ (.string bn)).setCell ⟨w.heap.size, 1, none⟩ (.int .i64 (uv % 4))).setCell ⟨w.heap.size, 2, none⟩ (.bool (decide (4 ≤ uv))))) := ((HF3.out.setOwn (by simp only; omega) (Nat.le_refl _) _).setOwn (by simp only; omega) (Nat.le_refl _) _).setOwn (by simp only; omega) (Nat.le_refl _) _
      clear hX3
      go_wp2
      refine bodyPost_ret (results_cell_row (p := 2) (ty := 61) rfl _ _ w.heap.size 61 _ (0, 0) _ rfl HXX.out Tryz.underlying61 rfl (by kernel_rfl)) rfl ⟨?_, HFF.out⟩
      rw [HE2.out, HVV.out, HQ.out]
      exact Got.yes HPP.out
    · have he := g1 hu
      subst he
      have HNO : Hid (E ≠ 0) := by rw [HE2.out]; exact hu
      clear g0 g1 hu
      unfold oops
      go_wp2
      exact ⟨rfl, Got.no HNO.out, HF3.out⟩
  · have he := g1 hb
    subst he
    have HNO : Hid (E ≠ 0) := by rw [HE.out, if_neg hb]; exact hb
    clear g0 g1 hb
    unfold oops
    go_wp2
    exact ⟨rfl, Got.no HNO.out, HF2.out⟩
end Go.Proofs.YtjcffcpmegpjeaaGreatDoor

namespace Go.Proofs.YtjcffcpmegpjeaaGreatDoor
set_option linter.unusedSimpArgs false
open Go.ChangeShapes Go.WideShapes Go.ChangeAt Go.RowKit
set_option linter.unusedVariables false
set_option maxRecDepth 100000
/-- What is kept of the two blocks of told's table. -/
structure TLA (w W : World) (nm : ByteArray) (num : Int) (cv kv : Value) : Prop where
  below : Below w.heap.size w W
  one : W.heap[w.heap.size]? = some (.cells #[.string nm, .int .i64 num, cv, kv] 25)
  two : W.heap[w.heap.size + 1]? = some (.cells #[.string ⟨#[]⟩, .int .i64 0, .slice none 0 0, .slice none 0 0] 25)
  size : w.heap.size + 2 ≤ W.heap.size
theorem TLA.later {w W W' : World} {nm : ByteArray} {num : Int} {cv kv : Value} {B : Nat} (h : TLA w W nm num cv kv) (hb : Below B W W') (hB : w.heap.size + 2 ≤ B) : TLA w W' nm num cv kv :=
  ⟨h.below.trans (hb.mono (by omega)), (hb.block _ (by omega)).trans h.one, (hb.block _ (by omega)).trans h.two, by have := hb.size; have := h.size; omega⟩
theorem TLA.cells {w W : World} {nm : ByteArray} {num : Int} {cv kv : Value} (h : TLA w W nm num cv kv) : (W.cell? ⟨w.heap.size, 0, none⟩ = some (.string nm) ∧ W.cell? ⟨w.heap.size, 1, none⟩ = some (.int .i64 num) ∧ W.cell? ⟨w.heap.size, 2, none⟩ = some cv ∧ W.cell? ⟨w.heap.size, 3, none⟩ = some kv) ∧ (W.cell? ⟨w.heap.size + 1, 0, none⟩ = some (.string ⟨#[]⟩) ∧ W.cell? ⟨w.heap.size + 1, 1, none⟩ = some (.int .i64 0) ∧ W.cell? ⟨w.heap.size + 1, 2, none⟩ = some (.slice none 0 0) ∧ W.cell? ⟨w.heap.size + 1, 3, none⟩ = some (.slice none 0 0)) ∧ W.frozen? ⟨w.heap.size + 1, 0, none⟩ = false ∧ W.frozen? ⟨w.heap.size + 1, 1, none⟩ = false ∧ W.frozen? ⟨w.heap.size + 1, 2, none⟩ = false ∧ W.frozen? ⟨w.heap.size + 1, 3, none⟩ = false := by
  have h1 := h.one
  have h2 := h.two
  unfold World.cell? World.frozen?
  rw [h1, h2]
  exact ⟨⟨rfl, rfl, rfl, rfl⟩, ⟨rfl, rfl, rfl, rfl⟩, rfl, rfl, rfl, rfl⟩
theorem TLA.new (w : World) (nm : ByteArray) (num : Int) (cv kv : Value) : TLA w ((w.alloc (.cells #[.string nm, .int .i64 num, cv, kv] 25)).alloc (.cells #[.string ⟨#[]⟩, .int .i64 0, .slice none 0 0, .slice none 0 0] 25)) nm num cv kv := by
  have s1 : (w.alloc (.cells #[.string nm, .int .i64 num, cv, kv] 25)).heap.size = w.heap.size + 1 := szAl _ _
  refine ⟨((Below.refl _ _).alloc (Nat.le_refl _) _).alloc (by omega) _, ?_, ?_, by rw [szAl, s1]; omega⟩
  · rw [Below.heap_alloc _ _ _ (by omega)]; exact heap_new _ _
  · have := heap_new (w.alloc (.cells #[.string nm, .int .i64 num, cv, kv] 25)) (.cells #[.string ⟨#[]⟩, .int .i64 0, .slice none 0 0, .slice none 0 0] 25)
    rw [s1] at this
    exact this
theorem TLA.put {w W : World} {nm : ByteArray} {num : Int} {cv kv : Value} (h : TLA w W nm num cv kv) (x : ByteArray) (y : Int) (a b : Value) : Below w.heap.size w ((((W.setCell ⟨w.heap.size + 1, 0, none⟩ (.string x)).setCell ⟨w.heap.size + 1, 1, none⟩ (.int .i64 y)).setCell ⟨w.heap.size + 1, 2, none⟩ a).setCell ⟨w.heap.size + 1, 3, none⟩ b) ∧ ((((W.setCell ⟨w.heap.size + 1, 0, none⟩ (.string x)).setCell ⟨w.heap.size + 1, 1, none⟩ (.int .i64 y)).setCell ⟨w.heap.size + 1, 2, none⟩ a).setCell ⟨w.heap.size + 1, 3, none⟩ b).heap[w.heap.size + 1]? = some (.cells #[.string x, .int .i64 y, a, b] 25) :=
  ⟨(((h.below.setCell (by simp only; omega) _).setCell (by simp only; omega) _).setCell (by simp only; omega) _).setCell (by simp only; omega) _, heap_set (heap_set (heap_set (heap_set h.two _) _) _) _⟩
theorem toldT_ok (nm : ByteArray) (num : Int) (ca : Option Addr) (cn cc : Nat) (ka : Option Addr) (kn kc : Nat) (w : World) : Calls Tryz.prog 32 #[.agg #[.string nm, .int .i64 num, .slice ca cn cc, .slice ka kn kc], .nilIface] w fun e w' => e = .returned (.tuple #[.agg #[.string nm, .int .i64 num, .slice ca cn cc, .slice ka kn kc], .int .i64 0]) ∧ Below w.heap.size w w' := by
  have HN : Hid _ := TLA.new w nm num (.slice ca cn cc) (.slice ka kn kc)
  go_enter Tryz.func32, Tryz.ntmps32
  go_wp2_with fail
  refine (code_nil _).mono ?_
  rintro e w3 ⟨rfl, hb3⟩
  have HN3 : Hid (TLA w w3 nm num (.slice ca cn cc) (.slice ka kn kc)) := HN.out.later hb3 HN.out.size
  clear hb3 HN
  obtain ⟨⟨t0, t1, t2, t3⟩, ⟨s0, s1, s2, s3⟩, f0, f1, f2, f3⟩ := HN3.out.cells
  obtain ⟨p1, p2⟩ := HN3.out.put nm num (.slice ca cn cc) (.slice ka kn kc)
  go_wp2
  exact bodyPost_ret (res_row_tmp (p := 4) (ty := 25) (q := 5) rfl _ _ (w.heap.size + 1) 25 _ (0, 0) _ rfl p2 Tryz.underlying25 rfl (by kernel_rfl)) rfl ⟨rfl, p1⟩
theorem toldT_err (nm : ByteArray) (num : Int) (cv kv : Value) (c : Int) (hc : c ≠ 0) (w : World) (hg : ErrTy w) : Calls Tryz.prog 32 #[.agg #[.string nm, .int .i64 num, cv, kv], .iface 90 (.agg #[.int .i64 c])] w fun e w' => e = .returned (.tuple #[.agg #[.string ⟨#[]⟩, .int .i64 0, .slice none 0 0, .slice none 0 0], .int .i64 c]) ∧ Below w.heap.size w w' := by
  have HN : Hid _ := TLA.new w nm num cv kv
  have HC : Hid (∀ _ : Unit, _) := fun _ => code_err c _ (hg.later HN.out.below hg.pos)
  have hcb : (c != 0) = true := by simp [hc]
  clear hc
  go_enter Tryz.func32, Tryz.ntmps32
  go_wp2_with fail
  refine (HC.out ()).mono ?_
  rintro e w3 ⟨rfl, hb3⟩
  have HB : Hid (Below w3.heap.size w3 (w3.alloc (.cells #[.string ⟨#[]⟩, .int .i64 0, .slice none 0 0, .slice none 0 0] 25))) := (Below.refl _ _).alloc (Nat.le_refl _) _
  have HN3 : Hid (TLA w w3 nm num cv kv) := HN.out.later hb3 HN.out.size
  have HN4 : Hid (TLA w (w3.alloc (.cells #[.string ⟨#[]⟩, .int .i64 0, .slice none 0 0, .slice none 0 0] 25)) nm num cv kv) := HN3.out.later HB.out HN3.out.size
  clear hb3 HN
  obtain ⟨⟨t0, t1, t2, t3⟩, ⟨s0, s1, s2, s3⟩, f0, f1, f2, f3⟩ := HN4.out.cells
  obtain ⟨p1, p2⟩ := HN4.out.put ⟨#[]⟩ 0 (.slice none 0 0) (.slice none 0 0)
  go_wp2
  exact bodyPost_ret (res_row_tmp (p := 4) (ty := 25) (q := 5) rfl _ _ (w.heap.size + 1) 25 _ (0, 0) _ rfl p2 Tryz.underlying25 rfl (by kernel_rfl)) rfl ⟨rfl, p1⟩
end Go.Proofs.YtjcffcpmegpjeaaGreatDoor
