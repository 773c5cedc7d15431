import Derived.Test.YtoomekcglniohaaDoorSpD
import Derived.Test.YtoomekcglniohaaDoorRegG
namespace Go.Proofs.YtoomekcglniohaaDoor
set_option linter.unusedSimpArgs false
open Go.ChangeShapes Go.WideShapes Go.ChangeAt Go.RowKit
set_option linter.unusedVariables false
set_option maxRecDepth 100000
/-- The value of a reply. -/
def repV (cmd kind who code c : Int) (na : Option Addr) (nl nc : Nat) (ra : Option Addr) (rl rc : Nat) (n s f : Int) (ma : Option Addr) (ml mc : Nat) : Value := .agg #[.int .i64 cmd, .int .i64 kind, .int .i64 who, .int .i64 code, .int .i64 c, .slice na nl nc, .slice ra rl rc, .int .i64 n, .int .u64 s, .int .i64 f, .slice ma ml mc]
theorem keysT (w : World) : Calls Tryd.prog 30 #[] w fun e w' => e = .returned (.agg #[.string ⟨#[]⟩, .string ⟨#[]⟩, .string ⟨#[80, 76, 65, 89]⟩, .string ⟨#[68, 82, 65, 73, 78]⟩, .string ⟨#[84, 73, 67, 75]⟩, .string ⟨#[70, 76, 85, 83, 72]⟩, .string ⟨#[83, 89, 78, 67]⟩, .string ⟨#[67, 72, 69, 67, 75, 80, 79, 73, 78, 84]⟩, .string ⟨#[77, 69, 82, 71, 69]⟩, .string ⟨#[67, 82, 65, 83, 72]⟩, .string ⟨#[82, 69, 83, 84, 65, 82, 84]⟩, .string ⟨#[67, 72, 69, 67, 75]⟩, .string ⟨#[67, 85, 84]⟩]) ∧ Below w.heap.size w w' := by
  have HA : Hid (Below w.heap.size w (w.alloc (.cells #[.string ⟨#[]⟩, .string ⟨#[]⟩, .string ⟨#[80, 76, 65, 89]⟩, .string ⟨#[68, 82, 65, 73, 78]⟩, .string ⟨#[84, 73, 67, 75]⟩, .string ⟨#[70, 76, 85, 83, 72]⟩, .string ⟨#[83, 89, 78, 67]⟩, .string ⟨#[67, 72, 69, 67, 75, 80, 79, 73, 78, 84]⟩, .string ⟨#[77, 69, 82, 71, 69]⟩, .string ⟨#[67, 82, 65, 83, 72]⟩, .string ⟨#[82, 69, 83, 84, 65, 82, 84]⟩, .string ⟨#[67, 72, 69, 67, 75]⟩, .string ⟨#[67, 85, 84]⟩] 70))) := (Below.refl _ _).alloc (Nat.le_refl _) _
  go_enter Tryd.func30, Tryd.ntmps30
  go_wp2
  exact bodyPost_ret (results_cell_row (p := 0) (ty := 70) rfl _ _ w.heap.size 70 _ (0, 0) _ rfl (heap_new _ _) Tryd.underlying70 rfl (by kernel_rfl)) rfl ⟨rfl, HA.out⟩
set_option maxHeartbeats 4000000 in
theorem headT (cmd kind who code c : Int) (na : Option Addr) (nl nc : Nat) (ra : Option Addr) (rl rc : Nat) (n s f : Int) (ma : Option Addr) (ml mc : Nat) (h0 : -9223372036854775808 ≤ who) (h1 : who ≤ 9223372036854775807) (w : World) (hg : GW w) :
    Calls Tryd.prog 17 #[repV cmd kind who code c na nl nc ra rl rc n s f ma ml mc] w fun e w' => e = .returned (.string (tx (headL kind who))) ∧ Below w.heap.size w w' := by
  have HA : Hid (Below w.heap.size w (w.alloc (.cells #[.int .i64 cmd, .int .i64 kind, .int .i64 who, .int .i64 code, .int .i64 c, .slice na nl nc, .slice ra rl rc, .int .i64 n, .int .u64 s, .int .i64 f, .slice ma ml mc] 32))) := (Below.refl _ _).alloc (Nat.le_refl _) _
  have HG : Hid (GW (w.alloc (.cells #[.int .i64 cmd, .int .i64 kind, .int .i64 who, .int .i64 code, .int .i64 c, .slice na nl nc, .slice ra rl rc, .int .i64 n, .int .u64 s, .int .i64 f, .slice ma ml mc] 32))) := hg.next HA.out
  unfold repV headL
  by_cases h : kind = 1
  · subst h
    rw [if_pos rfl]
    have HR : Hid (∀ _ : Unit, _) := fun _ => itoaT who h0 h1 _ HG.out
    have hz : (tx (Lib.itoa who)).size ≤ 22 := by rw [tx_size]; exact itoa_len who h0 (by omega)
    have HE : Hid (⟨#[64]⟩ ++ tx (Lib.itoa who) = tx (64 :: Lib.itoa who)) := by
      show tx [64] ++ tx (Lib.itoa who) = _
      rw [tx_app]
      rfl
    rw [← HE.out]
    generalize tx (Lib.itoa who) = X at *
    have ha1 := sadd ⟨#[64]⟩ X (by show 1 + X.size ≤ _; omega)
    go_enter Tryd.func17, Tryd.ntmps17
    go_wp2_with fail
    refine (HR.out ()).mono ?_
    rintro e w1 ⟨rfl, hb⟩
    have HB : Hid (Below w.heap.size w w1) := HA.out.trans (hb.mono HA.out.size)
    clear hb
    go_wp2
    go_ret
    exact ⟨rfl, HB.out⟩
  rw [if_neg h]
  unfold kwL
  by_cases h2 : kind = 2
  · subst h2
    rw [if_pos rfl]
    have hix : ∀ w : World, (Instr.index 70 (.agg #[.string ⟨#[]⟩, .string ⟨#[]⟩, .string ⟨#[80, 76, 65, 89]⟩, .string ⟨#[68, 82, 65, 73, 78]⟩, .string ⟨#[84, 73, 67, 75]⟩, .string ⟨#[70, 76, 85, 83, 72]⟩, .string ⟨#[83, 89, 78, 67]⟩, .string ⟨#[67, 72, 69, 67, 75, 80, 79, 73, 78, 84]⟩, .string ⟨#[77, 69, 82, 71, 69]⟩, .string ⟨#[67, 82, 65, 83, 72]⟩, .string ⟨#[82, 69, 83, 84, 65, 82, 84]⟩, .string ⟨#[67, 72, 69, 67, 75]⟩, .string ⟨#[67, 85, 84]⟩]) (.int .i64 2)).run Tryd.prog w = .ok (.string ⟨#[80, 76, 65, 89]⟩) w := fun w => by kernel_rfl
    have hk : (w.alloc (.cells #[.int .i64 cmd, .int .i64 2, .int .i64 who, .int .i64 code, .int .i64 c, .slice na nl nc, .slice ra rl rc, .int .i64 n, .int .u64 s, .int .i64 f, .slice ma ml mc] 32)).cell? ⟨w.heap.size, 1, none⟩ = some (.int .i64 2) := by unfold World.cell?; rw [heap_new]; rfl
    go_enter Tryd.func17, Tryd.ntmps17
    go_wp2_with fail
    generalize hW : w.alloc (.cells #[.int .i64 cmd, .int .i64 2, .int .i64 who, .int .i64 code, .int .i64 c, .slice na nl nc, .slice ra rl rc, .int .i64 n, .int .u64 s, .int .i64 f, .slice ma ml mc] 32) = W1 at *
    have hl : w.heap.size < W1.heap.size := World.block_lt_of_cell? _ _ hk
    (refine wp_region_held_drew (S := (fun w' => w'.cell? ⟨w.heap.size, 1, none⟩ = some (.int .i64 2))) (by kernel_rfl) hk (fun hHeld => ?_); simp only [List.size_toArray, List.length_cons, List.length_nil, Nat.reduceAdd, Array.replicate_succ, Array.replicate_zero, List.push_toArray, List.append_toArray, List.nil_append, List.cons_append])
    (refine tk1 (v := ?_) (by kernel_rfl) (by kernel_rfl) (by kernel_rfl) (fun _ _ _ h => h) (Or.inl ⟨by rfl, ?_⟩) (by assumption) ?_; rotate_left; (focus (intro w hSw; (try dsimp only at hSw); go_simp; (try first | (rw [dif_pos (by omega)]; simp only [Result.andThen_ok]) | rw [if_pos (by omega)]); (try with_reducible rfl); done)); try simp only [Act.put, List.setIfInBounds_toArray, List.set_cons_zero, List.set_cons_succ])
    (refine tk2 (v := ?_) (by kernel_rfl) (by kernel_rfl) (by kernel_rfl) (fun _ _ _ h => h) (Or.inl ⟨by rfl, ?_⟩) (by assumption) ?_; rotate_left; (focus (intro w hSw; (try dsimp only at hSw); go_simp; (try first | (rw [dif_pos (by omega)]; simp only [Result.andThen_ok]) | rw [if_pos (by omega)]); (try with_reducible rfl); done)); try simp only [Act.put, List.setIfInBounds_toArray, List.set_cons_zero, List.set_cons_succ])
    (refine wpAnyH_ready (rs := [0]) (by kernel_rfl) (by simp) ?_; refine ar0 (fun K hK => ?_) AllReadyH.nil; go_simp)
    refine (keysT _).mono ?_
    rintro e w2 ⟨rfl, hb⟩
    have HB : Hid (Below w.heap.size w w2) := HA.out.drew.trans (hb.mono HA.out.size)
    (refine hK.out _ _ ((hb.cell hl).trans hk) (fun hHeld => ?_); clear hK K; try simp only [Act.put, List.setIfInBounds_toArray, List.set_cons_zero, List.set_cons_succ])
    (refine tk3 (v := ?_) (by kernel_rfl) (by kernel_rfl) (by kernel_rfl) (fun _ _ _ h => h) (Or.inl ⟨by rfl, ?_⟩) (by assumption) ?_; rotate_left; (focus (intro w hSw; (try dsimp only at hSw); go_simp; (try first | (rw [dif_pos (by omega)]; simp only [Result.andThen_ok]) | rw [if_pos (by omega)]); (try with_reducible rfl); done)); try simp only [Act.put, List.setIfInBounds_toArray, List.set_cons_zero, List.set_cons_succ])
    (refine tk4 (v := ?_) (by kernel_rfl) (by kernel_rfl) (by kernel_rfl) (fun _ _ _ h => h) (Or.inl ⟨by rfl, ?_⟩) (by assumption) ?_; rotate_left; (focus (intro w hSw; (try dsimp only at hSw); go_simp; (try first | (rw [dif_pos (by omega)]; simp only [Result.andThen_ok]) | rw [if_pos (by omega)]); (try with_reducible rfl); done)); try simp only [Act.put, List.setIfInBounds_toArray, List.set_cons_zero, List.set_cons_succ])
    refine wpAnyH_done (by kernel_rfl) ?_ _
    clear hb
    go_wp2
    go_ret
    exact ⟨rfl, HB.out⟩
  rw [if_neg h2]
  by_cases h3 : kind = 3
  · subst h3
    rw [if_pos rfl]
    have hix : ∀ w : World, (Instr.index 70 (.agg #[.string ⟨#[]⟩, .string ⟨#[]⟩, .string ⟨#[80, 76, 65, 89]⟩, .string ⟨#[68, 82, 65, 73, 78]⟩, .string ⟨#[84, 73, 67, 75]⟩, .string ⟨#[70, 76, 85, 83, 72]⟩, .string ⟨#[83, 89, 78, 67]⟩, .string ⟨#[67, 72, 69, 67, 75, 80, 79, 73, 78, 84]⟩, .string ⟨#[77, 69, 82, 71, 69]⟩, .string ⟨#[67, 82, 65, 83, 72]⟩, .string ⟨#[82, 69, 83, 84, 65, 82, 84]⟩, .string ⟨#[67, 72, 69, 67, 75]⟩, .string ⟨#[67, 85, 84]⟩]) (.int .i64 3)).run Tryd.prog w = .ok (.string ⟨#[68, 82, 65, 73, 78]⟩) w := fun w => by kernel_rfl
    have hk : (w.alloc (.cells #[.int .i64 cmd, .int .i64 3, .int .i64 who, .int .i64 code, .int .i64 c, .slice na nl nc, .slice ra rl rc, .int .i64 n, .int .u64 s, .int .i64 f, .slice ma ml mc] 32)).cell? ⟨w.heap.size, 1, none⟩ = some (.int .i64 3) := by unfold World.cell?; rw [heap_new]; rfl
    go_enter Tryd.func17, Tryd.ntmps17
    go_wp2_with fail
    generalize hW : w.alloc (.cells #[.int .i64 cmd, .int .i64 3, .int .i64 who, .int .i64 code, .int .i64 c, .slice na nl nc, .slice ra rl rc, .int .i64 n, .int .u64 s, .int .i64 f, .slice ma ml mc] 32) = W1 at *
    have hl : w.heap.size < W1.heap.size := World.block_lt_of_cell? _ _ hk
    (refine wp_region_held_drew (S := (fun w' => w'.cell? ⟨w.heap.size, 1, none⟩ = some (.int .i64 3))) (by kernel_rfl) hk (fun hHeld => ?_); simp only [List.size_toArray, List.length_cons, List.length_nil, Nat.reduceAdd, Array.replicate_succ, Array.replicate_zero, List.push_toArray, List.append_toArray, List.nil_append, List.cons_append])
    (refine tk1 (v := ?_) (by kernel_rfl) (by kernel_rfl) (by kernel_rfl) (fun _ _ _ h => h) (Or.inl ⟨by rfl, ?_⟩) (by assumption) ?_; rotate_left; (focus (intro w hSw; (try dsimp only at hSw); go_simp; (try first | (rw [dif_pos (by omega)]; simp only [Result.andThen_ok]) | rw [if_pos (by omega)]); (try with_reducible rfl); done)); try simp only [Act.put, List.setIfInBounds_toArray, List.set_cons_zero, List.set_cons_succ])
    (refine tk2 (v := ?_) (by kernel_rfl) (by kernel_rfl) (by kernel_rfl) (fun _ _ _ h => h) (Or.inl ⟨by rfl, ?_⟩) (by assumption) ?_; rotate_left; (focus (intro w hSw; (try dsimp only at hSw); go_simp; (try first | (rw [dif_pos (by omega)]; simp only [Result.andThen_ok]) | rw [if_pos (by omega)]); (try with_reducible rfl); done)); try simp only [Act.put, List.setIfInBounds_toArray, List.set_cons_zero, List.set_cons_succ])
    (refine wpAnyH_ready (rs := [0]) (by kernel_rfl) (by simp) ?_; refine ar0 (fun K hK => ?_) AllReadyH.nil; go_simp)
    refine (keysT _).mono ?_
    rintro e w2 ⟨rfl, hb⟩
    have HB : Hid (Below w.heap.size w w2) := HA.out.drew.trans (hb.mono HA.out.size)
    (refine hK.out _ _ ((hb.cell hl).trans hk) (fun hHeld => ?_); clear hK K; try simp only [Act.put, List.setIfInBounds_toArray, List.set_cons_zero, List.set_cons_succ])
    (refine tk3 (v := ?_) (by kernel_rfl) (by kernel_rfl) (by kernel_rfl) (fun _ _ _ h => h) (Or.inl ⟨by rfl, ?_⟩) (by assumption) ?_; rotate_left; (focus (intro w hSw; (try dsimp only at hSw); go_simp; (try first | (rw [dif_pos (by omega)]; simp only [Result.andThen_ok]) | rw [if_pos (by omega)]); (try with_reducible rfl); done)); try simp only [Act.put, List.setIfInBounds_toArray, List.set_cons_zero, List.set_cons_succ])
    (refine tk4 (v := ?_) (by kernel_rfl) (by kernel_rfl) (by kernel_rfl) (fun _ _ _ h => h) (Or.inl ⟨by rfl, ?_⟩) (by assumption) ?_; rotate_left; (focus (intro w hSw; (try dsimp only at hSw); go_simp; (try first | (rw [dif_pos (by omega)]; simp only [Result.andThen_ok]) | rw [if_pos (by omega)]); (try with_reducible rfl); done)); try simp only [Act.put, List.setIfInBounds_toArray, List.set_cons_zero, List.set_cons_succ])
    refine wpAnyH_done (by kernel_rfl) ?_ _
    clear hb
    go_wp2
    go_ret
    exact ⟨rfl, HB.out⟩
  rw [if_neg h3]
  by_cases h4 : kind = 4
  · subst h4
    rw [if_pos rfl]
    have hix : ∀ w : World, (Instr.index 70 (.agg #[.string ⟨#[]⟩, .string ⟨#[]⟩, .string ⟨#[80, 76, 65, 89]⟩, .string ⟨#[68, 82, 65, 73, 78]⟩, .string ⟨#[84, 73, 67, 75]⟩, .string ⟨#[70, 76, 85, 83, 72]⟩, .string ⟨#[83, 89, 78, 67]⟩, .string ⟨#[67, 72, 69, 67, 75, 80, 79, 73, 78, 84]⟩, .string ⟨#[77, 69, 82, 71, 69]⟩, .string ⟨#[67, 82, 65, 83, 72]⟩, .string ⟨#[82, 69, 83, 84, 65, 82, 84]⟩, .string ⟨#[67, 72, 69, 67, 75]⟩, .string ⟨#[67, 85, 84]⟩]) (.int .i64 4)).run Tryd.prog w = .ok (.string ⟨#[84, 73, 67, 75]⟩) w := fun w => by kernel_rfl
    have hk : (w.alloc (.cells #[.int .i64 cmd, .int .i64 4, .int .i64 who, .int .i64 code, .int .i64 c, .slice na nl nc, .slice ra rl rc, .int .i64 n, .int .u64 s, .int .i64 f, .slice ma ml mc] 32)).cell? ⟨w.heap.size, 1, none⟩ = some (.int .i64 4) := by unfold World.cell?; rw [heap_new]; rfl
    go_enter Tryd.func17, Tryd.ntmps17
    go_wp2_with fail
    generalize hW : w.alloc (.cells #[.int .i64 cmd, .int .i64 4, .int .i64 who, .int .i64 code, .int .i64 c, .slice na nl nc, .slice ra rl rc, .int .i64 n, .int .u64 s, .int .i64 f, .slice ma ml mc] 32) = W1 at *
    have hl : w.heap.size < W1.heap.size := World.block_lt_of_cell? _ _ hk
    (refine wp_region_held_drew (S := (fun w' => w'.cell? ⟨w.heap.size, 1, none⟩ = some (.int .i64 4))) (by kernel_rfl) hk (fun hHeld => ?_); simp only [List.size_toArray, List.length_cons, List.length_nil, Nat.reduceAdd, Array.replicate_succ, Array.replicate_zero, List.push_toArray, List.append_toArray, List.nil_append, List.cons_append])
    (refine tk1 (v := ?_) (by kernel_rfl) (by kernel_rfl) (by kernel_rfl) (fun _ _ _ h => h) (Or.inl ⟨by rfl, ?_⟩) (by assumption) ?_; rotate_left; (focus (intro w hSw; (try dsimp only at hSw); go_simp; (try first | (rw [dif_pos (by omega)]; simp only [Result.andThen_ok]) | rw [if_pos (by omega)]); (try with_reducible rfl); done)); try simp only [Act.put, List.setIfInBounds_toArray, List.set_cons_zero, List.set_cons_succ])
    (refine tk2 (v := ?_) (by kernel_rfl) (by kernel_rfl) (by kernel_rfl) (fun _ _ _ h => h) (Or.inl ⟨by rfl, ?_⟩) (by assumption) ?_; rotate_left; (focus (intro w hSw; (try dsimp only at hSw); go_simp; (try first | (rw [dif_pos (by omega)]; simp only [Result.andThen_ok]) | rw [if_pos (by omega)]); (try with_reducible rfl); done)); try simp only [Act.put, List.setIfInBounds_toArray, List.set_cons_zero, List.set_cons_succ])
    (refine wpAnyH_ready (rs := [0]) (by kernel_rfl) (by simp) ?_; refine ar0 (fun K hK => ?_) AllReadyH.nil; go_simp)
    refine (keysT _).mono ?_
    rintro e w2 ⟨rfl, hb⟩
    have HB : Hid (Below w.heap.size w w2) := HA.out.drew.trans (hb.mono HA.out.size)
    (refine hK.out _ _ ((hb.cell hl).trans hk) (fun hHeld => ?_); clear hK K; try simp only [Act.put, List.setIfInBounds_toArray, List.set_cons_zero, List.set_cons_succ])
    (refine tk3 (v := ?_) (by kernel_rfl) (by kernel_rfl) (by kernel_rfl) (fun _ _ _ h => h) (Or.inl ⟨by rfl, ?_⟩) (by assumption) ?_; rotate_left; (focus (intro w hSw; (try dsimp only at hSw); go_simp; (try first | (rw [dif_pos (by omega)]; simp only [Result.andThen_ok]) | rw [if_pos (by omega)]); (try with_reducible rfl); done)); try simp only [Act.put, List.setIfInBounds_toArray, List.set_cons_zero, List.set_cons_succ])
    (refine tk4 (v := ?_) (by kernel_rfl) (by kernel_rfl) (by kernel_rfl) (fun _ _ _ h => h) (Or.inl ⟨by rfl, ?_⟩) (by assumption) ?_; rotate_left; (focus (intro w hSw; (try dsimp only at hSw); go_simp; (try first | (rw [dif_pos (by omega)]; simp only [Result.andThen_ok]) | rw [if_pos (by omega)]); (try with_reducible rfl); done)); try simp only [Act.put, List.setIfInBounds_toArray, List.set_cons_zero, List.set_cons_succ])
    refine wpAnyH_done (by kernel_rfl) ?_ _
    clear hb
    go_wp2
    go_ret
    exact ⟨rfl, HB.out⟩
  rw [if_neg h4]
  by_cases h5 : kind = 5
  · subst h5
    rw [if_pos rfl]
    have hix : ∀ w : World, (Instr.index 70 (.agg #[.string ⟨#[]⟩, .string ⟨#[]⟩, .string ⟨#[80, 76, 65, 89]⟩, .string ⟨#[68, 82, 65, 73, 78]⟩, .string ⟨#[84, 73, 67, 75]⟩, .string ⟨#[70, 76, 85, 83, 72]⟩, .string ⟨#[83, 89, 78, 67]⟩, .string ⟨#[67, 72, 69, 67, 75, 80, 79, 73, 78, 84]⟩, .string ⟨#[77, 69, 82, 71, 69]⟩, .string ⟨#[67, 82, 65, 83, 72]⟩, .string ⟨#[82, 69, 83, 84, 65, 82, 84]⟩, .string ⟨#[67, 72, 69, 67, 75]⟩, .string ⟨#[67, 85, 84]⟩]) (.int .i64 5)).run Tryd.prog w = .ok (.string ⟨#[70, 76, 85, 83, 72]⟩) w := fun w => by kernel_rfl
    have hk : (w.alloc (.cells #[.int .i64 cmd, .int .i64 5, .int .i64 who, .int .i64 code, .int .i64 c, .slice na nl nc, .slice ra rl rc, .int .i64 n, .int .u64 s, .int .i64 f, .slice ma ml mc] 32)).cell? ⟨w.heap.size, 1, none⟩ = some (.int .i64 5) := by unfold World.cell?; rw [heap_new]; rfl
    go_enter Tryd.func17, Tryd.ntmps17
    go_wp2_with fail
    generalize hW : w.alloc (.cells #[.int .i64 cmd, .int .i64 5, .int .i64 who, .int .i64 code, .int .i64 c, .slice na nl nc, .slice ra rl rc, .int .i64 n, .int .u64 s, .int .i64 f, .slice ma ml mc] 32) = W1 at *
    have hl : w.heap.size < W1.heap.size := World.block_lt_of_cell? _ _ hk
    (refine wp_region_held_drew (S := (fun w' => w'.cell? ⟨w.heap.size, 1, none⟩ = some (.int .i64 5))) (by kernel_rfl) hk (fun hHeld => ?_); simp only [List.size_toArray, List.length_cons, List.length_nil, Nat.reduceAdd, Array.replicate_succ, Array.replicate_zero, List.push_toArray, List.append_toArray, List.nil_append, List.cons_append])
    (refine tk1 (v := ?_) (by kernel_rfl) (by kernel_rfl) (by kernel_rfl) (fun _ _ _ h => h) (Or.inl ⟨by rfl, ?_⟩) (by assumption) ?_; rotate_left; (focus (intro w hSw; (try dsimp only at hSw); go_simp; (try first | (rw [dif_pos (by omega)]; simp only [Result.andThen_ok]) | rw [if_pos (by omega)]); (try with_reducible rfl); done)); try simp only [Act.put, List.setIfInBounds_toArray, List.set_cons_zero, List.set_cons_succ])
    (refine tk2 (v := ?_) (by kernel_rfl) (by kernel_rfl) (by kernel_rfl) (fun _ _ _ h => h) (Or.inl ⟨by rfl, ?_⟩) (by assumption) ?_; rotate_left; (focus (intro w hSw; (try dsimp only at hSw); go_simp; (try first | (rw [dif_pos (by omega)]; simp only [Result.andThen_ok]) | rw [if_pos (by omega)]); (try with_reducible rfl); done)); try simp only [Act.put, List.setIfInBounds_toArray, List.set_cons_zero, List.set_cons_succ])
    (refine wpAnyH_ready (rs := [0]) (by kernel_rfl) (by simp) ?_; refine ar0 (fun K hK => ?_) AllReadyH.nil; go_simp)
    refine (keysT _).mono ?_
    rintro e w2 ⟨rfl, hb⟩
    have HB : Hid (Below w.heap.size w w2) := HA.out.drew.trans (hb.mono HA.out.size)
    (refine hK.out _ _ ((hb.cell hl).trans hk) (fun hHeld => ?_); clear hK K; try simp only [Act.put, List.setIfInBounds_toArray, List.set_cons_zero, List.set_cons_succ])
    (refine tk3 (v := ?_) (by kernel_rfl) (by kernel_rfl) (by kernel_rfl) (fun _ _ _ h => h) (Or.inl ⟨by rfl, ?_⟩) (by assumption) ?_; rotate_left; (focus (intro w hSw; (try dsimp only at hSw); go_simp; (try first | (rw [dif_pos (by omega)]; simp only [Result.andThen_ok]) | rw [if_pos (by omega)]); (try with_reducible rfl); done)); try simp only [Act.put, List.setIfInBounds_toArray, List.set_cons_zero, List.set_cons_succ])
    (refine tk4 (v := ?_) (by kernel_rfl) (by kernel_rfl) (by kernel_rfl) (fun _ _ _ h => h) (Or.inl ⟨by rfl, ?_⟩) (by assumption) ?_; rotate_left; (focus (intro w hSw; (try dsimp only at hSw); go_simp; (try first | (rw [dif_pos (by omega)]; simp only [Result.andThen_ok]) | rw [if_pos (by omega)]); (try with_reducible rfl); done)); try simp only [Act.put, List.setIfInBounds_toArray, List.set_cons_zero, List.set_cons_succ])
    refine wpAnyH_done (by kernel_rfl) ?_ _
    clear hb
    go_wp2
    go_ret
    exact ⟨rfl, HB.out⟩
  rw [if_neg h5]
  by_cases h6 : kind = 6
  · subst h6
    rw [if_pos rfl]
    have hix : ∀ w : World, (Instr.index 70 (.agg #[.string ⟨#[]⟩, .string ⟨#[]⟩, .string ⟨#[80, 76, 65, 89]⟩, .string ⟨#[68, 82, 65, 73, 78]⟩, .string ⟨#[84, 73, 67, 75]⟩, .string ⟨#[70, 76, 85, 83, 72]⟩, .string ⟨#[83, 89, 78, 67]⟩, .string ⟨#[67, 72, 69, 67, 75, 80, 79, 73, 78, 84]⟩, .string ⟨#[77, 69, 82, 71, 69]⟩, .string ⟨#[67, 82, 65, 83, 72]⟩, .string ⟨#[82, 69, 83, 84, 65, 82, 84]⟩, .string ⟨#[67, 72, 69, 67, 75]⟩, .string ⟨#[67, 85, 84]⟩]) (.int .i64 6)).run Tryd.prog w = .ok (.string ⟨#[83, 89, 78, 67]⟩) w := fun w => by kernel_rfl
    have hk : (w.alloc (.cells #[.int .i64 cmd, .int .i64 6, .int .i64 who, .int .i64 code, .int .i64 c, .slice na nl nc, .slice ra rl rc, .int .i64 n, .int .u64 s, .int .i64 f, .slice ma ml mc] 32)).cell? ⟨w.heap.size, 1, none⟩ = some (.int .i64 6) := by unfold World.cell?; rw [heap_new]; rfl
    go_enter Tryd.func17, Tryd.ntmps17
    go_wp2_with fail
    generalize hW : w.alloc (.cells #[.int .i64 cmd, .int .i64 6, .int .i64 who, .int .i64 code, .int .i64 c, .slice na nl nc, .slice ra rl rc, .int .i64 n, .int .u64 s, .int .i64 f, .slice ma ml mc] 32) = W1 at *
    have hl : w.heap.size < W1.heap.size := World.block_lt_of_cell? _ _ hk
    (refine wp_region_held_drew (S := (fun w' => w'.cell? ⟨w.heap.size, 1, none⟩ = some (.int .i64 6))) (by kernel_rfl) hk (fun hHeld => ?_); simp only [List.size_toArray, List.length_cons, List.length_nil, Nat.reduceAdd, Array.replicate_succ, Array.replicate_zero, List.push_toArray, List.append_toArray, List.nil_append, List.cons_append])
    (refine tk1 (v := ?_) (by kernel_rfl) (by kernel_rfl) (by kernel_rfl) (fun _ _ _ h => h) (Or.inl ⟨by rfl, ?_⟩) (by assumption) ?_; rotate_left; (focus (intro w hSw; (try dsimp only at hSw); go_simp; (try first | (rw [dif_pos (by omega)]; simp only [Result.andThen_ok]) | rw [if_pos (by omega)]); (try with_reducible rfl); done)); try simp only [Act.put, List.setIfInBounds_toArray, List.set_cons_zero, List.set_cons_succ])
    (refine tk2 (v := ?_) (by kernel_rfl) (by kernel_rfl) (by kernel_rfl) (fun _ _ _ h => h) (Or.inl ⟨by rfl, ?_⟩) (by assumption) ?_; rotate_left; (focus (intro w hSw; (try dsimp only at hSw); go_simp; (try first | (rw [dif_pos (by omega)]; simp only [Result.andThen_ok]) | rw [if_pos (by omega)]); (try with_reducible rfl); done)); try simp only [Act.put, List.setIfInBounds_toArray, List.set_cons_zero, List.set_cons_succ])
    (refine wpAnyH_ready (rs := [0]) (by kernel_rfl) (by simp) ?_; refine ar0 (fun K hK => ?_) AllReadyH.nil; go_simp)
    refine (keysT _).mono ?_
    rintro e w2 ⟨rfl, hb⟩
    have HB : Hid (Below w.heap.size w w2) := HA.out.drew.trans (hb.mono HA.out.size)
    (refine hK.out _ _ ((hb.cell hl).trans hk) (fun hHeld => ?_); clear hK K; try simp only [Act.put, List.setIfInBounds_toArray, List.set_cons_zero, List.set_cons_succ])
    (refine tk3 (v := ?_) (by kernel_rfl) (by kernel_rfl) (by kernel_rfl) (fun _ _ _ h => h) (Or.inl ⟨by rfl, ?_⟩) (by assumption) ?_; rotate_left; (focus (intro w hSw; (try dsimp only at hSw); go_simp; (try first | (rw [dif_pos (by omega)]; simp only [Result.andThen_ok]) | rw [if_pos (by omega)]); (try with_reducible rfl); done)); try simp only [Act.put, List.setIfInBounds_toArray, List.set_cons_zero, List.set_cons_succ])
    (refine tk4 (v := ?_) (by kernel_rfl) (by kernel_rfl) (by kernel_rfl) (fun _ _ _ h => h) (Or.inl ⟨by rfl, ?_⟩) (by assumption) ?_; rotate_left; (focus (intro w hSw; (try dsimp only at hSw); go_simp; (try first | (rw [dif_pos (by omega)]; simp only [Result.andThen_ok]) | rw [if_pos (by omega)]); (try with_reducible rfl); done)); try simp only [Act.put, List.setIfInBounds_toArray, List.set_cons_zero, List.set_cons_succ])
    refine wpAnyH_done (by kernel_rfl) ?_ _
    clear hb
    go_wp2
    go_ret
    exact ⟨rfl, HB.out⟩
  rw [if_neg h6]
  by_cases h7 : kind = 7
  · subst h7
    rw [if_pos rfl]
    have hix : ∀ w : World, (Instr.index 70 (.agg #[.string ⟨#[]⟩, .string ⟨#[]⟩, .string ⟨#[80, 76, 65, 89]⟩, .string ⟨#[68, 82, 65, 73, 78]⟩, .string ⟨#[84, 73, 67, 75]⟩, .string ⟨#[70, 76, 85, 83, 72]⟩, .string ⟨#[83, 89, 78, 67]⟩, .string ⟨#[67, 72, 69, 67, 75, 80, 79, 73, 78, 84]⟩, .string ⟨#[77, 69, 82, 71, 69]⟩, .string ⟨#[67, 82, 65, 83, 72]⟩, .string ⟨#[82, 69, 83, 84, 65, 82, 84]⟩, .string ⟨#[67, 72, 69, 67, 75]⟩, .string ⟨#[67, 85, 84]⟩]) (.int .i64 7)).run Tryd.prog w = .ok (.string ⟨#[67, 72, 69, 67, 75, 80, 79, 73, 78, 84]⟩) w := fun w => by kernel_rfl
    have hk : (w.alloc (.cells #[.int .i64 cmd, .int .i64 7, .int .i64 who, .int .i64 code, .int .i64 c, .slice na nl nc, .slice ra rl rc, .int .i64 n, .int .u64 s, .int .i64 f, .slice ma ml mc] 32)).cell? ⟨w.heap.size, 1, none⟩ = some (.int .i64 7) := by unfold World.cell?; rw [heap_new]; rfl
    go_enter Tryd.func17, Tryd.ntmps17
    go_wp2_with fail
    generalize hW : w.alloc (.cells #[.int .i64 cmd, .int .i64 7, .int .i64 who, .int .i64 code, .int .i64 c, .slice na nl nc, .slice ra rl rc, .int .i64 n, .int .u64 s, .int .i64 f, .slice ma ml mc] 32) = W1 at *
    have hl : w.heap.size < W1.heap.size := World.block_lt_of_cell? _ _ hk
    (refine wp_region_held_drew (S := (fun w' => w'.cell? ⟨w.heap.size, 1, none⟩ = some (.int .i64 7))) (by kernel_rfl) hk (fun hHeld => ?_); simp only [List.size_toArray, List.length_cons, List.length_nil, Nat.reduceAdd, Array.replicate_succ, Array.replicate_zero, List.push_toArray, List.append_toArray, List.nil_append, List.cons_append])
    (refine tk1 (v := ?_) (by kernel_rfl) (by kernel_rfl) (by kernel_rfl) (fun _ _ _ h => h) (Or.inl ⟨by rfl, ?_⟩) (by assumption) ?_; rotate_left; (focus (intro w hSw; (try dsimp only at hSw); go_simp; (try first | (rw [dif_pos (by omega)]; simp only [Result.andThen_ok]) | rw [if_pos (by omega)]); (try with_reducible rfl); done)); try simp only [Act.put, List.setIfInBounds_toArray, List.set_cons_zero, List.set_cons_succ])
    (refine tk2 (v := ?_) (by kernel_rfl) (by kernel_rfl) (by kernel_rfl) (fun _ _ _ h => h) (Or.inl ⟨by rfl, ?_⟩) (by assumption) ?_; rotate_left; (focus (intro w hSw; (try dsimp only at hSw); go_simp; (try first | (rw [dif_pos (by omega)]; simp only [Result.andThen_ok]) | rw [if_pos (by omega)]); (try with_reducible rfl); done)); try simp only [Act.put, List.setIfInBounds_toArray, List.set_cons_zero, List.set_cons_succ])
    (refine wpAnyH_ready (rs := [0]) (by kernel_rfl) (by simp) ?_; refine ar0 (fun K hK => ?_) AllReadyH.nil; go_simp)
    refine (keysT _).mono ?_
    rintro e w2 ⟨rfl, hb⟩
    have HB : Hid (Below w.heap.size w w2) := HA.out.drew.trans (hb.mono HA.out.size)
    (refine hK.out _ _ ((hb.cell hl).trans hk) (fun hHeld => ?_); clear hK K; try simp only [Act.put, List.setIfInBounds_toArray, List.set_cons_zero, List.set_cons_succ])
    (refine tk3 (v := ?_) (by kernel_rfl) (by kernel_rfl) (by kernel_rfl) (fun _ _ _ h => h) (Or.inl ⟨by rfl, ?_⟩) (by assumption) ?_; rotate_left; (focus (intro w hSw; (try dsimp only at hSw); go_simp; (try first | (rw [dif_pos (by omega)]; simp only [Result.andThen_ok]) | rw [if_pos (by omega)]); (try with_reducible rfl); done)); try simp only [Act.put, List.setIfInBounds_toArray, List.set_cons_zero, List.set_cons_succ])
    (refine tk4 (v := ?_) (by kernel_rfl) (by kernel_rfl) (by kernel_rfl) (fun _ _ _ h => h) (Or.inl ⟨by rfl, ?_⟩) (by assumption) ?_; rotate_left; (focus (intro w hSw; (try dsimp only at hSw); go_simp; (try first | (rw [dif_pos (by omega)]; simp only [Result.andThen_ok]) | rw [if_pos (by omega)]); (try with_reducible rfl); done)); try simp only [Act.put, List.setIfInBounds_toArray, List.set_cons_zero, List.set_cons_succ])
    refine wpAnyH_done (by kernel_rfl) ?_ _
    clear hb
    go_wp2
    go_ret
    exact ⟨rfl, HB.out⟩
  rw [if_neg h7]
  by_cases h8 : kind = 8
  · subst h8
    rw [if_pos rfl]
    have hix : ∀ w : World, (Instr.index 70 (.agg #[.string ⟨#[]⟩, .string ⟨#[]⟩, .string ⟨#[80, 76, 65, 89]⟩, .string ⟨#[68, 82, 65, 73, 78]⟩, .string ⟨#[84, 73, 67, 75]⟩, .string ⟨#[70, 76, 85, 83, 72]⟩, .string ⟨#[83, 89, 78, 67]⟩, .string ⟨#[67, 72, 69, 67, 75, 80, 79, 73, 78, 84]⟩, .string ⟨#[77, 69, 82, 71, 69]⟩, .string ⟨#[67, 82, 65, 83, 72]⟩, .string ⟨#[82, 69, 83, 84, 65, 82, 84]⟩, .string ⟨#[67, 72, 69, 67, 75]⟩, .string ⟨#[67, 85, 84]⟩]) (.int .i64 8)).run Tryd.prog w = .ok (.string ⟨#[77, 69, 82, 71, 69]⟩) w := fun w => by kernel_rfl
    have hk : (w.alloc (.cells #[.int .i64 cmd, .int .i64 8, .int .i64 who, .int .i64 code, .int .i64 c, .slice na nl nc, .slice ra rl rc, .int .i64 n, .int .u64 s, .int .i64 f, .slice ma ml mc] 32)).cell? ⟨w.heap.size, 1, none⟩ = some (.int .i64 8) := by unfold World.cell?; rw [heap_new]; rfl
    go_enter Tryd.func17, Tryd.ntmps17
    go_wp2_with fail
    generalize hW : w.alloc (.cells #[.int .i64 cmd, .int .i64 8, .int .i64 who, .int .i64 code, .int .i64 c, .slice na nl nc, .slice ra rl rc, .int .i64 n, .int .u64 s, .int .i64 f, .slice ma ml mc] 32) = W1 at *
    have hl : w.heap.size < W1.heap.size := World.block_lt_of_cell? _ _ hk
    (refine wp_region_held_drew (S := (fun w' => w'.cell? ⟨w.heap.size, 1, none⟩ = some (.int .i64 8))) (by kernel_rfl) hk (fun hHeld => ?_); simp only [List.size_toArray, List.length_cons, List.length_nil, Nat.reduceAdd, Array.replicate_succ, Array.replicate_zero, List.push_toArray, List.append_toArray, List.nil_append, List.cons_append])
    (refine tk1 (v := ?_) (by kernel_rfl) (by kernel_rfl) (by kernel_rfl) (fun _ _ _ h => h) (Or.inl ⟨by rfl, ?_⟩) (by assumption) ?_; rotate_left; (focus (intro w hSw; (try dsimp only at hSw); go_simp; (try first | (rw [dif_pos (by omega)]; simp only [Result.andThen_ok]) | rw [if_pos (by omega)]); (try with_reducible rfl); done)); try simp only [Act.put, List.setIfInBounds_toArray, List.set_cons_zero, List.set_cons_succ])
    (refine tk2 (v := ?_) (by kernel_rfl) (by kernel_rfl) (by kernel_rfl) (fun _ _ _ h => h) (Or.inl ⟨by rfl, ?_⟩) (by assumption) ?_; rotate_left; (focus (intro w hSw; (try dsimp only at hSw); go_simp; (try first | (rw [dif_pos (by omega)]; simp only [Result.andThen_ok]) | rw [if_pos (by omega)]); (try with_reducible rfl); done)); try simp only [Act.put, List.setIfInBounds_toArray, List.set_cons_zero, List.set_cons_succ])
    (refine wpAnyH_ready (rs := [0]) (by kernel_rfl) (by simp) ?_; refine ar0 (fun K hK => ?_) AllReadyH.nil; go_simp)
    refine (keysT _).mono ?_
    rintro e w2 ⟨rfl, hb⟩
    have HB : Hid (Below w.heap.size w w2) := HA.out.drew.trans (hb.mono HA.out.size)
    (refine hK.out _ _ ((hb.cell hl).trans hk) (fun hHeld => ?_); clear hK K; try simp only [Act.put, List.setIfInBounds_toArray, List.set_cons_zero, List.set_cons_succ])
    (refine tk3 (v := ?_) (by kernel_rfl) (by kernel_rfl) (by kernel_rfl) (fun _ _ _ h => h) (Or.inl ⟨by rfl, ?_⟩) (by assumption) ?_; rotate_left; (focus (intro w hSw; (try dsimp only at hSw); go_simp; (try first | (rw [dif_pos (by omega)]; simp only [Result.andThen_ok]) | rw [if_pos (by omega)]); (try with_reducible rfl); done)); try simp only [Act.put, List.setIfInBounds_toArray, List.set_cons_zero, List.set_cons_succ])
    (refine tk4 (v := ?_) (by kernel_rfl) (by kernel_rfl) (by kernel_rfl) (fun _ _ _ h => h) (Or.inl ⟨by rfl, ?_⟩) (by assumption) ?_; rotate_left; (focus (intro w hSw; (try dsimp only at hSw); go_simp; (try first | (rw [dif_pos (by omega)]; simp only [Result.andThen_ok]) | rw [if_pos (by omega)]); (try with_reducible rfl); done)); try simp only [Act.put, List.setIfInBounds_toArray, List.set_cons_zero, List.set_cons_succ])
    refine wpAnyH_done (by kernel_rfl) ?_ _
    clear hb
    go_wp2
    go_ret
    exact ⟨rfl, HB.out⟩
  rw [if_neg h8]
  by_cases h9 : kind = 9
  · subst h9
    rw [if_pos rfl]
    have hix : ∀ w : World, (Instr.index 70 (.agg #[.string ⟨#[]⟩, .string ⟨#[]⟩, .string ⟨#[80, 76, 65, 89]⟩, .string ⟨#[68, 82, 65, 73, 78]⟩, .string ⟨#[84, 73, 67, 75]⟩, .string ⟨#[70, 76, 85, 83, 72]⟩, .string ⟨#[83, 89, 78, 67]⟩, .string ⟨#[67, 72, 69, 67, 75, 80, 79, 73, 78, 84]⟩, .string ⟨#[77, 69, 82, 71, 69]⟩, .string ⟨#[67, 82, 65, 83, 72]⟩, .string ⟨#[82, 69, 83, 84, 65, 82, 84]⟩, .string ⟨#[67, 72, 69, 67, 75]⟩, .string ⟨#[67, 85, 84]⟩]) (.int .i64 9)).run Tryd.prog w = .ok (.string ⟨#[67, 82, 65, 83, 72]⟩) w := fun w => by kernel_rfl
    have hk : (w.alloc (.cells #[.int .i64 cmd, .int .i64 9, .int .i64 who, .int .i64 code, .int .i64 c, .slice na nl nc, .slice ra rl rc, .int .i64 n, .int .u64 s, .int .i64 f, .slice ma ml mc] 32)).cell? ⟨w.heap.size, 1, none⟩ = some (.int .i64 9) := by unfold World.cell?; rw [heap_new]; rfl
    go_enter Tryd.func17, Tryd.ntmps17
    go_wp2_with fail
    generalize hW : w.alloc (.cells #[.int .i64 cmd, .int .i64 9, .int .i64 who, .int .i64 code, .int .i64 c, .slice na nl nc, .slice ra rl rc, .int .i64 n, .int .u64 s, .int .i64 f, .slice ma ml mc] 32) = W1 at *
    have hl : w.heap.size < W1.heap.size := World.block_lt_of_cell? _ _ hk
    (refine wp_region_held_drew (S := (fun w' => w'.cell? ⟨w.heap.size, 1, none⟩ = some (.int .i64 9))) (by kernel_rfl) hk (fun hHeld => ?_); simp only [List.size_toArray, List.length_cons, List.length_nil, Nat.reduceAdd, Array.replicate_succ, Array.replicate_zero, List.push_toArray, List.append_toArray, List.nil_append, List.cons_append])
    (refine tk1 (v := ?_) (by kernel_rfl) (by kernel_rfl) (by kernel_rfl) (fun _ _ _ h => h) (Or.inl ⟨by rfl, ?_⟩) (by assumption) ?_; rotate_left; (focus (intro w hSw; (try dsimp only at hSw); go_simp; (try first | (rw [dif_pos (by omega)]; simp only [Result.andThen_ok]) | rw [if_pos (by omega)]); (try with_reducible rfl); done)); try simp only [Act.put, List.setIfInBounds_toArray, List.set_cons_zero, List.set_cons_succ])
    (refine tk2 (v := ?_) (by kernel_rfl) (by kernel_rfl) (by kernel_rfl) (fun _ _ _ h => h) (Or.inl ⟨by rfl, ?_⟩) (by assumption) ?_; rotate_left; (focus (intro w hSw; (try dsimp only at hSw); go_simp; (try first | (rw [dif_pos (by omega)]; simp only [Result.andThen_ok]) | rw [if_pos (by omega)]); (try with_reducible rfl); done)); try simp only [Act.put, List.setIfInBounds_toArray, List.set_cons_zero, List.set_cons_succ])
    (refine wpAnyH_ready (rs := [0]) (by kernel_rfl) (by simp) ?_; refine ar0 (fun K hK => ?_) AllReadyH.nil; go_simp)
    refine (keysT _).mono ?_
    rintro e w2 ⟨rfl, hb⟩
    have HB : Hid (Below w.heap.size w w2) := HA.out.drew.trans (hb.mono HA.out.size)
    (refine hK.out _ _ ((hb.cell hl).trans hk) (fun hHeld => ?_); clear hK K; try simp only [Act.put, List.setIfInBounds_toArray, List.set_cons_zero, List.set_cons_succ])
    (refine tk3 (v := ?_) (by kernel_rfl) (by kernel_rfl) (by kernel_rfl) (fun _ _ _ h => h) (Or.inl ⟨by rfl, ?_⟩) (by assumption) ?_; rotate_left; (focus (intro w hSw; (try dsimp only at hSw); go_simp; (try first | (rw [dif_pos (by omega)]; simp only [Result.andThen_ok]) | rw [if_pos (by omega)]); (try with_reducible rfl); done)); try simp only [Act.put, List.setIfInBounds_toArray, List.set_cons_zero, List.set_cons_succ])
    (refine tk4 (v := ?_) (by kernel_rfl) (by kernel_rfl) (by kernel_rfl) (fun _ _ _ h => h) (Or.inl ⟨by rfl, ?_⟩) (by assumption) ?_; rotate_left; (focus (intro w hSw; (try dsimp only at hSw); go_simp; (try first | (rw [dif_pos (by omega)]; simp only [Result.andThen_ok]) | rw [if_pos (by omega)]); (try with_reducible rfl); done)); try simp only [Act.put, List.setIfInBounds_toArray, List.set_cons_zero, List.set_cons_succ])
    refine wpAnyH_done (by kernel_rfl) ?_ _
    clear hb
    go_wp2
    go_ret
    exact ⟨rfl, HB.out⟩
  rw [if_neg h9]
  by_cases h10 : kind = 10
  · subst h10
    rw [if_pos rfl]
    have hix : ∀ w : World, (Instr.index 70 (.agg #[.string ⟨#[]⟩, .string ⟨#[]⟩, .string ⟨#[80, 76, 65, 89]⟩, .string ⟨#[68, 82, 65, 73, 78]⟩, .string ⟨#[84, 73, 67, 75]⟩, .string ⟨#[70, 76, 85, 83, 72]⟩, .string ⟨#[83, 89, 78, 67]⟩, .string ⟨#[67, 72, 69, 67, 75, 80, 79, 73, 78, 84]⟩, .string ⟨#[77, 69, 82, 71, 69]⟩, .string ⟨#[67, 82, 65, 83, 72]⟩, .string ⟨#[82, 69, 83, 84, 65, 82, 84]⟩, .string ⟨#[67, 72, 69, 67, 75]⟩, .string ⟨#[67, 85, 84]⟩]) (.int .i64 10)).run Tryd.prog w = .ok (.string ⟨#[82, 69, 83, 84, 65, 82, 84]⟩) w := fun w => by kernel_rfl
    have hk : (w.alloc (.cells #[.int .i64 cmd, .int .i64 10, .int .i64 who, .int .i64 code, .int .i64 c, .slice na nl nc, .slice ra rl rc, .int .i64 n, .int .u64 s, .int .i64 f, .slice ma ml mc] 32)).cell? ⟨w.heap.size, 1, none⟩ = some (.int .i64 10) := by unfold World.cell?; rw [heap_new]; rfl
    go_enter Tryd.func17, Tryd.ntmps17
    go_wp2_with fail
    generalize hW : w.alloc (.cells #[.int .i64 cmd, .int .i64 10, .int .i64 who, .int .i64 code, .int .i64 c, .slice na nl nc, .slice ra rl rc, .int .i64 n, .int .u64 s, .int .i64 f, .slice ma ml mc] 32) = W1 at *
    have hl : w.heap.size < W1.heap.size := World.block_lt_of_cell? _ _ hk
    (refine wp_region_held_drew (S := (fun w' => w'.cell? ⟨w.heap.size, 1, none⟩ = some (.int .i64 10))) (by kernel_rfl) hk (fun hHeld => ?_); simp only [List.size_toArray, List.length_cons, List.length_nil, Nat.reduceAdd, Array.replicate_succ, Array.replicate_zero, List.push_toArray, List.append_toArray, List.nil_append, List.cons_append])
    (refine tk1 (v := ?_) (by kernel_rfl) (by kernel_rfl) (by kernel_rfl) (fun _ _ _ h => h) (Or.inl ⟨by rfl, ?_⟩) (by assumption) ?_; rotate_left; (focus (intro w hSw; (try dsimp only at hSw); go_simp; (try first | (rw [dif_pos (by omega)]; simp only [Result.andThen_ok]) | rw [if_pos (by omega)]); (try with_reducible rfl); done)); try simp only [Act.put, List.setIfInBounds_toArray, List.set_cons_zero, List.set_cons_succ])
    (refine tk2 (v := ?_) (by kernel_rfl) (by kernel_rfl) (by kernel_rfl) (fun _ _ _ h => h) (Or.inl ⟨by rfl, ?_⟩) (by assumption) ?_; rotate_left; (focus (intro w hSw; (try dsimp only at hSw); go_simp; (try first | (rw [dif_pos (by omega)]; simp only [Result.andThen_ok]) | rw [if_pos (by omega)]); (try with_reducible rfl); done)); try simp only [Act.put, List.setIfInBounds_toArray, List.set_cons_zero, List.set_cons_succ])
    (refine wpAnyH_ready (rs := [0]) (by kernel_rfl) (by simp) ?_; refine ar0 (fun K hK => ?_) AllReadyH.nil; go_simp)
    refine (keysT _).mono ?_
    rintro e w2 ⟨rfl, hb⟩
    have HB : Hid (Below w.heap.size w w2) := HA.out.drew.trans (hb.mono HA.out.size)
    (refine hK.out _ _ ((hb.cell hl).trans hk) (fun hHeld => ?_); clear hK K; try simp only [Act.put, List.setIfInBounds_toArray, List.set_cons_zero, List.set_cons_succ])
    (refine tk3 (v := ?_) (by kernel_rfl) (by kernel_rfl) (by kernel_rfl) (fun _ _ _ h => h) (Or.inl ⟨by rfl, ?_⟩) (by assumption) ?_; rotate_left; (focus (intro w hSw; (try dsimp only at hSw); go_simp; (try first | (rw [dif_pos (by omega)]; simp only [Result.andThen_ok]) | rw [if_pos (by omega)]); (try with_reducible rfl); done)); try simp only [Act.put, List.setIfInBounds_toArray, List.set_cons_zero, List.set_cons_succ])
    (refine tk4 (v := ?_) (by kernel_rfl) (by kernel_rfl) (by kernel_rfl) (fun _ _ _ h => h) (Or.inl ⟨by rfl, ?_⟩) (by assumption) ?_; rotate_left; (focus (intro w hSw; (try dsimp only at hSw); go_simp; (try first | (rw [dif_pos (by omega)]; simp only [Result.andThen_ok]) | rw [if_pos (by omega)]); (try with_reducible rfl); done)); try simp only [Act.put, List.setIfInBounds_toArray, List.set_cons_zero, List.set_cons_succ])
    refine wpAnyH_done (by kernel_rfl) ?_ _
    clear hb
    go_wp2
    go_ret
    exact ⟨rfl, HB.out⟩
  rw [if_neg h10]
  by_cases h11 : kind = 11
  · subst h11
    rw [if_pos rfl]
    have hix : ∀ w : World, (Instr.index 70 (.agg #[.string ⟨#[]⟩, .string ⟨#[]⟩, .string ⟨#[80, 76, 65, 89]⟩, .string ⟨#[68, 82, 65, 73, 78]⟩, .string ⟨#[84, 73, 67, 75]⟩, .string ⟨#[70, 76, 85, 83, 72]⟩, .string ⟨#[83, 89, 78, 67]⟩, .string ⟨#[67, 72, 69, 67, 75, 80, 79, 73, 78, 84]⟩, .string ⟨#[77, 69, 82, 71, 69]⟩, .string ⟨#[67, 82, 65, 83, 72]⟩, .string ⟨#[82, 69, 83, 84, 65, 82, 84]⟩, .string ⟨#[67, 72, 69, 67, 75]⟩, .string ⟨#[67, 85, 84]⟩]) (.int .i64 11)).run Tryd.prog w = .ok (.string ⟨#[67, 72, 69, 67, 75]⟩) w := fun w => by kernel_rfl
    have hk : (w.alloc (.cells #[.int .i64 cmd, .int .i64 11, .int .i64 who, .int .i64 code, .int .i64 c, .slice na nl nc, .slice ra rl rc, .int .i64 n, .int .u64 s, .int .i64 f, .slice ma ml mc] 32)).cell? ⟨w.heap.size, 1, none⟩ = some (.int .i64 11) := by unfold World.cell?; rw [heap_new]; rfl
    go_enter Tryd.func17, Tryd.ntmps17
    go_wp2_with fail
    generalize hW : w.alloc (.cells #[.int .i64 cmd, .int .i64 11, .int .i64 who, .int .i64 code, .int .i64 c, .slice na nl nc, .slice ra rl rc, .int .i64 n, .int .u64 s, .int .i64 f, .slice ma ml mc] 32) = W1 at *
    have hl : w.heap.size < W1.heap.size := World.block_lt_of_cell? _ _ hk
    (refine wp_region_held_drew (S := (fun w' => w'.cell? ⟨w.heap.size, 1, none⟩ = some (.int .i64 11))) (by kernel_rfl) hk (fun hHeld => ?_); simp only [List.size_toArray, List.length_cons, List.length_nil, Nat.reduceAdd, Array.replicate_succ, Array.replicate_zero, List.push_toArray, List.append_toArray, List.nil_append, List.cons_append])
    (refine tk1 (v := ?_) (by kernel_rfl) (by kernel_rfl) (by kernel_rfl) (fun _ _ _ h => h) (Or.inl ⟨by rfl, ?_⟩) (by assumption) ?_; rotate_left; (focus (intro w hSw; (try dsimp only at hSw); go_simp; (try first | (rw [dif_pos (by omega)]; simp only [Result.andThen_ok]) | rw [if_pos (by omega)]); (try with_reducible rfl); done)); try simp only [Act.put, List.setIfInBounds_toArray, List.set_cons_zero, List.set_cons_succ])
    (refine tk2 (v := ?_) (by kernel_rfl) (by kernel_rfl) (by kernel_rfl) (fun _ _ _ h => h) (Or.inl ⟨by rfl, ?_⟩) (by assumption) ?_; rotate_left; (focus (intro w hSw; (try dsimp only at hSw); go_simp; (try first | (rw [dif_pos (by omega)]; simp only [Result.andThen_ok]) | rw [if_pos (by omega)]); (try with_reducible rfl); done)); try simp only [Act.put, List.setIfInBounds_toArray, List.set_cons_zero, List.set_cons_succ])
    (refine wpAnyH_ready (rs := [0]) (by kernel_rfl) (by simp) ?_; refine ar0 (fun K hK => ?_) AllReadyH.nil; go_simp)
    refine (keysT _).mono ?_
    rintro e w2 ⟨rfl, hb⟩
    have HB : Hid (Below w.heap.size w w2) := HA.out.drew.trans (hb.mono HA.out.size)
    (refine hK.out _ _ ((hb.cell hl).trans hk) (fun hHeld => ?_); clear hK K; try simp only [Act.put, List.setIfInBounds_toArray, List.set_cons_zero, List.set_cons_succ])
    (refine tk3 (v := ?_) (by kernel_rfl) (by kernel_rfl) (by kernel_rfl) (fun _ _ _ h => h) (Or.inl ⟨by rfl, ?_⟩) (by assumption) ?_; rotate_left; (focus (intro w hSw; (try dsimp only at hSw); go_simp; (try first | (rw [dif_pos (by omega)]; simp only [Result.andThen_ok]) | rw [if_pos (by omega)]); (try with_reducible rfl); done)); try simp only [Act.put, List.setIfInBounds_toArray, List.set_cons_zero, List.set_cons_succ])
    (refine tk4 (v := ?_) (by kernel_rfl) (by kernel_rfl) (by kernel_rfl) (fun _ _ _ h => h) (Or.inl ⟨by rfl, ?_⟩) (by assumption) ?_; rotate_left; (focus (intro w hSw; (try dsimp only at hSw); go_simp; (try first | (rw [dif_pos (by omega)]; simp only [Result.andThen_ok]) | rw [if_pos (by omega)]); (try with_reducible rfl); done)); try simp only [Act.put, List.setIfInBounds_toArray, List.set_cons_zero, List.set_cons_succ])
    refine wpAnyH_done (by kernel_rfl) ?_ _
    clear hb
    go_wp2
    go_ret
    exact ⟨rfl, HB.out⟩
  rw [if_neg h11]
  by_cases h12 : kind = 12
  · subst h12
    rw [if_pos rfl]
    have hix : ∀ w : World, (Instr.index 70 (.agg #[.string ⟨#[]⟩, .string ⟨#[]⟩, .string ⟨#[80, 76, 65, 89]⟩, .string ⟨#[68, 82, 65, 73, 78]⟩, .string ⟨#[84, 73, 67, 75]⟩, .string ⟨#[70, 76, 85, 83, 72]⟩, .string ⟨#[83, 89, 78, 67]⟩, .string ⟨#[67, 72, 69, 67, 75, 80, 79, 73, 78, 84]⟩, .string ⟨#[77, 69, 82, 71, 69]⟩, .string ⟨#[67, 82, 65, 83, 72]⟩, .string ⟨#[82, 69, 83, 84, 65, 82, 84]⟩, .string ⟨#[67, 72, 69, 67, 75]⟩, .string ⟨#[67, 85, 84]⟩]) (.int .i64 12)).run Tryd.prog w = .ok (.string ⟨#[67, 85, 84]⟩) w := fun w => by kernel_rfl
    have hk : (w.alloc (.cells #[.int .i64 cmd, .int .i64 12, .int .i64 who, .int .i64 code, .int .i64 c, .slice na nl nc, .slice ra rl rc, .int .i64 n, .int .u64 s, .int .i64 f, .slice ma ml mc] 32)).cell? ⟨w.heap.size, 1, none⟩ = some (.int .i64 12) := by unfold World.cell?; rw [heap_new]; rfl
    go_enter Tryd.func17, Tryd.ntmps17
    go_wp2_with fail
    generalize hW : w.alloc (.cells #[.int .i64 cmd, .int .i64 12, .int .i64 who, .int .i64 code, .int .i64 c, .slice na nl nc, .slice ra rl rc, .int .i64 n, .int .u64 s, .int .i64 f, .slice ma ml mc] 32) = W1 at *
    have hl : w.heap.size < W1.heap.size := World.block_lt_of_cell? _ _ hk
    (refine wp_region_held_drew (S := (fun w' => w'.cell? ⟨w.heap.size, 1, none⟩ = some (.int .i64 12))) (by kernel_rfl) hk (fun hHeld => ?_); simp only [List.size_toArray, List.length_cons, List.length_nil, Nat.reduceAdd, Array.replicate_succ, Array.replicate_zero, List.push_toArray, List.append_toArray, List.nil_append, List.cons_append])
    (refine tk1 (v := ?_) (by kernel_rfl) (by kernel_rfl) (by kernel_rfl) (fun _ _ _ h => h) (Or.inl ⟨by rfl, ?_⟩) (by assumption) ?_; rotate_left; (focus (intro w hSw; (try dsimp only at hSw); go_simp; (try first | (rw [dif_pos (by omega)]; simp only [Result.andThen_ok]) | rw [if_pos (by omega)]); (try with_reducible rfl); done)); try simp only [Act.put, List.setIfInBounds_toArray, List.set_cons_zero, List.set_cons_succ])
    (refine tk2 (v := ?_) (by kernel_rfl) (by kernel_rfl) (by kernel_rfl) (fun _ _ _ h => h) (Or.inl ⟨by rfl, ?_⟩) (by assumption) ?_; rotate_left; (focus (intro w hSw; (try dsimp only at hSw); go_simp; (try first | (rw [dif_pos (by omega)]; simp only [Result.andThen_ok]) | rw [if_pos (by omega)]); (try with_reducible rfl); done)); try simp only [Act.put, List.setIfInBounds_toArray, List.set_cons_zero, List.set_cons_succ])
    (refine wpAnyH_ready (rs := [0]) (by kernel_rfl) (by simp) ?_; refine ar0 (fun K hK => ?_) AllReadyH.nil; go_simp)
    refine (keysT _).mono ?_
    rintro e w2 ⟨rfl, hb⟩
    have HB : Hid (Below w.heap.size w w2) := HA.out.drew.trans (hb.mono HA.out.size)
    (refine hK.out _ _ ((hb.cell hl).trans hk) (fun hHeld => ?_); clear hK K; try simp only [Act.put, List.setIfInBounds_toArray, List.set_cons_zero, List.set_cons_succ])
    (refine tk3 (v := ?_) (by kernel_rfl) (by kernel_rfl) (by kernel_rfl) (fun _ _ _ h => h) (Or.inl ⟨by rfl, ?_⟩) (by assumption) ?_; rotate_left; (focus (intro w hSw; (try dsimp only at hSw); go_simp; (try first | (rw [dif_pos (by omega)]; simp only [Result.andThen_ok]) | rw [if_pos (by omega)]); (try with_reducible rfl); done)); try simp only [Act.put, List.setIfInBounds_toArray, List.set_cons_zero, List.set_cons_succ])
    (refine tk4 (v := ?_) (by kernel_rfl) (by kernel_rfl) (by kernel_rfl) (fun _ _ _ h => h) (Or.inl ⟨by rfl, ?_⟩) (by assumption) ?_; rotate_left; (focus (intro w hSw; (try dsimp only at hSw); go_simp; (try first | (rw [dif_pos (by omega)]; simp only [Result.andThen_ok]) | rw [if_pos (by omega)]); (try with_reducible rfl); done)); try simp only [Act.put, List.setIfInBounds_toArray, List.set_cons_zero, List.set_cons_succ])
    refine wpAnyH_done (by kernel_rfl) ?_ _
    clear hb
    go_wp2
    go_ret
    exact ⟨rfl, HB.out⟩
  rw [if_neg h12]
  have hb1 : (kind == 1) = false := by simp [h]
  by_cases hp : 0 < kind
  · have hq : ¬ kind ≤ 12 := by omega
    go_enter Tryd.func17, Tryd.ntmps17
    go_wp2
    go_ret
    exact ⟨rfl, HA.out⟩
  · go_enter Tryd.func17, Tryd.ntmps17
    go_wp2
    go_ret
    exact ⟨rfl, HA.out⟩
end Go.Proofs.YtoomekcglniohaaDoor
