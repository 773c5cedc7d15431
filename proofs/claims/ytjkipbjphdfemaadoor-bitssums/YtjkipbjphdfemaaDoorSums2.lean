import Derived.Test.YtjkipbjphdfemaaDoorSums1
import Derived.Deep.MidRow
import Derived.Laws.ShiftsVarLaws
namespace Go.Proofs.YtjkipbjphdfemaaDoor
open Go.ChangeShapes Go.WideShapes Go.ChangeAt Go.RowKit Go.MuLone
set_option linter.unusedVariables false

/-- A table of 32 words. -/
def rowF (F : Nat → Nat) : List Value := (List.range 32).map fun i => .int .u32 (F i : Nat)
theorem rowF_len (F : Nat → Nat) : (rowF F).length = 32 := by simp [rowF]
theorem rowF_get (F : Nat → Nat) (i : Nat) (h : i < 32) : (rowF F)[i]? = some (.int .u32 (F i : Nat)) := by simp [rowF, h]
/-- The ways of the k lowest bits of a, laid over one another. -/
def thS (F : Nat → Nat) (a : Nat) : Nat → Nat
  | 0 => 0
  | k + 1 => if a / 2 ^ k % 2 = 1 then thS F a k ^^^ F k else thS F a k
theorem thS_lt (F : Nat → Nat) (a : Nat) (hF : ∀ i, i < 32 → F i < 4294967296) : ∀ k, k ≤ 32 → thS F a k < 4294967296
  | 0, _ => by simp [thS]
  | k + 1, h => by
    have ih := thS_lt F a hF k (by omega)
    unfold thS
    split
    · exact Nat.xor_lt_two_pow (n := 32) ih (hF k (by omega))
    · exact ih
theorem thS_it (j a : Nat) : ∀ k, thS (fun i => itN j (2 ^ i)) a k = itN j (a % 2 ^ k)
  | 0 => by simp [thS, Nat.mod_one, itN_zero]
  | k + 1 => by
    rw [thS, thS_it j a k]
    have h2 : a / 2 ^ k % 2 = 0 ∨ a / 2 ^ k % 2 = 1 := by omega
    rcases h2 with h2 | h2
    · rw [if_neg (by omega), Nat.pow_succ, Nat.mod_mul, h2]
      simp
    · rw [if_pos h2, ← itN_lin, Nat.xor_comm, top_join k a h2]
set_option maxRecDepth 100000 in
set_option maxHeartbeats 1600000 in
theorem through_any (F : Nat → Nat) (a : Nat) (w : World) (ha : a < 4294967296) (hF : ∀ i, i < 32 → F i < 4294967296) :
    Calls Tryd.prog 16 #[.agg (rowF F).toArray, .int .u32 (a : Int)] w fun e w' => e = .returned (.int .u32 (thS F a 32 : Nat)) ∧ w' = w.alloc (.cells (rowF F).toArray 54) := by
  have HC : Hid (∀ i, i < 32 → (w.alloc (.cells (rowF F).toArray 54)).cell? ⟨w.heap.size, i, none⟩ = some (.int .u32 (F i : Nat))) := by
    intro i hi
    rw [World.cell?_alloc_at _ _ _ _ rfl, List.getElem?_toArray]
    exact rowF_get F i hi
  generalize hcs : (rowF F).toArray = cs at *
  go_enter Tryd.func16, Tryd.ntmps16
  go_wp2
  generalize hW : w.alloc (.cells cs 54) = W at *
  generalize w.heap.size = n at *
  go_loop [5, 6] (fun t i => ∃ k : Nat, k ≤ 32 ∧ i = .int .i64 k ∧ t = .int .u32 (thS F a k : Nat)) (fun _ i => 32 - (intOf i).toNat)
  case atStart => exact ⟨0, by omega, rfl, rfl⟩
  case round =>
    obtain ⟨k, hk, rfl, rfl⟩ := hrel
    have hq := thS_lt F a hF k hk
    by_cases h1 : k < 32
    · have c1 := HC.out k h1
      have hf := hF k h1
      have HS : Hid (thS F a (k + 1) = if a / 2 ^ k % 2 = 1 then thS F a k ^^^ F k else thS F a k) := rfl
      generalize thS F a k = t at *
      have hx : bits .xor .u32 (t : Int) ((F k : Nat) : Int) = ((t ^^^ F k : Nat) : Int) := u32_xor_nat _ _ hq hf
      generalize F k = fk at *
      have e : ((a : Int) / 2 ^ k) = ((a / 2 ^ k : Nat) : Int) := by rw [Int.natCast_ediv, Int.natCast_pow]; rfl
      by_cases h2 : a / 2 ^ k % 2 = 1
      · have h3 : (((a : Int) / 2 ^ k).tmod 2 == 1) = true := by rw [e, Int.tmod_eq_emod_of_nonneg (Int.natCast_nonneg _)]; revert h2; generalize a / 2 ^ k = q; intro h2; simp; omega
        rw [if_pos h2] at HS
        clear e
        go_wp2
        go_round
        case rel => exact ⟨k + 1, by omega, by go_num, by rw [HS.out]⟩
        case measure => simp [intOf]; omega
      · have h3 : (((a : Int) / 2 ^ k).tmod 2 == 1) = false := by rw [e, Int.tmod_eq_emod_of_nonneg (Int.natCast_nonneg _)]; revert h2; generalize a / 2 ^ k = q; intro h2; simp; omega
        rw [if_neg h2] at HS
        clear e
        go_wp2
        go_round
        case rel => exact ⟨k + 1, by omega, by go_num, by rw [HS.out]⟩
        case measure => simp [intOf]; omega
    · have e32 : k = 32 := by omega
      subst e32
      go_wp2
      go_ret
      exact ⟨rfl, rfl⟩
theorem u32x : Tryd.prog.underlying 54 = some (.array 32 22) := by kernel_rfl
theorem i32x : (Tryd.prog.info? 54).map (·.size) = some 32 := by kernel_rfl
theorem range_row {w : World} {b : Nat} {F : Nat → Nat} (h : w.rangeAt b 0 (rowF F)) (i : Nat) (hi : i < 32) : w.cell? ⟨b, i, none⟩ = some (.int .u32 (F i : Nat)) := by
  have := h i _ (rowF_get F i hi)
  rwa [Nat.zero_add] at this
theorem load_row {w : World} {b : Nat} {F : Nat → Nat} (h : w.rangeAt b 0 (rowF F)) : (Instr.loadAt 54 (.pointer (some ⟨b, 0, none⟩))).run Tryd.prog w = .ok (.agg (rowF F).toArray) w :=
  run_loadAt_mid w b 0 54 (rowF F) _ h u32x rfl (by rw [rowF_len]; exact i32x)
theorem cells32 {w : World} {b : Nat} {F : Nat → Nat} (h : w.rangeAt b 0 (rowF F)) : w.cell? ⟨b, 0, none⟩ = some (.int .u32 (F 0 : Nat)) ∧ w.cell? ⟨b, 1, none⟩ = some (.int .u32 (F 1 : Nat)) ∧ w.cell? ⟨b, 2, none⟩ = some (.int .u32 (F 2 : Nat)) ∧ w.cell? ⟨b, 3, none⟩ = some (.int .u32 (F 3 : Nat)) ∧ w.cell? ⟨b, 4, none⟩ = some (.int .u32 (F 4 : Nat)) ∧ w.cell? ⟨b, 5, none⟩ = some (.int .u32 (F 5 : Nat)) ∧ w.cell? ⟨b, 6, none⟩ = some (.int .u32 (F 6 : Nat)) ∧ w.cell? ⟨b, 7, none⟩ = some (.int .u32 (F 7 : Nat)) ∧ w.cell? ⟨b, 8, none⟩ = some (.int .u32 (F 8 : Nat)) ∧ w.cell? ⟨b, 9, none⟩ = some (.int .u32 (F 9 : Nat)) ∧ w.cell? ⟨b, 10, none⟩ = some (.int .u32 (F 10 : Nat)) ∧ w.cell? ⟨b, 11, none⟩ = some (.int .u32 (F 11 : Nat)) ∧ w.cell? ⟨b, 12, none⟩ = some (.int .u32 (F 12 : Nat)) ∧ w.cell? ⟨b, 13, none⟩ = some (.int .u32 (F 13 : Nat)) ∧ w.cell? ⟨b, 14, none⟩ = some (.int .u32 (F 14 : Nat)) ∧ w.cell? ⟨b, 15, none⟩ = some (.int .u32 (F 15 : Nat)) ∧ w.cell? ⟨b, 16, none⟩ = some (.int .u32 (F 16 : Nat)) ∧ w.cell? ⟨b, 17, none⟩ = some (.int .u32 (F 17 : Nat)) ∧ w.cell? ⟨b, 18, none⟩ = some (.int .u32 (F 18 : Nat)) ∧ w.cell? ⟨b, 19, none⟩ = some (.int .u32 (F 19 : Nat)) ∧ w.cell? ⟨b, 20, none⟩ = some (.int .u32 (F 20 : Nat)) ∧ w.cell? ⟨b, 21, none⟩ = some (.int .u32 (F 21 : Nat)) ∧ w.cell? ⟨b, 22, none⟩ = some (.int .u32 (F 22 : Nat)) ∧ w.cell? ⟨b, 23, none⟩ = some (.int .u32 (F 23 : Nat)) ∧ w.cell? ⟨b, 24, none⟩ = some (.int .u32 (F 24 : Nat)) ∧ w.cell? ⟨b, 25, none⟩ = some (.int .u32 (F 25 : Nat)) ∧ w.cell? ⟨b, 26, none⟩ = some (.int .u32 (F 26 : Nat)) ∧ w.cell? ⟨b, 27, none⟩ = some (.int .u32 (F 27 : Nat)) ∧ w.cell? ⟨b, 28, none⟩ = some (.int .u32 (F 28 : Nat)) ∧ w.cell? ⟨b, 29, none⟩ = some (.int .u32 (F 29 : Nat)) ∧ w.cell? ⟨b, 30, none⟩ = some (.int .u32 (F 30 : Nat)) ∧ w.cell? ⟨b, 31, none⟩ = some (.int .u32 (F 31 : Nat)) :=
  ⟨range_row h 0 (by omega), range_row h 1 (by omega), range_row h 2 (by omega), range_row h 3 (by omega), range_row h 4 (by omega), range_row h 5 (by omega), range_row h 6 (by omega), range_row h 7 (by omega), range_row h 8 (by omega), range_row h 9 (by omega), range_row h 10 (by omega), range_row h 11 (by omega), range_row h 12 (by omega), range_row h 13 (by omega), range_row h 14 (by omega), range_row h 15 (by omega), range_row h 16 (by omega), range_row h 17 (by omega), range_row h 18 (by omega), range_row h 19 (by omega), range_row h 20 (by omega), range_row h 21 (by omega), range_row h 22 (by omega), range_row h 23 (by omega), range_row h 24 (by omega), range_row h 25 (by omega), range_row h 26 (by omega), range_row h 27 (by omega), range_row h 28 (by omega), range_row h 29 (by omega), range_row h 30 (by omega), range_row h 31 (by omega)⟩
theorem rowF_lit (F : Nat → Nat) : (rowF F).toArray = #[.int .u32 ((F 0 : Nat) : Int), .int .u32 ((F 1 : Nat) : Int), .int .u32 ((F 2 : Nat) : Int), .int .u32 ((F 3 : Nat) : Int), .int .u32 ((F 4 : Nat) : Int), .int .u32 ((F 5 : Nat) : Int), .int .u32 ((F 6 : Nat) : Int), .int .u32 ((F 7 : Nat) : Int), .int .u32 ((F 8 : Nat) : Int), .int .u32 ((F 9 : Nat) : Int), .int .u32 ((F 10 : Nat) : Int), .int .u32 ((F 11 : Nat) : Int), .int .u32 ((F 12 : Nat) : Int), .int .u32 ((F 13 : Nat) : Int), .int .u32 ((F 14 : Nat) : Int), .int .u32 ((F 15 : Nat) : Int), .int .u32 ((F 16 : Nat) : Int), .int .u32 ((F 17 : Nat) : Int), .int .u32 ((F 18 : Nat) : Int), .int .u32 ((F 19 : Nat) : Int), .int .u32 ((F 20 : Nat) : Int), .int .u32 ((F 21 : Nat) : Int), .int .u32 ((F 22 : Nat) : Int), .int .u32 ((F 23 : Nat) : Int), .int .u32 ((F 24 : Nat) : Int), .int .u32 ((F 25 : Nat) : Int), .int .u32 ((F 26 : Nat) : Int), .int .u32 ((F 27 : Nat) : Int), .int .u32 ((F 28 : Nat) : Int), .int .u32 ((F 29 : Nat) : Int), .int .u32 ((F 30 : Nat) : Int), .int .u32 ((F 31 : Nat) : Int)] := rfl
theorem rowZ_lit : (rowF fun _ => 0).toArray = #[.int .u32 0, .int .u32 0, .int .u32 0, .int .u32 0, .int .u32 0, .int .u32 0, .int .u32 0, .int .u32 0, .int .u32 0, .int .u32 0, .int .u32 0, .int .u32 0, .int .u32 0, .int .u32 0, .int .u32 0, .int .u32 0, .int .u32 0, .int .u32 0, .int .u32 0, .int .u32 0, .int .u32 0, .int .u32 0, .int .u32 0, .int .u32 0, .int .u32 0, .int .u32 0, .int .u32 0, .int .u32 0, .int .u32 0, .int .u32 0, .int .u32 0, .int .u32 0] := rfl
theorem through_lit (F G : Nat → Nat) (k : Nat) (w : World) (hk : k < 32) (hF : ∀ i, i < 32 → F i < 4294967296) (hG : G k = thS F (F k) 32) :
    Calls Tryd.prog 16 #[.agg #[.int .u32 ((F 0 : Nat) : Int), .int .u32 ((F 1 : Nat) : Int), .int .u32 ((F 2 : Nat) : Int), .int .u32 ((F 3 : Nat) : Int), .int .u32 ((F 4 : Nat) : Int), .int .u32 ((F 5 : Nat) : Int), .int .u32 ((F 6 : Nat) : Int), .int .u32 ((F 7 : Nat) : Int), .int .u32 ((F 8 : Nat) : Int), .int .u32 ((F 9 : Nat) : Int), .int .u32 ((F 10 : Nat) : Int), .int .u32 ((F 11 : Nat) : Int), .int .u32 ((F 12 : Nat) : Int), .int .u32 ((F 13 : Nat) : Int), .int .u32 ((F 14 : Nat) : Int), .int .u32 ((F 15 : Nat) : Int), .int .u32 ((F 16 : Nat) : Int), .int .u32 ((F 17 : Nat) : Int), .int .u32 ((F 18 : Nat) : Int), .int .u32 ((F 19 : Nat) : Int), .int .u32 ((F 20 : Nat) : Int), .int .u32 ((F 21 : Nat) : Int), .int .u32 ((F 22 : Nat) : Int), .int .u32 ((F 23 : Nat) : Int), .int .u32 ((F 24 : Nat) : Int), .int .u32 ((F 25 : Nat) : Int), .int .u32 ((F 26 : Nat) : Int), .int .u32 ((F 27 : Nat) : Int), .int .u32 ((F 28 : Nat) : Int), .int .u32 ((F 29 : Nat) : Int), .int .u32 ((F 30 : Nat) : Int), .int .u32 ((F 31 : Nat) : Int)], .int .u32 ((F k : Nat) : Int)] w fun e w' => e = .returned (.int .u32 (G k : Nat)) ∧ w' = w.alloc (.cells #[.int .u32 ((F 0 : Nat) : Int), .int .u32 ((F 1 : Nat) : Int), .int .u32 ((F 2 : Nat) : Int), .int .u32 ((F 3 : Nat) : Int), .int .u32 ((F 4 : Nat) : Int), .int .u32 ((F 5 : Nat) : Int), .int .u32 ((F 6 : Nat) : Int), .int .u32 ((F 7 : Nat) : Int), .int .u32 ((F 8 : Nat) : Int), .int .u32 ((F 9 : Nat) : Int), .int .u32 ((F 10 : Nat) : Int), .int .u32 ((F 11 : Nat) : Int), .int .u32 ((F 12 : Nat) : Int), .int .u32 ((F 13 : Nat) : Int), .int .u32 ((F 14 : Nat) : Int), .int .u32 ((F 15 : Nat) : Int), .int .u32 ((F 16 : Nat) : Int), .int .u32 ((F 17 : Nat) : Int), .int .u32 ((F 18 : Nat) : Int), .int .u32 ((F 19 : Nat) : Int), .int .u32 ((F 20 : Nat) : Int), .int .u32 ((F 21 : Nat) : Int), .int .u32 ((F 22 : Nat) : Int), .int .u32 ((F 23 : Nat) : Int), .int .u32 ((F 24 : Nat) : Int), .int .u32 ((F 25 : Nat) : Int), .int .u32 ((F 26 : Nat) : Int), .int .u32 ((F 27 : Nat) : Int), .int .u32 ((F 28 : Nat) : Int), .int .u32 ((F 29 : Nat) : Int), .int .u32 ((F 30 : Nat) : Int), .int .u32 ((F 31 : Nat) : Int)] 54) := by
  rw [hG, ← rowF_lit]
  exact through_any F (F k) w (hF k hk) hF
/-- What stands while a table is squared. -/
def SqS (w : World) (F G : Nat → Nat) (n k : Nat) (W : World) : Prop :=
  W.rangeAt n 0 (rowF F) ∧ W.rangeAt (n + 1 + 1) 0 (rowF fun i => if i < k then G i else 0) ∧ W.there (n + 1) 0 32 ∧ (∀ j, W.frozen? ⟨n + 1 + 1, j, none⟩ = false) ∧ n + 3 ≤ W.heap.size ∧ Below n w W
theorem SqS.grow {w W : World} {F G : Nat → Nat} {n k : Nat} (h : SqS w F G n k W) (o : Obj) : SqS w F G n k (W.drew.alloc o) := by
  obtain ⟨h1, h2, h3, h4, h5, h6⟩ := h
  have old : ∀ b j, b < W.heap.size → (W.drew.alloc o).cell? ⟨b, j, none⟩ = W.cell? ⟨b, j, none⟩ := fun b j hb => World.cell?_alloc_past _ _ _ hb
  have oldf : ∀ b j, b < W.heap.size → (W.drew.alloc o).frozen? ⟨b, j, none⟩ = W.frozen? ⟨b, j, none⟩ := fun b j hb => World.frozen?_alloc_past _ _ _ hb
  refine ⟨fun j v hv => (old _ _ (by omega)).trans (h1 j v hv), fun j v hv => (old _ _ (by omega)).trans (h2 j v hv), fun j hj => ?_, fun j => (oldf _ _ (by omega)).trans (h4 j), ?_, ?_⟩
  · rw [old _ _ (by omega), oldf _ _ (by omega)]
    exact h3 j hj
  · show n + 3 ≤ (W.drew.alloc o).heap.size
    have : (W.drew.alloc o).heap.size = W.heap.size + 1 := by show (Array.push _ _).size = _; simp
    omega
  · exact h6.drew.alloc (by show n ≤ W.heap.size; omega) _
theorem SqS.put {w W : World} {F G : Nat → Nat} {n k : Nat} (h : SqS w F G n k W) (hk : k < 32) : SqS w F G n (k + 1) (W.setCell ⟨n + 1 + 1, k, none⟩ (.int .u32 (G k : Nat))) := by
  obtain ⟨h1, h2, h3, h4, h5, h6⟩ := h
  have hs : (W.setCell ⟨n + 1 + 1, k, none⟩ (.int .u32 (G k : Nat))).heap.size = W.heap.size := by simp
  have far : ∀ b j, b ≠ n + 1 + 1 → (W.setCell ⟨n + 1 + 1, k, none⟩ (.int .u32 (G k : Nat))).cell? ⟨b, j, none⟩ = W.cell? ⟨b, j, none⟩ := fun b j hb => World.cell?_setCell_other W ⟨n + 1 + 1, k, none⟩ ⟨b, j, none⟩ _ (fun e => hb (congrArg Addr.block e).symm)
  refine ⟨fun j v hv => ?_, fun j v hv => ?_, fun j hj => ?_, fun j => ?_, ?_, ?_⟩
  · rw [far n _ (by omega)]
    exact h1 j v hv
  · have hj : j < 32 := by
      rcases Nat.lt_or_ge j 32 with h | h
      · exact h
      · rw [List.getElem?_eq_none (by rw [rowF_len]; exact h)] at hv; cases hv
    rw [rowF_get _ j hj] at hv
    simp only [Option.some.injEq] at hv
    subst hv
    rw [Nat.zero_add]
    have hc := range_row h2 j hj
    by_cases e : j = k
    · subst e
      rw [if_pos (by omega)]
      exact World.cell?_setCell_same W ⟨n + 1 + 1, j, none⟩ _ hc
    · rw [World.cell?_setCell_other W ⟨n + 1 + 1, k, none⟩ ⟨n + 1 + 1, j, none⟩ _ (fun e2 => e (congrArg Addr.off e2).symm), hc]
      by_cases h7 : j < k
      · rw [if_pos h7, if_pos (by omega)]
      · rw [if_neg h7, if_neg (by omega)]
  · obtain ⟨g1, g2⟩ := h3 j hj
    rw [far _ _ (by omega)]
    refine ⟨g1, ?_⟩
    rw [Nat.zero_add] at g2 ⊢
    simp [g2]
  · simp [h4 j]
  · omega
  · exact h6.setCell (by show n ≤ n + 1 + 1; omega) _
end Go.Proofs.YtjkipbjphdfemaaDoor
