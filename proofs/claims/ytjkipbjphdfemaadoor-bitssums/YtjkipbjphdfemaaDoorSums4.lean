import Derived.Test.YtjkipbjphdfemaaDoorSums3
namespace Go.Proofs.YtjkipbjphdfemaaDoor
open Go.ChangeShapes Go.WideShapes Go.ChangeAt Go.RowKit Go.MuLone
set_option linter.unusedVariables false

theorem square_row (F G : Nat → Nat) (w : World) (hF : ∀ i, i < 32 → F i < 4294967296) (hG : ∀ i, i < 32 → G i = thS F (F i) 32) :
    Calls Tryd.prog 17 #[.agg (rowF F).toArray] w fun e w' => e = .returned (.agg (rowF G).toArray) ∧ Below w.heap.size w w' := by
  rw [rowF_lit F]
  exact square_any F G w hF hG
/-- The table of moves by j bits, in the block n. -/
def MvS (w : World) (F : Nat → Nat) (n : Nat) (W : World) : Prop := W.rangeAt n 0 (rowF F) ∧ (∀ j, W.frozen? ⟨n, j, none⟩ = false) ∧ n < W.heap.size ∧ Below n w W
theorem MvS.there {w W : World} {F : Nat → Nat} {n : Nat} (h : MvS w F n W) : W.there n 0 32 := fun j hj => ⟨by rw [Nat.zero_add, range_row h.1 j hj]; rfl, by rw [Nat.zero_add]; exact h.2.1 j⟩
theorem mv_lt (j i : Nat) (h : i < 32) : itN j (2 ^ i) < 4294967296 := itN_lt j _ (by
  have : (2 : Nat) ^ i ≤ 2 ^ 31 := Nat.pow_le_pow_right (by omega) (by omega)
  have e : (2 : Nat) ^ 31 = 2147483648 := by decide
  omega)
theorem MvS.later {w W W' : World} {F : Nat → Nat} {n : Nat} (h : MvS w F n W) (hb : Below W.heap.size W W') : MvS w F n W' := by
  obtain ⟨h1, h2, h3, h4⟩ := h
  have hz := hb.size
  exact ⟨fun j v hv => (hb.cell (p := ⟨n, 0 + j, none⟩) h3).trans (h1 j v hv), fun j => (World.frozen?_of_block (w := W) (hb.block n h3)).trans (h2 j), by omega, h4.trans (hb.mono (by omega))⟩
theorem MvS.start (w : World) : MvS w (fun _ => 0) w.heap.size (w.alloc (.cells #[.int .u32 0, .int .u32 0, .int .u32 0, .int .u32 0, .int .u32 0, .int .u32 0, .int .u32 0, .int .u32 0, .int .u32 0, .int .u32 0, .int .u32 0, .int .u32 0, .int .u32 0, .int .u32 0, .int .u32 0, .int .u32 0, .int .u32 0, .int .u32 0, .int .u32 0, .int .u32 0, .int .u32 0, .int .u32 0, .int .u32 0, .int .u32 0, .int .u32 0, .int .u32 0, .int .u32 0, .int .u32 0, .int .u32 0, .int .u32 0, .int .u32 0, .int .u32 0] 54)) := by
  rw [← rowZ_lit]
  refine ⟨fun j v hv => ?_, fun j => World.frozen?_alloc_at _ _ _ _ rfl, by show _ < (Array.push _ _).size; simp, (Below.refl _ _).alloc (Nat.le_refl _) _⟩
  rw [Nat.zero_add, World.cell?_alloc_at _ _ _ _ rfl, List.getElem?_toArray]
  exact hv
theorem MvS.put {w W : World} {H : Nat → Nat} {n k : Nat} (h : MvS w (fun i => if i < k then H i else 0) n W) (hk : k < 32) : MvS w (fun i => if i < k + 1 then H i else 0) n (W.setCell ⟨n, k, none⟩ (.int .u32 (H k : Nat))) := by
  obtain ⟨h1, h2, h3, h4⟩ := h
  have hs : (W.setCell ⟨n, k, none⟩ (.int .u32 (H k : Nat))).heap.size = W.heap.size := by simp
  refine ⟨fun j v hv => ?_, fun j => by simp [h2 j], by omega, h4.setCell (Nat.le_refl _) _⟩
  have hj : j < 32 := by
    rcases Nat.lt_or_ge j 32 with h | h
    · exact h
    · rw [List.getElem?_eq_none (by rw [rowF_len]; exact h)] at hv; cases hv
  rw [rowF_get _ j hj] at hv
  simp only [Option.some.injEq] at hv
  subst hv
  rw [Nat.zero_add]
  have hc := range_row h1 j hj
  by_cases e : j = k
  · subst e
    rw [if_pos (by omega)]
    exact World.cell?_setCell_same W ⟨n, j, none⟩ _ hc
  · rw [World.cell?_setCell_other W ⟨n, k, none⟩ ⟨n, j, none⟩ _ (fun e2 => e (congrArg Addr.off e2).symm), hc]
    by_cases h7 : j < k
    · rw [if_pos h7, if_pos (by omega)]
    · rw [if_neg h7, if_neg (by omega)]
theorem MvS.set {w W : World} {F G : Nat → Nat} {n : Nat} (h : MvS w F n W) : MvS w G n (W.setCells n 0 (rowF G)) := by
  have ht : W.there n 0 (rowF G).length := by rw [rowF_len]; exact h.there
  obtain ⟨h1, h2, h3, h4⟩ := h
  have hs : ∀ (vs : List Value) (o : Nat) (W : World), (W.setCells n o vs).heap.size = W.heap.size := by
    intro vs
    induction vs with
    | nil => intro o W; rfl
    | cons v r ih => intro o W; show ((W.setCell ⟨n, o, none⟩ v).setCells n (o + 1) r).heap.size = _; rw [ih]; simp
  exact ⟨World.rangeAt_setCells_same W n 0 _ ht, fun j => by rw [World.frozen?_setCells]; exact h2 j, by rw [hs]; exact h3, below_setCells n (Nat.le_refl _) _ _ _ h4⟩
theorem store_cells {w W : World} {F G : Nat → Nat} {n : Nat} (h : MvS w F n W) : (storeCells ⟨n, 0, none⟩ (rowF G)).run Tryd.prog W = .ok () (W.setCells n 0 (rowF G)) := by
  have ht := h.there
  have := run_storeCells_cells (P := Tryd.prog) n 0 (rowF G) 0 W (fun j hj => by rw [rowF_len] at hj; exact (ht j hj).1) (fun j hj => by rw [rowF_len] at hj; exact (ht j hj).2) (fun v hv => by
    obtain ⟨i, _, rfl⟩ := List.mem_map.1 hv
    rfl)
  simpa using this
theorem mv_full (w W : World) (n : Nat) (h : MvS w (fun i => if i < 32 then nN (2 ^ i) else 0) n W) : MvS w (fun i => itN 1 (2 ^ i)) n W := by
  obtain ⟨h1, h2, h3, h4⟩ := h
  rw [rowF_if (fun i => nN (2 ^ i))] at h1
  exact ⟨h1, h2, h3, h4⟩
theorem mv_th (j A : Nat) (hA : A < 4294967296) : thS (fun i => itN j (2 ^ i)) A 32 = itN j A := by
  rw [thS_it, show (2 : Nat) ^ 32 = 4294967296 by decide, Nat.mod_eq_of_lt hA]
theorem down_pow (k : Nat) (w : World) (hk : k < 32) : Calls Tryd.prog 15 #[.int .u32 ((2 : Int) ^ k % 4294967296)] w fun e w' => e = .returned (.int .u32 (nN (2 ^ k) : Nat)) ∧ w' = w := by
  have h := mv_lt 0 k hk
  have e : (2 : Int) ^ k % 4294967296 = ((2 ^ k : Nat) : Int) := by
    have e2 : (2 : Int) ^ k = ((2 ^ k : Nat) : Int) := by rw [Int.natCast_pow]; rfl
    rw [e2]
    have h2 : (2 : Nat) ^ k < 4294967296 := h
    generalize (2 : Nat) ^ k = q at *
    omega
  rw [e]
  exact down_any (2 ^ k) w h
set_option maxRecDepth 100000 in
set_option maxHeartbeats 1600000 in
theorem ref_combine (a b : Nat) (n : Int) (w : World) (ha : a < 4294967296) (hb : b < 4294967296) (h0 : 0 ≤ n) (h1 : n ≤ 1048576) :
    Calls Tryd.prog 12 #[.int .u32 (a : Int), .int .u32 (b : Int), .int .i64 n] w fun e w' => e = .returned (.tuple #[.int .u32 (itN (8 * n.toNat) a ^^^ b : Nat), .int .i64 0]) ∧ Below w.heap.size w w' := by
  obtain ⟨m, rfl⟩ : ∃ m : Nat, n = (m : Int) := ⟨n.toNat, by omega⟩
  go_enter Tryd.func12, Tryd.ntmps12
  have HM0 : Hid (MvS w (fun i => if i < 0 then nN (2 ^ i) else 0) w.heap.size _) := MvS.start w
  go_wp2
  go_loopw [9] (fun i wr => ∃ k : Nat, k ≤ 32 ∧ i = .int .i64 k ∧ MvS w (fun i => if i < k then nN (2 ^ i) else 0) w.heap.size wr) (fun i _ => 32 - (intOf i).toNat)
  case atStart => exact ⟨0, by omega, rfl, HM0.out⟩
  case round =>
    obtain ⟨k, hk, rfl, hM⟩ := hrel
    have HM : Hid (MvS w (fun i => if i < k then nN (2 ^ i) else 0) w.heap.size wr) := hM
    by_cases h2 : k < 32
    · have c1 : wr.cell? ⟨w.heap.size, k, none⟩ = some (.int .u32 0) := by
        have := range_row hM.1 k h2
        rwa [if_neg (by omega)] at this
      have f1 : wr.frozen? ⟨w.heap.size, k, none⟩ = false := hM.2.1 k
      have h31 := mv_lt 0 k h2
      have HP : Hid (2 ^ k < 4294967296) := h31
      clear hM h31
      go_wp2_with fail
      refine (down_pow k wr h2).mono ?_
      rintro e w' ⟨rfl, rfl⟩
      have HM2 : Hid (MvS w (fun i => if i < k + 1 then nN (2 ^ i) else 0) w.heap.size (w'.setCell ⟨w.heap.size, k, none⟩ (.int .u32 (nN (2 ^ k) : Nat)))) := MvS.put (H := fun i => nN (2 ^ i)) HM.out h2
      clear HM HM0
      go_wp2
      go_roundw
      case rel => exact ⟨k + 1, by omega, by go_num, HM2.out⟩
      case measure => simp [intOf]; omega
    · have e32 : k = 32 := by omega
      subst e32
      have HM1 : Hid (MvS w (fun i => itN 1 (2 ^ i)) w.heap.size wr) := mv_full _ _ _ hM
      clear hM HM HM0
      go_wp2_with fail
      rw [show ((32 : Nat) : Int) = 32 from rfl]
      go_loopw [0, 10] (fun x y wr => ∃ j N A : Nat, A < 4294967296 ∧ N ≤ 8388608 ∧ itN (j * N) A = itN (8 * m) a ∧ x = .int .u32 (A : Int) ∧ y = .int .i64 (N : Int) ∧ MvS w (fun i => itN j (2 ^ i)) w.heap.size wr) (fun _ y _ => (intOf y).toNat)
      case atStart => exact ⟨1, 8 * m, a, ha, by omega, by rw [Nat.one_mul], rfl, by rw [show ((8 * m : Nat) : Int) = 8 * (m : Int) by omega], HM1.out⟩
      case round =>
        obtain ⟨j, N, A, hA, hN, hI, rfl, rfl, hMv⟩ := hrel
        have HI : Hid (itN (j * N) A = itN (8 * m) a) := hI
        have HMv : Hid (MvS w (fun i => itN j (2 ^ i)) w.heap.size wr) := hMv
        clear hI hMv
        by_cases hz : N = 0
        · subst hz
          have HI2 : Hid (A = itN (8 * m) a) := by show _ = _; have := HI.out; simpa [itN] using this
          have hx : bits .xor .u32 (A : Int) (b : Int) = ((A ^^^ b : Nat) : Int) := u32_xor_nat _ _ hA hb
          go_wp2
          go_ret2
          exact ⟨by rw [Int.toNat_natCast, ← HI2.out]; rfl, HMv.out.2.2.2⟩
        · have hpos : (0 : Int) < (N : Int) := by omega
          have hmod : (N : Int).tmod 2 = (N : Int) % 2 := Int.tmod_eq_emod_of_nonneg (by omega)
          have hdiv : (N : Int).tdiv 2 = (N : Int) / 2 := Int.tdiv_eq_ediv_of_nonneg (by omega)
          have HT : Hid (∀ W, MvS w (fun i => itN j (2 ^ i)) w.heap.size W → Calls Tryd.prog 16 #[.agg (rowF fun i => itN j (2 ^ i)).toArray, .int .u32 (A : Int)] W fun e w' => e = .returned (.int .u32 (itN j A : Nat)) ∧ Hid (MvS w (fun i => itN j (2 ^ i)) w.heap.size w')) := fun W hW => (through_any (fun i => itN j (2 ^ i)) A W hA (fun i hi => mv_lt j i hi)).mono fun e w' ⟨he, hw⟩ => ⟨by rw [he, mv_th j A hA], by rw [hw]; exact hW.later ((Below.refl _ _).alloc (Nat.le_refl _) _)⟩
          have HS : Hid (∀ W, MvS w (fun i => itN j (2 ^ i)) w.heap.size W → Calls Tryd.prog 17 #[.agg (rowF fun i => itN j (2 ^ i)).toArray] W fun e w' => e = .returned (.agg (rowF fun i => itN (j + j) (2 ^ i)).toArray) ∧ Hid (MvS w (fun i => itN j (2 ^ i)) w.heap.size w')) := fun W hW => (square_row (fun i => itN j (2 ^ i)) (fun i => itN (j + j) (2 ^ i)) W (fun i hi => mv_lt j i hi) (fun i hi => by rw [mv_th j _ (mv_lt j i hi), ← itN_add])).mono fun e w' ⟨he, hb⟩ => ⟨he, hW.later hb⟩
          generalize hFe : (fun i => itN j (2 ^ i)) = F at *
          generalize hGe : (fun i => itN (j + j) (2 ^ i)) = G at *
          by_cases hodd : N % 2 = 1
          · have h3 : ((N : Int) % 2 == 1) = true := by simp; omega
            have HI3 : Hid (itN ((j + j) * (N / 2)) (itN j A) = itN (8 * m) a) := by
              show _ = _
              rw [← HI.out, ← itN_add]
              congr 1
              have e : N = 2 * (N / 2) + 1 := by omega
              conv => rhs; rw [e]
              rw [Nat.mul_add, Nat.mul_one, Nat.add_comm, ← Nat.mul_assoc]
              congr 2
              omega
            have hA2 := itN_lt j A hA
            go_wp2_with (first | (refine wpList_load_mid (by rfl) 54 (.tmp 8) (by rfl) w.heap.size 0 (by rfl) (rowF F) _ HMv.out.1 u32x rfl (by rw [rowF_len]; exact i32x) ?_))
            refine (HT.out wr HMv.out).mono ?_
            rintro e w2 ⟨rfl, HM2⟩
            go_wp2_with (first | (refine wpList_load_mid (by rfl) 54 (.tmp 8) (by rfl) w.heap.size 0 (by rfl) (rowF F) _ HM2.out.1 u32x rfl (by rw [rowF_len]; exact i32x) ?_))
            refine (HS.out _ HM2.out).mono ?_
            rintro e w3 ⟨rfl, HM3⟩
            have hst := store_cells (G := G) HM3.out
            have hlG := rowF_len G
            have HM4 : Hid (MvS w G w.heap.size (w3.setCells w.heap.size 0 (rowF G))) := HM3.out.set
            clear HMv HT HS
            go_wp2
            go_roundw
            case rel => exact ⟨j + j, N / 2, itN j A, hA2, by omega, HI3.out, rfl, by rw [show ((N / 2 : Nat) : Int) = (N : Int) / 2 by omega], by rw [hGe]; exact HM4.out⟩
            case measure => simp [intOf]; omega
          · have h3 : ((N : Int) % 2 == 1) = false := by simp; omega
            have HI3 : Hid (itN ((j + j) * (N / 2)) A = itN (8 * m) a) := by
              show _ = _
              rw [← HI.out]
              congr 1
              have e : N = 2 * (N / 2) := by omega
              conv => rhs; rw [e]
              rw [← Nat.mul_assoc]
              congr 1
              omega
            go_wp2_with (first | (refine wpList_load_mid (by rfl) 54 (.tmp 8) (by rfl) w.heap.size 0 (by rfl) (rowF F) _ HMv.out.1 u32x rfl (by rw [rowF_len]; exact i32x) ?_))
            refine (HS.out _ HMv.out).mono ?_
            rintro e w3 ⟨rfl, HM3⟩
            have hst := store_cells (G := G) HM3.out
            have hlG := rowF_len G
            have HM4 : Hid (MvS w G w.heap.size (w3.setCells w.heap.size 0 (rowF G))) := HM3.out.set
            clear HMv HT HS
            go_wp2
            go_roundw
            case rel => exact ⟨j + j, N / 2, A, hA, by omega, HI3.out, rfl, by rw [show ((N / 2 : Nat) : Int) = (N : Int) / 2 by omega], by rw [hGe]; exact HM4.out⟩
            case measure => simp [intOf]; omega
end Go.Proofs.YtjkipbjphdfemaaDoor
