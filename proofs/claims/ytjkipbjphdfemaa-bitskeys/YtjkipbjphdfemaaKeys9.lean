import Derived.Test.YtjkipbjphdfemaaKeys7
namespace Go.Proofs.Ytjkipbjphdfemaa
open Go.ChangeShapes Go.WideShapes Go.ChangeAt Go.RowKit
set_option linter.unusedVariables false

set_option maxRecDepth 100000 in
theorem ref_size (u : Nat) (w : World) (hu : u < 18446744073709551616) : Calls Try.prog 42 #[.int .u64 u] w fun e w' => e = .returned (.int .i64 (szB u)) ∧ w' = w := by
  go_enter Try.func42, Try.ntmps42
  go_wp2
  go_loop [0, 3] (fun u' n' => ∃ (f y n : Nat), u' = .int .u64 y ∧ n' = .int .i64 n ∧ f + n = 8 ∧ y < 256 ^ f ∧ szF f y + n = szB u) (fun u' _ => (intOf u').toNat)
  case atStart => exact ⟨8, u, 0, rfl, rfl, rfl, hu, rfl⟩
  case round =>
    obtain ⟨f, y, n, rfl, rfl, hfn, hy, hz⟩ := hrel
    by_cases hp : 0 < y
    · have hp2 : (0 : Int) < (y : Int) := by omega
      obtain ⟨f', rfl⟩ : ∃ f', f = f' + 1 := by
        cases f with
        | zero => simp at hy; omega
        | succ f' => exact ⟨f', rfl⟩
      have HY : Hid (y / 256 < 256 ^ f') := by show _ < _; rw [Nat.pow_succ] at hy; omega
      have HZ : Hid (szF f' (y / 256) + (n + 1) = szB u) := by show _ = _; rw [szF_pos f' y hp] at hz; omega
      have hyb : y ≤ 18446744073709551615 := by
        have h8 : 256 ^ (f' + 1) ≤ 256 ^ 8 := Nat.pow_le_pow_right (by omega) (by omega)
        have h9 : (256 : Nat) ^ 8 = 18446744073709551616 := by decide
        omega
      clear hy hz
      go_wp2
      go_round
      case rel => exact ⟨f', y / 256, n + 1, by go_num, by go_num, by omega, HY.out, HZ.out⟩
      case measure => simp [intOf]; omega
    · have h0 : y = 0 := by omega
      subst h0
      rw [szF_zero] at hz
      go_wp2
      go_ret
      exact ⟨ret_eq (by omega), rfl⟩
/-- A byte laid over with turn. -/
def tb (tn x : Int) : Int := if tn = 0 then x else 255 - x
theorem xor_tb (x tn : Int) (h : tn = 0 ∨ tn = 255) : bits .xor .u8 (x % 256) tn = tb tn (x % 256) := by
  rw [u8_xor _ _ (by omega) (by omega) (by omega) (by omega)]
  have key0 : ∀ x : Fin 256, (x.val ^^^ 0) = x.val := by decide +kernel
  have key1 : ∀ x : Fin 256, (x.val ^^^ 255) = 255 - x.val := by decide +kernel
  have a0 := key0 ⟨(x % 256).toNat, by omega⟩
  have a1 := key1 ⟨(x % 256).toNat, by omega⟩
  simp only at a0 a1
  rcases h with rfl | rfl
  · rw [show ((0 : Int).toNat) = 0 from rfl, a0]; unfold tb; rw [if_pos rfl]; omega
  · rw [show ((255 : Int).toNat) = 255 from rfl, a1]; unfold tb; rw [if_neg (by decide)]; omega
theorem dv (u : Int) (j : Nat) : u / 2 ^ (8 * j) / 256 = u / 2 ^ (8 * (j + 1)) := by
  have h : (2 : Int) ^ (8 * (j + 1)) = 2 ^ (8 * j) * 256 := by
    rw [Nat.mul_add, Int.pow_add]; rfl
  have h0 : (0 : Int) ≤ 2 ^ (8 * j) := Int.le_of_lt (Int.pow_pos (by decide))
  rw [h, Int.ediv_ediv_of_nonneg h0]
def hiT (tn : Int) (n : Nat) (u : Int) : List Int := (hiB n u).map (tb tn)
theorem hiT_len (tn : Int) (n : Nat) (u : Int) : (hiT tn n u).length = n := by unfold hiT; rw [List.length_map, hiB_len]
theorem set_step (i : Nat) (c : Int) (r : List Int) : (List.replicate (i + 1) (0 : Int) ++ r).set i c = List.replicate i 0 ++ c :: r := by
  rw [List.replicate_succ', List.append_assoc, List.set_append_right _ _ (by simp)]
  simp
set_option maxRecDepth 100000 in
set_option maxHeartbeats 800000 in
theorem ref_high (u n : Nat) (tn : Int) (w : World) (hu : u < 18446744073709551616) (hn : n ≤ 8) (ht : tn = 0 ∨ tn = 255) : Calls Try.prog 43 #[.int .u64 u, .int .i64 n, .int .u8 tn] w fun e w' => e = .returned (.slice (some ⟨w.heap.size, 0, none⟩) n n) ∧ ownB w' w.heap.size (.slice (some ⟨w.heap.size, 0, none⟩) n n) (hiT tn n u) ∧ Below w.heap.size w w' := by
  obtain ⟨i0, hi, hz0, hz1, hz2⟩ := info_parts infoB
  obtain ⟨w1, hmk, hown, hgrow⟩ := run_make_full (P := Try.prog) w w.heap.size 46 5 i0 (.int .u8 0) 1 Try.underlying46 hi hz0 hz1 .i64 .i64 n (by rw [hz2]; omega) (by unfold maxLen; omega) (Nat.le_refl _)
  have hO : ownB w1 w.heap.size (.slice (some ⟨w.heap.size, 0, none⟩) n n) (List.replicate n 0) := by
    rw [Nat.mul_one, show (Value.int .u8 0).cells = #[.int .u8 0] from rfl, toList_madeCells_one] at hown
    unfold ownB
    rw [List.length_replicate, List.map_replicate]
    exact hown
  have HO : Hid (ownB w1 w.heap.size (.slice (some ⟨w.heap.size, 0, none⟩) n n) (List.replicate n 0)) := hO
  have HB : Hid (Below w.heap.size w w1) := (Below.refl _ _).grown hgrow (Nat.le_refl _) (fun k hk => by cases hk)
  clear hown hgrow hO hi hz0 hz1 hz2
  go_enter Try.func43, Try.ntmps43
  go_wp2
  generalize hg : w.heap.size = g at *
  go_loopw [0, 8] (fun u' i wr => ∃ k j y : Nat, k + j = n ∧ i = .int .i64 ((k : Int) - 1) ∧ u' = .int .u64 y ∧ (y : Int) = (u : Int) / 2 ^ (8 * j) ∧ ownB wr g (.slice (some ⟨g, 0, none⟩) n n) (List.replicate k 0 ++ hiT tn j u) ∧ Below g w wr) (fun _ i _ => (intOf i + 1).toNat)
  case atStart => exact ⟨n, 0, u, by omega, rfl, rfl, by simp, by simpa [hiT, hiB] using HO.out, HB.out⟩
  case round =>
    obtain ⟨k, j, y, hkj, rfl, rfl, hy, hown1, hbel⟩ := hrel
    have HY : Hid ((y : Int) = (u : Int) / 2 ^ (8 * j)) := hy
    have HB1 : Hid (Below g w wr) := hbel
    have hyu : y ≤ u := by
      have h7 : (u : Int) / 2 ^ (8 * j) ≤ u := Int.ediv_le_self _ (by omega)
      omega
    match k, hkj, hown1 with
    | 0, hkj, hown1 =>
      have hj : j = n := by omega
      subst hj
      have ho1 : ownB wr g (.slice (some ⟨g, 0, none⟩) j j) (hiT tn j u) := by simpa using hown1
      have HO1 : Hid (ownB wr g (.slice (some ⟨g, 0, none⟩) j j) (hiT tn j u)) := ho1
      clear hown1 hy hbel ho1
      go_wp2
      go_ret
      exact ⟨by rw [hg]; rfl, by rw [hg]; exact HO1.out, by rw [hg]; exact HB1.out⟩
    | k + 1, hkj, hown1 =>
      have hl : (List.replicate (k + 1) (0 : Int) ++ hiT tn j u).length = n := by rw [List.length_append, List.length_replicate, hiT_len]; omega
      have hraw : wr.ownsRow g 5 1 (.slice (some ⟨g, 0, none⟩) n n) n ((List.replicate (k + 1) (0 : Int) ++ hiT tn j u).map (Value.int .u8)) := by
        have h6 := hown1
        unfold ownB at h6
        rw [hl] at h6
        exact h6
      have hcl : wr.cell? ⟨g, k, none⟩ = some (.int .u8 0) := by
        rw [hraw.cellAt k (by omega)]
        simp [List.getElem?_append_left]
      have hfz : wr.frozen? ⟨g, k, none⟩ = false := hraw.frozenAt k
      have hst : ownB (wr.setCell ⟨g, k, none⟩ (.int .u8 (tb tn ((y : Int) % 256)))) g (.slice (some ⟨g, 0, none⟩) n n) (List.replicate k 0 ++ hiT tn (j + 1) u) := by
        have h5 := (hraw.stored k (.int .u8 (tb tn ((y : Int) % 256)))).1
        rw [← List.map_set, set_step] at h5
        have e5 : tb tn ((y : Int) % 256) :: hiT tn j u = hiT tn (j + 1) u := by rw [hy]; rfl
        rw [e5] at h5
        have e6 : (List.replicate k (0 : Int) ++ hiT tn (j + 1) u).length = n := by rw [List.length_append, List.length_replicate, hiT_len]; omega
        unfold ownB
        rw [e6]
        exact h5
      have HST : Hid (ownB (wr.setCell ⟨g, k, none⟩ (.int .u8 (tb tn ((y : Int) % 256)))) g (.slice (some ⟨g, 0, none⟩) n n) (List.replicate k 0 ++ hiT tn (j + 1) u)) := hst
      have HB2 : Hid (Below g w (wr.setCell ⟨g, k, none⟩ (.int .u8 (tb tn ((y : Int) % 256))))) := hbel.setCell (Nat.le_refl _) _
      have hxor := xor_tb (y : Int) tn ht
      have hk0 : (0 : Int) ≤ (k : Int) := by omega
      have hk1 : (k : Int) < (n : Int) := by omega
      have HY2 : Hid (((y / 256 : Nat) : Int) = (u : Int) / 2 ^ (8 * (j + 1))) := by show _ = _; rw [← dv, ← hy]; omega
      clear hown1 hy hbel hraw hl hst
      go_wp2
      go_roundw
      case rel => exact ⟨k, j + 1, y / 256, by omega, rfl, by go_num, HY2.out, HST.out, HB2.out⟩
      case measure => simp [intOf]
end Go.Proofs.Ytjkipbjphdfemaa
