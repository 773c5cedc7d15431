import Derived.Test.YtjcffcpmegpjeaaGreatDoorKeys7
namespace Go.Proofs.YtjcffcpmegpjeaaGreatDoor
open Go.ChangeShapes Go.WideShapes Go.ChangeAt Go.RowKit
set_option linter.unusedVariables false
set_option maxRecDepth 100000

set_option maxRecDepth 100000 in
set_option maxHeartbeats 1600000 in
theorem ref_fault (v : Int × Int × ByteArray) (w : World) (hs : v.2.2.size ≤ 9223372036854775807) : Calls Tryz.prog 55 #[.agg #[.int .i64 v.1, .int .i64 v.2.1, .string v.2.2]] w fun e w' => e = .returned (.int .i64 (faultV v)) ∧ Below w.heap.size w w' := by
  obtain ⟨kd, b, c⟩ := v
  have HB : Hid (Below w.heap.size w (w.alloc (.cells #[.int .i64 kd, .int .i64 b, .string c] 59))) := (Below.refl _ _).alloc (Nat.le_refl _) _
  simp only at hs ⊢
  by_cases hkd : kd = 0 ∨ kd = 1 ∨ kd = 2 ∨ kd = 3
  · rcases hkd with rfl | rfl | rfl | rfl
    · have HV : Hid (faultV (0, b, c) = if (b == 0 && c.toList.isEmpty) then 0 else 19) := rfl
      cases h1 : (b == 0) <;> cases h2 : c.toList.isEmpty
      all_goals
        rw [h1, h2] at HV
        go_enter Tryz.func55, Tryz.ntmps55
        go_wp2
        go_ret
        exact ⟨ret_eq (by rw [HV.out]; rfl), HB.out⟩
    · have HV : Hid (faultV (1, b, c) = if ((b == 0 || b == 1) && c.toList.isEmpty) then 0 else 19) := rfl
      cases h1 : (b == 0) <;> cases h3 : (b == 1) <;> cases h2 : c.toList.isEmpty
      all_goals
        rw [h1, h3, h2] at HV
        go_enter Tryz.func55, Tryz.ntmps55
        go_wp2
        go_ret
        exact ⟨ret_eq (by rw [HV.out]; rfl), HB.out⟩
    · have HV : Hid (faultV (2, b, c) = if c.toList.isEmpty then 0 else 19) := rfl
      cases h2 : c.toList.isEmpty
      all_goals
        rw [h2] at HV
        go_enter Tryz.func55, Tryz.ntmps55
        go_wp2
        go_ret
        exact ⟨ret_eq (by rw [HV.out]; rfl), HB.out⟩
    · have HV : Hid (faultV (3, b, c) = if (b == 0 && decide (4096 < c.size)) then 4 else if b == 0 then 0 else 19) := rfl
      by_cases h4 : 4096 < c.size
      · cases h1 : (b == 0)
        all_goals
          rw [h1, decide_eq_true h4] at HV
          go_enter Tryz.func55, Tryz.ntmps55
          go_wp2
          go_ret
          exact ⟨ret_eq (by rw [HV.out]; rfl), HB.out⟩
      · cases h1 : (b == 0)
        all_goals
          rw [h1, decide_eq_false h4] at HV
          go_enter Tryz.func55, Tryz.ntmps55
          go_wp2
          go_ret
          exact ⟨ret_eq (by rw [HV.out]; rfl), HB.out⟩
  · have HV : Hid (faultV (kd, b, c) = 19) := by show _ = _; unfold faultV; rw [if_pos (by simp only; omega)]
    have k0 : ¬ kd = 0 := by omega
    have k1 : ¬ kd = 1 := by omega
    have k2 : ¬ kd = 2 := by omega
    have k3 : ¬ kd = 3 := by omega
    go_enter Tryz.func55, Tryz.ntmps55
    go_wp2
    go_ret
    exact ⟨ret_eq (by rw [HV.out]), HB.out⟩
set_option maxRecDepth 100000 in
set_option maxHeartbeats 1600000 in
theorem ref_faults (a : Value) (vs : List (Int × Int × ByteArray)) (B : Nat) (w : World) (hB : B ≤ w.heap.size) (ha : SeesV w B a vs) (hv : ∀ v ∈ vs, v.2.2.size ≤ 9223372036854775807) :
    Calls Tryz.prog 56 #[a] w fun e w' => e = .returned (.int .i64 (if 16 < vs.length then 18 else faultL vs)) ∧ Below B w w' := by
  obtain ⟨ao, cap, rfl, hl1, hc1, hs1⟩ := ha
  have HA : Hid _ := hs1
  clear hs1
  by_cases hm : 16 < vs.length
  · go_enter Tryz.func56, Tryz.ntmps56
    go_wp2
    go_ret
    exact ⟨rfl, Below.refl _ _⟩
  rw [if_neg hm]
  go_enter Tryz.func56, Tryz.ntmps56
  go_wp2
  go_loopw [3] (fun i wr => ∃ k : Nat, k ≤ vs.length ∧ i = .int .i64 k ∧ faultL vs = faultL (vs.drop k) ∧ Below B w wr) (fun i _ => vs.length - (intOf i).toNat)
  case atStart => exact ⟨0, by omega, rfl, rfl, Below.refl _ _⟩
  case round =>
    obtain ⟨k, hk, rfl, hfl, hbel⟩ := hrel
    have HF : Hid (faultL vs = faultL (vs.drop k)) := hfl
    have HBl : Hid (Below B w wr) := hbel
    have hBr : B ≤ wr.heap.size := by have := hbel.size; omega
    clear hfl hbel
    by_cases h1 : k < vs.length
    · obtain ⟨b1, o1, e1, hb1, x0, x1, x2⟩ := HA.out k h1
      have y0 := (HBl.out.cell (p := ⟨b1, o1 + k * 3, none⟩) hb1).trans x0
      have y1 := (HBl.out.cell (p := ⟨b1, o1 + k * 3 + 1, none⟩) hb1).trans x1
      have y2 := (HBl.out.cell (p := ⟨b1, o1 + k * 3 + 2, none⟩) hb1).trans x2
      clear x0 x1 x2
      subst e1
      have HS : Hid (faultL (vs.drop k) = if faultV vs[k] ≠ 0 then faultV vs[k] else faultL (vs.drop (k + 1))) := faultL_step vs k h1
      have hvs := hv _ (List.getElem_mem h1)
      go_wp2_with fail
      refine (ref_fault vs[k] _ hvs).mono ?_
      rintro e w1 ⟨rfl, hb3⟩
      have HB3 : Hid (Below B w w1) := HBl.out.trans (hb3.mono hBr)
      clear hb3 HBl y0 y1 y2
      generalize faultV vs[k] = c at *
      cases hc : (c != 0)
      · have hc0 : c = 0 := by simpa using hc
        have HZ : Hid (c = 0) := hc0
        clear hc0
        go_wp2
        go_roundw
        case rel => exact ⟨k + 1, by omega, by go_num, by rw [HF.out, HS.out, if_neg (by simp [HZ.out])], HB3.out⟩
        case measure => simp [intOf]; omega
      · have HZ : Hid (c ≠ 0) := by show _ ≠ _; simpa using hc
        go_wp2
        go_ret
        exact ⟨by rw [HF.out, HS.out, if_pos HZ.out]; rfl, HB3.out⟩
    · have HE2 : Hid (faultL (vs.drop k) = 0) := faultL_end vs k (by omega)
      go_wp2
      go_ret
      exact ⟨by rw [HF.out, HE2.out]; rfl, HBl.out⟩
end Go.Proofs.YtjcffcpmegpjeaaGreatDoor

namespace Go.Proofs.YtjcffcpmegpjeaaGreatDoor
open Go.ChangeShapes Go.WideShapes Go.ChangeAt Go.RowKit
set_option linter.unusedVariables false

set_option maxRecDepth 100000 in
theorem ref_size (u : Nat) (w : World) (hu : u < 18446744073709551616) : Calls Tryz.prog 83 #[.int .u64 u] w fun e w' => e = .returned (.int .i64 (szB u)) ∧ w' = w := by
  go_enter Tryz.func83, Tryz.ntmps83
  go_wp2
  go_loop [0, 3] (fun u' n' => ∃ (f y n : Nat), u' = .int .u64 y ∧ n' = .int .i64 n ∧ f + n = 8 ∧ y < 256 ^ f ∧ szF f y + n = szB u) (fun u' _ => (intOf u').toNat)
  case atStart => exact ⟨8, u, 0, rfl, rfl, rfl, hu, rfl⟩
  case round =>
    obtain ⟨f, y, n, rfl, rfl, hfn, hy, hz⟩ := hrel
    by_cases hp : 0 < y
    · have hp2 : (0 : Int) < (y : Int) := by omega
      obtain ⟨f', rfl⟩ : ∃ f', f = f' + 1 := by
        cases f with
        | zero => simp at hy; omega
        | succ f' => exact ⟨f', rfl⟩
      have HY : Hid (y / 256 < 256 ^ f') := by show _ < _; rw [Nat.pow_succ] at hy; omega
      have HZ : Hid (szF f' (y / 256) + (n + 1) = szB u) := by show _ = _; rw [szF_pos f' y hp] at hz; omega
      have hyb : y ≤ 18446744073709551615 := by
        have h8 : 256 ^ (f' + 1) ≤ 256 ^ 8 := Nat.pow_le_pow_right (by omega) (by omega)
        have h9 : (256 : Nat) ^ 8 = 18446744073709551616 := by decide
        omega
      clear hy hz
      go_wp2
      go_round
      case rel => exact ⟨f', y / 256, n + 1, by go_num, by go_num, by omega, HY.out, HZ.out⟩
      case measure => simp [intOf]; omega
    · have h0 : y = 0 := by omega
      subst h0
      rw [szF_zero] at hz
      go_wp2
      go_ret
      exact ⟨ret_eq (by omega), rfl⟩
/-- A byte laid over with turn. -/
def tb (tn x : Int) : Int := if tn = 0 then x else 255 - x
theorem xor_tb (x tn : Int) (h : tn = 0 ∨ tn = 255) : bits .xor .u8 (x % 256) tn = tb tn (x % 256) := by
  rw [u8_xor _ _ (by omega) (by omega) (by omega) (by omega)]
  have key0 : ∀ x : Fin 256, (x.val ^^^ 0) = x.val := by decide +kernel
  have key1 : ∀ x : Fin 256, (x.val ^^^ 255) = 255 - x.val := by decide +kernel
  have a0 := key0 ⟨(x % 256).toNat, by omega⟩
  have a1 := key1 ⟨(x % 256).toNat, by omega⟩
  simp only at a0 a1
  rcases h with rfl | rfl
  · rw [show ((0 : Int).toNat) = 0 from rfl, a0]; unfold tb; rw [if_pos rfl]; omega
  · rw [show ((255 : Int).toNat) = 255 from rfl, a1]; unfold tb; rw [if_neg (by decide)]; omega
theorem dv (u : Int) (j : Nat) : u / 2 ^ (8 * j) / 256 = u / 2 ^ (8 * (j + 1)) := by
  have h : (2 : Int) ^ (8 * (j + 1)) = 2 ^ (8 * j) * 256 := by
    rw [Nat.mul_add, Int.pow_add]; rfl
  have h0 : (0 : Int) ≤ 2 ^ (8 * j) := Int.le_of_lt (Int.pow_pos (by decide))
  rw [h, Int.ediv_ediv_of_nonneg h0]
def hiT (tn : Int) (n : Nat) (u : Int) : List Int := (hiB n u).map (tb tn)
theorem hiT_len (tn : Int) (n : Nat) (u : Int) : (hiT tn n u).length = n := by unfold hiT; rw [List.length_map, hiB_len]
theorem set_step (i : Nat) (c : Int) (r : List Int) : (List.replicate (i + 1) (0 : Int) ++ r).set i c = List.replicate i 0 ++ c :: r := by
  rw [List.replicate_succ', List.append_assoc, List.set_append_right _ _ (by simp)]
  simp
set_option maxRecDepth 100000 in
set_option maxHeartbeats 800000 in
theorem ref_high (u n : Nat) (tn : Int) (w : World) (hu : u < 18446744073709551616) (hn : n ≤ 8) (ht : tn = 0 ∨ tn = 255) : Calls Tryz.prog 84 #[.int .u64 u, .int .i64 n, .int .u8 tn] w fun e w' => e = .returned (.slice (some ⟨w.heap.size, 0, none⟩) n n) ∧ ownB w' w.heap.size (.slice (some ⟨w.heap.size, 0, none⟩) n n) (hiT tn n u) ∧ Below w.heap.size w w' := by
  obtain ⟨i0, hi, hz0, hz1, hz2⟩ := info_parts infoB
  obtain ⟨w1, hmk, hown, hgrow⟩ := run_make_full (P := Tryz.prog) w w.heap.size 72 5 i0 (.int .u8 0) 1 Tryz.underlying72 hi hz0 hz1 .i64 .i64 n (by rw [hz2]; omega) (by unfold maxLen; omega) (Nat.le_refl _)
  have hO : ownB w1 w.heap.size (.slice (some ⟨w.heap.size, 0, none⟩) n n) (List.replicate n 0) := by
    rw [Nat.mul_one, show (Value.int .u8 0).cells = #[.int .u8 0] from rfl, toList_madeCells_one] at hown
    unfold ownB
    rw [List.length_replicate, List.map_replicate]
    exact hown
  have HO : Hid (ownB w1 w.heap.size (.slice (some ⟨w.heap.size, 0, none⟩) n n) (List.replicate n 0)) := hO
  have HB : Hid (Below w.heap.size w w1) := (Below.refl _ _).grown hgrow (Nat.le_refl _) (fun k hk => by cases hk)
  clear hown hgrow hO hi hz0 hz1 hz2
  go_enter Tryz.func84, Tryz.ntmps84
  go_wp2
  generalize hg : w.heap.size = g at *
  go_loopw [0, 8] (fun u' i wr => ∃ k j y : Nat, k + j = n ∧ i = .int .i64 ((k : Int) - 1) ∧ u' = .int .u64 y ∧ (y : Int) = (u : Int) / 2 ^ (8 * j) ∧ ownB wr g (.slice (some ⟨g, 0, none⟩) n n) (List.replicate k 0 ++ hiT tn j u) ∧ Below g w wr) (fun _ i _ => (intOf i + 1).toNat)
  case atStart => exact ⟨n, 0, u, by omega, rfl, rfl, by simp, by simpa [hiT, hiB] using HO.out, HB.out⟩
  case round =>
    obtain ⟨k, j, y, hkj, rfl, rfl, hy, hown1, hbel⟩ := hrel
    have HY : Hid ((y : Int) = (u : Int) / 2 ^ (8 * j)) := hy
    have HB1 : Hid (Below g w wr) := hbel
    have hyu : y ≤ u := by
      have h7 : (u : Int) / 2 ^ (8 * j) ≤ u := Int.ediv_le_self _ (by omega)
      omega
    match k, hkj, hown1 with
    | 0, hkj, hown1 =>
      have hj : j = n := by omega
      subst hj
      have ho1 : ownB wr g (.slice (some ⟨g, 0, none⟩) j j) (hiT tn j u) := by simpa using hown1
      have HO1 : Hid (ownB wr g (.slice (some ⟨g, 0, none⟩) j j) (hiT tn j u)) := ho1
      clear hown1 hy hbel ho1
      go_wp2
      go_ret
      exact ⟨by rw [hg]; rfl, by rw [hg]; exact HO1.out, by rw [hg]; exact HB1.out⟩
    | k + 1, hkj, hown1 =>
      have hl : (List.replicate (k + 1) (0 : Int) ++ hiT tn j u).length = n := by rw [List.length_append, List.length_replicate, hiT_len]; omega
      have hraw : wr.ownsRow g 5 1 (.slice (some ⟨g, 0, none⟩) n n) n ((List.replicate (k + 1) (0 : Int) ++ hiT tn j u).map (Value.int .u8)) := by
        have h6 := hown1
        unfold ownB at h6
        rw [hl] at h6
        exact h6
      have hcl : wr.cell? ⟨g, k, none⟩ = some (.int .u8 0) := by
        rw [hraw.cellAt k (by omega)]
        simp [List.getElem?_append_left]
      have hfz : wr.frozen? ⟨g, k, none⟩ = false := hraw.frozenAt k
      have hst : ownB (wr.setCell ⟨g, k, none⟩ (.int .u8 (tb tn ((y : Int) % 256)))) g (.slice (some ⟨g, 0, none⟩) n n) (List.replicate k 0 ++ hiT tn (j + 1) u) := by
        have h5 := (hraw.stored k (.int .u8 (tb tn ((y : Int) % 256)))).1
        rw [← List.map_set, set_step] at h5
        have e5 : tb tn ((y : Int) % 256) :: hiT tn j u = hiT tn (j + 1) u := by rw [hy]; rfl
        rw [e5] at h5
        have e6 : (List.replicate k (0 : Int) ++ hiT tn (j + 1) u).length = n := by rw [List.length_append, List.length_replicate, hiT_len]; omega
        unfold ownB
        rw [e6]
        exact h5
      have HST : Hid (ownB (wr.setCell ⟨g, k, none⟩ (.int .u8 (tb tn ((y : Int) % 256)))) g (.slice (some ⟨g, 0, none⟩) n n) (List.replicate k 0 ++ hiT tn (j + 1) u)) := hst
      have HB2 : Hid (Below g w (wr.setCell ⟨g, k, none⟩ (.int .u8 (tb tn ((y : Int) % 256))))) := hbel.setCell (Nat.le_refl _) _
      have hxor := xor_tb (y : Int) tn ht
      have hk0 : (0 : Int) ≤ (k : Int) := by omega
      have hk1 : (k : Int) < (n : Int) := by omega
      have HY2 : Hid (((y / 256 : Nat) : Int) = (u : Int) / 2 ^ (8 * (j + 1))) := by show _ = _; rw [← dv, ← hy]; omega
      clear hown1 hy hbel hraw hl hst
      go_wp2
      go_roundw
      case rel => exact ⟨k, j + 1, y / 256, by omega, rfl, by go_num, HY2.out, HST.out, HB2.out⟩
      case measure => simp [intOf]
end Go.Proofs.YtjcffcpmegpjeaaGreatDoor

namespace Go.Proofs.YtjcffcpmegpjeaaGreatDoor
open Go.ChangeShapes Go.WideShapes Go.ChangeAt Go.RowKit
set_option linter.unusedVariables false

set_option maxRecDepth 100000 in
set_option maxHeartbeats 800000 in
theorem ref_key0 (i : Int) (t : ByteArray) (B : Nat) (w : World) (hB : B ≤ w.heap.size) :
    Calls Tryz.prog 57 #[.agg #[.int .i64 0, .int .i64 i, .string t]] w fun e w' => ∃ b', e = .returned b' ∧ ownB w' B b' [16] ∧ Below B w w' := by
  have HB : Hid (Below B w (w.alloc (.cells #[.int .i64 0, .int .i64 i, .string t] 59))) := (Below.refl _ _).alloc hB _
  go_enter Tryz.func57, Tryz.ntmps57
  go_wp2_with (at_builtin; refine app_oneL (by rfl) _ _ (by rfl) B _ [] _ (ownB_nil _ _) (by rfl) (w.heap.size + 1) (by simp) (by rfl) (by simp) (by simp; omega) ?_; intro v' w1 hown1 hbel1 hgr1; have HO1 : Hid _ := hown1; have HB1 : Hid _ := hbel1; clear hown1 hbel1 hgr1)
  go_ret
  exact ⟨_, rfl, HO1.out, HB.out.trans HB1.out⟩
set_option maxRecDepth 100000 in
set_option maxHeartbeats 800000 in
theorem ref_key1 (i : Int) (t : ByteArray) (B : Nat) (w : World) (hB : B ≤ w.heap.size) (h0 : 0 ≤ i) (h1 : i ≤ 1) :
    Calls Tryz.prog 57 #[.agg #[.int .i64 1, .int .i64 i, .string t]] w fun e w' => ∃ b', e = .returned b' ∧ ownB w' B b' [32 + i] ∧ Below B w w' := by
  have HB : Hid (Below B w (w.alloc (.cells #[.int .i64 1, .int .i64 i, .string t] 59))) := (Below.refl _ _).alloc hB _
  have hm : (32 + i) % 256 = 32 + i := by omega
  go_enter Tryz.func57, Tryz.ntmps57
  go_wp2_with (at_builtin; refine app_oneL (by rfl) _ _ (by rfl) B _ [] _ (ownB_nil _ _) (by rfl) (w.heap.size + 1) (by simp) (by rfl) (by simp) (by simp; omega) ?_; intro v' w1 hown1 hbel1 hgr1; have HO1 : Hid _ := hown1; have HB1 : Hid _ := hbel1; clear hown1 hbel1 hgr1)
  go_ret
  exact ⟨_, rfl, HO1.out, HB.out.trans HB1.out⟩
set_option maxRecDepth 100000 in
set_option maxHeartbeats 1600000 in
theorem ref_key3 (i : Int) (t : ByteArray) (B : Nat) (w : World) (hB : B ≤ w.heap.size) (hs : t.size ≤ 4096) :
    Calls Tryz.prog 57 #[.agg #[.int .i64 3, .int .i64 i, .string t]] w fun e w' => ∃ b', e = .returned b' ∧ ownB w' B b' (80 :: escL t.data.toList ++ [0, 1]) ∧ Below B w w' := by
  have HB0 : Hid (Below B w (w.alloc (.cells #[.int .i64 3, .int .i64 i, .string t] 59))) := (Below.refl _ _).alloc hB _
  have HC0 : Hid ((w.alloc (.cells #[.int .i64 3, .int .i64 i, .string t] 59)).cell? ⟨w.heap.size, 2, none⟩ = some (.string t)) := by show _ = _; simp [go_sem]
  have HS0 : Hid (w.heap.size < (w.alloc (.cells #[.int .i64 3, .int .i64 i, .string t] 59)).heap.size) := lt_alloc _ _
  have hne : some w.heap.size ≠ (Value.slice none 0 0).ownBlock := by simp [Value.ownBlock]
  go_enter Tryz.func57, Tryz.ntmps57
  go_wp2_with (at_builtin; refine app_oneL (by rfl) _ _ (by rfl) B (.slice none 0 0) [] _ (ownB_nil _ _) (by rfl) (w.heap.size + 1) (by simp) (by rfl) (by simp) (by simp; omega) ?_; intro v' w1 hown1 hbel1 hgr1; have hc1 := hgr1.cell HC0.out HS0.out hne; have HO1 : Hid (ownB w1 B v' ([] ++ [80])) := hown1; have HB1 : Hid _ := hbel1; have HG1 : Hid (Gr (.slice none 0 0) (w.alloc (.cells #[.int .i64 3, .int .i64 i, .string t] 59)) v' w1) := hgr1; clear hown1 hbel1 hgr1)
  generalize hW : w.alloc (.cells #[.int .i64 3, .int .i64 i, .string t] 59) = W at *
  generalize w.heap.size = n at *
  go_loopw [3, 8] (fun c i wr => ∃ k : Nat, k ≤ t.size ∧ i = .int .i64 k ∧ ownB wr B c ([] ++ [80] ++ escL (t.data.toList.take k)) ∧ Below B W wr ∧ Gr (.slice none 0 0) W c wr) (fun _ i _ => t.size - (intOf i).toNat)
  case atStart => exact ⟨0, by omega, rfl, by simpa [escL] using HO1.out, HB1.out, HG1.out⟩
  case round =>
    obtain ⟨k, hk, rfl, hown2, hbel2, hgr2⟩ := hrel
    have hcr := hgr2.cell HC0.out HS0.out hne
    have HO2 : Hid (ownB wr B _ ([] ++ [80] ++ escL (t.data.toList.take k))) := hown2
    have HB2 : Hid (Below B W wr) := hbel2
    have HG2 : Hid (Gr (.slice none 0 0) W _ wr) := hgr2
    have hBr : B ≤ wr.heap.size := by have := HS0.out; have := hbel2.size; omega
    have hlen : ([] ++ [80] ++ escL (t.data.toList.take k)).length ≤ 140737488354000 := by have := esc_take_len t k hs; simp only [List.nil_append, List.length_append, List.length_singleton]; omega
    clear hown2 hbel2 hgr2 hc1 HO1 HB1 HG1
    by_cases hlt : k < t.size
    · have hk0 : (0 : Int) ≤ (k : Int) := by omega
      have hk1 : (k : Int) < (t.size : Int) := by omega
      have HT := esc_take t k hlt
      by_cases hz : t[k] = 0
      · have hz2 : (t[k].toNat : Int) = 0 := by rw [hz]; rfl
        have HT2 : Hid (escL (t.data.toList.take (k + 1)) = escL (t.data.toList.take k) ++ [0] ++ [255]) := by show _ = _; rw [HT, hz]; simp [escL]
        clear HT
        go_wp2_with (at_builtin; first | (refine app_oneL (by rfl) _ _ (by rfl) B _ _ _ HO2.out (by rfl) _ (by rfl) (by rfl) (by omega) hBr ?_; intro v3 w3 hown3 hbel3 hgr3; have hc3 := (HG2.out.trans hgr3).cell HC0.out HS0.out hne; have HO3 : Hid (ownB w3 B v3 (_ ++ _)) := hown3; have HB3 : Hid (Below B wr w3) := hbel3; have HG3 : Hid (Gr _ wr v3 w3) := hgr3; have hB3 : B ≤ w3.heap.size := Nat.le_trans hBr hbel3.size; clear hown3 hbel3 hgr3) | (refine app_oneL (by rfl) _ _ (by rfl) B _ _ _ HO3.out (by rfl) _ (by rfl) (by rfl) (by rw [List.length_append, List.length_singleton]; omega) hB3 ?_; intro v4 w4 hown4 hbel4 hgr4; have hc4 := (HG2.out.trans (HG3.out.trans hgr4)).cell HC0.out HS0.out hne; have HO4 : Hid (ownB w4 B v4 (_ ++ _)) := hown4; have HB4 : Hid (Below B w3 w4) := hbel4; have HG4 : Hid (Gr v3 w3 v4 w4) := hgr4; clear hown4 hbel4 hgr4))
        go_roundw
        case rel =>
          refine ⟨k + 1, by omega, by go_num, ?_, HB2.out.trans (HB3.out.trans HB4.out), HG2.out.trans (HG3.out.trans HG4.out)⟩
          rw [HT2.out, ← List.append_assoc, ← List.append_assoc]
          exact HO4.out
        case measure => simp [intOf]; omega
      · have hz2 : ¬ (t[k].toNat : Int) = 0 := fun h => hz (UInt8.toNat_inj.1 (by have e : UInt8.toNat 0 = 0 := rfl; omega))
        have HT2 : Hid (escL (t.data.toList.take (k + 1)) = escL (t.data.toList.take k) ++ [(t[k].toNat : Int)]) := by show _ = _; rw [HT]; simp [escL, hz]
        clear HT
        go_wp2_with (at_builtin; first | (refine app_oneL (by rfl) _ _ (by rfl) B _ _ _ HO2.out (by rfl) _ (by rfl) (by rfl) (by omega) hBr ?_; intro v3 w3 hown3 hbel3 hgr3; have hc3 := (HG2.out.trans hgr3).cell HC0.out HS0.out hne; have HO3 : Hid (ownB w3 B v3 (_ ++ _)) := hown3; have HB3 : Hid (Below B wr w3) := hbel3; have HG3 : Hid (Gr _ wr v3 w3) := hgr3; have hB3 : B ≤ w3.heap.size := Nat.le_trans hBr hbel3.size; clear hown3 hbel3 hgr3))
        go_roundw
        case rel =>
          refine ⟨k + 1, by omega, by go_num, ?_, HB2.out.trans HB3.out, HG2.out.trans HG3.out⟩
          rw [HT2.out, ← List.append_assoc]
          exact HO3.out
        case measure => simp [intOf]; omega
    · have hk1 : ¬ (k : Int) < (t.size : Int) := by omega
      have hke : t.data.toList.take k = t.data.toList := List.take_of_length_le (by rw [Array.length_toList]; show t.size ≤ k; omega)
      go_wp2_with (at_builtin; refine app_two (by rfl) _ _ (by rfl) B _ _ _ _ HO2.out (by rfl) _ (by rfl) (by rfl) (by omega) hBr ?_; intro v3 w3 hown3 hbel3 hgr3; have HO3 : Hid (ownB w3 B v3 (_ ++ _)) := hown3; have HB3 : Hid (Below B wr w3) := hbel3; have HG3 : Hid (Gr _ wr v3 w3) := hgr3; clear hown3 hbel3 hgr3)
      go_ret
      refine ⟨_, rfl, ?_, HB0.out.trans (HB2.out.trans HB3.out)⟩
      rw [hke] at HO3
      have h9 := HO3.out
      rw [List.append_assoc, List.append_assoc] at h9
      exact h9
end Go.Proofs.YtjcffcpmegpjeaaGreatDoor

namespace Go.Proofs.YtjcffcpmegpjeaaGreatDoor
open Go.ChangeShapes Go.WideShapes Go.ChangeAt Go.RowKit
set_option linter.unusedVariables false

theorem app_slice {W : World} {ops : Array Oper} {rest : List Oper} {o : Oper} {a : Act} {Q : Exit → Act → World → Prop} (hgd : o.guard = none) (s x : Operand)
    (ho : o.op = .call { callee := .builtin .append, args := #[s, x], argTypes := #[72, 72] })
    (B C : Nat) (v : Value) (xs ys : List Int) (hown : ownB W B v xs) (hs : a.eval s = v) (g n cap : Nat) (hn : ys.length = n) (hys : ownB W C (.slice (some ⟨g, 0, none⟩) n cap) ys) (hx : a.eval x = .slice (some ⟨g, 0, none⟩) n cap)
    (hlen : xs.length + n ≤ 140737488355328) (hB : B ≤ W.heap.size)
    (h : ∀ v' w', ownB w' B v' (xs ++ ys) → Below B W w' → wpList Tryz.prog ops Q rest (a.put o.dst v') w') :
    wpList Tryz.prog ops Q (o :: rest) a W := by
  subst hn
  obtain ⟨i0, hi, hz0, hz1, hz2⟩ := info_parts infoB
  refine wpList_append_own _ hgd s x 72 ho B 5 i0 (.int .u8 0) 1 1 Tryz.underlying72 hi hz0 hz1 hz2 rfl (by decide) v xs.length _ hs hown
    ⟨g, 0, none⟩ ys.length cap (ys.map (Value.int .u8)) hx (by simp) ?_ ?_ (by unfold maxLen; omega) (by omega) hB ?_
  · intro j u hj
    have hj2 : j < ys.length := by
      rcases Nat.lt_or_ge j ys.length with h2 | h2
      · exact h2
      · rw [List.getElem?_eq_none (by simpa using h2)] at hj; cases hj
    have hadd : (⟨g, 0, none⟩ : Addr).add j = ⟨g, j, none⟩ := by unfold Addr.add; split <;> simp_all
    rw [hadd, World.ownsRow.cellAt hys j (by omega)]
    exact hj
  · intro u hu
    obtain ⟨c, _, rfl⟩ := List.mem_map.1 hu
    rfl
  · intro v' w' hown' hgrow _
    refine h v' w' ?_ ?_
    · unfold ownB; rw [List.length_append, List.map_append]; exact hown'
    · exact (Below.refl _ _).grown hgrow hB (fun k hk => (World.ownsRow.lt hown k hk).1)
theorem hiT_zero (n : Nat) (u : Int) : hiT 0 n u = hiB n u := by
  unfold hiT
  have : (tb 0) = id := by funext x; unfold tb; rw [if_pos rfl]; rfl
  rw [this, List.map_id]
theorem byte_not (u : Int) (h0 : 0 ≤ u) (h1 : u ≤ 18446744073709551615) : ∀ j : Nat, j < 8 → (18446744073709551615 - u) / 2 ^ (8 * j) % 256 = 255 - u / 2 ^ (8 * j) % 256
  | 0, _ => by simp only [Nat.mul_zero, Int.pow_zero]; omega
  | 1, _ => by simp only [show (2 : Int) ^ (8 * 1) = 256 from rfl]; omega
  | 2, _ => by simp only [show (2 : Int) ^ (8 * 2) = 65536 from rfl]; omega
  | 3, _ => by simp only [show (2 : Int) ^ (8 * 3) = 16777216 from rfl]; omega
  | 4, _ => by simp only [show (2 : Int) ^ (8 * 4) = 4294967296 from rfl]; omega
  | 5, _ => by simp only [show (2 : Int) ^ (8 * 5) = 1099511627776 from rfl]; omega
  | 6, _ => by simp only [show (2 : Int) ^ (8 * 6) = 281474976710656 from rfl]; omega
  | 7, _ => by simp only [show (2 : Int) ^ (8 * 7) = 72057594037927936 from rfl]; omega
  | j + 8, h => by omega
theorem hiT_not (u : Int) (h0 : 0 ≤ u) (h1 : u ≤ 18446744073709551615) : ∀ n : Nat, n ≤ 8 → hiT 255 n u = hiB n (18446744073709551615 - u)
  | 0, _ => rfl
  | n + 1, h => by
    have ih := hiT_not u h0 h1 n (by omega)
    unfold hiT at ih ⊢
    rw [hiB, hiB, List.map_cons, ih, byte_not u h0 h1 n (by omega)]
    rfl
set_option maxRecDepth 100000 in
set_option maxHeartbeats 1600000 in
theorem ref_key2 (i : Int) (t : ByteArray) (B : Nat) (w : World) (hB : B ≤ w.heap.size) (h0 : -9223372036854775808 ≤ i) (h1 : i ≤ 9223372036854775807) :
    Calls Tryz.prog 57 #[.agg #[.int .i64 2, .int .i64 i, .string t]] w fun e w' => ∃ b', e = .returned b' ∧ ownB w' B b' (keyI i) ∧ Below B w w' := by
  have HB0 : Hid (Below B w (w.alloc (.cells #[.int .i64 2, .int .i64 i, .string t] 59))) := (Below.refl _ _).alloc hB _
  by_cases hi : 0 ≤ i
  · obtain ⟨u, rfl⟩ : ∃ u : Nat, i = u := ⟨i.toNat, by omega⟩
    have hz : szB u ≤ 8 := szB_le u
    have hwr : IntKind.u64.wrap (u : Int) = u := by show (u : Int) % 18446744073709551616 = u; omega
    have HK : Hid (keyI u = [] ++ [56 + (szB u : Int)] ++ hiT 0 (szB u) u) := by
      show _ = _
      unfold keyI
      rw [if_pos (by omega), Int.toNat_natCast, hiT_zero, hwr]
      rfl
    clear hwr
    go_enter Tryz.func57, Tryz.ntmps57
    go_wp2_with (first | (go_at_call 83; refine (ref_size u _ (by omega)).mono ?_; rintro e w1 ⟨rfl, rfl⟩) | (at_builtin; refine app_oneL (by rfl) _ _ (by rfl) B (.slice none 0 0) [] _ (ownB_nil _ _) (by rfl) (w.heap.size + 1) (by simp) (by rfl) (by simp) (by simp; omega) ?_; intro v1 w2 hown1 hbel1 hgr1; have HO1 : Hid (ownB w2 B v1 ([] ++ [56 + (szB u : Int)])) := hown1; have HB1 : Hid _ := hbel1; have hB2 : B ≤ w2.heap.size := Nat.le_trans (Nat.le_trans hB (Nat.le_of_lt (lt_alloc _ _))) hbel1.size; clear hown1 hbel1 hgr1) | (go_at_call 84; refine (ref_high u (szB u) 0 _ (by omega) hz (by simp)).mono ?_; rintro e w3 ⟨rfl, hown3, hbel3⟩; have HO3 : Hid (ownB w3 _ _ (hiT 0 (szB u) u)) := hown3; have HO2 := HO1.out.later hbel3; have HB3 : Hid (Below B w2 w3) := hbel3.mono hB2; have hB3 : B ≤ w3.heap.size := Nat.le_trans hB2 hbel3.size; clear hown3 hbel3) | (at_builtin; refine app_slice (by rfl) _ _ (by rfl) B _ _ _ _ HO2 (by rfl) _ _ _ (hiT_len _ _ _) HO3.out (by rfl) (by simp; omega) hB3 ?_; intro v4 w4 hown4 hbel4; have HO4 : Hid (ownB w4 B v4 (_ ++ _)) := hown4; have HB4 : Hid (Below B w3 w4) := hbel4; clear hown4 hbel4))
    go_ret
    refine ⟨_, rfl, ?_, HB0.out.trans (HB1.out.trans (HB3.out.trans HB4.out))⟩
    rw [HK.out]
    exact HO4.out
  · obtain ⟨u, hu⟩ : ∃ u : Nat, (u : Int) = -1 - i := ⟨(-1 - i).toNat, by omega⟩
    have hz : szB u ≤ 8 := szB_le u
    have HK : Hid (keyI i = [] ++ [55 - (szB u : Int)] ++ hiT 255 (szB u) u) := by
      show _ = _
      have e1 : IntKind.u64.wrap i = 18446744073709551615 - (u : Int) := by show i % 18446744073709551616 = _; omega
      unfold keyI
      rw [if_neg (by omega), ← hu, Int.toNat_natCast, hiT_not u (by omega) (by omega) _ hz, e1]
      rfl
    have HWU : Hid ((-1 - i) = (u : Int)) := hu.symm
    have hi2 : i < 0 := by omega
    have hub : u < 9223372036854775808 := by omega
    clear hu hi
    go_enter Tryz.func57, Tryz.ntmps57
    go_wp2_with (first | (go_at_call 83; rw [HWU.out]; refine (ref_size u _ (by omega)).mono ?_; rintro e w1 ⟨rfl, rfl⟩) | (at_builtin; refine app_oneL (by rfl) _ _ (by rfl) B (.slice none 0 0) [] _ (ownB_nil _ _) (by rfl) (w.heap.size + 1) (by simp) (by rfl) (by simp) (by simp; omega) ?_; intro v1 w2 hown1 hbel1 hgr1; have HO1 : Hid (ownB w2 B v1 ([] ++ [55 - (szB u : Int)])) := hown1; have HB1 : Hid _ := hbel1; have hB2 : B ≤ w2.heap.size := Nat.le_trans (Nat.le_trans hB (Nat.le_of_lt (lt_alloc _ _))) hbel1.size; clear hown1 hbel1 hgr1) | (go_at_call 84; (try rw [HWU.out]); refine (ref_high u (szB u) 255 _ (by omega) hz (by simp)).mono ?_; rintro e w3 ⟨rfl, hown3, hbel3⟩; have HO3 : Hid (ownB w3 _ _ (hiT 255 (szB u) u)) := hown3; have HO2 := HO1.out.later hbel3; have HB3 : Hid (Below B w2 w3) := hbel3.mono hB2; have hB3 : B ≤ w3.heap.size := Nat.le_trans hB2 hbel3.size; clear hown3 hbel3) | (at_builtin; refine app_slice (by rfl) _ _ (by rfl) B _ _ _ _ HO2 (by rfl) _ _ _ (hiT_len _ _ _) HO3.out (by rfl) (by simp; omega) hB3 ?_; intro v4 w4 hown4 hbel4; have HO4 : Hid (ownB w4 B v4 (_ ++ _)) := hown4; have HB4 : Hid (Below B w3 w4) := hbel4; clear hown4 hbel4))
    go_ret
    refine ⟨_, rfl, ?_, HB0.out.trans (HB1.out.trans (HB3.out.trans HB4.out))⟩
    rw [HK.out]
    exact HO4.out
end Go.Proofs.YtjcffcpmegpjeaaGreatDoor

namespace Go.Proofs.YtjcffcpmegpjeaaGreatDoor
open Go.ChangeShapes Go.WideShapes Go.ChangeAt Go.RowKit
set_option linter.unusedVariables false

theorem keyV_ne (v : Int × Int × ByteArray) : keyV v ≠ [] := by
  unfold keyV
  split
  · simp
  · split
    · simp
    · split
      · unfold keyI; split <;> simp
      · simp
theorem ownB.form {w : World} {B : Nat} {v : Value} {xs : List Int} (h : ownB w B v xs) (hne : xs ≠ []) : ∃ g cap, v = .slice (some ⟨g, 0, none⟩) xs.length cap := by
  rcases h.2 with ⟨_, h2⟩ | ⟨g, cap, cur, e, _⟩
  · exact absurd (List.eq_nil_of_length_eq_zero h2) hne
  · exact ⟨g, cap, e⟩
theorem ref_keyOf (v : Int × Int × ByteArray) (B : Nat) (w : World) (hB : B ≤ w.heap.size) (hok : okV v) (h0 : -9223372036854775808 ≤ v.2.1) (h1 : v.2.1 ≤ 9223372036854775807) :
    Calls Tryz.prog 57 #[.agg #[.int .i64 v.1, .int .i64 v.2.1, .string v.2.2]] w fun e w' => ∃ g cap, e = .returned (.slice (some ⟨g, 0, none⟩) (keyV v).length cap) ∧ ownB w' B (.slice (some ⟨g, 0, none⟩) (keyV v).length cap) (keyV v) ∧ Below B w w' := by
  obtain ⟨kd, i, t⟩ := v
  have fin : ∀ {e : Ending} {w' : World}, (∃ b', e = .returned b' ∧ ownB w' B b' (keyV (kd, i, t)) ∧ Below B w w') → ∃ g cap, e = .returned (.slice (some ⟨g, 0, none⟩) (keyV (kd, i, t)).length cap) ∧ ownB w' B (.slice (some ⟨g, 0, none⟩) (keyV (kd, i, t)).length cap) (keyV (kd, i, t)) ∧ Below B w w' := by
    rintro e w' ⟨b', rfl, ho, hb⟩
    obtain ⟨g, cap, rfl⟩ := ho.form (keyV_ne _)
    exact ⟨g, cap, rfl, ho, hb⟩
  unfold okV at hok
  simp only at hok h0 h1
  rcases hok with rfl | ⟨rfl, h2, h3⟩ | rfl | ⟨rfl, h2⟩
  · exact (ref_key0 i t B w hB).mono fun e w' h => fin h
  · exact (ref_key1 i t B w hB h2 h3).mono fun e w' h => fin h
  · exact (ref_key2 i t B w hB h0 h1).mono fun e w' h => fin h
  · exact (ref_key3 i t B w hB h2).mono fun e w' h => fin h
set_option maxRecDepth 100000 in
set_option maxHeartbeats 3200000 in
theorem ref_keyG (a : Value) (vs : List (Int × Int × ByteArray)) (B : Nat) (w : World) (hB : B ≤ w.heap.size) (ha : SeesV w B a vs) (hv : ∀ v ∈ vs, v.2.2.size ≤ 9223372036854775807 ∧ -9223372036854775808 ≤ v.2.1 ∧ v.2.1 ≤ 9223372036854775807) :
    Calls Tryz.prog 24 #[a] w fun e w' => e = .returned (if 16 < vs.length then .tuple #[.string ⟨#[]⟩, .int .i64 18] else if faultL vs = 0 then .tuple #[.string (strOfNums (keyL vs)), .int .i64 0] else .tuple #[.string ⟨#[]⟩, .int .i64 (faultL vs)]) ∧ Below B w w' := by
  have hC := ref_faults a vs B w hB ha (fun v h => (hv v h).1)
  have HA0 : Hid (SeesV w B a vs) := ha
  obtain ⟨ao, cap, rfl, hl1, hc1, hs1⟩ := ha
  clear hs1
  by_cases hm : 16 < vs.length
  · rw [if_pos hm] at hC ⊢
    go_enter Tryz.func24, Tryz.ntmps24
    go_wp2_with fail
    refine hC.mono ?_
    rintro e w1 ⟨rfl, hb1⟩
    have HB1 : Hid (Below B w w1) := hb1
    clear hb1 HA0 hC
    go_wp2
    go_ret2
    exact ⟨rfl, HB1.out⟩
  rw [if_neg hm] at hC ⊢
  by_cases hf : faultL vs = 0
  · rw [if_pos hf]
    rw [hf] at hC
    go_enter Tryz.func24, Tryz.ntmps24
    go_wp2_with fail
    refine hC.mono ?_
    rintro e w1 ⟨rfl, hb1⟩
    have HA := HA0.out.later hb1
    have HB1 : Hid (Below B w w1) := hb1
    have hB1 : B ≤ w1.heap.size := by have := hb1.size; omega
    clear hb1 HA0 hC
    obtain ⟨ao', cap', e', hl1', hc1', hs1⟩ := HA
    simp only [Value.slice.injEq, true_and] at e'
    obtain ⟨rfl, rfl⟩ := e'
    have HA2 : Hid _ := hs1
    clear hs1
    have hok := faultL_zero vs hf
    go_wp2
    go_loopw [5, 6] (fun c i wr => ∃ k : Nat, k ≤ vs.length ∧ i = .int .i64 k ∧ ownB wr B c (keyL (vs.take k)) ∧ Below B w1 wr) (fun _ i _ => vs.length - (intOf i).toNat)
    case atStart => exact ⟨0, by omega, rfl, ownB_nil _ _, Below.refl _ _⟩
    case round =>
      obtain ⟨k, hk, rfl, hown, hbel⟩ := hrel
      have HO : Hid (ownB wr B _ (keyL (vs.take k))) := hown
      have HBl : Hid (Below B w1 wr) := hbel
      have hBr : B ≤ wr.heap.size := by have := hbel.size; omega
      have hx : (keyL (vs.take k)).length ≤ 140737488340000 := by
        have h3 := keyL_len (vs.take k) (fun v hv => hok v (List.mem_of_mem_take hv))
        have h4 : (vs.take k).length ≤ 16 := by rw [List.length_take]; omega
        omega
      clear hown hbel
      by_cases h1 : k < vs.length
      · obtain ⟨b1, o1, e1, hb1, x0, x1, x2⟩ := HA2.out k h1
        have y0 := (HBl.out.cell (p := ⟨b1, o1 + k * 3, none⟩) hb1).trans x0
        have y1 := (HBl.out.cell (p := ⟨b1, o1 + k * 3 + 1, none⟩) hb1).trans x1
        have y2 := (HBl.out.cell (p := ⟨b1, o1 + k * 3 + 2, none⟩) hb1).trans x2
        clear x0 x1 x2
        subst e1
        have HK : Hid (keyL (vs.take (k + 1)) = keyL (vs.take k) ++ keyV vs[k]) := keyL_take vs k h1
        have hvs := hv _ (List.getElem_mem h1)
        have hvo := hok _ (List.getElem_mem h1)
        have hkl := keyV_len _ hvo
        go_wp2_with fail
        refine (ref_keyOf vs[k] _ _ (Nat.le_refl _) hvo hvs.2.1 hvs.2.2).mono ?_
        rintro e w2 ⟨g2, cap2, rfl, hown2, hbel2⟩
        have HO2 : Hid (ownB w2 B _ (keyL (vs.take k))) := HO.out.later hbel2
        have HB2 : Hid (Below B w1 w2) := HBl.out.trans (hbel2.mono hBr)
        have HT2 : Hid (ownB w2 wr.heap.size (.slice (some ⟨g2, 0, none⟩) (keyV vs[k]).length cap2) (keyV vs[k])) := hown2
        have hB2 : B ≤ w2.heap.size := Nat.le_trans hBr hbel2.size
        clear hown2 hbel2 y0 y1 y2 HO HBl
        go_wp2_with (at_builtin; refine app_slice (by rfl) _ _ (by rfl) B _ _ _ _ HO2.out (by rfl) _ _ _ rfl HT2.out (by rfl) (by omega) hB2 ?_; intro v4 w4 hown4 hbel4; have HO4 : Hid (ownB w4 B v4 (_ ++ _)) := hown4; have HB4 : Hid (Below B w2 w4) := hbel4; clear hown4 hbel4)
        go_roundw
        case rel => exact ⟨k + 1, by omega, by go_num, by rw [HK.out]; exact HO4.out, HB2.out.trans HB4.out⟩
        case measure => simp [intOf]; omega
      · have hke : vs.take k = vs := List.take_of_length_le (by omega)
        rw [hke] at HO
        have hcv := HO.out.conv
        go_wp2
        go_ret2
        exact ⟨rfl, HB1.out.trans HBl.out⟩
  · rw [if_neg hf]
    generalize faultL vs = c at *
    have hcc : (c != 0) = true := by simpa using hf
    go_enter Tryz.func24, Tryz.ntmps24
    go_wp2_with fail
    refine hC.mono ?_
    rintro e w1 ⟨rfl, hb1⟩
    have HB1 : Hid (Below B w w1) := hb1
    clear hb1 HA0 hC
    go_wp2
    go_ret2
    exact ⟨rfl, HB1.out⟩
end Go.Proofs.YtjcffcpmegpjeaaGreatDoor
