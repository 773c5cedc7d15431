import Derived.Test.YtjcffcpmegpjeaaGreatDoorRows7
import Derived.Test.YtjcffcpmegpjeaaGreatDoorKeys12
namespace Go.Proofs.YtjcffcpmegpjeaaGreatDoor
open Go.ChangeShapes Go.WideShapes Go.ChangeAt Go.RowKit
set_option linter.unusedVariables false
set_option maxRecDepth 100000

/-- The kinds of the byte j, the first m of them. -/
def partK (vs : List (Int × Int × ByteArray)) (j : Nat) : Nat → Int
  | 0 => 0
  | m + 1 => partK vs j m + 4 ^ m * kind4 vs (4 * j + m)
theorem partK_all (vs : List (Int × Int × ByteArray)) (j : Nat) : partK vs j 4 = kbyte vs vs.length j := by
  unfold kbyte
  rw [List.take_length]
  simp [partK]
theorem kind4_out (vs : List (Int × Int × ByteArray)) (m : Nat) (h : vs.length ≤ m) : kind4 vs m = 0 := by
  unfold kind4
  rw [List.getElem?_eq_none h]
  rfl
theorem partK_out (vs : List (Int × Int × ByteArray)) (j m : Nat) (hm : m ≤ 4) (h : vs.length ≤ 4 * j + m) : partK vs j m = kbyte vs vs.length j := by
  rw [← partK_all]
  match m, hm with
  | 0, _ => simp [partK, kind4_out vs (4 * j) (by omega), kind4_out vs (4 * j + 1) (by omega), kind4_out vs (4 * j + 2) (by omega), kind4_out vs (4 * j + 3) (by omega)]
  | 1, _ => simp [partK, kind4_out vs (4 * j + 1) (by omega), kind4_out vs (4 * j + 2) (by omega), kind4_out vs (4 * j + 3) (by omega)]
  | 2, _ => simp [partK, kind4_out vs (4 * j + 2) (by omega), kind4_out vs (4 * j + 3) (by omega)]
  | 3, _ => simp [partK, kind4_out vs (4 * j + 3) (by omega)]
  | 4, _ => rfl
  | m + 5, h => omega
theorem partK_in (vs : List (Int × Int × ByteArray)) (hv : ∀ v ∈ vs, okV v) (j : Nat) : ∀ m, m ≤ 4 → 0 ≤ partK vs j m ∧ partK vs j m ≤ 255 := by
  have a0 := kind4_in vs hv (4 * j)
  have a1 := kind4_in vs hv (4 * j + 1)
  have a2 := kind4_in vs hv (4 * j + 2)
  have a3 := kind4_in vs hv (4 * j + 3)
  intro m hm
  match m, hm with
  | 0, _ | 1, _ | 2, _ | 3, _ | 4, _ => simp [partK]; try omega
  | m + 5, h => omega
theorem kbytes_more (vs : List (Int × Int × ByteArray)) (k j : Nat) : kbytes vs k (j + 1) = kbytes vs k j ++ [kbyte vs k j] := by
  unfold kbytes
  rw [List.range_succ, List.map_append]
  rfl
theorem str_app (x y : List Int) : strOfNums x ++ strOfNums y = strOfNums (x ++ y) := by
  have : (strOfNums x ++ strOfNums y).data.toList = (strOfNums (x ++ y)).data.toList := by
    rw [ByteArray.data_append, Array.toList_append]
    simp [strOfNums]
  cases h1 : strOfNums x ++ strOfNums y
  cases h2 : strOfNums (x ++ y)
  rw [h1, h2] at this
  simp only [ByteArray.mk.injEq]
  exact Array.toList_inj.1 this
/-- A region ends as it should, with this act, in a world of which S holds. -/
def Post2 (A : Act) (S : World → Prop) : Exit → Act → World → Prop
  | .normal, b, w' => b = A ∧ S w'
  | _, _, _ => False
theorem Post2.here (A : Act) {S : World → Prop} {w' : World} (h : S w') : Post2 A S .normal A w' := ⟨rfl, h⟩
theorem wp_onceS {P : Program} {c : Code} {Q : Exit → Act → World → Prop} {a : Act} {w : World} (S : World → Prop) (h : ∃ A, c.wp P (Post2 A S) a w ∧ ∀ w', S w' → Q .normal A w') : c.wp P Q a w := by
  obtain ⟨A, h1, h2⟩ := h
  refine Code.wp_mono ?_ h1
  intro e b w' h
  cases e <;> first | exact h.elim | (obtain ⟨rfl, h3⟩ := h; exact h2 _ h3)
theorem row_text (Y : List Int) (i : Int) (t : ByteArray) : Value.string (strOfNums Y ++ strOfNums (uvB t.size) ++ t) = .string (strOfNums (Y ++ rowV (3, i, t))) := by
  have e : strOfNums (txt t) = t := by
    have : (strOfNums (txt t)).data.toList = t.data.toList := by
      unfold strOfNums txt
      simp only [List.map_map]
      conv => rhs; rw [← List.map_id t.data.toList]
      apply List.map_congr_left
      intro x _
      simp
    cases h1 : strOfNums (txt t)
    cases t
    rw [h1] at this
    simp only [ByteArray.mk.injEq]
    exact Array.toList_inj.1 this
  congr 1
  conv => lhs; rw [← e]
  rw [str_app, str_app, List.append_assoc, e]
  rfl
theorem conv_one (w : World) (x : Int) :
    (convert 72 9 (.slice (some ⟨w.heap.size, 0, none⟩) 1 1)).run Tryz.prog (w.alloc (.cells #[.int .u8 x] 5)).drew = .ok (.string (strOfNums [x])) (w.alloc (.cells #[.int .u8 x] 5)).drew :=
  run_convert_bytes_arg _ 72 5 Tryz.underlying72 Tryz.underlying5 w.heap.size 0 1 1 [x] rfl (fun i hi => by
    have : i = 0 := by omega
    subst this
    simp) 9 Tryz.underlying9

theorem conv_one0 (w : World) (x : Int) :
    (convert 72 9 (.slice (some ⟨w.heap.size, 0, none⟩) 1 1)).run Tryz.prog (w.alloc (.cells #[.int .u8 x] 5)) = .ok (.string (strOfNums [x])) (w.alloc (.cells #[.int .u8 x] 5)) :=
  run_convert_bytes_arg _ 72 5 Tryz.underlying72 Tryz.underlying5 w.heap.size 0 1 1 [x] rfl (fun i hi => by
    have : i = 0 := by omega
    subst this
    simp) 9 Tryz.underlying9

set_option maxRecDepth 100000 in
set_option maxHeartbeats 3200000 in
theorem ref_rowG (a : Value) (vs : List (Int × Int × ByteArray)) (B : Nat) (w : World) (hB : B ≤ w.heap.size) (ha : SeesV w B a vs) (hv : ∀ v ∈ vs, v.2.2.size ≤ 9223372036854775807 ∧ -9223372036854775808 ≤ v.2.1 ∧ v.2.1 ≤ 9223372036854775807) :
    Calls Tryz.prog 25 #[a] w fun e w' => e = .returned (if 16 < vs.length then .tuple #[.string ⟨#[]⟩, .int .i64 18] else if faultL vs = 0 then .tuple #[.string (strOfNums (rowAll vs)), .int .i64 0] else .tuple #[.string ⟨#[]⟩, .int .i64 (faultL vs)]) ∧ Below B w w' := by
  have hC := ref_faults a vs B w hB ha (fun v h => (hv v h).1)
  have HA0 : Hid (SeesV w B a vs) := ha
  obtain ⟨ao, cap, rfl, hl1, hc1, hs1⟩ := ha
  clear hs1
  by_cases hm : 16 < vs.length
  · rw [if_pos hm] at hC ⊢
    go_enter Tryz.func25, Tryz.ntmps25
    go_wp2_with fail
    refine hC.mono ?_
    rintro e w1 ⟨rfl, hb1⟩
    have HB1 : Hid (Below B w w1) := hb1
    clear hb1 HA0 hC
    go_wp2
    go_ret2
    exact ⟨rfl, HB1.out⟩
  rw [if_neg hm] at hC ⊢
  by_cases hf : faultL vs = 0
  · rw [if_pos hf]
    rw [hf] at hC
    go_enter Tryz.func25, Tryz.ntmps25
    go_wp2_with fail
    refine hC.mono ?_
    rintro e w1 ⟨rfl, hb1⟩
    have HA := HA0.out.later hb1
    have HB1 : Hid (Below B w w1) := hb1
    have hB1 : B ≤ w1.heap.size := by have := hb1.size; omega
    clear hb1 HA0 hC
    obtain ⟨ao', cap', e', hl1', hc1', hs1⟩ := HA
    simp only [Value.slice.injEq, true_and] at e'
    obtain ⟨rfl, rfl⟩ := e'
    have HA2 : Hid _ := hs1
    clear hs1
    have hok := faultL_zero vs hf
    have hl16 : (vs.length : Int) ≤ 16 := by omega
    have hcv := conv_one
    have hcv0 := conv_one0
    go_wp2
    go_loopw [5, 6] (fun c i wr => ∃ j : Nat, j ≤ (vs.length + 3) / 4 ∧ i = .int .i64 ((4 * j : Nat) : Int) ∧ c = .string (strOfNums ((vs.length : Int) :: kbytes vs vs.length j)) ∧ Below B w1 wr) (fun _ i _ => vs.length + 4 - (intOf i).toNat)
    case atStart => exact ⟨0, by omega, rfl, rfl, (Below.refl _ _).alloc hB1 _⟩
    case round =>
      obtain ⟨j, hj, rfl, rfl, hbel⟩ := hrel
      have HBl : Hid (Below B w1 wr) := hbel
      have hBr : B ≤ wr.heap.size := by have := hbel.size; omega
      clear hbel
      by_cases h1 : 4 * j < vs.length
      · have hi1 : ((4 * j : Nat) : Int) < (vs.length : Int) := by omega
        go_wp2
        go_loop [7, 8, 9] (fun a b c => ∃ m : Nat, m ≤ 4 ∧ 4 * j + m ≤ vs.length ∧ a = .int .i64 (partK vs j m) ∧ b = .int .i64 (4 ^ m) ∧ c = .int .i64 ((4 * j + m : Nat) : Int)) (fun _ _ c => vs.length - (intOf c).toNat)
        case atStart => exact ⟨0, by omega, by omega, rfl, rfl, rfl⟩
        case round =>
          obtain ⟨m, hm4, hmv, rfl, rfl, rfl⟩ := hrel
          have hq := partK_in vs hok j m hm4
          have hc1 : ((4 * j + m : Nat) : Int) = 4 * (j : Int) + (m : Int) := by omega
          have hc2 : ((4 * j : Nat) : Int) = 4 * (j : Int) := by omega
          by_cases hgo : m < 4 ∧ 4 * j + m < vs.length
          · obtain ⟨b1, o1, e1, hb1, x0, x1, x2⟩ := HA2.out (4 * j + m) hgo.2
            have y0 := (HBl.out.cell (p := ⟨b1, o1 + (4 * j + m) * 3, none⟩) hb1).trans x0
            clear x0 x1 x2
            subst e1
            have hkd : kind4 vs (4 * j + m) = (vs[4 * j + m]'hgo.2).1 := by unfold kind4; rw [List.getElem?_eq_getElem hgo.2]; rfl
            have hki := kind4_in vs hok (4 * j + m)
            have HP : Hid (partK vs j (m + 1) = partK vs j m + 4 ^ m * kind4 vs (4 * j + m)) := rfl
            rw [← hkd] at y0
            clear hkd
            generalize kind4 vs (4 * j + m) = kd at *
            generalize hp : partK vs j m = p at *
            obtain ⟨g1, g2⟩ := hgo
            have g3 : 4 * (j : Int) + (m : Int) < (vs.length : Int) := by omega
            have g4 : (m : Int) < 4 := by omega
            obtain ⟨q, hqe⟩ : ∃ q : Int, q = 4 ^ m := ⟨_, rfl⟩
            have hqb : q = 1 ∨ q = 4 ∨ q = 16 ∨ q = 64 := by
              have : m = 0 ∨ m = 1 ∨ m = 2 ∨ m = 3 := by omega
              rcases this with e | e | e | e <;> subst e <;> (rw [hqe]; decide)
            have HQ : Hid (q = 4 ^ m) := hqe
            rw [← hqe] at HP ⊢
            clear hqe
            rcases hqb with rfl | rfl | rfl | rfl
            all_goals
              go_wp2
              go_round
              case rel => exact ⟨m + 1, by omega, by omega, by rw [HP.out]; try go_num, by rw [Int.pow_succ, ← HQ.out]; try go_num, by go_num⟩
              case measure => simp [intOf]; omega
          · have hpo : partK vs j m = kbyte vs vs.length j := by
              by_cases h4 : m = 4
              · subst h4; exact partK_all vs j
              · exact partK_out vs j m hm4 (by omega)
            have HKM : Hid (kbytes vs vs.length (j + 1) = kbytes vs vs.length j ++ [kbyte vs vs.length j]) := kbytes_more vs vs.length j
            rw [hpo] at hq ⊢
            clear hpo
            generalize kbyte vs vs.length j = q at *
            have hsz : (strOfNums ((vs.length : Int) :: kbytes vs vs.length j)).size ≤ 20 := by rw [strOfNums_size, List.length_cons, kbytes_len]; omega
            generalize hss : strOfNums ((vs.length : Int) :: kbytes vs vs.length j) = st at *
            have hadd : ∀ (w : World) (x : Int), (Op.stringOp .add st (strOfNums [x])).run Tryz.prog w = .ok (.string (st ++ strOfNums [x])) w := fun w x => run_string_add_sum w _ _ (by rw [strOfNums_size]; simp; omega)
            by_cases h4 : m = 4
            · subst h4
              go_wp2
              go_roundw
              case rel => exact ⟨j + 1, by omega, by go_num, by rw [HKM.out, ← hss, str_app]; rfl, HBl.out.alloc hBr _⟩
              case measure => simp [intOf]; omega
            · have h5 : (m : Int) < 4 := by omega
              have h6 : ¬ (4 * (j : Int) + (m : Int) < (vs.length : Int)) := by omega
              go_wp2
              go_roundw
              case rel => exact ⟨j + 1, by omega, by go_num, by rw [HKM.out, ← hss, str_app]; rfl, HBl.out.alloc hBr _⟩
              case measure => simp [intOf]; omega
      · have hjn : j = (vs.length + 3) / 4 := by omega
        have h7 : ¬ (((4 * j : Nat) : Int) < (vs.length : Int)) := by omega
        subst hjn
        generalize hX : ((vs.length : Int) :: kbytes vs vs.length ((vs.length + 3) / 4)) = X at *
        have hXl : X.length ≤ 20 := by rw [← hX, List.length_cons, kbytes_len]; omega
        go_wp2
        go_loopw [5, 10] (fun c i wr => ∃ k : Nat, k ≤ vs.length ∧ i = .int .i64 k ∧ c = .string (strOfNums (X ++ rowL (vs.take k))) ∧ Below B w1 wr) (fun _ i _ => vs.length - (intOf i).toNat)
        case atStart => exact ⟨0, by omega, rfl, by simp [rowL], HBl.out⟩
        case round =>
          obtain ⟨k, hk, rfl, rfl, hbel⟩ := hrel
          have HBk : Hid (Below B w1 wr) := hbel
          have hBk : B ≤ wr.heap.size := by have := hbel.size; omega
          clear hbel
          have hxl : (strOfNums (X ++ rowL (vs.take k))).size ≤ 140737488330000 := by
            have h3 := rowL_len (vs.take k) (fun v hv => hok v (List.mem_of_mem_take hv))
            have h4 : (vs.take k).length ≤ 16 := by rw [List.length_take]; omega
            rw [strOfNums_size, List.length_append]
            omega
          by_cases h1 : k < vs.length
          · obtain ⟨b1, o1, e1, hb1, x0, x1, x2⟩ := HA2.out k h1
            have y0 := (HBk.out.cell (p := ⟨b1, o1 + k * 3, none⟩) hb1).trans x0
            have y1 := (HBk.out.cell (p := ⟨b1, o1 + k * 3 + 1, none⟩) hb1).trans x1
            have y2 := (HBk.out.cell (p := ⟨b1, o1 + k * 3 + 2, none⟩) hb1).trans x2
            clear x0 x1 x2
            subst e1
            have HK : Hid (X ++ rowL (vs.take (k + 1)) = (X ++ rowL (vs.take k)) ++ rowV vs[k]) := by show _ = _; rw [rowL_take vs k h1, List.append_assoc]
            have hvs := hv _ (List.getElem_mem h1)
            have hvo := hok _ (List.getElem_mem h1)
            generalize vs[k] = v at *
            obtain ⟨kd, i, t⟩ := v
            unfold okV at hvo
            simp only at y0 y1 y2 hvs hvo
            obtain ⟨hv1, hv2, hv3⟩ := hvs
            generalize hY : X ++ rowL (vs.take k) = Y at *
            rcases hvo with rfl | ⟨rfl, hv4, hv5⟩ | rfl | ⟨rfl, hv4⟩
            · go_wp2
              go_roundw
              case rel => exact ⟨k + 1, by omega, by go_num, by rw [HK.out]; simp [rowV], HBk.out⟩
              case measure => simp [intOf]; omega
            · have hadd : ∀ (w : World) (x : Int), (Op.stringOp .add (strOfNums Y) (strOfNums [x])).run Tryz.prog w = .ok (.string (strOfNums Y ++ strOfNums [x])) w := fun w x => run_string_add_sum w _ _ (by rw [strOfNums_size [x]]; simp; omega)
              go_wp2
              go_roundw
              case rel => exact ⟨k + 1, by omega, by go_num, by rw [HK.out, str_app]; rfl, HBk.out.alloc hBk _⟩
              case measure => simp [intOf]; omega
            · have hadd : ∀ (w : World), (Op.stringOp .add (strOfNums Y) (strOfNums (uvB (svV i)))).run Tryz.prog w = .ok (.string (strOfNums Y ++ strOfNums (uvB (svV i)))) w := fun w => run_string_add_sum w _ _ (by rw [strOfNums_size (uvB _)]; have := uvB_len (svV i); omega)
              go_wp2_with (go_at_call 58; refine (ref_svarint i _ hv2 hv3).mono ?_; rintro e w' ⟨rfl, hbx⟩; have HBx : Hid (Below _ _ w') := hbx; clear hbx)
              go_roundw
              case rel => exact ⟨k + 1, by omega, by go_num, by rw [HK.out, str_app]; rfl, HBk.out.trans (HBx.out.mono hBk)⟩
              case measure => simp [intOf]; omega
            · have hadd : ∀ (w : World), (Op.stringOp .add (strOfNums Y) (strOfNums (uvB t.size))).run Tryz.prog w = .ok (.string (strOfNums Y ++ strOfNums (uvB t.size))) w := fun w => run_string_add_sum w _ _ (by rw [strOfNums_size (uvB _)]; have := uvB_len t.size; omega)
              have hadd2 : ∀ (w : World), (Op.stringOp .add (strOfNums Y ++ strOfNums (uvB t.size)) t).run Tryz.prog w = .ok (.string (strOfNums Y ++ strOfNums (uvB t.size) ++ t)) w := fun w => run_string_add_sum w _ _ (by rw [ByteArray.size_append, strOfNums_size (uvB _)]; have := uvB_len t.size; omega)
              have HX : Hid (∀ W, W = wr.drew → Calls Tryz.prog 30 #[.int .u64 (t.size : Int)] W fun e w' => e = .returned (.string (strOfNums (uvB t.size))) ∧ Hid (Below B w1 w') ∧ w'.cell? ⟨b1, o1 + k * 3 + 2, none⟩ = some (.string t)) := fun W hW => (ref_uvarint t.size W (by omega) (by omega)).mono fun e w' ⟨he, hb⟩ => by
                subst hW
                have hk := hb.mono (B' := B) (by exact hBk)
                exact ⟨he, HBk.out.drew.trans hk, (hk.cell (p := ⟨b1, o1 + k * 3 + 2, none⟩) hb1).trans y2⟩
              go_wp2_with fail
              have y3 : wr.drew.cell? ⟨b1, o1 + k * 3 + 2, none⟩ = some (.string t) := y2
              have hwz : IntKind.u64.wrap (t.size : Int) = (t.size : Int) := by show (t.size : Int) % 18446744073709551616 = _; omega
              refine wp_onceS (fun w' => Hid (Below B w1 w')) ?_
              apply Exists.intro
              constructor
              · go_region_with (first | (go_at_call 30; refine (HX.out _ rfl).mono ?_; rintro e w' ⟨rfl, HBx, k2⟩))
                all_goals exact Post2.here _ (by assumption)
              intro w' HBx
              clear HX y0 y1 y2 y3
              go_wp2
              go_roundw
              case rel => exact ⟨k + 1, by omega, by go_num, by rw [HK.out, row_text], HBx.out⟩
              case measure => simp [intOf]; omega
          · have hke : vs.take k = vs := List.take_of_length_le (by omega)
            rw [hke]
            have HR : Hid (X ++ rowL vs = rowAll vs) := by show _ = _; rw [← hX]; rfl
            go_wp2
            go_ret2
            exact ⟨by rw [← HR.out]; rfl, HB1.out.trans HBk.out⟩
  · rw [if_neg hf]
    generalize faultL vs = c at *
    have hcc : (c != 0) = true := by simpa using hf
    go_enter Tryz.func25, Tryz.ntmps25
    go_wp2_with fail
    refine hC.mono ?_
    rintro e w1 ⟨rfl, hb1⟩
    have HB1 : Hid (Below B w w1) := hb1
    clear hb1 HA0 hC
    go_wp2
    go_ret2
    exact ⟨rfl, HB1.out⟩
end Go.Proofs.YtjcffcpmegpjeaaGreatDoor
