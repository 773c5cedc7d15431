import Derived.Test.YtnebbopdeljaiaaGreatLadNew2
import Derived.Test.YtnebbopdeljaiaaGreatLadNil
namespace Go.Proofs.YtnebbopdeljaiaaGreat
open Go.ChangeShapes Go.WideShapes Go.ChangeAt Go.RowKit
set_option linter.unusedVariables false
set_option maxRecDepth 100000
set_option maxHeartbeats 3200000
theorem begin_none (n wd lk lv : Int) (v : Value) (w : World) (h : ¬ (1 ≤ n ∧ n ≤ 4096 ∧ 1 ≤ wd ∧ wd ≤ 16)) : Calls Tryz.prog 12 #[.agg #[.int .i64 n, .int .i64 wd, .int .i64 lk, .int .i64 lv, v]] w fun e w' => ∃ p q, e = .returned (.tuple #[.pointer p, .pointer q, .bool true]) ∧ Below w.heap.size w w' := by
  have d : BelS w (w.alloc (.cells #[.int .i64 n, .int .i64 wd, .int .i64 lk, .int .i64 lv, v] 71)) := (Below.refl _ _).alloc (Nat.le_refl _) _
  go_enter Tryz.func12, Tryz.ntmps12
  go_wp2_with fail
  refine (new_refused n wd _ h).mono ?_
  rintro e w1 ⟨rfl, rfl⟩
  go_wp2_with fail
  refine (ref_new_refused n wd _ h).mono ?_
  rintro e w2 ⟨rfl, rfl⟩
  go_wp2_with fail
  refine (numN _ _).mono ?_
  rintro e w3 ⟨rfl, hb⟩
  have c2 : w3.cell? ⟨w.heap.size, 2, none⟩ = some (.int .i64 lk) := (hb.cell (p := ⟨w.heap.size, 2, none⟩) (by simp)).trans ((cellH (heap_alloc_new _ _) 2).trans rfl)
  have c3 : w3.cell? ⟨w.heap.size, 3, none⟩ = some (.int .i64 lv) := (hb.cell (p := ⟨w.heap.size, 3, none⟩) (by simp)).trans ((cellH (heap_alloc_new _ _) 3).trans rfl)
  have hz : w.heap.size < w3.heap.size := Nat.lt_of_lt_of_le (by simp) hb.size
  replace d := d.step hb
  clear hb
  go_wp2_with fail
  refine (newN none _ _ _ (missN _)).mono ?_
  rintro e w4 ⟨rfl, hb⟩
  have k2 : w4.cell? ⟨w.heap.size, 2, none⟩ = some (.int .i64 lk) := (hb.cell (p := ⟨w.heap.size, 2, none⟩) hz).trans c2
  have k3 : w4.cell? ⟨w.heap.size, 3, none⟩ = some (.int .i64 lv) := (hb.cell (p := ⟨w.heap.size, 3, none⟩) hz).trans c3
  replace d := d.step hb
  clear hb c2 c3
  go_wp2_with fail
  refine (refL_nil _ _ _).mono ?_
  rintro e w5 ⟨rfl, rfl⟩
  go_wp2_with fail
  refine (numN _ _).mono ?_
  rintro e w6 ⟨rfl, hb⟩
  replace d := BelS.step (BelS.step (BelS.step d ((Below.refl _ _).alloc (Nat.le_refl _) _)) ((Below.refl _ _).alloc (Nat.le_refl _) _)) hb
  clear hb
  go_wp2
  exact bodyPost_ret (results_tmp3 rfl _ _ _) rfl ⟨_, _, rfl, d⟩
theorem begin_ok (n wd : Nat) (lk' lv' : Nat) (v : Value) (w : World) (h1 : 1 ≤ n) (h2 : n ≤ 4096) (h3 : 1 ≤ wd) (h4 : wd ≤ 16) (hx : 1 ≤ lv' ∧ lv' ≤ 4 ∧ lk' + lv' ≤ wd) : Calls Tryz.prog 12 #[.agg #[.int .i64 (n : Int), .int .i64 (wd : Int), .int .i64 (lk' : Int), .int .i64 (lv' : Int), v]] w fun e w' => ∃ p q, e = .returned (.tuple #[.pointer p, .pointer q, .bool true]) ∧ Below w.heap.size w w' := by
  have d : BelS w (w.alloc (.cells #[.int .i64 (n : Int), .int .i64 (wd : Int), .int .i64 (lk' : Int), .int .i64 (lv' : Int), v] 71)) := (Below.refl _ _).alloc (Nat.le_refl _) _
  go_enter Tryz.func12, Tryz.ntmps12
  go_wp2_with fail
  refine (new_ok n wd _ h1 h2 h3 h4).mono ?_
  rintro e w1 ⟨s, u, rfl, hsu, hH, hb⟩
  have hz : w.heap.size < w1.heap.size := Nat.lt_of_lt_of_le (by simp) hb.size
  have cl : ∀ j, j < 4 → w1.cell? ⟨w.heap.size, j, none⟩ = _ := fun j hj => (hb.cell (p := ⟨w.heap.size, j, none⟩) (by simp)).trans (cellH (heap_alloc_new _ _) j)
  have c0 : w1.cell? ⟨w.heap.size, 0, none⟩ = some (.int .i64 (n : Int)) := (cl 0 (by decide)).trans rfl
  have c1 : w1.cell? ⟨w.heap.size, 1, none⟩ = some (.int .i64 (wd : Int)) := (cl 1 (by decide)).trans rfl
  have c2 : w1.cell? ⟨w.heap.size, 2, none⟩ = some (.int .i64 (lk' : Int)) := (cl 2 (by decide)).trans rfl
  have c3 : w1.cell? ⟨w.heap.size, 3, none⟩ = some (.int .i64 (lv' : Int)) := (cl 3 (by decide)).trans rfl
  replace d := d.step hb
  have H1 : Hid (Holds w1 _ (.fresh n wd)) := hH
  clear hb cl hsu hH
  rw [show (w.alloc (.cells #[.int .i64 (n : Int), .int .i64 (wd : Int), .int .i64 (lk' : Int), .int .i64 (lv' : Int), v] 71)).heap.size = w.heap.size + 1 by simp] at *
  go_wp2_with fail
  refine (ref_new n wd w1 h1 h2 h3 h4).mono ?_
  rintro e w2 ⟨vS, vQ, rfl, hR⟩
  have hb := hR.low
  have k2 : w2.cell? ⟨w.heap.size, 2, none⟩ = some (.int .i64 (lk' : Int)) := (hb.cell (p := ⟨w.heap.size, 2, none⟩) hz).trans c2
  have k3 : w2.cell? ⟨w.heap.size, 3, none⟩ = some (.int .i64 (lv' : Int)) := (hb.cell (p := ⟨w.heap.size, 3, none⟩) hz).trans c3
  obtain ⟨ss, hoS⟩ := hR.oS
  obtain ⟨g0, k0, rfl⟩ := hoS.form
  have a0 : w2.cell? ⟨w.heap.size + 1 + 2, 0, none⟩ = some (.int .i64 (wd : Int)) := (hb.cell (p := ⟨w.heap.size + 1 + 2, 0, none⟩) H1.out.lb).trans H1.out.c0
  have a1 : w2.cell? ⟨w.heap.size + 1 + 2, 1, none⟩ = some (.slice (some ⟨s, 0, none⟩) n n) := (hb.cell (p := ⟨w.heap.size + 1 + 2, 1, none⟩) H1.out.lb).trans H1.out.c1
  have r0 : w2.cell? ⟨w1.heap.size, 0, none⟩ = some (.int .i64 (wd : Int)) := hR.c0
  have r1 : w2.cell? ⟨w1.heap.size, 1, none⟩ = some (.slice (some ⟨g0, 0, none⟩) (n + 1) k0) := hR.c1
  have la : w.heap.size + 1 + 2 < w2.heap.size := Nat.lt_of_lt_of_le H1.out.lb hb.size
  have lr : w1.heap.size < w2.heap.size := Nat.lt_of_lt_of_le (Nat.lt_succ_self _) hR.lt
  have hz2 : w.heap.size < w2.heap.size := by omega
  replace d := d.step hb
  clear hb hR hoS c0 c1 c2 c3 H1
  generalize w1.heap.size = rb at *
  go_wp2_with fail
  refine (numN _ _).mono ?_
  rintro e w3 ⟨rfl, hb⟩
  have c2 := (hb.cell (p := ⟨w.heap.size, 2, none⟩) hz2).trans k2
  have c3 := (hb.cell (p := ⟨w.heap.size, 3, none⟩) hz2).trans k3
  replace a0 := (hb.cell (p := ⟨w.heap.size + 1 + 2, 0, none⟩) la).trans a0
  replace a1 := (hb.cell (p := ⟨w.heap.size + 1 + 2, 1, none⟩) la).trans a1
  replace r0 := (hb.cell (p := ⟨rb, 0, none⟩) lr).trans r0
  replace r1 := (hb.cell (p := ⟨rb, 1, none⟩) lr).trans r1
  replace lr := Nat.lt_of_lt_of_le lr hb.size
  replace hz2 := Nat.lt_of_lt_of_le hz2 hb.size
  replace d := d.step hb
  clear hb k2 k3 la
  go_wp2_with fail
  refine (lad_new (w.heap.size + 1 + 2) n n wd lk' lv' _ w3 h3 h1 h4 a0 a1 hx.1 hx.2.1 hx.2.2).mono ?_
  rintro e w4 ⟨rfl, _, hb⟩
  have k2 := (hb.cell (p := ⟨w.heap.size, 2, none⟩) hz2).trans c2
  have k3 := (hb.cell (p := ⟨w.heap.size, 3, none⟩) hz2).trans c3
  replace r0 := (hb.cell (p := ⟨rb, 0, none⟩) lr).trans r0
  replace r1 := (hb.cell (p := ⟨rb, 1, none⟩) lr).trans r1
  replace d := d.step hb
  clear hb c2 c3 a0 a1
  go_wp2_with fail
  refine (refL_new rb n k0 wd lk' lv' _ w4 (by omega) h4 r0 r1 hx.1 hx.2.1 hx.2.2).mono ?_
  rintro e w5 ⟨vH, rfl, hR⟩
  replace d := d.step hR.low
  clear hR k2 k3 r0 r1
  go_wp2_with fail
  refine (numN _ _).mono ?_
  rintro e w6 ⟨rfl, hb⟩
  replace d := BelS.step (BelS.step (BelS.step d ((Below.refl _ _).alloc (Nat.le_refl _) _)) ((Below.refl _ _).alloc (Nat.le_refl _) _)) hb
  clear hb
  go_wp2
  exact bodyPost_ret (results_tmp3 rfl _ _ _) rfl ⟨_, _, rfl, d⟩
theorem begin_no (n wd : Nat) (lk lv : Int) (v : Value) (w : World) (h1 : 1 ≤ n) (h2 : n ≤ 4096) (h3 : 1 ≤ wd) (h4 : wd ≤ 16) (hx : ¬ (1 ≤ lv ∧ lv ≤ 4 ∧ 0 ≤ lk ∧ lk + lv ≤ wd)) : Calls Tryz.prog 12 #[.agg #[.int .i64 (n : Int), .int .i64 (wd : Int), .int .i64 lk, .int .i64 lv, v]] w fun e w' => ∃ p q, e = .returned (.tuple #[.pointer p, .pointer q, .bool true]) ∧ Below w.heap.size w w' := by
  have d : BelS w (w.alloc (.cells #[.int .i64 (n : Int), .int .i64 (wd : Int), .int .i64 lk, .int .i64 lv, v] 71)) := (Below.refl _ _).alloc (Nat.le_refl _) _
  go_enter Tryz.func12, Tryz.ntmps12
  go_wp2_with fail
  refine (new_ok n wd _ h1 h2 h3 h4).mono ?_
  rintro e w1 ⟨s, u, rfl, hsu, hH, hb⟩
  have hz : w.heap.size < w1.heap.size := Nat.lt_of_lt_of_le (by simp) hb.size
  have cl : ∀ j, j < 4 → w1.cell? ⟨w.heap.size, j, none⟩ = _ := fun j hj => (hb.cell (p := ⟨w.heap.size, j, none⟩) (by simp)).trans (cellH (heap_alloc_new _ _) j)
  have c0 : w1.cell? ⟨w.heap.size, 0, none⟩ = some (.int .i64 (n : Int)) := (cl 0 (by decide)).trans rfl
  have c1 : w1.cell? ⟨w.heap.size, 1, none⟩ = some (.int .i64 (wd : Int)) := (cl 1 (by decide)).trans rfl
  have c2 : w1.cell? ⟨w.heap.size, 2, none⟩ = some (.int .i64 lk) := (cl 2 (by decide)).trans rfl
  have c3 : w1.cell? ⟨w.heap.size, 3, none⟩ = some (.int .i64 lv) := (cl 3 (by decide)).trans rfl
  replace d := d.step hb
  have H1 : Hid (Holds w1 _ (.fresh n wd)) := hH
  clear hb cl hsu hH
  rw [show (w.alloc (.cells #[.int .i64 (n : Int), .int .i64 (wd : Int), .int .i64 lk, .int .i64 lv, v] 71)).heap.size = w.heap.size + 1 by simp] at *
  go_wp2_with fail
  refine (ref_new n wd w1 h1 h2 h3 h4).mono ?_
  rintro e w2 ⟨vS, vQ, rfl, hR⟩
  have hb := hR.low
  have k2 : w2.cell? ⟨w.heap.size, 2, none⟩ = some (.int .i64 lk) := (hb.cell (p := ⟨w.heap.size, 2, none⟩) hz).trans c2
  have k3 : w2.cell? ⟨w.heap.size, 3, none⟩ = some (.int .i64 lv) := (hb.cell (p := ⟨w.heap.size, 3, none⟩) hz).trans c3
  obtain ⟨ss, hoS⟩ := hR.oS
  obtain ⟨g0, k0, rfl⟩ := hoS.form
  have a0 : w2.cell? ⟨w.heap.size + 1 + 2, 0, none⟩ = some (.int .i64 (wd : Int)) := (hb.cell (p := ⟨w.heap.size + 1 + 2, 0, none⟩) H1.out.lb).trans H1.out.c0
  have a1 : w2.cell? ⟨w.heap.size + 1 + 2, 1, none⟩ = some (.slice (some ⟨s, 0, none⟩) n n) := (hb.cell (p := ⟨w.heap.size + 1 + 2, 1, none⟩) H1.out.lb).trans H1.out.c1
  have r0 : w2.cell? ⟨w1.heap.size, 0, none⟩ = some (.int .i64 (wd : Int)) := hR.c0
  have r1 : w2.cell? ⟨w1.heap.size, 1, none⟩ = some (.slice (some ⟨g0, 0, none⟩) (n + 1) k0) := hR.c1
  have la : w.heap.size + 1 + 2 < w2.heap.size := Nat.lt_of_lt_of_le H1.out.lb hb.size
  have lr : w1.heap.size < w2.heap.size := Nat.lt_of_lt_of_le (Nat.lt_succ_self _) hR.lt
  have hz2 : w.heap.size < w2.heap.size := by omega
  replace d := d.step hb
  clear hb hR hoS c0 c1 c2 c3 H1
  generalize w1.heap.size = rb at *
  go_wp2_with fail
  refine (numN _ _).mono ?_
  rintro e w3 ⟨rfl, hb⟩
  have c2 := (hb.cell (p := ⟨w.heap.size, 2, none⟩) hz2).trans k2
  have c3 := (hb.cell (p := ⟨w.heap.size, 3, none⟩) hz2).trans k3
  replace a0 := (hb.cell (p := ⟨w.heap.size + 1 + 2, 0, none⟩) la).trans a0
  replace a1 := (hb.cell (p := ⟨w.heap.size + 1 + 2, 1, none⟩) la).trans a1
  replace r0 := (hb.cell (p := ⟨rb, 0, none⟩) lr).trans r0
  replace r1 := (hb.cell (p := ⟨rb, 1, none⟩) lr).trans r1
  replace lr := Nat.lt_of_lt_of_le lr hb.size
  replace hz2 := Nat.lt_of_lt_of_le hz2 hb.size
  replace d := d.step hb
  clear hb k2 k3 la
  go_wp2_with fail
  refine (lad_refused (w.heap.size + 1 + 2) n n wd lk lv _ w3 h3 h1 h4 a0 a1 hx).mono ?_
  rintro e w4 ⟨rfl, rfl⟩
  have k2 : w3.drew.cell? ⟨w.heap.size, 2, none⟩ = _ := c2
  have k3 : w3.drew.cell? ⟨w.heap.size, 3, none⟩ = _ := c3
  have q0 : w3.drew.cell? ⟨rb, 0, none⟩ = _ := r0
  have q1 : w3.drew.cell? ⟨rb, 1, none⟩ = _ := r1
  replace d := d.drew
  clear a0 a1
  go_wp2_with fail
  refine (refL_refused rb n k0 wd lk lv _ w3.drew (by omega) h4 q0 q1 hx).mono ?_
  rintro e w5 ⟨rfl, rfl⟩
  replace d := d.drew
  go_wp2_with fail
  refine (numN _ _).mono ?_
  rintro e w6 ⟨rfl, hb⟩
  replace d := BelS.step (BelS.step (BelS.step d ((Below.refl _ _).alloc (Nat.le_refl _) _)) ((Below.refl _ _).alloc (Nat.le_refl _) _)) hb
  clear hb
  go_wp2
  exact bodyPost_ret (results_tmp3 rfl _ _ _) rfl ⟨_, _, rfl, d⟩
theorem begin_any (n wd lk lv : Int) (v : Value) (w : World) : Calls Tryz.prog 12 #[.agg #[.int .i64 n, .int .i64 wd, .int .i64 lk, .int .i64 lv, v]] w fun e w' => ∃ p q, e = .returned (.tuple #[.pointer p, .pointer q, .bool true]) ∧ Below w.heap.size w w' := by
  by_cases h : 1 ≤ n ∧ n ≤ 4096 ∧ 1 ≤ wd ∧ wd ≤ 16
  · obtain ⟨n', rfl⟩ : ∃ n' : Nat, n = (n' : Int) := ⟨n.toNat, by omega⟩
    obtain ⟨wd', rfl⟩ : ∃ wd' : Nat, wd = (wd' : Int) := ⟨wd.toNat, by omega⟩
    by_cases hx : 1 ≤ lv ∧ lv ≤ 4 ∧ 0 ≤ lk ∧ lk + lv ≤ (wd' : Int)
    · obtain ⟨lv', rfl⟩ : ∃ lv' : Nat, lv = (lv' : Int) := ⟨lv.toNat, by omega⟩
      obtain ⟨lk', rfl⟩ : ∃ lk' : Nat, lk = (lk' : Int) := ⟨lk.toNat, by omega⟩
      exact begin_ok n' wd' lk' lv' v w (by omega) (by omega) (by omega) (by omega) ⟨by omega, by omega, by omega⟩
    · exact begin_no n' wd' lk lv v w (by omega) (by omega) (by omega) (by omega) hx
  · exact begin_none n wd lk lv v w h
theorem makes_walk (n wd lk lv : Int) (v : Value) (w : World) : Calls Tryz.prog 4 #[.agg #[.int .i64 n, .int .i64 wd, .int .i64 lk, .int .i64 lv, v]] w fun e w' => e = .returned (.bool true) ∧ Below w.heap.size w w' := by
  have d : BelS w (w.alloc (.cells #[.int .i64 n, .int .i64 wd, .int .i64 lk, .int .i64 lv, v] 71)) := (Below.refl _ _).alloc (Nat.le_refl _) _
  go_enter Tryz.func4, Tryz.ntmps4
  go_wp2_with fail
  refine (begin_any _ _ _ _ _ _).mono ?_
  rintro e w1 ⟨p, q, rfl, hb⟩
  have c2 : w1.cell? ⟨w.heap.size, 2, none⟩ = some (.int .i64 lk) := (hb.cell (p := ⟨w.heap.size, 2, none⟩) (by simp)).trans ((cellH (heap_alloc_new _ _) 2).trans rfl)
  have c3 : w1.cell? ⟨w.heap.size, 3, none⟩ = some (.int .i64 lv) := (hb.cell (p := ⟨w.heap.size, 3, none⟩) (by simp)).trans ((cellH (heap_alloc_new _ _) 3).trans rfl)
  replace d := d.step hb
  clear hb
  go_wp2_with fail
  refine (newN none _ _ _ (missN _)).mono ?_
  rintro e w2 ⟨rfl, hb⟩
  replace d := d.step hb
  clear hb
  clear c2 c3
  go_wp2_with fail
  refine (numN _ _).mono ?_
  rintro e w3 ⟨rfl, hb⟩
  replace d := d.step hb
  clear hb
  go_wp2_with fail
  refine (insertN _ _ _ (noLad_nil _)).mono ?_
  rintro e w4 ⟨rfl, hb⟩
  replace d := d.step hb
  clear hb
  go_wp2_with fail
  refine (removeN _ _ _ (noLad_nil _)).mono ?_
  rintro e w5 ⟨rfl, hb⟩
  replace d := d.step hb
  clear hb
  go_wp2_with fail
  refine (walkN _ _ _ (noLad_nil _)).mono ?_
  rintro e w6 ⟨rfl, hb⟩
  replace d := d.step hb
  clear hb
  go_wp2_with fail
  refine (iStepN _).mono ?_
  rintro e w7 ⟨rfl, hb⟩
  replace d := d.step hb
  clear hb
  go_wp2_with fail
  refine (rStepN _).mono ?_
  rintro e w8 ⟨rfl, hb⟩
  replace d := d.step hb
  clear hb
  go_wp2_with fail
  refine (kStepN _).mono ?_
  rintro e w9 ⟨rfl, hb⟩
  replace d := d.step hb
  clear hb
  go_wp2_with fail
  refine (kEndedN _).mono ?_
  rintro e w10 ⟨rfl, hb⟩
  replace d := d.step hb
  clear hb
  go_wp2_with fail
  refine (iCodeN _).mono ?_
  rintro e w11 ⟨rfl, hb⟩
  replace d := d.step hb
  clear hb
  go_wp2_with fail
  refine (numN _ _).mono ?_
  rintro e w12 ⟨rfl, hb⟩
  replace d := d.step hb
  clear hb
  go_wp2_with fail
  refine (rCodeN _).mono ?_
  rintro e w13 ⟨rfl, hb⟩
  replace d := d.step hb
  clear hb
  go_wp2_with fail
  refine (numN _ _).mono ?_
  rintro e w14 ⟨rfl, hb⟩
  replace d := d.step hb
  clear hb
  go_wp2_with fail
  refine (kCodeN _).mono ?_
  rintro e w15 ⟨rfl, hb⟩
  replace d := d.step hb
  clear hb
  go_wp2_with fail
  refine (numN _ _).mono ?_
  rintro e w16 ⟨rfl, hb⟩
  replace d := d.step hb
  clear hb
  go_wp2_with fail
  refine (kSlotN _).mono ?_
  rintro e w17 ⟨rfl, hb⟩
  replace d := d.step hb
  clear hb
  go_wp2_with fail
  refine (listN _ _ _ (fun W _ => noLad_nil W)).mono ?_
  rintro e w18 ⟨rfl, hb⟩
  replace d := d.step hb
  clear hb
  go_wp2_with fail
  refine (heldN _ _ _ (fun W _ => noLad_nil W)).mono ?_
  rintro e w19 ⟨rfl, hb⟩
  replace d := d.step hb
  clear hb
  go_wp2_with fail
  refine (accN _ _ (noLad_nil _)).mono ?_
  rintro e w20 ⟨rfl, hb⟩
  replace d := d.step hb
  clear hb
  go_wp2_with fail
  refine (numN _ _).mono ?_
  rintro e w21 ⟨rfl, hb⟩
  replace d := d.step hb
  clear hb
  go_wp2_with fail
  refine (numN _ _).mono ?_
  rintro e w22 ⟨rfl, hb⟩
  replace d := d.step hb
  clear hb
  go_wp2
  go_ret
  exact ⟨rfl, d⟩
end Go.Proofs.YtnebbopdeljaiaaGreat
