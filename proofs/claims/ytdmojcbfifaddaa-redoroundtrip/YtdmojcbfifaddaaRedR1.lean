import Derived.Test.YtdmojcbfifaddaaRedW5
namespace Go.Proofs.Ytdmojcbfifaddaa
open Go.ChangeShapes Go.WideShapes Go.ChangeAt Go.RowKit
set_option linter.unusedVariables false
set_option maxRecDepth 100000
theorem ltOf {j k n : Nat} (h : j + 1 = k) (h2 : k < n) : j < n := by omega
set_option maxHeartbeats 12800000 in
theorem refMay_any (s : Int) (v : Value) (vs : List W3) (B : Nat) (w : World) (hB : B ≤ w.heap.size) (hv : SeesW w B v vs) :
    Calls Try.prog 14 #[.agg #[.int .u64 s, v]] w fun e w' => e = .returned (.bool (mayC s vs)) ∧ Below w.heap.size w w' := by
  obtain ⟨ao, cap, rfl, hl1, hc1, hs1⟩ := hv
  have HA : Hid (∀ _ : Unit, _) := fun _ => hs1
  clear hs1
  have HM : Hid (mayC s vs = (decide (1 ≤ s ∧ s ≤ 4611686018427387903) && decide (1 ≤ vs.length ∧ vs.length ≤ 128) && okAll vs)) := rfl
  generalize mayC s vs = m at *
  by_cases t1 : 1 ≤ s
  · by_cases t2 : s ≤ 4611686018427387903
    · by_cases h1 : 1 ≤ vs.length
      · by_cases h2 : vs.length ≤ 128
        · have HE : Hid (m = okAll vs) := by show _ = _; rw [HM.out]; simp [t1, t2, h1, h2]
          go_enter Try.func14, Try.ntmps14
          go_wp2_with fail
          have HX : Hid (∀ wr, Below (w.heap.size + 1) (box1 w s (.slice ao vs.length cap)) wr → Below w.heap.size w wr ∧ wr.cell? ⟨w.heap.size, 1, none⟩ = some (.slice ao vs.length cap)) := fun wr h =>
            ⟨(box1_below _ _ _).trans (h.mono (by omega)), (h.cell (p := ⟨w.heap.size, 1, none⟩) (by simp only; omega)).trans (box1_1 _ _ _)⟩
          go_loopw [3] (fun i wr => ∃ k : Nat, k ≤ vs.length ∧ i = .int .i64 k ∧ (∀ j, j < k → okAt vs j = true) ∧ Below (w.heap.size + 1) (box1 w s (.slice ao vs.length cap)) wr) (fun i _ => vs.length - (intOf i).toNat)
          case atStart => exact ⟨0, by omega, rfl, fun j hj => by omega, Below.refl _ _⟩
          case round =>
            obtain ⟨k, hk1, rfl, hok, hbel⟩ := hrel
            obtain ⟨hW, ca⟩ := HX.out wr hbel
            have HBl : Hid (Below (w.heap.size + 1) _ wr) := hbel
            have HW : Hid (Below w.heap.size w wr) := hW
            have HK : Hid (∀ j, j < k → okAt vs j = true) := hok
            have hsz : w.heap.size + 1 ≤ wr.heap.size := by have := hbel.size; rw [box1_size] at this; exact this
            clear hbel hok hW
            by_cases h1 : k < vs.length
            · obtain ⟨b1, o1, e1, hb1, x0, x1, x2⟩ := HA.out () k h1
              have y0 := (HW.out.cell (p := ⟨b1, o1 + k * 3, none⟩) (by simp only; omega)).trans x0
              have y1 := (HW.out.cell (p := ⟨b1, o1 + k * 3 + 1, none⟩) (by simp only; omega)).trans x1
              have y2 := (HW.out.cell (p := ⟨b1, o1 + k * 3 + 2, none⟩) (by simp only; omega)).trans x2
              clear x0 x1 x2
              subst e1
              go_wp2_with fail
              have g0 : (wr.alloc (.cells #[.int .i64 vs[k].1, .string vs[k].2.1, .string vs[k].2.2] 52)).cell? ⟨wr.heap.size, 0, none⟩ = some (.int .i64 vs[k].1) := by simp [go_sem]
              have g1 : (wr.alloc (.cells #[.int .i64 vs[k].1, .string vs[k].2.1, .string vs[k].2.2] 52)).cell? ⟨wr.heap.size, 1, none⟩ = some (.string vs[k].2.1) := by simp [go_sem]
              have g2 : (wr.alloc (.cells #[.int .i64 vs[k].1, .string vs[k].2.1, .string vs[k].2.2] 52)).cell? ⟨wr.heap.size, 2, none⟩ = some (.string vs[k].2.2) := by simp [go_sem]
              have hbA : Below wr.heap.size wr (wr.alloc (.cells #[.int .i64 vs[k].1, .string vs[k].2.1, .string vs[k].2.2] 52)) := (Below.refl _ _).alloc (Nat.le_refl _) _
              have HBA : Hid (Below (w.heap.size + 1) (box1 w s (.slice (some ⟨b1, o1, none⟩) vs.length cap)) (wr.alloc (.cells #[.int .i64 vs[k].1, .string vs[k].2.1, .string vs[k].2.2] 52))) := HBl.out.trans (hbA.mono hsz)
              have gc := (hbA.cell (p := ⟨w.heap.size, 1, none⟩) (by simp only; omega)).trans ca
              have HP : Hid (∀ j (hj : j + 1 = k), (wr.alloc (.cells #[.int .i64 vs[k].1, .string vs[k].2.1, .string vs[k].2.2] 52)).cell? ⟨b1, o1 + j * 3 + 1, none⟩ = some (.string (vs[j]'(by omega)).2.1)) := fun j hj => by
                obtain ⟨b2, o2, e2, hb2, x0, x1, x2⟩ := HA.out () j (by omega)
                simp only [Option.some.injEq, Addr.mk.injEq, and_true] at e2
                obtain ⟨rfl, rfl⟩ := e2
                exact (hbA.cell (p := ⟨b1, o1 + j * 3 + 1, none⟩) (by simp only; omega)).trans ((HW.out.cell (p := ⟨b1, o1 + j * 3 + 1, none⟩) (by simp only; omega)).trans x1)
              have HN : Hid (∀ _ : Unit, k < vs.length) := fun _ => h1
              clear hbA ca y0 y1 y2
              generalize wr.alloc (.cells #[.int .i64 vs[k].1, .string vs[k].2.1, .string vs[k].2.2] 52) = W at *
              generalize wr.heap.size = g at *
              have HBw : Hid (Below w.heap.size w W) := (box1_below _ _ _).trans (HBA.out.mono (by omega))
              have HMW : Hid (mayW vs[k] = (decide (1 ≤ vs[k].2.1.size ∧ vs[k].2.1.size ≤ 160) && (decide (vs[k].1 = 1 ∧ vs[k].2.2.size ≤ 512) || decide (vs[k].1 = 2 ∧ vs[k].2.2.size = 0)))) := rfl
              by_cases z1 : 1 ≤ vs[k].2.1.size
              · have f1 : decide ((vs[k].2.1.size : Int) < 1) = false := by simp; omega
                by_cases z2 : vs[k].2.1.size ≤ 160
                · have f2 : decide ((160 : Int) < (vs[k].2.1.size : Int)) = false := by simp; omega
                  rcases Nat.eq_zero_or_pos k with hk0 | hk0
                  · have hgt : decide (0 < k) = false := by simp; omega
                    have HLt : Hid (∀ j (hj : j + 1 = k), lessS (vs[j]'(ltOf hj (HN.out ()))).2.1 (vs[k]'(HN.out ())).2.1 = true) := fun j hj => by omega
                    clear hk0
                    by_cases k1 : vs[k].1 = 1
                    · have n1 : (vs[k].1 != 1) = false := by simp [k1]
                      have n2 : (vs[k].1 == 2) = false := by simp [k1]
                      by_cases d1 : vs[k].2.2.size ≤ 512
                      · have e1 : decide ((512 : Int) < (vs[k].2.2.size : Int)) = false := by simp; omega
                        have HY : Hid (okAt vs k = true) := okAt_yes (HN.out ()) (by rw [HMW.out]; simp [z1, z2, k1, d1]) HLt.out
                        clear k1 d1
                        rg_start (fun w' => w'.cell? ⟨g, 0, none⟩ = some (.int .i64 vs[k].1) ∧ w'.cell? ⟨g, 1, none⟩ = some (.string vs[k].2.1) ∧ w'.cell? ⟨g, 2, none⟩ = some (.string vs[k].2.2)) ⟨g0, g1, g2⟩
                        rg_take 0
                        rg_take 1
                        rg_take 2
                        rg_take 3
                        rg_take 4
                        rg_take 5
                        rg_take 6
                        rg_take 7
                        rg_take 8
                        rg_take 9
                        rg_take 10
                        rg_take 11
                        rg_take 12
                        rg_take 13
                        rg_skip 14
                        rg_skip 15
                        rg_skip 16
                        rg_skip 17
                        rg_skip 18
                        rg_skip 19
                        rg_skip 20
                        rg_skip 21
                        rg_skip 22
                        rg_skip 23
                        rg_take 24
                        rg_take 25
                        rg_done
                        have g0' : W.drew.cell? ⟨g, 0, none⟩ = some (.int .i64 vs[k].1) := g0
                        have g2' : W.drew.cell? ⟨g, 2, none⟩ = some (.string vs[k].2.2) := g2
                        clear hHeld
                        go_wp2
                        go_roundw
                        case rel => exact ⟨k + 1, by omega, by go_num, fun j hj => by rcases Nat.lt_or_ge j k with h | h; exact HK.out j h; exact (show j = k by omega) ▸ HY.out, HBA.out.drew⟩
                        case measure => simp [intOf]; omega
                      · have e1 : decide ((512 : Int) < (vs[k].2.2.size : Int)) = true := by simp; omega
                        have HY : Hid (okAt vs k = false) := okAt_no (HN.out ()) (by rw [HMW.out]; simp [k1, d1])
                        clear k1 d1
                        rg_start (fun w' => w'.cell? ⟨g, 0, none⟩ = some (.int .i64 vs[k].1) ∧ w'.cell? ⟨g, 1, none⟩ = some (.string vs[k].2.1) ∧ w'.cell? ⟨g, 2, none⟩ = some (.string vs[k].2.2)) ⟨g0, g1, g2⟩
                        rg_take 0
                        rg_take 1
                        rg_take 2
                        rg_take 3
                        rg_take 4
                        rg_take 5
                        rg_take 6
                        rg_take 7
                        rg_take 8
                        rg_take 9
                        rg_take 10
                        rg_take 11
                        rg_take 12
                        rg_take 13
                        rg_skip 14
                        rg_skip 15
                        rg_skip 16
                        rg_skip 17
                        rg_skip 18
                        rg_skip 19
                        rg_skip 20
                        rg_skip 21
                        rg_skip 22
                        rg_skip 23
                        rg_take 24
                        rg_take 25
                        rg_done
                        have g0' : W.drew.cell? ⟨g, 0, none⟩ = some (.int .i64 vs[k].1) := g0
                        have g2' : W.drew.cell? ⟨g, 2, none⟩ = some (.string vs[k].2.2) := g2
                        clear hHeld
                        go_wp2
                        go_ret
                        exact ⟨by rw [HE.out, okAll_no (HN.out ()) HY.out]; rfl, HBw.out.drew⟩
                    · by_cases k2 : vs[k].1 = 2
                      · have n1 : (vs[k].1 != 1) = true := by simp [k2]
                        have n2 : (vs[k].1 != 2) = false := by simp [k2]
                        have n3 : (vs[k].1 == 2) = true := by simp [k2]
                        by_cases d1 : vs[k].2.2.size ≤ 512
                        · have e1 : decide ((512 : Int) < (vs[k].2.2.size : Int)) = false := by simp; omega
                          by_cases d0 : vs[k].2.2.size = 0
                          · have e2 : vs[k].2.2.toList.isEmpty = true := by rw [isEmpty_size]; simp only [d0, decide_true]
                            have HY : Hid (okAt vs k = true) := okAt_yes (HN.out ()) (by rw [HMW.out]; simp only [z1, z2, k2, d0]; decide) HLt.out
                            clear k1 k2 d1 d0
                            rg_start (fun w' => w'.cell? ⟨g, 0, none⟩ = some (.int .i64 vs[k].1) ∧ w'.cell? ⟨g, 1, none⟩ = some (.string vs[k].2.1) ∧ w'.cell? ⟨g, 2, none⟩ = some (.string vs[k].2.2)) ⟨g0, g1, g2⟩
                            rg_take 0
                            rg_take 1
                            rg_take 2
                            rg_take 3
                            rg_take 4
                            rg_take 5
                            rg_take 6
                            rg_take 7
                            rg_take 8
                            rg_take 9
                            rg_take 10
                            rg_take 11
                            rg_take 12
                            rg_take 13
                            rg_skip 14
                            rg_skip 15
                            rg_skip 16
                            rg_skip 17
                            rg_skip 18
                            rg_skip 19
                            rg_skip 20
                            rg_skip 21
                            rg_skip 22
                            rg_skip 23
                            rg_take 24
                            rg_take 25
                            rg_done
                            have g0' : W.drew.cell? ⟨g, 0, none⟩ = some (.int .i64 vs[k].1) := g0
                            have g2' : W.drew.cell? ⟨g, 2, none⟩ = some (.string vs[k].2.2) := g2
                            clear hHeld
                            go_wp2
                            go_roundw
                            case rel => exact ⟨k + 1, by omega, by go_num, fun j hj => by rcases Nat.lt_or_ge j k with h | h; exact HK.out j h; exact (show j = k by omega) ▸ HY.out, HBA.out.drew⟩
                            case measure => simp [intOf]; omega
                          · have e2 : vs[k].2.2.toList.isEmpty = false := by rw [isEmpty_size]; simp only [d0, decide_false]
                            have HY : Hid (okAt vs k = false) := okAt_no (HN.out ()) (by rw [HMW.out]; simp only [k2, d0]; simp)
                            clear k1 k2 d1 d0
                            rg_start (fun w' => w'.cell? ⟨g, 0, none⟩ = some (.int .i64 vs[k].1) ∧ w'.cell? ⟨g, 1, none⟩ = some (.string vs[k].2.1) ∧ w'.cell? ⟨g, 2, none⟩ = some (.string vs[k].2.2)) ⟨g0, g1, g2⟩
                            rg_take 0
                            rg_take 1
                            rg_take 2
                            rg_take 3
                            rg_take 4
                            rg_take 5
                            rg_take 6
                            rg_take 7
                            rg_take 8
                            rg_take 9
                            rg_take 10
                            rg_take 11
                            rg_take 12
                            rg_take 13
                            rg_skip 14
                            rg_skip 15
                            rg_skip 16
                            rg_skip 17
                            rg_skip 18
                            rg_skip 19
                            rg_skip 20
                            rg_skip 21
                            rg_skip 22
                            rg_skip 23
                            rg_take 24
                            rg_take 25
                            rg_done
                            have g0' : W.drew.cell? ⟨g, 0, none⟩ = some (.int .i64 vs[k].1) := g0
                            have g2' : W.drew.cell? ⟨g, 2, none⟩ = some (.string vs[k].2.2) := g2
                            clear hHeld
                            go_wp2
                            go_ret
                            exact ⟨by rw [HE.out, okAll_no (HN.out ()) HY.out]; rfl, HBw.out.drew⟩
                        · have e1 : decide ((512 : Int) < (vs[k].2.2.size : Int)) = true := by simp; omega
                          have d9 : vs[k].2.2.size ≠ 0 := by omega
                          have HY : Hid (okAt vs k = false) := okAt_no (HN.out ()) (by rw [HMW.out]; simp only [k2, d9]; simp)
                          clear k1 k2 d1 d9
                          rg_start (fun w' => w'.cell? ⟨g, 0, none⟩ = some (.int .i64 vs[k].1) ∧ w'.cell? ⟨g, 1, none⟩ = some (.string vs[k].2.1) ∧ w'.cell? ⟨g, 2, none⟩ = some (.string vs[k].2.2)) ⟨g0, g1, g2⟩
                          rg_take 0
                          rg_take 1
                          rg_take 2
                          rg_take 3
                          rg_take 4
                          rg_take 5
                          rg_take 6
                          rg_take 7
                          rg_take 8
                          rg_take 9
                          rg_take 10
                          rg_take 11
                          rg_take 12
                          rg_take 13
                          rg_skip 14
                          rg_skip 15
                          rg_skip 16
                          rg_skip 17
                          rg_skip 18
                          rg_skip 19
                          rg_skip 20
                          rg_skip 21
                          rg_skip 22
                          rg_skip 23
                          rg_take 24
                          rg_take 25
                          rg_done
                          have g0' : W.drew.cell? ⟨g, 0, none⟩ = some (.int .i64 vs[k].1) := g0
                          have g2' : W.drew.cell? ⟨g, 2, none⟩ = some (.string vs[k].2.2) := g2
                          clear hHeld
                          go_wp2
                          go_ret
                          exact ⟨by rw [HE.out, okAll_no (HN.out ()) HY.out]; rfl, HBw.out.drew⟩
                      · have n1 : (vs[k].1 != 1) = true := by simp [k1]
                        have n2 : (vs[k].1 != 2) = true := by simp [k2]
                        have HY : Hid (okAt vs k = false) := okAt_no (HN.out ()) (by rw [HMW.out]; simp [k1, k2])
                        clear k1 k2
                        rg_start (fun w' => w'.cell? ⟨g, 0, none⟩ = some (.int .i64 vs[k].1) ∧ w'.cell? ⟨g, 1, none⟩ = some (.string vs[k].2.1) ∧ w'.cell? ⟨g, 2, none⟩ = some (.string vs[k].2.2)) ⟨g0, g1, g2⟩
                        rg_take 0
                        rg_take 1
                        rg_take 2
                        rg_take 3
                        rg_take 4
                        rg_take 5
                        rg_take 6
                        rg_take 7
                        rg_take 8
                        rg_take 9
                        rg_take 10
                        rg_take 11
                        rg_take 12
                        rg_take 13
                        rg_skip 14
                        rg_skip 15
                        rg_skip 16
                        rg_skip 17
                        rg_skip 18
                        rg_skip 19
                        rg_skip 20
                        rg_skip 21
                        rg_skip 22
                        rg_skip 23
                        rg_take 24
                        rg_take 25
                        rg_done
                        have g0' : W.drew.cell? ⟨g, 0, none⟩ = some (.int .i64 vs[k].1) := g0
                        have g2' : W.drew.cell? ⟨g, 2, none⟩ = some (.string vs[k].2.2) := g2
                        clear hHeld
                        go_wp2
                        go_ret
                        exact ⟨by rw [HE.out, okAll_no (HN.out ()) HY.out]; rfl, HBw.out.drew⟩
                  · have hgt : decide (0 < k) = true := by simp; omega
                    obtain ⟨j, hj⟩ : ∃ j, j + 1 = k := ⟨k - 1, by omega⟩
                    have hjk : IntKind.i64.wrap ((k : Int) - 1) = (j : Int) := by rw [IntKind.wrap_i64]; omega
                    have hjl : (j : Int) < (vs.length : Int) := by omega
                    have hjn : j < vs.length := by omega
                    have gp : W.cell? ⟨b1, o1 + j * 3 + 1, none⟩ = some (.string (vs[j]'hjn).2.1) := HP.out j hj
                    cases hle : lessS (vs[j]'hjn).2.1 vs[k].2.1
                    · have HY : Hid (okAt vs k = false) := okAt_less (HN.out ()) j hj hle
                      have hf : Op.bytesLess (vs[j]'hjn).2.1.toList vs[k].2.1.toList = false := hle
                      clear hk0 hj hle
                      rg_start (fun w' => w'.cell? ⟨g, 0, none⟩ = some (.int .i64 vs[k].1) ∧ w'.cell? ⟨g, 1, none⟩ = some (.string vs[k].2.1) ∧ w'.cell? ⟨g, 2, none⟩ = some (.string vs[k].2.2) ∧ w'.cell? ⟨w.heap.size, 1, none⟩ = some (.slice (some ⟨b1, o1, none⟩) vs.length cap) ∧ w'.cell? ⟨b1, o1 + j * 3 + 1, none⟩ = some (.string (vs[j]'hjn).2.1)) ⟨g0, g1, g2, gc, gp⟩
                      rg_take 0
                      rg_take 1
                      rg_take 2
                      rg_take 3
                      rg_take 4
                      rg_take 5
                      rg_take 6
                      rg_take 7
                      rg_take 8
                      rg_take 9
                      rg_take 10
                      rg_take 11
                      rg_take 12
                      rg_take 13
                      rg_take 14
                      rg_take 15
                      rg_take 16
                      rg_take 17
                      rg_take 18
                      rg_take 19
                      rg_take 20
                      rg_take 21
                      rg_take 22
                      rg_take 23
                      rg_take 24
                      rg_take 25
                      rg_done
                      go_wp2
                      go_ret
                      exact ⟨by rw [HE.out, okAll_no (HN.out ()) HY.out]; rfl, HBw.out.drew⟩
                    · have hf : Op.bytesLess (vs[j]'hjn).2.1.toList vs[k].2.1.toList = true := hle
                      have HLt : Hid (∀ j (hj : j + 1 = k), lessS (vs[j]'(ltOf hj (HN.out ()))).2.1 (vs[k]'(HN.out ())).2.1 = true) := fun j' hj' => by
                        have : j' = j := by omega
                        subst this; exact hle
                      clear hk0 hj hle
                      by_cases k1 : vs[k].1 = 1
                      · have n1 : (vs[k].1 != 1) = false := by simp [k1]
                        have n2 : (vs[k].1 == 2) = false := by simp [k1]
                        by_cases d1 : vs[k].2.2.size ≤ 512
                        · have e1 : decide ((512 : Int) < (vs[k].2.2.size : Int)) = false := by simp; omega
                          have HY : Hid (okAt vs k = true) := okAt_yes (HN.out ()) (by rw [HMW.out]; simp [z1, z2, k1, d1]) HLt.out
                          clear k1 d1
                          rg_start (fun w' => w'.cell? ⟨g, 0, none⟩ = some (.int .i64 vs[k].1) ∧ w'.cell? ⟨g, 1, none⟩ = some (.string vs[k].2.1) ∧ w'.cell? ⟨g, 2, none⟩ = some (.string vs[k].2.2) ∧ w'.cell? ⟨w.heap.size, 1, none⟩ = some (.slice (some ⟨b1, o1, none⟩) vs.length cap) ∧ w'.cell? ⟨b1, o1 + j * 3 + 1, none⟩ = some (.string (vs[j]'hjn).2.1)) ⟨g0, g1, g2, gc, gp⟩
                          rg_take 0
                          rg_take 1
                          rg_take 2
                          rg_take 3
                          rg_take 4
                          rg_take 5
                          rg_take 6
                          rg_take 7
                          rg_take 8
                          rg_take 9
                          rg_take 10
                          rg_take 11
                          rg_take 12
                          rg_take 13
                          rg_take 14
                          rg_take 15
                          rg_take 16
                          rg_take 17
                          rg_take 18
                          rg_take 19
                          rg_take 20
                          rg_take 21
                          rg_take 22
                          rg_take 23
                          rg_take 24
                          rg_take 25
                          rg_done
                          have g0' : W.drew.cell? ⟨g, 0, none⟩ = some (.int .i64 vs[k].1) := g0
                          have g2' : W.drew.cell? ⟨g, 2, none⟩ = some (.string vs[k].2.2) := g2
                          clear hHeld
                          go_wp2
                          go_roundw
                          case rel => exact ⟨k + 1, by omega, by go_num, fun j hj => by rcases Nat.lt_or_ge j k with h | h; exact HK.out j h; exact (show j = k by omega) ▸ HY.out, HBA.out.drew⟩
                          case measure => simp [intOf]; omega
                        · have e1 : decide ((512 : Int) < (vs[k].2.2.size : Int)) = true := by simp; omega
                          have HY : Hid (okAt vs k = false) := okAt_no (HN.out ()) (by rw [HMW.out]; simp [k1, d1])
                          clear k1 d1
                          rg_start (fun w' => w'.cell? ⟨g, 0, none⟩ = some (.int .i64 vs[k].1) ∧ w'.cell? ⟨g, 1, none⟩ = some (.string vs[k].2.1) ∧ w'.cell? ⟨g, 2, none⟩ = some (.string vs[k].2.2) ∧ w'.cell? ⟨w.heap.size, 1, none⟩ = some (.slice (some ⟨b1, o1, none⟩) vs.length cap) ∧ w'.cell? ⟨b1, o1 + j * 3 + 1, none⟩ = some (.string (vs[j]'hjn).2.1)) ⟨g0, g1, g2, gc, gp⟩
                          rg_take 0
                          rg_take 1
                          rg_take 2
                          rg_take 3
                          rg_take 4
                          rg_take 5
                          rg_take 6
                          rg_take 7
                          rg_take 8
                          rg_take 9
                          rg_take 10
                          rg_take 11
                          rg_take 12
                          rg_take 13
                          rg_take 14
                          rg_take 15
                          rg_take 16
                          rg_take 17
                          rg_take 18
                          rg_take 19
                          rg_take 20
                          rg_take 21
                          rg_take 22
                          rg_take 23
                          rg_take 24
                          rg_take 25
                          rg_done
                          have g0' : W.drew.cell? ⟨g, 0, none⟩ = some (.int .i64 vs[k].1) := g0
                          have g2' : W.drew.cell? ⟨g, 2, none⟩ = some (.string vs[k].2.2) := g2
                          clear hHeld
                          go_wp2
                          go_ret
                          exact ⟨by rw [HE.out, okAll_no (HN.out ()) HY.out]; rfl, HBw.out.drew⟩
                      · by_cases k2 : vs[k].1 = 2
                        · have n1 : (vs[k].1 != 1) = true := by simp [k2]
                          have n2 : (vs[k].1 != 2) = false := by simp [k2]
                          have n3 : (vs[k].1 == 2) = true := by simp [k2]
                          by_cases d1 : vs[k].2.2.size ≤ 512
                          · have e1 : decide ((512 : Int) < (vs[k].2.2.size : Int)) = false := by simp; omega
                            by_cases d0 : vs[k].2.2.size = 0
                            · have e2 : vs[k].2.2.toList.isEmpty = true := by rw [isEmpty_size]; simp only [d0, decide_true]
                              have HY : Hid (okAt vs k = true) := okAt_yes (HN.out ()) (by rw [HMW.out]; simp only [z1, z2, k2, d0]; decide) HLt.out
                              clear k1 k2 d1 d0
                              rg_start (fun w' => w'.cell? ⟨g, 0, none⟩ = some (.int .i64 vs[k].1) ∧ w'.cell? ⟨g, 1, none⟩ = some (.string vs[k].2.1) ∧ w'.cell? ⟨g, 2, none⟩ = some (.string vs[k].2.2) ∧ w'.cell? ⟨w.heap.size, 1, none⟩ = some (.slice (some ⟨b1, o1, none⟩) vs.length cap) ∧ w'.cell? ⟨b1, o1 + j * 3 + 1, none⟩ = some (.string (vs[j]'hjn).2.1)) ⟨g0, g1, g2, gc, gp⟩
                              rg_take 0
                              rg_take 1
                              rg_take 2
                              rg_take 3
                              rg_take 4
                              rg_take 5
                              rg_take 6
                              rg_take 7
                              rg_take 8
                              rg_take 9
                              rg_take 10
                              rg_take 11
                              rg_take 12
                              rg_take 13
                              rg_take 14
                              rg_take 15
                              rg_take 16
                              rg_take 17
                              rg_take 18
                              rg_take 19
                              rg_take 20
                              rg_take 21
                              rg_take 22
                              rg_take 23
                              rg_take 24
                              rg_take 25
                              rg_done
                              have g0' : W.drew.cell? ⟨g, 0, none⟩ = some (.int .i64 vs[k].1) := g0
                              have g2' : W.drew.cell? ⟨g, 2, none⟩ = some (.string vs[k].2.2) := g2
                              clear hHeld
                              go_wp2
                              go_roundw
                              case rel => exact ⟨k + 1, by omega, by go_num, fun j hj => by rcases Nat.lt_or_ge j k with h | h; exact HK.out j h; exact (show j = k by omega) ▸ HY.out, HBA.out.drew⟩
                              case measure => simp [intOf]; omega
                            · have e2 : vs[k].2.2.toList.isEmpty = false := by rw [isEmpty_size]; simp only [d0, decide_false]
                              have HY : Hid (okAt vs k = false) := okAt_no (HN.out ()) (by rw [HMW.out]; simp only [k2, d0]; simp)
                              clear k1 k2 d1 d0
                              rg_start (fun w' => w'.cell? ⟨g, 0, none⟩ = some (.int .i64 vs[k].1) ∧ w'.cell? ⟨g, 1, none⟩ = some (.string vs[k].2.1) ∧ w'.cell? ⟨g, 2, none⟩ = some (.string vs[k].2.2) ∧ w'.cell? ⟨w.heap.size, 1, none⟩ = some (.slice (some ⟨b1, o1, none⟩) vs.length cap) ∧ w'.cell? ⟨b1, o1 + j * 3 + 1, none⟩ = some (.string (vs[j]'hjn).2.1)) ⟨g0, g1, g2, gc, gp⟩
                              rg_take 0
                              rg_take 1
                              rg_take 2
                              rg_take 3
                              rg_take 4
                              rg_take 5
                              rg_take 6
                              rg_take 7
                              rg_take 8
                              rg_take 9
                              rg_take 10
                              rg_take 11
                              rg_take 12
                              rg_take 13
                              rg_take 14
                              rg_take 15
                              rg_take 16
                              rg_take 17
                              rg_take 18
                              rg_take 19
                              rg_take 20
                              rg_take 21
                              rg_take 22
                              rg_take 23
                              rg_take 24
                              rg_take 25
                              rg_done
                              have g0' : W.drew.cell? ⟨g, 0, none⟩ = some (.int .i64 vs[k].1) := g0
                              have g2' : W.drew.cell? ⟨g, 2, none⟩ = some (.string vs[k].2.2) := g2
                              clear hHeld
                              go_wp2
                              go_ret
                              exact ⟨by rw [HE.out, okAll_no (HN.out ()) HY.out]; rfl, HBw.out.drew⟩
                          · have e1 : decide ((512 : Int) < (vs[k].2.2.size : Int)) = true := by simp; omega
                            have d9 : vs[k].2.2.size ≠ 0 := by omega
                            have HY : Hid (okAt vs k = false) := okAt_no (HN.out ()) (by rw [HMW.out]; simp only [k2, d9]; simp)
                            clear k1 k2 d1 d9
                            rg_start (fun w' => w'.cell? ⟨g, 0, none⟩ = some (.int .i64 vs[k].1) ∧ w'.cell? ⟨g, 1, none⟩ = some (.string vs[k].2.1) ∧ w'.cell? ⟨g, 2, none⟩ = some (.string vs[k].2.2) ∧ w'.cell? ⟨w.heap.size, 1, none⟩ = some (.slice (some ⟨b1, o1, none⟩) vs.length cap) ∧ w'.cell? ⟨b1, o1 + j * 3 + 1, none⟩ = some (.string (vs[j]'hjn).2.1)) ⟨g0, g1, g2, gc, gp⟩
                            rg_take 0
                            rg_take 1
                            rg_take 2
                            rg_take 3
                            rg_take 4
                            rg_take 5
                            rg_take 6
                            rg_take 7
                            rg_take 8
                            rg_take 9
                            rg_take 10
                            rg_take 11
                            rg_take 12
                            rg_take 13
                            rg_take 14
                            rg_take 15
                            rg_take 16
                            rg_take 17
                            rg_take 18
                            rg_take 19
                            rg_take 20
                            rg_take 21
                            rg_take 22
                            rg_take 23
                            rg_take 24
                            rg_take 25
                            rg_done
                            have g0' : W.drew.cell? ⟨g, 0, none⟩ = some (.int .i64 vs[k].1) := g0
                            have g2' : W.drew.cell? ⟨g, 2, none⟩ = some (.string vs[k].2.2) := g2
                            clear hHeld
                            go_wp2
                            go_ret
                            exact ⟨by rw [HE.out, okAll_no (HN.out ()) HY.out]; rfl, HBw.out.drew⟩
                        · have n1 : (vs[k].1 != 1) = true := by simp [k1]
                          have n2 : (vs[k].1 != 2) = true := by simp [k2]
                          have HY : Hid (okAt vs k = false) := okAt_no (HN.out ()) (by rw [HMW.out]; simp [k1, k2])
                          clear k1 k2
                          rg_start (fun w' => w'.cell? ⟨g, 0, none⟩ = some (.int .i64 vs[k].1) ∧ w'.cell? ⟨g, 1, none⟩ = some (.string vs[k].2.1) ∧ w'.cell? ⟨g, 2, none⟩ = some (.string vs[k].2.2) ∧ w'.cell? ⟨w.heap.size, 1, none⟩ = some (.slice (some ⟨b1, o1, none⟩) vs.length cap) ∧ w'.cell? ⟨b1, o1 + j * 3 + 1, none⟩ = some (.string (vs[j]'hjn).2.1)) ⟨g0, g1, g2, gc, gp⟩
                          rg_take 0
                          rg_take 1
                          rg_take 2
                          rg_take 3
                          rg_take 4
                          rg_take 5
                          rg_take 6
                          rg_take 7
                          rg_take 8
                          rg_take 9
                          rg_take 10
                          rg_take 11
                          rg_take 12
                          rg_take 13
                          rg_take 14
                          rg_take 15
                          rg_take 16
                          rg_take 17
                          rg_take 18
                          rg_take 19
                          rg_take 20
                          rg_take 21
                          rg_take 22
                          rg_take 23
                          rg_take 24
                          rg_take 25
                          rg_done
                          have g0' : W.drew.cell? ⟨g, 0, none⟩ = some (.int .i64 vs[k].1) := g0
                          have g2' : W.drew.cell? ⟨g, 2, none⟩ = some (.string vs[k].2.2) := g2
                          clear hHeld
                          go_wp2
                          go_ret
                          exact ⟨by rw [HE.out, okAll_no (HN.out ()) HY.out]; rfl, HBw.out.drew⟩
                · have f2 : decide ((160 : Int) < (vs[k].2.1.size : Int)) = true := by simp; omega
                  have HY : Hid (okAt vs k = false) := okAt_no (HN.out ()) (by rw [HMW.out]; simp [z2])
                  rg_start (fun w' => w'.cell? ⟨g, 0, none⟩ = some (.int .i64 vs[k].1) ∧ w'.cell? ⟨g, 1, none⟩ = some (.string vs[k].2.1) ∧ w'.cell? ⟨g, 2, none⟩ = some (.string vs[k].2.2)) ⟨g0, g1, g2⟩
                  rg_take 0
                  rg_take 1
                  rg_take 2
                  rg_take 3
                  rg_take 4
                  rg_take 5
                  rg_take 6
                  rg_take 7
                  rg_take 8
                  rg_take 9
                  rg_take 10
                  rg_skip 11
                  rg_skip 12
                  rg_skip 13
                  rg_skip 14
                  rg_skip 15
                  rg_skip 16
                  rg_skip 17
                  rg_skip 18
                  rg_skip 19
                  rg_skip 20
                  rg_skip 21
                  rg_skip 22
                  rg_skip 23
                  rg_skip 24
                  rg_take 25
                  rg_done
                  go_wp2
                  go_ret
                  exact ⟨by rw [HE.out, okAll_no (HN.out ()) HY.out]; rfl, HBw.out.drew⟩
              · have f1 : decide ((vs[k].2.1.size : Int) < 1) = true := by simp; omega
                have HY : Hid (okAt vs k = false) := okAt_no (HN.out ()) (by rw [HMW.out]; simp [z1])
                rg_start (fun w' => w'.cell? ⟨g, 0, none⟩ = some (.int .i64 vs[k].1) ∧ w'.cell? ⟨g, 1, none⟩ = some (.string vs[k].2.1) ∧ w'.cell? ⟨g, 2, none⟩ = some (.string vs[k].2.2)) ⟨g0, g1, g2⟩
                rg_take 0
                rg_take 1
                rg_take 2
                rg_take 3
                rg_take 4
                rg_skip 5
                rg_skip 6
                rg_skip 7
                rg_skip 8
                rg_take 9
                rg_take 10
                rg_skip 11
                rg_skip 12
                rg_skip 13
                rg_skip 14
                rg_skip 15
                rg_skip 16
                rg_skip 17
                rg_skip 18
                rg_skip 19
                rg_skip 20
                rg_skip 21
                rg_skip 22
                rg_skip 23
                rg_skip 24
                rg_take 25
                rg_done
                go_wp2
                go_ret
                exact ⟨by rw [HE.out, okAll_no (HN.out ()) HY.out]; rfl, HBw.out.drew⟩
            · go_wp2
              go_ret
              exact ⟨by rw [HE.out, okAll_yes (fun j hj => HK.out j (by omega))]; rfl, HW.out⟩
        · have HE : Hid (m = false) := by show _ = _; rw [HM.out]; simp; intros; omega
          go_enter Try.func14, Try.ntmps14
          go_wp2
          go_ret
          exact ⟨by rw [HE.out]; rfl, box1_below w s _⟩
      · have HE : Hid (m = false) := by show _ = _; rw [HM.out]; simp; intros; omega
        go_enter Try.func14, Try.ntmps14
        go_wp2
        go_ret
        exact ⟨by rw [HE.out]; rfl, box1_below w s _⟩
    · have HE : Hid (m = false) := by show _ = _; rw [HM.out]; simp; intros; omega
      go_enter Try.func14, Try.ntmps14
      go_wp2
      go_ret
      exact ⟨by rw [HE.out]; rfl, box1_below w s _⟩
  · have HE : Hid (m = false) := by show _ = _; rw [HM.out]; simp; intros; omega
    go_enter Try.func14, Try.ntmps14
    go_wp2
    go_ret
    exact ⟨by rw [HE.out]; rfl, box1_below w s _⟩
end Go.Proofs.Ytdmojcbfifaddaa
