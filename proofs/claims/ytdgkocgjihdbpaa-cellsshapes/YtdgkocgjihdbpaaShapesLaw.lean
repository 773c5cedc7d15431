import Derived.Test.YtdgkocgjihdbpaaRefNew
import Derived.Test.YtdgkocgjihdbpaaLives1
import Derived.Test.YtdgkocgjihdbpaaCells4
import Derived.Test.YtdgkocgjihdbpaaOpenO
import Derived.Test.YtdgkocgjihdbpaaFifoLaw
namespace Go.Proofs.Ytdgkocgjihdbpaa
open Go.ChangeShapes Go.WideShapes Go.ChangeAt Go.RowKit
set_option linter.unusedVariables false
set_option maxRecDepth 100000
set_option maxHeartbeats 1600000
theorem begin_refused (n wd : Int) (w : World) (h : ¬ (1 ≤ n ∧ n ≤ 4096 ∧ 1 ≤ wd ∧ wd ≤ 16)) : Calls Try.prog 6 #[.int .i64 n, .int .i64 wd] w fun e w' => e = .returned (.tuple #[.pointer none, .pointer none, .bool true]) ∧ Below w.heap.size w w' := by
  go_enter Try.func6, Try.ntmps6
  go_wp2_with fail
  refine (new_refused n wd _ h).mono ?_
  rintro e w1 ⟨rfl, rfl⟩
  go_wp2_with fail
  refine (ref_new_refused n wd _ h).mono ?_
  rintro e w2 ⟨rfl, rfl⟩
  go_wp2_with fail
  refine (num_any _ _).mono ?_
  rintro e w3 ⟨rfl, rfl⟩
  go_wp2
  exact bodyPost_ret (results_tmp3 rfl _ _ _) rfl ⟨rfl, Below.refl _ _⟩
theorem begin_ok (n wd : Nat) (w : World) (h1 : 1 ≤ n) (h2 : n ≤ 4096) (h3 : 1 ≤ wd) (h4 : wd ≤ 16) : Calls Try.prog 6 #[.int .i64 (n : Int), .int .i64 (wd : Int)] w fun e w' => ∃ L w1 vS vQ, e = .returned (.tuple #[.pointer (some ⟨L.b, 0, none⟩), .pointer (some ⟨w1.heap.size, 0, none⟩), .bool true]) ∧ (∀ g, L.has g → w.heap.size ≤ g) ∧ Arn w' L (List.range n) (.fresh n wd) ∧ RefN w1 w1.heap.size wd (n + 1) n vS vQ w' ∧ w.heap.size ≤ w1.heap.size ∧ Below w.heap.size w w' := by
  go_enter Try.func6, Try.ntmps6
  go_wp2_with fail
  refine (arn_new n wd w h1 h2 h3 h4).mono ?_
  rintro e w1 ⟨L, rfl, hL, hA, hb⟩
  have H1 : Hid ((∀ g, L.has g → w.heap.size ≤ g) ∧ Arn w1 L (List.range n) (.fresh n wd) ∧ Below w.heap.size w w1) := ⟨hL, hA, hb⟩
  clear hL hA hb
  go_wp2_with fail
  refine (ref_new n wd w1 h1 h2 h3 h4).mono ?_
  rintro e w2 ⟨vS, vQ, rfl, hR⟩
  have H2 : Hid (RefN w1 w1.heap.size wd (n + 1) n vS vQ w2 ∧ Arn w2 L (List.range n) (.fresh n wd) ∧ Below w.heap.size w w2) := ⟨hR, H1.out.2.1.keeps (Below.keeps hR.low (fun _ => False)) (fun _ _ e => e), H1.out.2.2.trans (hR.low.mono H1.out.2.2.size)⟩
  clear hR
  go_wp2_with fail
  refine (num_any _ _).mono ?_
  rintro e w3 ⟨rfl, rfl⟩
  go_wp2
  exact bodyPost_ret (results_tmp3 rfl _ _ _) rfl ⟨L, w1, vS, vQ, rfl, H1.out.1, H2.out.2.1, H2.out.1, H1.out.2.2.size, H2.out.2.2⟩
theorem shapes_refused (n wd : Int) (v : Value) (w : World) (h : ¬ (1 ≤ n ∧ n ≤ 4096 ∧ 1 ≤ wd ∧ wd ≤ 16)) : Calls Try.prog 3 #[.agg #[.int .i64 n, .int .i64 wd, v]] w fun e w' => e = .returned (.bool true) ∧ Below w.heap.size w w' := by
  have HB : Hid (Below w.heap.size w (w.alloc (.cells #[.int .i64 n, .int .i64 wd, v] 24))) := (Below.refl _ _).alloc (Nat.le_refl _) _
  go_enter Try.func3, Try.ntmps3
  go_wp2_with fail
  refine (begin_refused n wd _ h).mono ?_
  rintro e w1 ⟨rfl, hb1⟩
  have H1 : Hid (Below w.heap.size w w1) := HB.out.trans (hb1.mono (by simp))
  clear hb1 HB
  go_wp2_with fail
  refine (shape_nil _).mono ?_
  rintro e w2 ⟨rfl, rfl⟩
  go_wp2_with fail
  refine (ref_shape_nil _).mono ?_
  rintro e w3 ⟨rfl, rfl⟩
  go_wp2_with fail
  refine (live_none none _ (fun W _ => hold_nil W)).mono ?_
  rintro e w4 ⟨rfl, hb4⟩
  have H2 : Hid (Below w.heap.size w w4) := H1.out.trans (hb4.mono H1.out.size)
  clear hb4 H1
  go_wp2
  go_ret
  exact ⟨rfl, H2.out⟩
theorem shapes_walk (n wd : Nat) (v : Value) (w : World) (h1 : 1 ≤ n) (h2 : n ≤ 4096) (h3 : 1 ≤ wd) (h4 : wd ≤ 16) : Calls Try.prog 3 #[.agg #[.int .i64 (n : Int), .int .i64 (wd : Int), v]] w fun e w' => e = .returned (.bool true) ∧ Below w.heap.size w w' := by
  have HB : Hid (Below w.heap.size w (w.alloc (.cells #[.int .i64 (n : Int), .int .i64 (wd : Int), v] 24))) := (Below.refl _ _).alloc (Nat.le_refl _) _
  go_enter Try.func3, Try.ntmps3
  go_wp2_with fail
  refine (begin_ok n wd _ h1 h2 h3 h4).mono ?_
  rintro e w1 ⟨L, wb, vS, vQ, rfl, hL, hA, hR, hwb, hb1⟩
  have H1 : Hid (Below w.heap.size w w1 ∧ Arn w1 L (List.range n) (.fresh n wd) ∧ RefN wb wb.heap.size wd (n + 1) n vS vQ w1) := ⟨HB.out.trans (hb1.mono (by simp)), hA, hR⟩
  clear hb1 HB hL hA hR hwb
  go_wp2_with fail
  refine (shape_any L.b n wd n _ w1 h3 H1.out.2.1.h.c0 H1.out.2.1.h.c1).mono ?_
  rintro e w2 ⟨rfl, rfl⟩
  obtain ⟨ss, hoS⟩ := H1.out.2.2.oS
  obtain ⟨g0, k0, rfl⟩ := hoS.form
  clear hoS
  go_wp2_with fail
  refine (ref_shape wb.heap.size n wd k0 _ w1.drew (by omega) H1.out.2.2.c0 H1.out.2.2.c1).mono ?_
  rintro e w3 ⟨rfl, rfl⟩
  go_wp2_with fail
  refine (live_none (some ⟨L.b, 0, none⟩) w1.drew.drew (fun W hW => hold_none L (.fresh n wd) W (H1.out.2.1.h.drew.drew.kept (fun k hk => hW.block k (H1.out.2.1.h.drew.drew.lt k hk)) hW.size) rfl rfl (fun _ _ => rfl))).mono ?_
  rintro e w4 ⟨rfl, hb4⟩
  have H2 : Hid (Below w.heap.size w w4) := H1.out.1.trans ((((Below.refl w.heap.size w1).drew).drew).trans (hb4.mono H1.out.1.size))
  clear hb4 H1
  go_wp2
  go_ret
  exact ⟨rfl, H2.out⟩
theorem shapes_law (n wd : Int) (v : Value) (w : World) : Calls Try.prog 3 #[.agg #[.int .i64 n, .int .i64 wd, v]] w fun e w' => e = .returned (.bool true) ∧ Below w.heap.size w w' := by
  by_cases h : 1 ≤ n ∧ n ≤ 4096 ∧ 1 ≤ wd ∧ wd ≤ 16
  · obtain ⟨n', rfl⟩ : ∃ n' : Nat, n = (n' : Int) := ⟨n.toNat, by omega⟩
    obtain ⟨wd', rfl⟩ : ∃ wd' : Nat, wd = (wd' : Int) := ⟨wd.toNat, by omega⟩
    exact shapes_walk n' wd' v w (by omega) (by omega) (by omega) (by omega)
  · exact shapes_refused n wd v w h
end Go.Proofs.Ytdgkocgjihdbpaa
