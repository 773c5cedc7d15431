import Derived.BigQuiet
import Derived.Test.YtdgkocgjihdbpaaOwn0
import Derived.Test.YtdgkocgjihdbpaaFifoLaw
namespace Go.Proofs.Ytdgkocgjihdbpaa
open Go.ChangeShapes Go.WideShapes Go.ChangeAt Go.RowKit
set_option linter.unusedVariables false
set_option maxRecDepth 100000
set_option maxHeartbeats 1600000
theorem own_none_in (B : Nat) (L : Lay) (Q : List Nat) (S : AS) (bB gH gN gW : Nat) (row : Nat → Nat) (w : World) (x j : Nat) (wc : Nat) (a b : Int) (wa : Option Addr) (ws : List Int) (p : ByteArray) (kd : Int) (hL : ∀ g, L.has g → B ≤ g) (hA : Arn w L Q S) (hK : Bk w L S B bB gH gN gW row) (hx : x < S.n) (hu : S.use x = true) (hj : j < S.wd) (q1 : ¬ kd = 1) (q2 : ¬ kd = 2) (q3 : ¬ kd = 3) (q4 : ¬ kd = 4) (q5 : ¬ kd = 5) (q6 : ¬ kd = 6) :
    Calls Try.prog 15 #[.pointer (some ⟨bB, 0, none⟩), .pointer (some ⟨L.b, 0, none⟩), .agg #[.int .i64 kd, .int .i64 ((x : Int) + 1), .int .i64 (j : Int), .int .u64 a, .int .u64 b, .slice wa ws.length wc, .string p], .int .i64 (S.n : Int), .int .i64 (S.wd : Int)] w fun e w' => e = .returned (.bool true) ∧ OwS B L bB gH gN gW S.n S.wd w' ∧ Below B w w' := by
  have hz := hA.h.hn.2
  have hwd := hA.h.hw.2
  have H : Hid (Pre B L Q S bB gH gN gW row w w.heap.size (.int .i64 kd) (.int .i64 ((x : Int) + 1)) (.int .i64 (j : Int)) (.int .u64 a) (.int .u64 b) (.slice wa ws.length wc) (.string p) (w.alloc (.cells #[.int .i64 kd, .int .i64 ((x : Int) + 1), .int .i64 (j : Int), .int .u64 a, .int .u64 b, .slice wa ws.length wc, .string p] 53))) := Pre.start hL hA hK (.int .i64 kd) (.int .i64 ((x : Int) + 1)) (.int .i64 (j : Int)) (.int .u64 a) (.int .u64 b) (.slice wa ws.length wc) (.string p) 53
  clear hA hK hL
  go_enter Try.func15, Try.ntmps15
  go_wp2_with fail
  generalize w.alloc (.cells #[.int .i64 kd, .int .i64 ((x : Int) + 1), .int .i64 (j : Int), .int .u64 a, .int .u64 b, .slice wa ws.length wc, .string p] 53) = W at *
  generalize w.heap.size = g at *
  have c1 := H.out.ol.h1
  have s2 := H.out.bk.p0
  have s3 := H.out.bk.h x hx
  rw [hu] at s3
  have i1 : (1 : Int) ≤ (x : Int) + 1 := by omega
  have i2 : (x : Int) + 1 ≤ (S.n : Int) := by omega
  have i3 : (0 : Int) ≤ (x : Int) + 1 := by omega
  have i4 : (x : Int) + 1 < ((S.n + 1 : Nat) : Int) := by omega
  go_quiet (fail)
  clear s2 s3
  have H0 := H
  clear H c1
  have H : Hid (Pre B L Q S bB gH gN gW row w g (.int .i64 kd) (.int .i64 ((x : Int) + 1)) (.int .i64 (j : Int)) (.int .u64 a) (.int .u64 b) (.slice wa ws.length wc) (.string p) (W.drewN nq)) := H0.out.drewN nq
  clear H0
  generalize W.drewN nq = W at *
  have c0 := H.out.ol.h0
  have c1 := H.out.ol.h1
  have c2 := H.out.ol.h2
  have c3 := H.out.ol.h3
  have c4 := H.out.ol.h4
  have c5 := H.out.ol.h5
  have c6 := H.out.ol.h6
  go_wp2
  go_ret
  exact ⟨rfl, ⟨⟨Q, S, row, rfl, rfl, H.out.arn, H.out.bk⟩⟩, H.out.below⟩
theorem own_none_lo (B : Nat) (L : Lay) (Q : List Nat) (S : AS) (bB gH gN gW : Nat) (row : Nat → Nat) (w : World) (x : Nat) (y : Int) (wc : Nat) (a b : Int) (wa : Option Addr) (ws : List Int) (p : ByteArray) (kd : Int) (hL : ∀ g, L.has g → B ≤ g) (hA : Arn w L Q S) (hK : Bk w L S B bB gH gN gW row) (hx : x < S.n) (hu : S.use x = true) (hy : ¬ 0 ≤ y) (q1 : ¬ kd = 1) (q2 : ¬ kd = 2) (q3 : ¬ kd = 3) (q4 : ¬ kd = 4) (q5 : ¬ kd = 5) (q6 : ¬ kd = 6) :
    Calls Try.prog 15 #[.pointer (some ⟨bB, 0, none⟩), .pointer (some ⟨L.b, 0, none⟩), .agg #[.int .i64 kd, .int .i64 ((x : Int) + 1), .int .i64 y, .int .u64 a, .int .u64 b, .slice wa ws.length wc, .string p], .int .i64 (S.n : Int), .int .i64 (S.wd : Int)] w fun e w' => e = .returned (.bool true) ∧ OwS B L bB gH gN gW S.n S.wd w' ∧ Below B w w' := by
  have hz := hA.h.hn.2
  have hwd := hA.h.hw.2
  have H : Hid (Pre B L Q S bB gH gN gW row w w.heap.size (.int .i64 kd) (.int .i64 ((x : Int) + 1)) (.int .i64 y) (.int .u64 a) (.int .u64 b) (.slice wa ws.length wc) (.string p) (w.alloc (.cells #[.int .i64 kd, .int .i64 ((x : Int) + 1), .int .i64 y, .int .u64 a, .int .u64 b, .slice wa ws.length wc, .string p] 53))) := Pre.start hL hA hK (.int .i64 kd) (.int .i64 ((x : Int) + 1)) (.int .i64 y) (.int .u64 a) (.int .u64 b) (.slice wa ws.length wc) (.string p) 53
  clear hA hK hL
  go_enter Try.func15, Try.ntmps15
  go_wp2_with fail
  generalize w.alloc (.cells #[.int .i64 kd, .int .i64 ((x : Int) + 1), .int .i64 y, .int .u64 a, .int .u64 b, .slice wa ws.length wc, .string p] 53) = W at *
  generalize w.heap.size = g at *
  have c1 := H.out.ol.h1
  have s2 := H.out.bk.p0
  have s3 := H.out.bk.h x hx
  rw [hu] at s3
  have i1 : (1 : Int) ≤ (x : Int) + 1 := by omega
  have i2 : (x : Int) + 1 ≤ (S.n : Int) := by omega
  have i3 : (0 : Int) ≤ (x : Int) + 1 := by omega
  have i4 : (x : Int) + 1 < ((S.n + 1 : Nat) : Int) := by omega
  go_quiet (fail)
  clear s2 s3
  have H0 := H
  clear H c1
  have H : Hid (Pre B L Q S bB gH gN gW row w g (.int .i64 kd) (.int .i64 ((x : Int) + 1)) (.int .i64 y) (.int .u64 a) (.int .u64 b) (.slice wa ws.length wc) (.string p) (W.drewN nq)) := H0.out.drewN nq
  clear H0
  generalize W.drewN nq = W at *
  have c0 := H.out.ol.h0
  have c1 := H.out.ol.h1
  have c2 := H.out.ol.h2
  have c3 := H.out.ol.h3
  have c4 := H.out.ol.h4
  have c5 := H.out.ol.h5
  have c6 := H.out.ol.h6
  go_wp2
  go_ret
  exact ⟨rfl, ⟨⟨Q, S, row, rfl, rfl, H.out.arn, H.out.bk⟩⟩, H.out.below⟩
theorem own_none_hi (B : Nat) (L : Lay) (Q : List Nat) (S : AS) (bB gH gN gW : Nat) (row : Nat → Nat) (w : World) (x : Nat) (y : Int) (wc : Nat) (a b : Int) (wa : Option Addr) (ws : List Int) (p : ByteArray) (kd : Int) (hL : ∀ g, L.has g → B ≤ g) (hA : Arn w L Q S) (hK : Bk w L S B bB gH gN gW row) (hx : x < S.n) (hu : S.use x = true) (hy : 0 ≤ y) (hy2 : ¬ y < (S.wd : Int)) (q1 : ¬ kd = 1) (q2 : ¬ kd = 2) (q3 : ¬ kd = 3) (q4 : ¬ kd = 4) (q5 : ¬ kd = 5) (q6 : ¬ kd = 6) :
    Calls Try.prog 15 #[.pointer (some ⟨bB, 0, none⟩), .pointer (some ⟨L.b, 0, none⟩), .agg #[.int .i64 kd, .int .i64 ((x : Int) + 1), .int .i64 y, .int .u64 a, .int .u64 b, .slice wa ws.length wc, .string p], .int .i64 (S.n : Int), .int .i64 (S.wd : Int)] w fun e w' => e = .returned (.bool true) ∧ OwS B L bB gH gN gW S.n S.wd w' ∧ Below B w w' := by
  have hz := hA.h.hn.2
  have hwd := hA.h.hw.2
  have H : Hid (Pre B L Q S bB gH gN gW row w w.heap.size (.int .i64 kd) (.int .i64 ((x : Int) + 1)) (.int .i64 y) (.int .u64 a) (.int .u64 b) (.slice wa ws.length wc) (.string p) (w.alloc (.cells #[.int .i64 kd, .int .i64 ((x : Int) + 1), .int .i64 y, .int .u64 a, .int .u64 b, .slice wa ws.length wc, .string p] 53))) := Pre.start hL hA hK (.int .i64 kd) (.int .i64 ((x : Int) + 1)) (.int .i64 y) (.int .u64 a) (.int .u64 b) (.slice wa ws.length wc) (.string p) 53
  clear hA hK hL
  go_enter Try.func15, Try.ntmps15
  go_wp2_with fail
  generalize w.alloc (.cells #[.int .i64 kd, .int .i64 ((x : Int) + 1), .int .i64 y, .int .u64 a, .int .u64 b, .slice wa ws.length wc, .string p] 53) = W at *
  generalize w.heap.size = g at *
  have c1 := H.out.ol.h1
  have s2 := H.out.bk.p0
  have s3 := H.out.bk.h x hx
  rw [hu] at s3
  have i1 : (1 : Int) ≤ (x : Int) + 1 := by omega
  have i2 : (x : Int) + 1 ≤ (S.n : Int) := by omega
  have i3 : (0 : Int) ≤ (x : Int) + 1 := by omega
  have i4 : (x : Int) + 1 < ((S.n + 1 : Nat) : Int) := by omega
  go_quiet (fail)
  clear s2 s3
  have H0 := H
  clear H c1
  have H : Hid (Pre B L Q S bB gH gN gW row w g (.int .i64 kd) (.int .i64 ((x : Int) + 1)) (.int .i64 y) (.int .u64 a) (.int .u64 b) (.slice wa ws.length wc) (.string p) (W.drewN nq)) := H0.out.drewN nq
  clear H0
  generalize W.drewN nq = W at *
  have c0 := H.out.ol.h0
  have c1 := H.out.ol.h1
  have c2 := H.out.ol.h2
  have c3 := H.out.ol.h3
  have c4 := H.out.ol.h4
  have c5 := H.out.ol.h5
  have c6 := H.out.ol.h6
  go_wp2
  go_ret
  exact ⟨rfl, ⟨⟨Q, S, row, rfl, rfl, H.out.arn, H.out.bk⟩⟩, H.out.below⟩
theorem own_none_un (B : Nat) (L : Lay) (Q : List Nat) (S : AS) (bB gH gN gW : Nat) (row : Nat → Nat) (w : World) (x : Nat) (y : Int) (wc : Nat) (a b : Int) (wa : Option Addr) (ws : List Int) (p : ByteArray) (kd : Int) (hL : ∀ g, L.has g → B ≤ g) (hA : Arn w L Q S) (hK : Bk w L S B bB gH gN gW row) (hx : x < S.n) (hu : S.use x = false) (q1 : ¬ kd = 1) (q2 : ¬ kd = 2) (q3 : ¬ kd = 3) (q4 : ¬ kd = 4) (q5 : ¬ kd = 5) (q6 : ¬ kd = 6) :
    Calls Try.prog 15 #[.pointer (some ⟨bB, 0, none⟩), .pointer (some ⟨L.b, 0, none⟩), .agg #[.int .i64 kd, .int .i64 ((x : Int) + 1), .int .i64 y, .int .u64 a, .int .u64 b, .slice wa ws.length wc, .string p], .int .i64 (S.n : Int), .int .i64 (S.wd : Int)] w fun e w' => e = .returned (.bool true) ∧ OwS B L bB gH gN gW S.n S.wd w' ∧ Below B w w' := by
  have hz := hA.h.hn.2
  have hwd := hA.h.hw.2
  have H : Hid (Pre B L Q S bB gH gN gW row w w.heap.size (.int .i64 kd) (.int .i64 ((x : Int) + 1)) (.int .i64 y) (.int .u64 a) (.int .u64 b) (.slice wa ws.length wc) (.string p) (w.alloc (.cells #[.int .i64 kd, .int .i64 ((x : Int) + 1), .int .i64 y, .int .u64 a, .int .u64 b, .slice wa ws.length wc, .string p] 53))) := Pre.start hL hA hK (.int .i64 kd) (.int .i64 ((x : Int) + 1)) (.int .i64 y) (.int .u64 a) (.int .u64 b) (.slice wa ws.length wc) (.string p) 53
  have NL : Hid (¬ S.live ((x : Int) + 1)) := by
    rintro ⟨k, hk, e, hu'⟩
    have : k = x := by omega
    subst this
    rw [hu] at hu'
    cases hu'
  clear hA hK hL
  go_enter Try.func15, Try.ntmps15
  go_wp2_with fail
  generalize w.alloc (.cells #[.int .i64 kd, .int .i64 ((x : Int) + 1), .int .i64 y, .int .u64 a, .int .u64 b, .slice wa ws.length wc, .string p] 53) = W at *
  generalize w.heap.size = g at *
  have c1 := H.out.ol.h1
  have s2 := H.out.bk.p0
  have s3 := H.out.bk.h x hx
  rw [hu] at s3
  have i1 : (1 : Int) ≤ (x : Int) + 1 := by omega
  have i2 : (x : Int) + 1 ≤ (S.n : Int) := by omega
  have i3 : (0 : Int) ≤ (x : Int) + 1 := by omega
  have i4 : (x : Int) + 1 < ((S.n + 1 : Nat) : Int) := by omega
  go_quiet (fail)
  clear s2 s3
  have H0 := H
  clear H c1
  have H : Hid (Pre B L Q S bB gH gN gW row w g (.int .i64 kd) (.int .i64 ((x : Int) + 1)) (.int .i64 y) (.int .u64 a) (.int .u64 b) (.slice wa ws.length wc) (.string p) (W.drewN nq)) := H0.out.drewN nq
  clear H0
  generalize W.drewN nq = W at *
  have c0 := H.out.ol.h0
  have c1 := H.out.ol.h1
  have c2 := H.out.ol.h2
  have c3 := H.out.ol.h3
  have c4 := H.out.ol.h4
  have c5 := H.out.ol.h5
  have c6 := H.out.ol.h6
  go_wp2
  go_ret
  exact ⟨rfl, ⟨⟨Q, S, row, rfl, rfl, H.out.arn, H.out.bk⟩⟩, H.out.below⟩
theorem own_none_sm (B : Nat) (L : Lay) (Q : List Nat) (S : AS) (bB gH gN gW : Nat) (row : Nat → Nat) (w : World) (s y : Int) (wc : Nat) (a b : Int) (wa : Option Addr) (ws : List Int) (p : ByteArray) (kd : Int) (hL : ∀ g, L.has g → B ≤ g) (hA : Arn w L Q S) (hK : Bk w L S B bB gH gN gW row) (hs : ¬ 1 ≤ s) (q1 : ¬ kd = 1) (q2 : ¬ kd = 2) (q3 : ¬ kd = 3) (q4 : ¬ kd = 4) (q5 : ¬ kd = 5) (q6 : ¬ kd = 6) :
    Calls Try.prog 15 #[.pointer (some ⟨bB, 0, none⟩), .pointer (some ⟨L.b, 0, none⟩), .agg #[.int .i64 kd, .int .i64 s, .int .i64 y, .int .u64 a, .int .u64 b, .slice wa ws.length wc, .string p], .int .i64 (S.n : Int), .int .i64 (S.wd : Int)] w fun e w' => e = .returned (.bool true) ∧ OwS B L bB gH gN gW S.n S.wd w' ∧ Below B w w' := by
  have hz := hA.h.hn.2
  have hwd := hA.h.hw.2
  have H : Hid (Pre B L Q S bB gH gN gW row w w.heap.size (.int .i64 kd) (.int .i64 s) (.int .i64 y) (.int .u64 a) (.int .u64 b) (.slice wa ws.length wc) (.string p) (w.alloc (.cells #[.int .i64 kd, .int .i64 s, .int .i64 y, .int .u64 a, .int .u64 b, .slice wa ws.length wc, .string p] 53))) := Pre.start hL hA hK (.int .i64 kd) (.int .i64 s) (.int .i64 y) (.int .u64 a) (.int .u64 b) (.slice wa ws.length wc) (.string p) 53
  have NL : Hid (¬ S.live s) := by
    rintro ⟨k, hk, e, hu'⟩
    omega
  clear hA hK hL
  go_enter Try.func15, Try.ntmps15
  go_wp2_with fail
  generalize w.alloc (.cells #[.int .i64 kd, .int .i64 s, .int .i64 y, .int .u64 a, .int .u64 b, .slice wa ws.length wc, .string p] 53) = W at *
  generalize w.heap.size = g at *
  have c1 := H.out.ol.h1
  have hs4 : decide (1 ≤ s) = false := decide_eq_false (by omega)
  go_quiet (fail)
  have H0 := H
  clear H c1
  have H : Hid (Pre B L Q S bB gH gN gW row w g (.int .i64 kd) (.int .i64 s) (.int .i64 y) (.int .u64 a) (.int .u64 b) (.slice wa ws.length wc) (.string p) (W.drewN nq)) := H0.out.drewN nq
  clear H0
  generalize W.drewN nq = W at *
  have c0 := H.out.ol.h0
  have c1 := H.out.ol.h1
  have c2 := H.out.ol.h2
  have c3 := H.out.ol.h3
  have c4 := H.out.ol.h4
  have c5 := H.out.ol.h5
  have c6 := H.out.ol.h6
  go_wp2
  go_ret
  exact ⟨rfl, ⟨⟨Q, S, row, rfl, rfl, H.out.arn, H.out.bk⟩⟩, H.out.below⟩
theorem own_none_bg (B : Nat) (L : Lay) (Q : List Nat) (S : AS) (bB gH gN gW : Nat) (row : Nat → Nat) (w : World) (s y : Int) (wc : Nat) (a b : Int) (wa : Option Addr) (ws : List Int) (p : ByteArray) (kd : Int) (hL : ∀ g, L.has g → B ≤ g) (hA : Arn w L Q S) (hK : Bk w L S B bB gH gN gW row) (hs : 1 ≤ s) (hs2 : ¬ s ≤ (S.n : Int)) (q1 : ¬ kd = 1) (q2 : ¬ kd = 2) (q3 : ¬ kd = 3) (q4 : ¬ kd = 4) (q5 : ¬ kd = 5) (q6 : ¬ kd = 6) :
    Calls Try.prog 15 #[.pointer (some ⟨bB, 0, none⟩), .pointer (some ⟨L.b, 0, none⟩), .agg #[.int .i64 kd, .int .i64 s, .int .i64 y, .int .u64 a, .int .u64 b, .slice wa ws.length wc, .string p], .int .i64 (S.n : Int), .int .i64 (S.wd : Int)] w fun e w' => e = .returned (.bool true) ∧ OwS B L bB gH gN gW S.n S.wd w' ∧ Below B w w' := by
  have hz := hA.h.hn.2
  have hwd := hA.h.hw.2
  have H : Hid (Pre B L Q S bB gH gN gW row w w.heap.size (.int .i64 kd) (.int .i64 s) (.int .i64 y) (.int .u64 a) (.int .u64 b) (.slice wa ws.length wc) (.string p) (w.alloc (.cells #[.int .i64 kd, .int .i64 s, .int .i64 y, .int .u64 a, .int .u64 b, .slice wa ws.length wc, .string p] 53))) := Pre.start hL hA hK (.int .i64 kd) (.int .i64 s) (.int .i64 y) (.int .u64 a) (.int .u64 b) (.slice wa ws.length wc) (.string p) 53
  have NL : Hid (¬ S.live s) := by
    rintro ⟨k, hk, e, hu'⟩
    omega
  clear hA hK hL
  go_enter Try.func15, Try.ntmps15
  go_wp2_with fail
  generalize w.alloc (.cells #[.int .i64 kd, .int .i64 s, .int .i64 y, .int .u64 a, .int .u64 b, .slice wa ws.length wc, .string p] 53) = W at *
  generalize w.heap.size = g at *
  have c1 := H.out.ol.h1
  have hs4 : decide (s ≤ (S.n : Int)) = false := decide_eq_false (by omega)
  go_quiet (fail)
  have H0 := H
  clear H c1
  have H : Hid (Pre B L Q S bB gH gN gW row w g (.int .i64 kd) (.int .i64 s) (.int .i64 y) (.int .u64 a) (.int .u64 b) (.slice wa ws.length wc) (.string p) (W.drewN nq)) := H0.out.drewN nq
  clear H0
  generalize W.drewN nq = W at *
  have c0 := H.out.ol.h0
  have c1 := H.out.ol.h1
  have c2 := H.out.ol.h2
  have c3 := H.out.ol.h3
  have c4 := H.out.ol.h4
  have c5 := H.out.ol.h5
  have c6 := H.out.ol.h6
  go_wp2
  go_ret
  exact ⟨rfl, ⟨⟨Q, S, row, rfl, rfl, H.out.arn, H.out.bk⟩⟩, H.out.below⟩
end Go.Proofs.Ytdgkocgjihdbpaa
