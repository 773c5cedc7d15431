import Derived.BigQuiet
import Derived.Test.YtdgkocgjihdbpaaOwn0
import Derived.Test.YtdgkocgjihdbpaaFifoLaw
namespace Go.Proofs.Ytdgkocgjihdbpaa
open Go.ChangeShapes Go.WideShapes Go.ChangeAt Go.RowKit
set_option linter.unusedVariables false
set_option maxRecDepth 100000
set_option maxHeartbeats 1600000
theorem own_allocf_in (B : Nat) (L : Lay) (S : AS) (bB gH gN gW : Nat) (row : Nat → Nat) (w : World) (x j : Nat) (wc : Nat) (a b : Int) (wa : Option Addr) (ws : List Int) (p : ByteArray) (hL : ∀ g, L.has g → B ≤ g) (hA : Arn w L [] S) (hK : Bk w L S B bB gH gN gW row) (hx : x < S.n) (hu : S.use x = true) (hj : j < S.wd) (hU : SeesU w B wa ws) (hlen : ws.length * 8 ≤ 140737488355328) (hm : ws.length ≤ S.wd) :
    Calls Try.prog 15 #[.pointer (some ⟨bB, 0, none⟩), .pointer (some ⟨L.b, 0, none⟩), .agg #[.int .i64 1, .int .i64 ((x : Int) + 1), .int .i64 (j : Int), .int .u64 a, .int .u64 b, .slice wa ws.length wc, .string p], .int .i64 (S.n : Int), .int .i64 (S.wd : Int)] w fun e w' => e = .returned (.bool true) ∧ OwS B L bB gH gN gW S.n S.wd w' ∧ Below B w w' := by
  have hz := hA.h.hn.2
  have hwd := hA.h.hw.2
  have H : Hid (Pre B L [] S bB gH gN gW row w w.heap.size (.int .i64 1) (.int .i64 ((x : Int) + 1)) (.int .i64 (j : Int)) (.int .u64 a) (.int .u64 b) (.slice wa ws.length wc) (.string p) (w.alloc (.cells #[.int .i64 1, .int .i64 ((x : Int) + 1), .int .i64 (j : Int), .int .u64 a, .int .u64 b, .slice wa ws.length wc, .string p] 53))) := Pre.start hL hA hK (.int .i64 1) (.int .i64 ((x : Int) + 1)) (.int .i64 (j : Int)) (.int .u64 a) (.int .u64 b) (.slice wa ws.length wc) (.string p) 53
  have HU : Hid (SeesU w B wa ws) := hU
  clear hU
  clear hA hK hL
  go_enter Try.func15, Try.ntmps15
  go_wp2_with fail
  generalize w.alloc (.cells #[.int .i64 1, .int .i64 ((x : Int) + 1), .int .i64 (j : Int), .int .u64 a, .int .u64 b, .slice wa ws.length wc, .string p] 53) = W at *
  generalize w.heap.size = g at *
  have c1 := H.out.ol.h1
  have s2 := H.out.bk.p0
  have s3 := H.out.bk.h x hx
  rw [hu] at s3
  have i1 : (1 : Int) ≤ (x : Int) + 1 := by omega
  have i2 : (x : Int) + 1 ≤ (S.n : Int) := by omega
  have i3 : (0 : Int) ≤ (x : Int) + 1 := by omega
  have i4 : (x : Int) + 1 < ((S.n + 1 : Nat) : Int) := by omega
  go_quiet (fail)
  clear s2 s3
  have H0 := H
  clear H c1
  have H : Hid (Pre B L [] S bB gH gN gW row w g (.int .i64 1) (.int .i64 ((x : Int) + 1)) (.int .i64 (j : Int)) (.int .u64 a) (.int .u64 b) (.slice wa ws.length wc) (.string p) (W.drewN nq)) := H0.out.drewN nq
  clear H0
  generalize W.drewN nq = W at *
  have c0 := H.out.ol.h0
  have c1 := H.out.ol.h1
  have c2 := H.out.ol.h2
  have c3 := H.out.ol.h3
  have c4 := H.out.ol.h4
  have c5 := H.out.ol.h5
  have c6 := H.out.ol.h6
  have HD : Hid (Pre B L [] S bB gH gN gW row w g (.int .i64 1) (.int .i64 ((x : Int) + 1)) (.int .i64 (j : Int)) (.int .u64 a) (.int .u64 b) (.slice wa ws.length wc) (.string p) W.drew) := H.out.drewN 1
  have c5d : W.drew.cell? ⟨g, 5, none⟩ = _ := c5
  have c6d : W.drew.cell? ⟨g, 6, none⟩ = _ := c6
  go_wp2_with fail
  go_region_held3 (fun W' => W'.cell? ⟨g, 5, none⟩ = some (.slice wa ws.length wc) ∧ W'.cell? ⟨g, 6, none⟩ = some (.string p)) (first | assumption | exact ⟨c5d, c6d⟩ | exact ⟨H1.out.1.ol.h5, H1.out.1.ol.h6⟩ | exact ⟨H3.out.1.ol.h5, H3.out.1.ol.h6⟩) (first | (go_at_call 35; refine (words_any wa wc ws W.drew B (Nat.le_trans HD.out.hB HD.out.below.size) (HU.out.later HD.out.below) hlen).mono ?_; rintro e w1 ⟨v, rfl, ho, hb⟩; obtain ⟨sp, cap, rfl, hgiv⟩ := ho.given (L := L) HD.out.arn.h.lt; have H1 : Hid (Pre B L [] S bB gH gN gW row w g (.int .i64 1) (.int .i64 ((x : Int) + 1)) (.int .i64 (j : Int)) (.int .u64 a) (.int .u64 b) (.slice wa ws.length wc) (.string p) w1 ∧ Given w1 L sp ws.length (fun i => ws.getD i 0)) := ⟨HD.out.grow hb, hgiv⟩; clear ho hgiv hb) | (go_at_call 13; refine (arn_full L S w1 p sp ws.length cap H1.out.1.arn hm).mono ?_; rintro e w3 ⟨rfl, h3, k3⟩; have H3 : Hid (Nx B L S bB gH gN gW row w g (.int .i64 1) (.int .i64 ((x : Int) + 1)) (.int .i64 (j : Int)) (.int .u64 a) (.int .u64 b) (.slice wa ws.length wc) (.string p) w3 ∧ Arn w3 L [] { S with acc := wrap64 (S.acc + 1) }) := ⟨H1.out.1.next k3, h3⟩; clear h3 k3))
  clear H HD HU H1 c0 c1 c2 c3 c4 c5 c6 c5d c6d
  go_wp2_with fail
  refine (num_any _ _).mono ?_
  rintro e w2 ⟨rfl, rfl⟩
  go_wp2
  go_ret
  exact ⟨rfl, ⟨⟨_, { S with acc := wrap64 (S.acc + 1) }, row, rfl, rfl, H3.out.2, H3.out.1.bk.sub rfl rfl rfl rfl rfl⟩⟩, H3.out.1.below⟩
theorem own_allocf_lo (B : Nat) (L : Lay) (S : AS) (bB gH gN gW : Nat) (row : Nat → Nat) (w : World) (x : Nat) (y : Int) (wc : Nat) (a b : Int) (wa : Option Addr) (ws : List Int) (p : ByteArray) (hL : ∀ g, L.has g → B ≤ g) (hA : Arn w L [] S) (hK : Bk w L S B bB gH gN gW row) (hx : x < S.n) (hu : S.use x = true) (hy : ¬ 0 ≤ y) (hU : SeesU w B wa ws) (hlen : ws.length * 8 ≤ 140737488355328) (hm : ws.length ≤ S.wd) :
    Calls Try.prog 15 #[.pointer (some ⟨bB, 0, none⟩), .pointer (some ⟨L.b, 0, none⟩), .agg #[.int .i64 1, .int .i64 ((x : Int) + 1), .int .i64 y, .int .u64 a, .int .u64 b, .slice wa ws.length wc, .string p], .int .i64 (S.n : Int), .int .i64 (S.wd : Int)] w fun e w' => e = .returned (.bool true) ∧ OwS B L bB gH gN gW S.n S.wd w' ∧ Below B w w' := by
  have hz := hA.h.hn.2
  have hwd := hA.h.hw.2
  have H : Hid (Pre B L [] S bB gH gN gW row w w.heap.size (.int .i64 1) (.int .i64 ((x : Int) + 1)) (.int .i64 y) (.int .u64 a) (.int .u64 b) (.slice wa ws.length wc) (.string p) (w.alloc (.cells #[.int .i64 1, .int .i64 ((x : Int) + 1), .int .i64 y, .int .u64 a, .int .u64 b, .slice wa ws.length wc, .string p] 53))) := Pre.start hL hA hK (.int .i64 1) (.int .i64 ((x : Int) + 1)) (.int .i64 y) (.int .u64 a) (.int .u64 b) (.slice wa ws.length wc) (.string p) 53
  have HU : Hid (SeesU w B wa ws) := hU
  clear hU
  clear hA hK hL
  go_enter Try.func15, Try.ntmps15
  go_wp2_with fail
  generalize w.alloc (.cells #[.int .i64 1, .int .i64 ((x : Int) + 1), .int .i64 y, .int .u64 a, .int .u64 b, .slice wa ws.length wc, .string p] 53) = W at *
  generalize w.heap.size = g at *
  have c1 := H.out.ol.h1
  have s2 := H.out.bk.p0
  have s3 := H.out.bk.h x hx
  rw [hu] at s3
  have i1 : (1 : Int) ≤ (x : Int) + 1 := by omega
  have i2 : (x : Int) + 1 ≤ (S.n : Int) := by omega
  have i3 : (0 : Int) ≤ (x : Int) + 1 := by omega
  have i4 : (x : Int) + 1 < ((S.n + 1 : Nat) : Int) := by omega
  go_quiet (fail)
  clear s2 s3
  have H0 := H
  clear H c1
  have H : Hid (Pre B L [] S bB gH gN gW row w g (.int .i64 1) (.int .i64 ((x : Int) + 1)) (.int .i64 y) (.int .u64 a) (.int .u64 b) (.slice wa ws.length wc) (.string p) (W.drewN nq)) := H0.out.drewN nq
  clear H0
  generalize W.drewN nq = W at *
  have c0 := H.out.ol.h0
  have c1 := H.out.ol.h1
  have c2 := H.out.ol.h2
  have c3 := H.out.ol.h3
  have c4 := H.out.ol.h4
  have c5 := H.out.ol.h5
  have c6 := H.out.ol.h6
  have HD : Hid (Pre B L [] S bB gH gN gW row w g (.int .i64 1) (.int .i64 ((x : Int) + 1)) (.int .i64 y) (.int .u64 a) (.int .u64 b) (.slice wa ws.length wc) (.string p) W.drew) := H.out.drewN 1
  have c5d : W.drew.cell? ⟨g, 5, none⟩ = _ := c5
  have c6d : W.drew.cell? ⟨g, 6, none⟩ = _ := c6
  go_wp2_with fail
  go_region_held3 (fun W' => W'.cell? ⟨g, 5, none⟩ = some (.slice wa ws.length wc) ∧ W'.cell? ⟨g, 6, none⟩ = some (.string p)) (first | assumption | exact ⟨c5d, c6d⟩ | exact ⟨H1.out.1.ol.h5, H1.out.1.ol.h6⟩ | exact ⟨H3.out.1.ol.h5, H3.out.1.ol.h6⟩) (first | (go_at_call 35; refine (words_any wa wc ws W.drew B (Nat.le_trans HD.out.hB HD.out.below.size) (HU.out.later HD.out.below) hlen).mono ?_; rintro e w1 ⟨v, rfl, ho, hb⟩; obtain ⟨sp, cap, rfl, hgiv⟩ := ho.given (L := L) HD.out.arn.h.lt; have H1 : Hid (Pre B L [] S bB gH gN gW row w g (.int .i64 1) (.int .i64 ((x : Int) + 1)) (.int .i64 y) (.int .u64 a) (.int .u64 b) (.slice wa ws.length wc) (.string p) w1 ∧ Given w1 L sp ws.length (fun i => ws.getD i 0)) := ⟨HD.out.grow hb, hgiv⟩; clear ho hgiv hb) | (go_at_call 13; refine (arn_full L S w1 p sp ws.length cap H1.out.1.arn hm).mono ?_; rintro e w3 ⟨rfl, h3, k3⟩; have H3 : Hid (Nx B L S bB gH gN gW row w g (.int .i64 1) (.int .i64 ((x : Int) + 1)) (.int .i64 y) (.int .u64 a) (.int .u64 b) (.slice wa ws.length wc) (.string p) w3 ∧ Arn w3 L [] { S with acc := wrap64 (S.acc + 1) }) := ⟨H1.out.1.next k3, h3⟩; clear h3 k3))
  clear H HD HU H1 c0 c1 c2 c3 c4 c5 c6 c5d c6d
  go_wp2_with fail
  refine (num_any _ _).mono ?_
  rintro e w2 ⟨rfl, rfl⟩
  go_wp2
  go_ret
  exact ⟨rfl, ⟨⟨_, { S with acc := wrap64 (S.acc + 1) }, row, rfl, rfl, H3.out.2, H3.out.1.bk.sub rfl rfl rfl rfl rfl⟩⟩, H3.out.1.below⟩
theorem own_allocf_hi (B : Nat) (L : Lay) (S : AS) (bB gH gN gW : Nat) (row : Nat → Nat) (w : World) (x : Nat) (y : Int) (wc : Nat) (a b : Int) (wa : Option Addr) (ws : List Int) (p : ByteArray) (hL : ∀ g, L.has g → B ≤ g) (hA : Arn w L [] S) (hK : Bk w L S B bB gH gN gW row) (hx : x < S.n) (hu : S.use x = true) (hy : 0 ≤ y) (hy2 : ¬ y < (S.wd : Int)) (hU : SeesU w B wa ws) (hlen : ws.length * 8 ≤ 140737488355328) (hm : ws.length ≤ S.wd) :
    Calls Try.prog 15 #[.pointer (some ⟨bB, 0, none⟩), .pointer (some ⟨L.b, 0, none⟩), .agg #[.int .i64 1, .int .i64 ((x : Int) + 1), .int .i64 y, .int .u64 a, .int .u64 b, .slice wa ws.length wc, .string p], .int .i64 (S.n : Int), .int .i64 (S.wd : Int)] w fun e w' => e = .returned (.bool true) ∧ OwS B L bB gH gN gW S.n S.wd w' ∧ Below B w w' := by
  have hz := hA.h.hn.2
  have hwd := hA.h.hw.2
  have H : Hid (Pre B L [] S bB gH gN gW row w w.heap.size (.int .i64 1) (.int .i64 ((x : Int) + 1)) (.int .i64 y) (.int .u64 a) (.int .u64 b) (.slice wa ws.length wc) (.string p) (w.alloc (.cells #[.int .i64 1, .int .i64 ((x : Int) + 1), .int .i64 y, .int .u64 a, .int .u64 b, .slice wa ws.length wc, .string p] 53))) := Pre.start hL hA hK (.int .i64 1) (.int .i64 ((x : Int) + 1)) (.int .i64 y) (.int .u64 a) (.int .u64 b) (.slice wa ws.length wc) (.string p) 53
  have HU : Hid (SeesU w B wa ws) := hU
  clear hU
  clear hA hK hL
  go_enter Try.func15, Try.ntmps15
  go_wp2_with fail
  generalize w.alloc (.cells #[.int .i64 1, .int .i64 ((x : Int) + 1), .int .i64 y, .int .u64 a, .int .u64 b, .slice wa ws.length wc, .string p] 53) = W at *
  generalize w.heap.size = g at *
  have c1 := H.out.ol.h1
  have s2 := H.out.bk.p0
  have s3 := H.out.bk.h x hx
  rw [hu] at s3
  have i1 : (1 : Int) ≤ (x : Int) + 1 := by omega
  have i2 : (x : Int) + 1 ≤ (S.n : Int) := by omega
  have i3 : (0 : Int) ≤ (x : Int) + 1 := by omega
  have i4 : (x : Int) + 1 < ((S.n + 1 : Nat) : Int) := by omega
  go_quiet (fail)
  clear s2 s3
  have H0 := H
  clear H c1
  have H : Hid (Pre B L [] S bB gH gN gW row w g (.int .i64 1) (.int .i64 ((x : Int) + 1)) (.int .i64 y) (.int .u64 a) (.int .u64 b) (.slice wa ws.length wc) (.string p) (W.drewN nq)) := H0.out.drewN nq
  clear H0
  generalize W.drewN nq = W at *
  have c0 := H.out.ol.h0
  have c1 := H.out.ol.h1
  have c2 := H.out.ol.h2
  have c3 := H.out.ol.h3
  have c4 := H.out.ol.h4
  have c5 := H.out.ol.h5
  have c6 := H.out.ol.h6
  have HD : Hid (Pre B L [] S bB gH gN gW row w g (.int .i64 1) (.int .i64 ((x : Int) + 1)) (.int .i64 y) (.int .u64 a) (.int .u64 b) (.slice wa ws.length wc) (.string p) W.drew) := H.out.drewN 1
  have c5d : W.drew.cell? ⟨g, 5, none⟩ = _ := c5
  have c6d : W.drew.cell? ⟨g, 6, none⟩ = _ := c6
  go_wp2_with fail
  go_region_held3 (fun W' => W'.cell? ⟨g, 5, none⟩ = some (.slice wa ws.length wc) ∧ W'.cell? ⟨g, 6, none⟩ = some (.string p)) (first | assumption | exact ⟨c5d, c6d⟩ | exact ⟨H1.out.1.ol.h5, H1.out.1.ol.h6⟩ | exact ⟨H3.out.1.ol.h5, H3.out.1.ol.h6⟩) (first | (go_at_call 35; refine (words_any wa wc ws W.drew B (Nat.le_trans HD.out.hB HD.out.below.size) (HU.out.later HD.out.below) hlen).mono ?_; rintro e w1 ⟨v, rfl, ho, hb⟩; obtain ⟨sp, cap, rfl, hgiv⟩ := ho.given (L := L) HD.out.arn.h.lt; have H1 : Hid (Pre B L [] S bB gH gN gW row w g (.int .i64 1) (.int .i64 ((x : Int) + 1)) (.int .i64 y) (.int .u64 a) (.int .u64 b) (.slice wa ws.length wc) (.string p) w1 ∧ Given w1 L sp ws.length (fun i => ws.getD i 0)) := ⟨HD.out.grow hb, hgiv⟩; clear ho hgiv hb) | (go_at_call 13; refine (arn_full L S w1 p sp ws.length cap H1.out.1.arn hm).mono ?_; rintro e w3 ⟨rfl, h3, k3⟩; have H3 : Hid (Nx B L S bB gH gN gW row w g (.int .i64 1) (.int .i64 ((x : Int) + 1)) (.int .i64 y) (.int .u64 a) (.int .u64 b) (.slice wa ws.length wc) (.string p) w3 ∧ Arn w3 L [] { S with acc := wrap64 (S.acc + 1) }) := ⟨H1.out.1.next k3, h3⟩; clear h3 k3))
  clear H HD HU H1 c0 c1 c2 c3 c4 c5 c6 c5d c6d
  go_wp2_with fail
  refine (num_any _ _).mono ?_
  rintro e w2 ⟨rfl, rfl⟩
  go_wp2
  go_ret
  exact ⟨rfl, ⟨⟨_, { S with acc := wrap64 (S.acc + 1) }, row, rfl, rfl, H3.out.2, H3.out.1.bk.sub rfl rfl rfl rfl rfl⟩⟩, H3.out.1.below⟩
theorem own_allocf_un (B : Nat) (L : Lay) (S : AS) (bB gH gN gW : Nat) (row : Nat → Nat) (w : World) (x : Nat) (y : Int) (wc : Nat) (a b : Int) (wa : Option Addr) (ws : List Int) (p : ByteArray) (hL : ∀ g, L.has g → B ≤ g) (hA : Arn w L [] S) (hK : Bk w L S B bB gH gN gW row) (hx : x < S.n) (hu : S.use x = false) (hU : SeesU w B wa ws) (hlen : ws.length * 8 ≤ 140737488355328) (hm : ws.length ≤ S.wd) :
    Calls Try.prog 15 #[.pointer (some ⟨bB, 0, none⟩), .pointer (some ⟨L.b, 0, none⟩), .agg #[.int .i64 1, .int .i64 ((x : Int) + 1), .int .i64 y, .int .u64 a, .int .u64 b, .slice wa ws.length wc, .string p], .int .i64 (S.n : Int), .int .i64 (S.wd : Int)] w fun e w' => e = .returned (.bool true) ∧ OwS B L bB gH gN gW S.n S.wd w' ∧ Below B w w' := by
  have hz := hA.h.hn.2
  have hwd := hA.h.hw.2
  have H : Hid (Pre B L [] S bB gH gN gW row w w.heap.size (.int .i64 1) (.int .i64 ((x : Int) + 1)) (.int .i64 y) (.int .u64 a) (.int .u64 b) (.slice wa ws.length wc) (.string p) (w.alloc (.cells #[.int .i64 1, .int .i64 ((x : Int) + 1), .int .i64 y, .int .u64 a, .int .u64 b, .slice wa ws.length wc, .string p] 53))) := Pre.start hL hA hK (.int .i64 1) (.int .i64 ((x : Int) + 1)) (.int .i64 y) (.int .u64 a) (.int .u64 b) (.slice wa ws.length wc) (.string p) 53
  have HU : Hid (SeesU w B wa ws) := hU
  clear hU
  have NL : Hid (¬ S.live ((x : Int) + 1)) := by
    rintro ⟨k, hk, e, hu'⟩
    have : k = x := by omega
    subst this
    rw [hu] at hu'
    cases hu'
  clear hA hK hL
  go_enter Try.func15, Try.ntmps15
  go_wp2_with fail
  generalize w.alloc (.cells #[.int .i64 1, .int .i64 ((x : Int) + 1), .int .i64 y, .int .u64 a, .int .u64 b, .slice wa ws.length wc, .string p] 53) = W at *
  generalize w.heap.size = g at *
  have c1 := H.out.ol.h1
  have s2 := H.out.bk.p0
  have s3 := H.out.bk.h x hx
  rw [hu] at s3
  have i1 : (1 : Int) ≤ (x : Int) + 1 := by omega
  have i2 : (x : Int) + 1 ≤ (S.n : Int) := by omega
  have i3 : (0 : Int) ≤ (x : Int) + 1 := by omega
  have i4 : (x : Int) + 1 < ((S.n + 1 : Nat) : Int) := by omega
  go_quiet (fail)
  clear s2 s3
  have H0 := H
  clear H c1
  have H : Hid (Pre B L [] S bB gH gN gW row w g (.int .i64 1) (.int .i64 ((x : Int) + 1)) (.int .i64 y) (.int .u64 a) (.int .u64 b) (.slice wa ws.length wc) (.string p) (W.drewN nq)) := H0.out.drewN nq
  clear H0
  generalize W.drewN nq = W at *
  have c0 := H.out.ol.h0
  have c1 := H.out.ol.h1
  have c2 := H.out.ol.h2
  have c3 := H.out.ol.h3
  have c4 := H.out.ol.h4
  have c5 := H.out.ol.h5
  have c6 := H.out.ol.h6
  have HD : Hid (Pre B L [] S bB gH gN gW row w g (.int .i64 1) (.int .i64 ((x : Int) + 1)) (.int .i64 y) (.int .u64 a) (.int .u64 b) (.slice wa ws.length wc) (.string p) W.drew) := H.out.drewN 1
  have c5d : W.drew.cell? ⟨g, 5, none⟩ = _ := c5
  have c6d : W.drew.cell? ⟨g, 6, none⟩ = _ := c6
  go_wp2_with fail
  go_region_held3 (fun W' => W'.cell? ⟨g, 5, none⟩ = some (.slice wa ws.length wc) ∧ W'.cell? ⟨g, 6, none⟩ = some (.string p)) (first | assumption | exact ⟨c5d, c6d⟩ | exact ⟨H1.out.1.ol.h5, H1.out.1.ol.h6⟩ | exact ⟨H3.out.1.ol.h5, H3.out.1.ol.h6⟩) (first | (go_at_call 35; refine (words_any wa wc ws W.drew B (Nat.le_trans HD.out.hB HD.out.below.size) (HU.out.later HD.out.below) hlen).mono ?_; rintro e w1 ⟨v, rfl, ho, hb⟩; obtain ⟨sp, cap, rfl, hgiv⟩ := ho.given (L := L) HD.out.arn.h.lt; have H1 : Hid (Pre B L [] S bB gH gN gW row w g (.int .i64 1) (.int .i64 ((x : Int) + 1)) (.int .i64 y) (.int .u64 a) (.int .u64 b) (.slice wa ws.length wc) (.string p) w1 ∧ Given w1 L sp ws.length (fun i => ws.getD i 0)) := ⟨HD.out.grow hb, hgiv⟩; clear ho hgiv hb) | (go_at_call 13; refine (arn_full L S w1 p sp ws.length cap H1.out.1.arn hm).mono ?_; rintro e w3 ⟨rfl, h3, k3⟩; have H3 : Hid (Nx B L S bB gH gN gW row w g (.int .i64 1) (.int .i64 ((x : Int) + 1)) (.int .i64 y) (.int .u64 a) (.int .u64 b) (.slice wa ws.length wc) (.string p) w3 ∧ Arn w3 L [] { S with acc := wrap64 (S.acc + 1) }) := ⟨H1.out.1.next k3, h3⟩; clear h3 k3))
  clear H HD HU H1 c0 c1 c2 c3 c4 c5 c6 c5d c6d
  go_wp2_with fail
  refine (num_any _ _).mono ?_
  rintro e w2 ⟨rfl, rfl⟩
  go_wp2
  go_ret
  exact ⟨rfl, ⟨⟨_, { S with acc := wrap64 (S.acc + 1) }, row, rfl, rfl, H3.out.2, H3.out.1.bk.sub rfl rfl rfl rfl rfl⟩⟩, H3.out.1.below⟩
theorem own_allocf_sm (B : Nat) (L : Lay) (S : AS) (bB gH gN gW : Nat) (row : Nat → Nat) (w : World) (s y : Int) (wc : Nat) (a b : Int) (wa : Option Addr) (ws : List Int) (p : ByteArray) (hL : ∀ g, L.has g → B ≤ g) (hA : Arn w L [] S) (hK : Bk w L S B bB gH gN gW row) (hs : ¬ 1 ≤ s) (hU : SeesU w B wa ws) (hlen : ws.length * 8 ≤ 140737488355328) (hm : ws.length ≤ S.wd) :
    Calls Try.prog 15 #[.pointer (some ⟨bB, 0, none⟩), .pointer (some ⟨L.b, 0, none⟩), .agg #[.int .i64 1, .int .i64 s, .int .i64 y, .int .u64 a, .int .u64 b, .slice wa ws.length wc, .string p], .int .i64 (S.n : Int), .int .i64 (S.wd : Int)] w fun e w' => e = .returned (.bool true) ∧ OwS B L bB gH gN gW S.n S.wd w' ∧ Below B w w' := by
  have hz := hA.h.hn.2
  have hwd := hA.h.hw.2
  have H : Hid (Pre B L [] S bB gH gN gW row w w.heap.size (.int .i64 1) (.int .i64 s) (.int .i64 y) (.int .u64 a) (.int .u64 b) (.slice wa ws.length wc) (.string p) (w.alloc (.cells #[.int .i64 1, .int .i64 s, .int .i64 y, .int .u64 a, .int .u64 b, .slice wa ws.length wc, .string p] 53))) := Pre.start hL hA hK (.int .i64 1) (.int .i64 s) (.int .i64 y) (.int .u64 a) (.int .u64 b) (.slice wa ws.length wc) (.string p) 53
  have HU : Hid (SeesU w B wa ws) := hU
  clear hU
  have NL : Hid (¬ S.live s) := by
    rintro ⟨k, hk, e, hu'⟩
    omega
  clear hA hK hL
  go_enter Try.func15, Try.ntmps15
  go_wp2_with fail
  generalize w.alloc (.cells #[.int .i64 1, .int .i64 s, .int .i64 y, .int .u64 a, .int .u64 b, .slice wa ws.length wc, .string p] 53) = W at *
  generalize w.heap.size = g at *
  have c1 := H.out.ol.h1
  have hs4 : decide (1 ≤ s) = false := decide_eq_false (by omega)
  go_quiet (fail)
  have H0 := H
  clear H c1
  have H : Hid (Pre B L [] S bB gH gN gW row w g (.int .i64 1) (.int .i64 s) (.int .i64 y) (.int .u64 a) (.int .u64 b) (.slice wa ws.length wc) (.string p) (W.drewN nq)) := H0.out.drewN nq
  clear H0
  generalize W.drewN nq = W at *
  have c0 := H.out.ol.h0
  have c1 := H.out.ol.h1
  have c2 := H.out.ol.h2
  have c3 := H.out.ol.h3
  have c4 := H.out.ol.h4
  have c5 := H.out.ol.h5
  have c6 := H.out.ol.h6
  have HD : Hid (Pre B L [] S bB gH gN gW row w g (.int .i64 1) (.int .i64 s) (.int .i64 y) (.int .u64 a) (.int .u64 b) (.slice wa ws.length wc) (.string p) W.drew) := H.out.drewN 1
  have c5d : W.drew.cell? ⟨g, 5, none⟩ = _ := c5
  have c6d : W.drew.cell? ⟨g, 6, none⟩ = _ := c6
  go_wp2_with fail
  go_region_held3 (fun W' => W'.cell? ⟨g, 5, none⟩ = some (.slice wa ws.length wc) ∧ W'.cell? ⟨g, 6, none⟩ = some (.string p)) (first | assumption | exact ⟨c5d, c6d⟩ | exact ⟨H1.out.1.ol.h5, H1.out.1.ol.h6⟩ | exact ⟨H3.out.1.ol.h5, H3.out.1.ol.h6⟩) (first | (go_at_call 35; refine (words_any wa wc ws W.drew B (Nat.le_trans HD.out.hB HD.out.below.size) (HU.out.later HD.out.below) hlen).mono ?_; rintro e w1 ⟨v, rfl, ho, hb⟩; obtain ⟨sp, cap, rfl, hgiv⟩ := ho.given (L := L) HD.out.arn.h.lt; have H1 : Hid (Pre B L [] S bB gH gN gW row w g (.int .i64 1) (.int .i64 s) (.int .i64 y) (.int .u64 a) (.int .u64 b) (.slice wa ws.length wc) (.string p) w1 ∧ Given w1 L sp ws.length (fun i => ws.getD i 0)) := ⟨HD.out.grow hb, hgiv⟩; clear ho hgiv hb) | (go_at_call 13; refine (arn_full L S w1 p sp ws.length cap H1.out.1.arn hm).mono ?_; rintro e w3 ⟨rfl, h3, k3⟩; have H3 : Hid (Nx B L S bB gH gN gW row w g (.int .i64 1) (.int .i64 s) (.int .i64 y) (.int .u64 a) (.int .u64 b) (.slice wa ws.length wc) (.string p) w3 ∧ Arn w3 L [] { S with acc := wrap64 (S.acc + 1) }) := ⟨H1.out.1.next k3, h3⟩; clear h3 k3))
  clear H HD HU H1 c0 c1 c2 c3 c4 c5 c6 c5d c6d
  go_wp2_with fail
  refine (num_any _ _).mono ?_
  rintro e w2 ⟨rfl, rfl⟩
  go_wp2
  go_ret
  exact ⟨rfl, ⟨⟨_, { S with acc := wrap64 (S.acc + 1) }, row, rfl, rfl, H3.out.2, H3.out.1.bk.sub rfl rfl rfl rfl rfl⟩⟩, H3.out.1.below⟩
theorem own_allocf_bg (B : Nat) (L : Lay) (S : AS) (bB gH gN gW : Nat) (row : Nat → Nat) (w : World) (s y : Int) (wc : Nat) (a b : Int) (wa : Option Addr) (ws : List Int) (p : ByteArray) (hL : ∀ g, L.has g → B ≤ g) (hA : Arn w L [] S) (hK : Bk w L S B bB gH gN gW row) (hs : 1 ≤ s) (hs2 : ¬ s ≤ (S.n : Int)) (hU : SeesU w B wa ws) (hlen : ws.length * 8 ≤ 140737488355328) (hm : ws.length ≤ S.wd) :
    Calls Try.prog 15 #[.pointer (some ⟨bB, 0, none⟩), .pointer (some ⟨L.b, 0, none⟩), .agg #[.int .i64 1, .int .i64 s, .int .i64 y, .int .u64 a, .int .u64 b, .slice wa ws.length wc, .string p], .int .i64 (S.n : Int), .int .i64 (S.wd : Int)] w fun e w' => e = .returned (.bool true) ∧ OwS B L bB gH gN gW S.n S.wd w' ∧ Below B w w' := by
  have hz := hA.h.hn.2
  have hwd := hA.h.hw.2
  have H : Hid (Pre B L [] S bB gH gN gW row w w.heap.size (.int .i64 1) (.int .i64 s) (.int .i64 y) (.int .u64 a) (.int .u64 b) (.slice wa ws.length wc) (.string p) (w.alloc (.cells #[.int .i64 1, .int .i64 s, .int .i64 y, .int .u64 a, .int .u64 b, .slice wa ws.length wc, .string p] 53))) := Pre.start hL hA hK (.int .i64 1) (.int .i64 s) (.int .i64 y) (.int .u64 a) (.int .u64 b) (.slice wa ws.length wc) (.string p) 53
  have HU : Hid (SeesU w B wa ws) := hU
  clear hU
  have NL : Hid (¬ S.live s) := by
    rintro ⟨k, hk, e, hu'⟩
    omega
  clear hA hK hL
  go_enter Try.func15, Try.ntmps15
  go_wp2_with fail
  generalize w.alloc (.cells #[.int .i64 1, .int .i64 s, .int .i64 y, .int .u64 a, .int .u64 b, .slice wa ws.length wc, .string p] 53) = W at *
  generalize w.heap.size = g at *
  have c1 := H.out.ol.h1
  have hs4 : decide (s ≤ (S.n : Int)) = false := decide_eq_false (by omega)
  go_quiet (fail)
  have H0 := H
  clear H c1
  have H : Hid (Pre B L [] S bB gH gN gW row w g (.int .i64 1) (.int .i64 s) (.int .i64 y) (.int .u64 a) (.int .u64 b) (.slice wa ws.length wc) (.string p) (W.drewN nq)) := H0.out.drewN nq
  clear H0
  generalize W.drewN nq = W at *
  have c0 := H.out.ol.h0
  have c1 := H.out.ol.h1
  have c2 := H.out.ol.h2
  have c3 := H.out.ol.h3
  have c4 := H.out.ol.h4
  have c5 := H.out.ol.h5
  have c6 := H.out.ol.h6
  have HD : Hid (Pre B L [] S bB gH gN gW row w g (.int .i64 1) (.int .i64 s) (.int .i64 y) (.int .u64 a) (.int .u64 b) (.slice wa ws.length wc) (.string p) W.drew) := H.out.drewN 1
  have c5d : W.drew.cell? ⟨g, 5, none⟩ = _ := c5
  have c6d : W.drew.cell? ⟨g, 6, none⟩ = _ := c6
  go_wp2_with fail
  go_region_held3 (fun W' => W'.cell? ⟨g, 5, none⟩ = some (.slice wa ws.length wc) ∧ W'.cell? ⟨g, 6, none⟩ = some (.string p)) (first | assumption | exact ⟨c5d, c6d⟩ | exact ⟨H1.out.1.ol.h5, H1.out.1.ol.h6⟩ | exact ⟨H3.out.1.ol.h5, H3.out.1.ol.h6⟩) (first | (go_at_call 35; refine (words_any wa wc ws W.drew B (Nat.le_trans HD.out.hB HD.out.below.size) (HU.out.later HD.out.below) hlen).mono ?_; rintro e w1 ⟨v, rfl, ho, hb⟩; obtain ⟨sp, cap, rfl, hgiv⟩ := ho.given (L := L) HD.out.arn.h.lt; have H1 : Hid (Pre B L [] S bB gH gN gW row w g (.int .i64 1) (.int .i64 s) (.int .i64 y) (.int .u64 a) (.int .u64 b) (.slice wa ws.length wc) (.string p) w1 ∧ Given w1 L sp ws.length (fun i => ws.getD i 0)) := ⟨HD.out.grow hb, hgiv⟩; clear ho hgiv hb) | (go_at_call 13; refine (arn_full L S w1 p sp ws.length cap H1.out.1.arn hm).mono ?_; rintro e w3 ⟨rfl, h3, k3⟩; have H3 : Hid (Nx B L S bB gH gN gW row w g (.int .i64 1) (.int .i64 s) (.int .i64 y) (.int .u64 a) (.int .u64 b) (.slice wa ws.length wc) (.string p) w3 ∧ Arn w3 L [] { S with acc := wrap64 (S.acc + 1) }) := ⟨H1.out.1.next k3, h3⟩; clear h3 k3))
  clear H HD HU H1 c0 c1 c2 c3 c4 c5 c6 c5d c6d
  go_wp2_with fail
  refine (num_any _ _).mono ?_
  rintro e w2 ⟨rfl, rfl⟩
  go_wp2
  go_ret
  exact ⟨rfl, ⟨⟨_, { S with acc := wrap64 (S.acc + 1) }, row, rfl, rfl, H3.out.2, H3.out.1.bk.sub rfl rfl rfl rfl rfl⟩⟩, H3.out.1.below⟩
end Go.Proofs.Ytdgkocgjihdbpaa
