import Derived.BigQuiet
import Derived.Test.YtdgkocgjihdbpaaOwn0
import Derived.Test.YtdgkocgjihdbpaaFifoLaw
namespace Go.Proofs.Ytdgkocgjihdbpaa
open Go.ChangeShapes Go.WideShapes Go.ChangeAt Go.RowKit
set_option linter.unusedVariables false
set_option maxRecDepth 100000
set_option maxHeartbeats 1600000
theorem own_free_in (B : Nat) (L : Lay) (Q : List Nat) (S : AS) (bB gH gN gW : Nat) (row : Nat → Nat) (w : World) (x j : Nat) (wc : Nat) (a b : Int) (wa : Option Addr) (ws : List Int) (p : ByteArray) (hL : ∀ g, L.has g → B ≤ g) (hA : Arn w L Q S) (hK : Bk w L S B bB gH gN gW row) (hx : x < S.n) (hu : S.use x = true) (hj : j < S.wd) :
    Calls Try.prog 15 #[.pointer (some ⟨bB, 0, none⟩), .pointer (some ⟨L.b, 0, none⟩), .agg #[.int .i64 2, .int .i64 ((x : Int) + 1), .int .i64 (j : Int), .int .u64 a, .int .u64 b, .slice wa ws.length wc, .string p], .int .i64 (S.n : Int), .int .i64 (S.wd : Int)] w fun e w' => e = .returned (.bool true) ∧ OwS B L bB gH gN gW S.n S.wd w' ∧ Below B w w' := by
  have hz := hA.h.hn.2
  have hwd := hA.h.hw.2
  have H : Hid (Pre B L Q S bB gH gN gW row w w.heap.size (.int .i64 2) (.int .i64 ((x : Int) + 1)) (.int .i64 (j : Int)) (.int .u64 a) (.int .u64 b) (.slice wa ws.length wc) (.string p) (w.alloc (.cells #[.int .i64 2, .int .i64 ((x : Int) + 1), .int .i64 (j : Int), .int .u64 a, .int .u64 b, .slice wa ws.length wc, .string p] 53))) := Pre.start hL hA hK (.int .i64 2) (.int .i64 ((x : Int) + 1)) (.int .i64 (j : Int)) (.int .u64 a) (.int .u64 b) (.slice wa ws.length wc) (.string p) 53
  clear hA hK hL
  go_enter Try.func15, Try.ntmps15
  go_wp2_with fail
  generalize w.alloc (.cells #[.int .i64 2, .int .i64 ((x : Int) + 1), .int .i64 (j : Int), .int .u64 a, .int .u64 b, .slice wa ws.length wc, .string p] 53) = W at *
  generalize w.heap.size = g at *
  have c1 := H.out.ol.h1
  have s2 := H.out.bk.p0
  have s3 := H.out.bk.h x hx
  rw [hu] at s3
  have i1 : (1 : Int) ≤ (x : Int) + 1 := by omega
  have i2 : (x : Int) + 1 ≤ (S.n : Int) := by omega
  have i3 : (0 : Int) ≤ (x : Int) + 1 := by omega
  have i4 : (x : Int) + 1 < ((S.n + 1 : Nat) : Int) := by omega
  go_quiet (fail)
  clear s2 s3
  have H0 := H
  clear H c1
  have H : Hid (Pre B L Q S bB gH gN gW row w g (.int .i64 2) (.int .i64 ((x : Int) + 1)) (.int .i64 (j : Int)) (.int .u64 a) (.int .u64 b) (.slice wa ws.length wc) (.string p) (W.drewN nq)) := H0.out.drewN nq
  clear H0
  generalize W.drewN nq = W at *
  have c0 := H.out.ol.h0
  have c1 := H.out.ol.h1
  have c2 := H.out.ol.h2
  have c3 := H.out.ol.h3
  have c4 := H.out.ol.h4
  have c5 := H.out.ol.h5
  have c6 := H.out.ol.h6
  go_wp2_with fail
  refine (arn_free L S W Q x H.out.arn hx hu).mono ?_
  rintro e w1 ⟨rfl, h1, k1⟩
  have H1 : Hid (Nx B L S bB gH gN gW row w g (.int .i64 2) (.int .i64 ((x : Int) + 1)) (.int .i64 (j : Int)) (.int .u64 a) (.int .u64 b) (.slice wa ws.length wc) (.string p) w1 ∧ Arn w1 L (Q ++ [x]) (S.free x)) := ⟨H.out.next k1, h1⟩
  clear h1 k1 c0 c1 c2 c3 c4 c5 c6
  have c1 := H1.out.1.ol.h1
  have c2 := H1.out.1.ol.h2
  have c3 := H1.out.1.ol.h3
  have c4 := H1.out.1.ol.h4
  have p0 := H1.out.1.bk.p0
  have hc := H1.out.1.bk.h x hx
  have hf := H1.out.1.bk.fH (x + 1)
  have n1 : g ≠ gH := H1.out.1.gH
  have n2 : bB ≠ gH := H1.out.1.bk.bH
  rw [hu] at hc
  go_wp2_with fail
  refine (num_any _ _).mono ?_
  rintro e w2 ⟨rfl, rfl⟩
  go_wp2_with fail
  refine wp_once ?_
  apply Exists.intro
  apply Exists.intro
  constructor
  · have t1 : w2.drew.cell? ⟨g, 1, none⟩ = some (.int .i64 ((x : Int) + 1)) := c1
    have t2 : w2.drew.cell? ⟨bB, 0, none⟩ = some (.slice (some ⟨gH, 0, none⟩) (S.n + 1) (S.n + 1)) := p0
    have t3 : w2.drew.cell? ⟨gH, x + 1, none⟩ = some (.bool true) := hc
    have t4 : w2.drew.frozen? ⟨gH, x + 1, none⟩ = false := hf
    go_region_with (fail)
    all_goals exact Post1.here _ _
  go_wp2
  go_ret
  exact ⟨rfl, ⟨⟨_, (S.free x), row, rfl, rfl, (H1.out.2.keeps ((Keeps.refl (fun k => k = gH) w2).setCell (p := ⟨gH, x + 1, none⟩) rfl (.bool false)).drew (fun g hg e => H1.out.1.bk.LH (e ▸ hg))), (H1.out.1.bk.free hx).move ((Keeps.refl (fun _ => False) _).drew) (fun _ _ e => e.elim)⟩⟩, (H1.out.1.below.setCell (p := ⟨gH, x + 1, none⟩) H1.out.1.bk.lo.2.1 _).drew⟩
theorem own_free_lo (B : Nat) (L : Lay) (Q : List Nat) (S : AS) (bB gH gN gW : Nat) (row : Nat → Nat) (w : World) (x : Nat) (y : Int) (wc : Nat) (a b : Int) (wa : Option Addr) (ws : List Int) (p : ByteArray) (hL : ∀ g, L.has g → B ≤ g) (hA : Arn w L Q S) (hK : Bk w L S B bB gH gN gW row) (hx : x < S.n) (hu : S.use x = true) (hy : ¬ 0 ≤ y) :
    Calls Try.prog 15 #[.pointer (some ⟨bB, 0, none⟩), .pointer (some ⟨L.b, 0, none⟩), .agg #[.int .i64 2, .int .i64 ((x : Int) + 1), .int .i64 y, .int .u64 a, .int .u64 b, .slice wa ws.length wc, .string p], .int .i64 (S.n : Int), .int .i64 (S.wd : Int)] w fun e w' => e = .returned (.bool true) ∧ OwS B L bB gH gN gW S.n S.wd w' ∧ Below B w w' := by
  have hz := hA.h.hn.2
  have hwd := hA.h.hw.2
  have H : Hid (Pre B L Q S bB gH gN gW row w w.heap.size (.int .i64 2) (.int .i64 ((x : Int) + 1)) (.int .i64 y) (.int .u64 a) (.int .u64 b) (.slice wa ws.length wc) (.string p) (w.alloc (.cells #[.int .i64 2, .int .i64 ((x : Int) + 1), .int .i64 y, .int .u64 a, .int .u64 b, .slice wa ws.length wc, .string p] 53))) := Pre.start hL hA hK (.int .i64 2) (.int .i64 ((x : Int) + 1)) (.int .i64 y) (.int .u64 a) (.int .u64 b) (.slice wa ws.length wc) (.string p) 53
  clear hA hK hL
  go_enter Try.func15, Try.ntmps15
  go_wp2_with fail
  generalize w.alloc (.cells #[.int .i64 2, .int .i64 ((x : Int) + 1), .int .i64 y, .int .u64 a, .int .u64 b, .slice wa ws.length wc, .string p] 53) = W at *
  generalize w.heap.size = g at *
  have c1 := H.out.ol.h1
  have s2 := H.out.bk.p0
  have s3 := H.out.bk.h x hx
  rw [hu] at s3
  have i1 : (1 : Int) ≤ (x : Int) + 1 := by omega
  have i2 : (x : Int) + 1 ≤ (S.n : Int) := by omega
  have i3 : (0 : Int) ≤ (x : Int) + 1 := by omega
  have i4 : (x : Int) + 1 < ((S.n + 1 : Nat) : Int) := by omega
  go_quiet (fail)
  clear s2 s3
  have H0 := H
  clear H c1
  have H : Hid (Pre B L Q S bB gH gN gW row w g (.int .i64 2) (.int .i64 ((x : Int) + 1)) (.int .i64 y) (.int .u64 a) (.int .u64 b) (.slice wa ws.length wc) (.string p) (W.drewN nq)) := H0.out.drewN nq
  clear H0
  generalize W.drewN nq = W at *
  have c0 := H.out.ol.h0
  have c1 := H.out.ol.h1
  have c2 := H.out.ol.h2
  have c3 := H.out.ol.h3
  have c4 := H.out.ol.h4
  have c5 := H.out.ol.h5
  have c6 := H.out.ol.h6
  go_wp2_with fail
  refine (arn_free L S W Q x H.out.arn hx hu).mono ?_
  rintro e w1 ⟨rfl, h1, k1⟩
  have H1 : Hid (Nx B L S bB gH gN gW row w g (.int .i64 2) (.int .i64 ((x : Int) + 1)) (.int .i64 y) (.int .u64 a) (.int .u64 b) (.slice wa ws.length wc) (.string p) w1 ∧ Arn w1 L (Q ++ [x]) (S.free x)) := ⟨H.out.next k1, h1⟩
  clear h1 k1 c0 c1 c2 c3 c4 c5 c6
  have c1 := H1.out.1.ol.h1
  have c2 := H1.out.1.ol.h2
  have c3 := H1.out.1.ol.h3
  have c4 := H1.out.1.ol.h4
  have p0 := H1.out.1.bk.p0
  have hc := H1.out.1.bk.h x hx
  have hf := H1.out.1.bk.fH (x + 1)
  have n1 : g ≠ gH := H1.out.1.gH
  have n2 : bB ≠ gH := H1.out.1.bk.bH
  rw [hu] at hc
  go_wp2_with fail
  refine (num_any _ _).mono ?_
  rintro e w2 ⟨rfl, rfl⟩
  go_wp2_with fail
  refine wp_once ?_
  apply Exists.intro
  apply Exists.intro
  constructor
  · have t1 : w2.drew.cell? ⟨g, 1, none⟩ = some (.int .i64 ((x : Int) + 1)) := c1
    have t2 : w2.drew.cell? ⟨bB, 0, none⟩ = some (.slice (some ⟨gH, 0, none⟩) (S.n + 1) (S.n + 1)) := p0
    have t3 : w2.drew.cell? ⟨gH, x + 1, none⟩ = some (.bool true) := hc
    have t4 : w2.drew.frozen? ⟨gH, x + 1, none⟩ = false := hf
    go_region_with (fail)
    all_goals exact Post1.here _ _
  go_wp2
  go_ret
  exact ⟨rfl, ⟨⟨_, (S.free x), row, rfl, rfl, (H1.out.2.keeps ((Keeps.refl (fun k => k = gH) w2).setCell (p := ⟨gH, x + 1, none⟩) rfl (.bool false)).drew (fun g hg e => H1.out.1.bk.LH (e ▸ hg))), (H1.out.1.bk.free hx).move ((Keeps.refl (fun _ => False) _).drew) (fun _ _ e => e.elim)⟩⟩, (H1.out.1.below.setCell (p := ⟨gH, x + 1, none⟩) H1.out.1.bk.lo.2.1 _).drew⟩
theorem own_free_hi (B : Nat) (L : Lay) (Q : List Nat) (S : AS) (bB gH gN gW : Nat) (row : Nat → Nat) (w : World) (x : Nat) (y : Int) (wc : Nat) (a b : Int) (wa : Option Addr) (ws : List Int) (p : ByteArray) (hL : ∀ g, L.has g → B ≤ g) (hA : Arn w L Q S) (hK : Bk w L S B bB gH gN gW row) (hx : x < S.n) (hu : S.use x = true) (hy : 0 ≤ y) (hy2 : ¬ y < (S.wd : Int)) :
    Calls Try.prog 15 #[.pointer (some ⟨bB, 0, none⟩), .pointer (some ⟨L.b, 0, none⟩), .agg #[.int .i64 2, .int .i64 ((x : Int) + 1), .int .i64 y, .int .u64 a, .int .u64 b, .slice wa ws.length wc, .string p], .int .i64 (S.n : Int), .int .i64 (S.wd : Int)] w fun e w' => e = .returned (.bool true) ∧ OwS B L bB gH gN gW S.n S.wd w' ∧ Below B w w' := by
  have hz := hA.h.hn.2
  have hwd := hA.h.hw.2
  have H : Hid (Pre B L Q S bB gH gN gW row w w.heap.size (.int .i64 2) (.int .i64 ((x : Int) + 1)) (.int .i64 y) (.int .u64 a) (.int .u64 b) (.slice wa ws.length wc) (.string p) (w.alloc (.cells #[.int .i64 2, .int .i64 ((x : Int) + 1), .int .i64 y, .int .u64 a, .int .u64 b, .slice wa ws.length wc, .string p] 53))) := Pre.start hL hA hK (.int .i64 2) (.int .i64 ((x : Int) + 1)) (.int .i64 y) (.int .u64 a) (.int .u64 b) (.slice wa ws.length wc) (.string p) 53
  clear hA hK hL
  go_enter Try.func15, Try.ntmps15
  go_wp2_with fail
  generalize w.alloc (.cells #[.int .i64 2, .int .i64 ((x : Int) + 1), .int .i64 y, .int .u64 a, .int .u64 b, .slice wa ws.length wc, .string p] 53) = W at *
  generalize w.heap.size = g at *
  have c1 := H.out.ol.h1
  have s2 := H.out.bk.p0
  have s3 := H.out.bk.h x hx
  rw [hu] at s3
  have i1 : (1 : Int) ≤ (x : Int) + 1 := by omega
  have i2 : (x : Int) + 1 ≤ (S.n : Int) := by omega
  have i3 : (0 : Int) ≤ (x : Int) + 1 := by omega
  have i4 : (x : Int) + 1 < ((S.n + 1 : Nat) : Int) := by omega
  go_quiet (fail)
  clear s2 s3
  have H0 := H
  clear H c1
  have H : Hid (Pre B L Q S bB gH gN gW row w g (.int .i64 2) (.int .i64 ((x : Int) + 1)) (.int .i64 y) (.int .u64 a) (.int .u64 b) (.slice wa ws.length wc) (.string p) (W.drewN nq)) := H0.out.drewN nq
  clear H0
  generalize W.drewN nq = W at *
  have c0 := H.out.ol.h0
  have c1 := H.out.ol.h1
  have c2 := H.out.ol.h2
  have c3 := H.out.ol.h3
  have c4 := H.out.ol.h4
  have c5 := H.out.ol.h5
  have c6 := H.out.ol.h6
  go_wp2_with fail
  refine (arn_free L S W Q x H.out.arn hx hu).mono ?_
  rintro e w1 ⟨rfl, h1, k1⟩
  have H1 : Hid (Nx B L S bB gH gN gW row w g (.int .i64 2) (.int .i64 ((x : Int) + 1)) (.int .i64 y) (.int .u64 a) (.int .u64 b) (.slice wa ws.length wc) (.string p) w1 ∧ Arn w1 L (Q ++ [x]) (S.free x)) := ⟨H.out.next k1, h1⟩
  clear h1 k1 c0 c1 c2 c3 c4 c5 c6
  have c1 := H1.out.1.ol.h1
  have c2 := H1.out.1.ol.h2
  have c3 := H1.out.1.ol.h3
  have c4 := H1.out.1.ol.h4
  have p0 := H1.out.1.bk.p0
  have hc := H1.out.1.bk.h x hx
  have hf := H1.out.1.bk.fH (x + 1)
  have n1 : g ≠ gH := H1.out.1.gH
  have n2 : bB ≠ gH := H1.out.1.bk.bH
  rw [hu] at hc
  go_wp2_with fail
  refine (num_any _ _).mono ?_
  rintro e w2 ⟨rfl, rfl⟩
  go_wp2_with fail
  refine wp_once ?_
  apply Exists.intro
  apply Exists.intro
  constructor
  · have t1 : w2.drew.cell? ⟨g, 1, none⟩ = some (.int .i64 ((x : Int) + 1)) := c1
    have t2 : w2.drew.cell? ⟨bB, 0, none⟩ = some (.slice (some ⟨gH, 0, none⟩) (S.n + 1) (S.n + 1)) := p0
    have t3 : w2.drew.cell? ⟨gH, x + 1, none⟩ = some (.bool true) := hc
    have t4 : w2.drew.frozen? ⟨gH, x + 1, none⟩ = false := hf
    go_region_with (fail)
    all_goals exact Post1.here _ _
  go_wp2
  go_ret
  exact ⟨rfl, ⟨⟨_, (S.free x), row, rfl, rfl, (H1.out.2.keeps ((Keeps.refl (fun k => k = gH) w2).setCell (p := ⟨gH, x + 1, none⟩) rfl (.bool false)).drew (fun g hg e => H1.out.1.bk.LH (e ▸ hg))), (H1.out.1.bk.free hx).move ((Keeps.refl (fun _ => False) _).drew) (fun _ _ e => e.elim)⟩⟩, (H1.out.1.below.setCell (p := ⟨gH, x + 1, none⟩) H1.out.1.bk.lo.2.1 _).drew⟩
theorem own_free_un (B : Nat) (L : Lay) (Q : List Nat) (S : AS) (bB gH gN gW : Nat) (row : Nat → Nat) (w : World) (x : Nat) (y : Int) (wc : Nat) (a b : Int) (wa : Option Addr) (ws : List Int) (p : ByteArray) (hL : ∀ g, L.has g → B ≤ g) (hA : Arn w L Q S) (hK : Bk w L S B bB gH gN gW row) (hx : x < S.n) (hu : S.use x = false) :
    Calls Try.prog 15 #[.pointer (some ⟨bB, 0, none⟩), .pointer (some ⟨L.b, 0, none⟩), .agg #[.int .i64 2, .int .i64 ((x : Int) + 1), .int .i64 y, .int .u64 a, .int .u64 b, .slice wa ws.length wc, .string p], .int .i64 (S.n : Int), .int .i64 (S.wd : Int)] w fun e w' => e = .returned (.bool true) ∧ OwS B L bB gH gN gW S.n S.wd w' ∧ Below B w w' := by
  have hz := hA.h.hn.2
  have hwd := hA.h.hw.2
  have H : Hid (Pre B L Q S bB gH gN gW row w w.heap.size (.int .i64 2) (.int .i64 ((x : Int) + 1)) (.int .i64 y) (.int .u64 a) (.int .u64 b) (.slice wa ws.length wc) (.string p) (w.alloc (.cells #[.int .i64 2, .int .i64 ((x : Int) + 1), .int .i64 y, .int .u64 a, .int .u64 b, .slice wa ws.length wc, .string p] 53))) := Pre.start hL hA hK (.int .i64 2) (.int .i64 ((x : Int) + 1)) (.int .i64 y) (.int .u64 a) (.int .u64 b) (.slice wa ws.length wc) (.string p) 53
  have NL : Hid (¬ S.live ((x : Int) + 1)) := by
    rintro ⟨k, hk, e, hu'⟩
    have : k = x := by omega
    subst this
    rw [hu] at hu'
    cases hu'
  clear hA hK hL
  go_enter Try.func15, Try.ntmps15
  go_wp2_with fail
  generalize w.alloc (.cells #[.int .i64 2, .int .i64 ((x : Int) + 1), .int .i64 y, .int .u64 a, .int .u64 b, .slice wa ws.length wc, .string p] 53) = W at *
  generalize w.heap.size = g at *
  have c1 := H.out.ol.h1
  have s2 := H.out.bk.p0
  have s3 := H.out.bk.h x hx
  rw [hu] at s3
  have i1 : (1 : Int) ≤ (x : Int) + 1 := by omega
  have i2 : (x : Int) + 1 ≤ (S.n : Int) := by omega
  have i3 : (0 : Int) ≤ (x : Int) + 1 := by omega
  have i4 : (x : Int) + 1 < ((S.n + 1 : Nat) : Int) := by omega
  go_quiet (fail)
  clear s2 s3
  have H0 := H
  clear H c1
  have H : Hid (Pre B L Q S bB gH gN gW row w g (.int .i64 2) (.int .i64 ((x : Int) + 1)) (.int .i64 y) (.int .u64 a) (.int .u64 b) (.slice wa ws.length wc) (.string p) (W.drewN nq)) := H0.out.drewN nq
  clear H0
  generalize W.drewN nq = W at *
  have c0 := H.out.ol.h0
  have c1 := H.out.ol.h1
  have c2 := H.out.ol.h2
  have c3 := H.out.ol.h3
  have c4 := H.out.ol.h4
  have c5 := H.out.ol.h5
  have c6 := H.out.ol.h6
  go_wp2_with fail
  refine (arn_free_no L S W Q ((x : Int) + 1) H.out.arn NL.out).mono ?_
  rintro e w1 ⟨rfl, h1, k1⟩
  have H1 : Hid (Nx B L S bB gH gN gW row w g (.int .i64 2) (.int .i64 ((x : Int) + 1)) (.int .i64 y) (.int .u64 a) (.int .u64 b) (.slice wa ws.length wc) (.string p) w1 ∧ Arn w1 L (Q) { S with miss := wrap64 (S.miss + 1) }) := ⟨H.out.next k1, h1⟩
  clear h1 k1 c0 c1 c2 c3 c4 c5 c6
  have c1 := H1.out.1.ol.h1
  have c2 := H1.out.1.ol.h2
  have c3 := H1.out.1.ol.h3
  have c4 := H1.out.1.ol.h4
  go_wp2_with fail
  refine (num_any _ _).mono ?_
  rintro e w2 ⟨rfl, rfl⟩
  go_wp2
  go_ret
  exact ⟨rfl, ⟨⟨_, { S with miss := wrap64 (S.miss + 1) }, row, rfl, rfl, H1.out.2, H1.out.1.bk.sub rfl rfl rfl rfl rfl⟩⟩, H1.out.1.below⟩
theorem own_free_sm (B : Nat) (L : Lay) (Q : List Nat) (S : AS) (bB gH gN gW : Nat) (row : Nat → Nat) (w : World) (s y : Int) (wc : Nat) (a b : Int) (wa : Option Addr) (ws : List Int) (p : ByteArray) (hL : ∀ g, L.has g → B ≤ g) (hA : Arn w L Q S) (hK : Bk w L S B bB gH gN gW row) (hs : ¬ 1 ≤ s) :
    Calls Try.prog 15 #[.pointer (some ⟨bB, 0, none⟩), .pointer (some ⟨L.b, 0, none⟩), .agg #[.int .i64 2, .int .i64 s, .int .i64 y, .int .u64 a, .int .u64 b, .slice wa ws.length wc, .string p], .int .i64 (S.n : Int), .int .i64 (S.wd : Int)] w fun e w' => e = .returned (.bool true) ∧ OwS B L bB gH gN gW S.n S.wd w' ∧ Below B w w' := by
  have hz := hA.h.hn.2
  have hwd := hA.h.hw.2
  have H : Hid (Pre B L Q S bB gH gN gW row w w.heap.size (.int .i64 2) (.int .i64 s) (.int .i64 y) (.int .u64 a) (.int .u64 b) (.slice wa ws.length wc) (.string p) (w.alloc (.cells #[.int .i64 2, .int .i64 s, .int .i64 y, .int .u64 a, .int .u64 b, .slice wa ws.length wc, .string p] 53))) := Pre.start hL hA hK (.int .i64 2) (.int .i64 s) (.int .i64 y) (.int .u64 a) (.int .u64 b) (.slice wa ws.length wc) (.string p) 53
  have NL : Hid (¬ S.live s) := by
    rintro ⟨k, hk, e, hu'⟩
    omega
  clear hA hK hL
  go_enter Try.func15, Try.ntmps15
  go_wp2_with fail
  generalize w.alloc (.cells #[.int .i64 2, .int .i64 s, .int .i64 y, .int .u64 a, .int .u64 b, .slice wa ws.length wc, .string p] 53) = W at *
  generalize w.heap.size = g at *
  have c1 := H.out.ol.h1
  have hs4 : decide (1 ≤ s) = false := decide_eq_false (by omega)
  go_quiet (fail)
  have H0 := H
  clear H c1
  have H : Hid (Pre B L Q S bB gH gN gW row w g (.int .i64 2) (.int .i64 s) (.int .i64 y) (.int .u64 a) (.int .u64 b) (.slice wa ws.length wc) (.string p) (W.drewN nq)) := H0.out.drewN nq
  clear H0
  generalize W.drewN nq = W at *
  have c0 := H.out.ol.h0
  have c1 := H.out.ol.h1
  have c2 := H.out.ol.h2
  have c3 := H.out.ol.h3
  have c4 := H.out.ol.h4
  have c5 := H.out.ol.h5
  have c6 := H.out.ol.h6
  go_wp2_with fail
  refine (arn_free_no L S W Q s H.out.arn NL.out).mono ?_
  rintro e w1 ⟨rfl, h1, k1⟩
  have H1 : Hid (Nx B L S bB gH gN gW row w g (.int .i64 2) (.int .i64 s) (.int .i64 y) (.int .u64 a) (.int .u64 b) (.slice wa ws.length wc) (.string p) w1 ∧ Arn w1 L (Q) { S with miss := wrap64 (S.miss + 1) }) := ⟨H.out.next k1, h1⟩
  clear h1 k1 c0 c1 c2 c3 c4 c5 c6
  have c1 := H1.out.1.ol.h1
  have c2 := H1.out.1.ol.h2
  have c3 := H1.out.1.ol.h3
  have c4 := H1.out.1.ol.h4
  go_wp2_with fail
  refine (num_any _ _).mono ?_
  rintro e w2 ⟨rfl, rfl⟩
  go_wp2
  go_ret
  exact ⟨rfl, ⟨⟨_, { S with miss := wrap64 (S.miss + 1) }, row, rfl, rfl, H1.out.2, H1.out.1.bk.sub rfl rfl rfl rfl rfl⟩⟩, H1.out.1.below⟩
theorem own_free_bg (B : Nat) (L : Lay) (Q : List Nat) (S : AS) (bB gH gN gW : Nat) (row : Nat → Nat) (w : World) (s y : Int) (wc : Nat) (a b : Int) (wa : Option Addr) (ws : List Int) (p : ByteArray) (hL : ∀ g, L.has g → B ≤ g) (hA : Arn w L Q S) (hK : Bk w L S B bB gH gN gW row) (hs : 1 ≤ s) (hs2 : ¬ s ≤ (S.n : Int)) :
    Calls Try.prog 15 #[.pointer (some ⟨bB, 0, none⟩), .pointer (some ⟨L.b, 0, none⟩), .agg #[.int .i64 2, .int .i64 s, .int .i64 y, .int .u64 a, .int .u64 b, .slice wa ws.length wc, .string p], .int .i64 (S.n : Int), .int .i64 (S.wd : Int)] w fun e w' => e = .returned (.bool true) ∧ OwS B L bB gH gN gW S.n S.wd w' ∧ Below B w w' := by
  have hz := hA.h.hn.2
  have hwd := hA.h.hw.2
  have H : Hid (Pre B L Q S bB gH gN gW row w w.heap.size (.int .i64 2) (.int .i64 s) (.int .i64 y) (.int .u64 a) (.int .u64 b) (.slice wa ws.length wc) (.string p) (w.alloc (.cells #[.int .i64 2, .int .i64 s, .int .i64 y, .int .u64 a, .int .u64 b, .slice wa ws.length wc, .string p] 53))) := Pre.start hL hA hK (.int .i64 2) (.int .i64 s) (.int .i64 y) (.int .u64 a) (.int .u64 b) (.slice wa ws.length wc) (.string p) 53
  have NL : Hid (¬ S.live s) := by
    rintro ⟨k, hk, e, hu'⟩
    omega
  clear hA hK hL
  go_enter Try.func15, Try.ntmps15
  go_wp2_with fail
  generalize w.alloc (.cells #[.int .i64 2, .int .i64 s, .int .i64 y, .int .u64 a, .int .u64 b, .slice wa ws.length wc, .string p] 53) = W at *
  generalize w.heap.size = g at *
  have c1 := H.out.ol.h1
  have hs4 : decide (s ≤ (S.n : Int)) = false := decide_eq_false (by omega)
  go_quiet (fail)
  have H0 := H
  clear H c1
  have H : Hid (Pre B L Q S bB gH gN gW row w g (.int .i64 2) (.int .i64 s) (.int .i64 y) (.int .u64 a) (.int .u64 b) (.slice wa ws.length wc) (.string p) (W.drewN nq)) := H0.out.drewN nq
  clear H0
  generalize W.drewN nq = W at *
  have c0 := H.out.ol.h0
  have c1 := H.out.ol.h1
  have c2 := H.out.ol.h2
  have c3 := H.out.ol.h3
  have c4 := H.out.ol.h4
  have c5 := H.out.ol.h5
  have c6 := H.out.ol.h6
  go_wp2_with fail
  refine (arn_free_no L S W Q s H.out.arn NL.out).mono ?_
  rintro e w1 ⟨rfl, h1, k1⟩
  have H1 : Hid (Nx B L S bB gH gN gW row w g (.int .i64 2) (.int .i64 s) (.int .i64 y) (.int .u64 a) (.int .u64 b) (.slice wa ws.length wc) (.string p) w1 ∧ Arn w1 L (Q) { S with miss := wrap64 (S.miss + 1) }) := ⟨H.out.next k1, h1⟩
  clear h1 k1 c0 c1 c2 c3 c4 c5 c6
  have c1 := H1.out.1.ol.h1
  have c2 := H1.out.1.ol.h2
  have c3 := H1.out.1.ol.h3
  have c4 := H1.out.1.ol.h4
  go_wp2_with fail
  refine (num_any _ _).mono ?_
  rintro e w2 ⟨rfl, rfl⟩
  go_wp2
  go_ret
  exact ⟨rfl, ⟨⟨_, { S with miss := wrap64 (S.miss + 1) }, row, rfl, rfl, H1.out.2, H1.out.1.bk.sub rfl rfl rfl rfl rfl⟩⟩, H1.out.1.below⟩
end Go.Proofs.Ytdgkocgjihdbpaa
