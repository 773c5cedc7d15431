import Derived.BigQuiet
import Derived.Test.YtdgkocgjihdbpaaOwn0
import Derived.Test.YtdgkocgjihdbpaaFifoLaw
namespace Go.Proofs.Ytdgkocgjihdbpaa
open Go.ChangeShapes Go.WideShapes Go.ChangeAt Go.RowKit
set_option linter.unusedVariables false
set_option maxRecDepth 100000
set_option maxHeartbeats 1600000
theorem own_cas_in (B : Nat) (L : Lay) (Q : List Nat) (S : AS) (bB gH gN gW : Nat) (row : Nat → Nat) (w : World) (x j : Nat) (wc : Nat) (a b : Int) (wa : Option Addr) (ws : List Int) (p : ByteArray) (hL : ∀ g, L.has g → B ≤ g) (hA : Arn w L Q S) (hK : Bk w L S B bB gH gN gW row) (hx : x < S.n) (hu : S.use x = true) (hj : j < S.wd) :
    Calls Try.prog 15 #[.pointer (some ⟨bB, 0, none⟩), .pointer (some ⟨L.b, 0, none⟩), .agg #[.int .i64 6, .int .i64 ((x : Int) + 1), .int .i64 (j : Int), .int .u64 a, .int .u64 b, .slice wa ws.length wc, .string p], .int .i64 (S.n : Int), .int .i64 (S.wd : Int)] w fun e w' => e = .returned (.bool true) ∧ OwS B L bB gH gN gW S.n S.wd w' ∧ Below B w w' := by
  have hz := hA.h.hn.2
  have hwd := hA.h.hw.2
  have H : Hid (Pre B L Q S bB gH gN gW row w w.heap.size (.int .i64 6) (.int .i64 ((x : Int) + 1)) (.int .i64 (j : Int)) (.int .u64 a) (.int .u64 b) (.slice wa ws.length wc) (.string p) (w.alloc (.cells #[.int .i64 6, .int .i64 ((x : Int) + 1), .int .i64 (j : Int), .int .u64 a, .int .u64 b, .slice wa ws.length wc, .string p] 53))) := Pre.start hL hA hK (.int .i64 6) (.int .i64 ((x : Int) + 1)) (.int .i64 (j : Int)) (.int .u64 a) (.int .u64 b) (.slice wa ws.length wc) (.string p) 53
  clear hA hK hL
  go_enter Try.func15, Try.ntmps15
  go_wp2_with fail
  generalize w.alloc (.cells #[.int .i64 6, .int .i64 ((x : Int) + 1), .int .i64 (j : Int), .int .u64 a, .int .u64 b, .slice wa ws.length wc, .string p] 53) = W at *
  generalize w.heap.size = g at *
  have c1 := H.out.ol.h1
  have s2 := H.out.bk.p0
  have s3 := H.out.bk.h x hx
  rw [hu] at s3
  have i1 : (1 : Int) ≤ (x : Int) + 1 := by omega
  have i2 : (x : Int) + 1 ≤ (S.n : Int) := by omega
  have i3 : (0 : Int) ≤ (x : Int) + 1 := by omega
  have i4 : (x : Int) + 1 < ((S.n + 1 : Nat) : Int) := by omega
  go_quiet (fail)
  clear s2 s3
  have H0 := H
  clear H c1
  have H : Hid (Pre B L Q S bB gH gN gW row w g (.int .i64 6) (.int .i64 ((x : Int) + 1)) (.int .i64 (j : Int)) (.int .u64 a) (.int .u64 b) (.slice wa ws.length wc) (.string p) (W.drewN nq)) := H0.out.drewN nq
  clear H0
  generalize W.drewN nq = W at *
  have c0 := H.out.ol.h0
  have c1 := H.out.ol.h1
  have c2 := H.out.ol.h2
  have c3 := H.out.ol.h3
  have c4 := H.out.ol.h4
  have c5 := H.out.ol.h5
  have c6 := H.out.ol.h6
  by_cases hw : S.word (x * S.wd + j) = a
  · go_wp2_with fail
    refine (cas_any L S W x j a b true (upd S.word (x * S.wd + j) b) (by rw [decide_eq_true hw, if_pos hw]; exact ⟨rfl, rfl⟩) H.out.arn.h H.out.arn.rc hx hu hj).mono ?_
    rintro e w1 ⟨rfl, h1, k1⟩
    have H1 : Hid (Nx B L S bB gH gN gW row w g (.int .i64 6) (.int .i64 ((x : Int) + 1)) (.int .i64 (j : Int)) (.int .u64 a) (.int .u64 b) (.slice wa ws.length wc) (.string p) w1 ∧ Arn w1 L (Q) { S with rc := 0, acc := wrap64 (S.acc + 1), word := upd S.word (x * S.wd + j) b }) := ⟨H.out.next k1, H.out.arn.same h1 rfl rfl H.out.arn.rc.symm rfl rfl rfl rfl rfl⟩
    clear h1 k1 c0 c1 c2 c3 c4 c5 c6
    have c1 := H1.out.1.ol.h1
    have c2 := H1.out.1.ol.h2
    have c3 := H1.out.1.ol.h3
    have c4 := H1.out.1.ol.h4
    have p2 := H1.out.1.bk.p2
    obtain ⟨v, hv, hv2⟩ := H1.out.1.bk.rw x hx
    rw [hv2 hu] at hv
    clear hv2
    have hc := H1.out.1.bk.rc x hx hu j hj
    have hf := H1.out.1.bk.fR x hx hu j
    have j1 : (0 : Int) ≤ (j : Int) := by omega
    have j2 : (j : Int) < (S.wd : Int) := by omega
    rw [hw] at hc
    go_wp2_with fail
    refine (num_any _ _).mono ?_
    rintro e w2 ⟨rfl, rfl⟩
    go_wp2_with fail
    go_quiet (fail)
    have H2 : Hid (Nx B L S bB gH gN gW row w g (.int .i64 6) (.int .i64 ((x : Int) + 1)) (.int .i64 (j : Int)) (.int .u64 a) (.int .u64 b) (.slice wa ws.length wc) (.string p) (w2.drewN nq) ∧ Arn (w2.drewN nq) L Q { S with rc := 0, acc := wrap64 (S.acc + 1), word := upd S.word (x * S.wd + j) b }) := ⟨H1.out.1.drewN nq, H1.out.2.keeps (Keeps.drewN (fun _ => False) _ _) (fun _ _ e => e)⟩
    have c1' : (w2.drewN nq).cell? ⟨g, 1, none⟩ = _ := c1
    have c2' : (w2.drewN nq).cell? ⟨g, 2, none⟩ = _ := c2
    have c4' : (w2.drewN nq).cell? ⟨g, 4, none⟩ = _ := c4
    have p2' : (w2.drewN nq).cell? ⟨bB, 2, none⟩ = _ := p2
    have hv' : (w2.drewN nq).cell? ⟨gW, x + 1, none⟩ = _ := hv
    have hc' : (w2.drewN nq).cell? ⟨row x, j, none⟩ = _ := hc
    have hf' : (w2.drewN nq).frozen? ⟨row x, j, none⟩ = _ := hf
    clear c1 c2 c3 c4 p2 hv hc hf H1
    generalize w2.drewN nq = w3 at *
    have n1 : g ≠ row x := H2.out.1.gr x hx hu
    have n2 : bB ≠ row x := (H2.out.1.bk.Rb x hx hu).1.symm
    have n3 : gW ≠ row x := (H2.out.1.bk.Rb x hx hu).2.2.2.symm
    have d0 : RowP w3.drew g bB gW (row x) x j 4 S.n S.wd b := ⟨c1', c2', c4', p2', hv', vAt_of hc', hf'⟩
    go_wp2_with fail
    go_region_held3 (fun w' => w'.cell? ⟨g, 1, none⟩ = some (.int .i64 ((x : Int) + 1)) ∧ w'.cell? ⟨g, 2, none⟩ = some (.int .i64 (j : Int)) ∧ w'.cell? ⟨g, 4, none⟩ = some (.int .u64 b) ∧ w'.cell? ⟨bB, 2, none⟩ = some (.slice (some ⟨gW, 0, none⟩) (S.n + 1) (S.n + 1)) ∧ w'.cell? ⟨gW, x + 1, none⟩ = some (.slice (some ⟨row x, 0, none⟩) S.wd S.wd) ∧ w'.cell? ⟨row x, j, none⟩ = some (.int .u64 (vAt w' ⟨row x, j, none⟩)) ∧ w'.frozen? ⟨row x, j, none⟩ = false) (first | assumption | exact d0 | exact RowP.put n1 n2 n3 (by assumption) _) (fail)
    clear d0
    go_wp2
    go_ret
    exact ⟨rfl, ⟨⟨_, { S with rc := 0, acc := wrap64 (S.acc + 1), word := upd S.word (x * S.wd + j) b }, row, rfl, rfl, (H2.out.2.keeps ((Keeps.refl (fun k => k = row x) w3).setCell (p := ⟨row x, j, none⟩) rfl (.int .u64 b)).drew (fun g hg e => H2.out.1.bk.LR x hx hu (e ▸ hg))), (Bk.store (S' := { S with rc := 0, acc := wrap64 (S.acc + 1), word := upd S.word (x * S.wd + j) b }) H2.out.1.bk hx hu hj b rfl rfl rfl rfl rfl).move ((Keeps.refl (fun _ => False) _).drew) (fun _ _ e => e.elim)⟩⟩, (H2.out.1.below.setCell (p := ⟨row x, j, none⟩) (H2.out.1.bk.lR x hx hu) _).drew⟩
  · go_wp2_with fail
    refine (cas_any L S W x j a b false S.word (by rw [decide_eq_false hw, if_neg hw]; exact ⟨rfl, rfl⟩) H.out.arn.h H.out.arn.rc hx hu hj).mono ?_
    rintro e w1 ⟨rfl, h1, k1⟩
    have H1 : Hid (Nx B L S bB gH gN gW row w g (.int .i64 6) (.int .i64 ((x : Int) + 1)) (.int .i64 (j : Int)) (.int .u64 a) (.int .u64 b) (.slice wa ws.length wc) (.string p) w1 ∧ Arn w1 L (Q) { S with rc := 0, acc := wrap64 (S.acc + 1), word := S.word }) := ⟨H.out.next k1, H.out.arn.same h1 rfl rfl H.out.arn.rc.symm rfl rfl rfl rfl rfl⟩
    clear h1 k1 c0 c1 c2 c3 c4 c5 c6
    have c1 := H1.out.1.ol.h1
    have c2 := H1.out.1.ol.h2
    have c3 := H1.out.1.ol.h3
    have c4 := H1.out.1.ol.h4
    have p2 := H1.out.1.bk.p2
    obtain ⟨v, hv, hv2⟩ := H1.out.1.bk.rw x hx
    rw [hv2 hu] at hv
    clear hv2
    have hc := H1.out.1.bk.rc x hx hu j hj
    have hf := H1.out.1.bk.fR x hx hu j
    have j1 : (0 : Int) ≤ (j : Int) := by omega
    have j2 : (j : Int) < (S.wd : Int) := by omega
    have hw2 : (S.word (x * S.wd + j) == a) = false := by simp [hw]
    go_wp2_with fail
    refine (num_any _ _).mono ?_
    rintro e w2 ⟨rfl, rfl⟩
    go_wp2_with fail
    go_quiet (fail)
    go_wp2
    go_ret
    exact ⟨rfl, ⟨⟨_, { S with rc := 0, acc := wrap64 (S.acc + 1), word := S.word }, row, rfl, rfl, H1.out.2.keeps (Keeps.drewN (fun _ => False) _ _) (fun _ _ e => e), (H1.out.1.bk.move (Keeps.drewN (fun _ => False) _ _) (fun _ _ e => e.elim)).sub rfl rfl rfl rfl rfl⟩⟩, H1.out.1.below.trans ((Keeps.drewN (fun _ => False) _ _).below H1.out.1.bs (fun _ _ e => e))⟩
theorem own_cas_lo (B : Nat) (L : Lay) (Q : List Nat) (S : AS) (bB gH gN gW : Nat) (row : Nat → Nat) (w : World) (x : Nat) (y : Int) (wc : Nat) (a b : Int) (wa : Option Addr) (ws : List Int) (p : ByteArray) (hL : ∀ g, L.has g → B ≤ g) (hA : Arn w L Q S) (hK : Bk w L S B bB gH gN gW row) (hx : x < S.n) (hu : S.use x = true) (hy : ¬ 0 ≤ y) :
    Calls Try.prog 15 #[.pointer (some ⟨bB, 0, none⟩), .pointer (some ⟨L.b, 0, none⟩), .agg #[.int .i64 6, .int .i64 ((x : Int) + 1), .int .i64 y, .int .u64 a, .int .u64 b, .slice wa ws.length wc, .string p], .int .i64 (S.n : Int), .int .i64 (S.wd : Int)] w fun e w' => e = .returned (.bool true) ∧ OwS B L bB gH gN gW S.n S.wd w' ∧ Below B w w' := by
  have hz := hA.h.hn.2
  have hwd := hA.h.hw.2
  have H : Hid (Pre B L Q S bB gH gN gW row w w.heap.size (.int .i64 6) (.int .i64 ((x : Int) + 1)) (.int .i64 y) (.int .u64 a) (.int .u64 b) (.slice wa ws.length wc) (.string p) (w.alloc (.cells #[.int .i64 6, .int .i64 ((x : Int) + 1), .int .i64 y, .int .u64 a, .int .u64 b, .slice wa ws.length wc, .string p] 53))) := Pre.start hL hA hK (.int .i64 6) (.int .i64 ((x : Int) + 1)) (.int .i64 y) (.int .u64 a) (.int .u64 b) (.slice wa ws.length wc) (.string p) 53
  clear hA hK hL
  go_enter Try.func15, Try.ntmps15
  go_wp2_with fail
  generalize w.alloc (.cells #[.int .i64 6, .int .i64 ((x : Int) + 1), .int .i64 y, .int .u64 a, .int .u64 b, .slice wa ws.length wc, .string p] 53) = W at *
  generalize w.heap.size = g at *
  have c1 := H.out.ol.h1
  have s2 := H.out.bk.p0
  have s3 := H.out.bk.h x hx
  rw [hu] at s3
  have i1 : (1 : Int) ≤ (x : Int) + 1 := by omega
  have i2 : (x : Int) + 1 ≤ (S.n : Int) := by omega
  have i3 : (0 : Int) ≤ (x : Int) + 1 := by omega
  have i4 : (x : Int) + 1 < ((S.n + 1 : Nat) : Int) := by omega
  go_quiet (fail)
  clear s2 s3
  have H0 := H
  clear H c1
  have H : Hid (Pre B L Q S bB gH gN gW row w g (.int .i64 6) (.int .i64 ((x : Int) + 1)) (.int .i64 y) (.int .u64 a) (.int .u64 b) (.slice wa ws.length wc) (.string p) (W.drewN nq)) := H0.out.drewN nq
  clear H0
  generalize W.drewN nq = W at *
  have c0 := H.out.ol.h0
  have c1 := H.out.ol.h1
  have c2 := H.out.ol.h2
  have c3 := H.out.ol.h3
  have c4 := H.out.ol.h4
  have c5 := H.out.ol.h5
  have c6 := H.out.ol.h6
  go_wp2_with fail
  refine (cas_cell L S W x y a b H.out.arn.h H.out.arn.rc hx hu (fun e => by omega)).mono ?_
  rintro e w1 ⟨rfl, h1, k1⟩
  have H1 : Hid (Nx B L S bB gH gN gW row w g (.int .i64 6) (.int .i64 ((x : Int) + 1)) (.int .i64 y) (.int .u64 a) (.int .u64 b) (.slice wa ws.length wc) (.string p) w1 ∧ Arn w1 L (Q) { S with rc := 0 }) := ⟨H.out.next k1, H.out.arn.same h1 rfl rfl H.out.arn.rc.symm rfl rfl rfl rfl rfl⟩
  clear h1 k1 c0 c1 c2 c3 c4 c5 c6
  have c1 := H1.out.1.ol.h1
  have c2 := H1.out.1.ol.h2
  have c3 := H1.out.1.ol.h3
  have c4 := H1.out.1.ol.h4
  go_wp2_with fail
  refine (num_any _ _).mono ?_
  rintro e w2 ⟨rfl, rfl⟩
  go_wp2
  go_ret
  exact ⟨rfl, ⟨⟨_, { S with rc := 0 }, row, rfl, rfl, H1.out.2, H1.out.1.bk.sub rfl rfl rfl rfl rfl⟩⟩, H1.out.1.below⟩
theorem own_cas_hi (B : Nat) (L : Lay) (Q : List Nat) (S : AS) (bB gH gN gW : Nat) (row : Nat → Nat) (w : World) (x : Nat) (y : Int) (wc : Nat) (a b : Int) (wa : Option Addr) (ws : List Int) (p : ByteArray) (hL : ∀ g, L.has g → B ≤ g) (hA : Arn w L Q S) (hK : Bk w L S B bB gH gN gW row) (hx : x < S.n) (hu : S.use x = true) (hy : 0 ≤ y) (hy2 : ¬ y < (S.wd : Int)) :
    Calls Try.prog 15 #[.pointer (some ⟨bB, 0, none⟩), .pointer (some ⟨L.b, 0, none⟩), .agg #[.int .i64 6, .int .i64 ((x : Int) + 1), .int .i64 y, .int .u64 a, .int .u64 b, .slice wa ws.length wc, .string p], .int .i64 (S.n : Int), .int .i64 (S.wd : Int)] w fun e w' => e = .returned (.bool true) ∧ OwS B L bB gH gN gW S.n S.wd w' ∧ Below B w w' := by
  have hz := hA.h.hn.2
  have hwd := hA.h.hw.2
  have H : Hid (Pre B L Q S bB gH gN gW row w w.heap.size (.int .i64 6) (.int .i64 ((x : Int) + 1)) (.int .i64 y) (.int .u64 a) (.int .u64 b) (.slice wa ws.length wc) (.string p) (w.alloc (.cells #[.int .i64 6, .int .i64 ((x : Int) + 1), .int .i64 y, .int .u64 a, .int .u64 b, .slice wa ws.length wc, .string p] 53))) := Pre.start hL hA hK (.int .i64 6) (.int .i64 ((x : Int) + 1)) (.int .i64 y) (.int .u64 a) (.int .u64 b) (.slice wa ws.length wc) (.string p) 53
  clear hA hK hL
  go_enter Try.func15, Try.ntmps15
  go_wp2_with fail
  generalize w.alloc (.cells #[.int .i64 6, .int .i64 ((x : Int) + 1), .int .i64 y, .int .u64 a, .int .u64 b, .slice wa ws.length wc, .string p] 53) = W at *
  generalize w.heap.size = g at *
  have c1 := H.out.ol.h1
  have s2 := H.out.bk.p0
  have s3 := H.out.bk.h x hx
  rw [hu] at s3
  have i1 : (1 : Int) ≤ (x : Int) + 1 := by omega
  have i2 : (x : Int) + 1 ≤ (S.n : Int) := by omega
  have i3 : (0 : Int) ≤ (x : Int) + 1 := by omega
  have i4 : (x : Int) + 1 < ((S.n + 1 : Nat) : Int) := by omega
  go_quiet (fail)
  clear s2 s3
  have H0 := H
  clear H c1
  have H : Hid (Pre B L Q S bB gH gN gW row w g (.int .i64 6) (.int .i64 ((x : Int) + 1)) (.int .i64 y) (.int .u64 a) (.int .u64 b) (.slice wa ws.length wc) (.string p) (W.drewN nq)) := H0.out.drewN nq
  clear H0
  generalize W.drewN nq = W at *
  have c0 := H.out.ol.h0
  have c1 := H.out.ol.h1
  have c2 := H.out.ol.h2
  have c3 := H.out.ol.h3
  have c4 := H.out.ol.h4
  have c5 := H.out.ol.h5
  have c6 := H.out.ol.h6
  go_wp2_with fail
  refine (cas_cell L S W x y a b H.out.arn.h H.out.arn.rc hx hu (fun e => by omega)).mono ?_
  rintro e w1 ⟨rfl, h1, k1⟩
  have H1 : Hid (Nx B L S bB gH gN gW row w g (.int .i64 6) (.int .i64 ((x : Int) + 1)) (.int .i64 y) (.int .u64 a) (.int .u64 b) (.slice wa ws.length wc) (.string p) w1 ∧ Arn w1 L (Q) { S with rc := 0 }) := ⟨H.out.next k1, H.out.arn.same h1 rfl rfl H.out.arn.rc.symm rfl rfl rfl rfl rfl⟩
  clear h1 k1 c0 c1 c2 c3 c4 c5 c6
  have c1 := H1.out.1.ol.h1
  have c2 := H1.out.1.ol.h2
  have c3 := H1.out.1.ol.h3
  have c4 := H1.out.1.ol.h4
  go_wp2_with fail
  refine (num_any _ _).mono ?_
  rintro e w2 ⟨rfl, rfl⟩
  go_wp2
  go_ret
  exact ⟨rfl, ⟨⟨_, { S with rc := 0 }, row, rfl, rfl, H1.out.2, H1.out.1.bk.sub rfl rfl rfl rfl rfl⟩⟩, H1.out.1.below⟩
theorem own_cas_un (B : Nat) (L : Lay) (Q : List Nat) (S : AS) (bB gH gN gW : Nat) (row : Nat → Nat) (w : World) (x : Nat) (y : Int) (wc : Nat) (a b : Int) (wa : Option Addr) (ws : List Int) (p : ByteArray) (hL : ∀ g, L.has g → B ≤ g) (hA : Arn w L Q S) (hK : Bk w L S B bB gH gN gW row) (hx : x < S.n) (hu : S.use x = false) :
    Calls Try.prog 15 #[.pointer (some ⟨bB, 0, none⟩), .pointer (some ⟨L.b, 0, none⟩), .agg #[.int .i64 6, .int .i64 ((x : Int) + 1), .int .i64 y, .int .u64 a, .int .u64 b, .slice wa ws.length wc, .string p], .int .i64 (S.n : Int), .int .i64 (S.wd : Int)] w fun e w' => e = .returned (.bool true) ∧ OwS B L bB gH gN gW S.n S.wd w' ∧ Below B w w' := by
  have hz := hA.h.hn.2
  have hwd := hA.h.hw.2
  have H : Hid (Pre B L Q S bB gH gN gW row w w.heap.size (.int .i64 6) (.int .i64 ((x : Int) + 1)) (.int .i64 y) (.int .u64 a) (.int .u64 b) (.slice wa ws.length wc) (.string p) (w.alloc (.cells #[.int .i64 6, .int .i64 ((x : Int) + 1), .int .i64 y, .int .u64 a, .int .u64 b, .slice wa ws.length wc, .string p] 53))) := Pre.start hL hA hK (.int .i64 6) (.int .i64 ((x : Int) + 1)) (.int .i64 y) (.int .u64 a) (.int .u64 b) (.slice wa ws.length wc) (.string p) 53
  have NL : Hid (¬ S.live ((x : Int) + 1)) := by
    rintro ⟨k, hk, e, hu'⟩
    have : k = x := by omega
    subst this
    rw [hu] at hu'
    cases hu'
  clear hA hK hL
  go_enter Try.func15, Try.ntmps15
  go_wp2_with fail
  generalize w.alloc (.cells #[.int .i64 6, .int .i64 ((x : Int) + 1), .int .i64 y, .int .u64 a, .int .u64 b, .slice wa ws.length wc, .string p] 53) = W at *
  generalize w.heap.size = g at *
  have c1 := H.out.ol.h1
  have s2 := H.out.bk.p0
  have s3 := H.out.bk.h x hx
  rw [hu] at s3
  have i1 : (1 : Int) ≤ (x : Int) + 1 := by omega
  have i2 : (x : Int) + 1 ≤ (S.n : Int) := by omega
  have i3 : (0 : Int) ≤ (x : Int) + 1 := by omega
  have i4 : (x : Int) + 1 < ((S.n + 1 : Nat) : Int) := by omega
  go_quiet (fail)
  clear s2 s3
  have H0 := H
  clear H c1
  have H : Hid (Pre B L Q S bB gH gN gW row w g (.int .i64 6) (.int .i64 ((x : Int) + 1)) (.int .i64 y) (.int .u64 a) (.int .u64 b) (.slice wa ws.length wc) (.string p) (W.drewN nq)) := H0.out.drewN nq
  clear H0
  generalize W.drewN nq = W at *
  have c0 := H.out.ol.h0
  have c1 := H.out.ol.h1
  have c2 := H.out.ol.h2
  have c3 := H.out.ol.h3
  have c4 := H.out.ol.h4
  have c5 := H.out.ol.h5
  have c6 := H.out.ol.h6
  go_wp2_with fail
  refine (cas_no L S W ((x : Int) + 1) y a b H.out.arn.h H.out.arn.rc NL.out).mono ?_
  rintro e w1 ⟨rfl, h1, k1⟩
  have H1 : Hid (Nx B L S bB gH gN gW row w g (.int .i64 6) (.int .i64 ((x : Int) + 1)) (.int .i64 y) (.int .u64 a) (.int .u64 b) (.slice wa ws.length wc) (.string p) w1 ∧ Arn w1 L (Q) { S with rc := 0, miss := wrap64 (S.miss + 1) }) := ⟨H.out.next k1, H.out.arn.same h1 rfl rfl H.out.arn.rc.symm rfl rfl rfl rfl rfl⟩
  clear h1 k1 c0 c1 c2 c3 c4 c5 c6
  have c1 := H1.out.1.ol.h1
  have c2 := H1.out.1.ol.h2
  have c3 := H1.out.1.ol.h3
  have c4 := H1.out.1.ol.h4
  go_wp2_with fail
  refine (num_any _ _).mono ?_
  rintro e w2 ⟨rfl, rfl⟩
  go_wp2
  go_ret
  exact ⟨rfl, ⟨⟨_, { S with rc := 0, miss := wrap64 (S.miss + 1) }, row, rfl, rfl, H1.out.2, H1.out.1.bk.sub rfl rfl rfl rfl rfl⟩⟩, H1.out.1.below⟩
theorem own_cas_sm (B : Nat) (L : Lay) (Q : List Nat) (S : AS) (bB gH gN gW : Nat) (row : Nat → Nat) (w : World) (s y : Int) (wc : Nat) (a b : Int) (wa : Option Addr) (ws : List Int) (p : ByteArray) (hL : ∀ g, L.has g → B ≤ g) (hA : Arn w L Q S) (hK : Bk w L S B bB gH gN gW row) (hs : ¬ 1 ≤ s) :
    Calls Try.prog 15 #[.pointer (some ⟨bB, 0, none⟩), .pointer (some ⟨L.b, 0, none⟩), .agg #[.int .i64 6, .int .i64 s, .int .i64 y, .int .u64 a, .int .u64 b, .slice wa ws.length wc, .string p], .int .i64 (S.n : Int), .int .i64 (S.wd : Int)] w fun e w' => e = .returned (.bool true) ∧ OwS B L bB gH gN gW S.n S.wd w' ∧ Below B w w' := by
  have hz := hA.h.hn.2
  have hwd := hA.h.hw.2
  have H : Hid (Pre B L Q S bB gH gN gW row w w.heap.size (.int .i64 6) (.int .i64 s) (.int .i64 y) (.int .u64 a) (.int .u64 b) (.slice wa ws.length wc) (.string p) (w.alloc (.cells #[.int .i64 6, .int .i64 s, .int .i64 y, .int .u64 a, .int .u64 b, .slice wa ws.length wc, .string p] 53))) := Pre.start hL hA hK (.int .i64 6) (.int .i64 s) (.int .i64 y) (.int .u64 a) (.int .u64 b) (.slice wa ws.length wc) (.string p) 53
  have NL : Hid (¬ S.live s) := by
    rintro ⟨k, hk, e, hu'⟩
    omega
  clear hA hK hL
  go_enter Try.func15, Try.ntmps15
  go_wp2_with fail
  generalize w.alloc (.cells #[.int .i64 6, .int .i64 s, .int .i64 y, .int .u64 a, .int .u64 b, .slice wa ws.length wc, .string p] 53) = W at *
  generalize w.heap.size = g at *
  have c1 := H.out.ol.h1
  have hs4 : decide (1 ≤ s) = false := decide_eq_false (by omega)
  go_quiet (fail)
  have H0 := H
  clear H c1
  have H : Hid (Pre B L Q S bB gH gN gW row w g (.int .i64 6) (.int .i64 s) (.int .i64 y) (.int .u64 a) (.int .u64 b) (.slice wa ws.length wc) (.string p) (W.drewN nq)) := H0.out.drewN nq
  clear H0
  generalize W.drewN nq = W at *
  have c0 := H.out.ol.h0
  have c1 := H.out.ol.h1
  have c2 := H.out.ol.h2
  have c3 := H.out.ol.h3
  have c4 := H.out.ol.h4
  have c5 := H.out.ol.h5
  have c6 := H.out.ol.h6
  go_wp2_with fail
  refine (cas_no L S W s y a b H.out.arn.h H.out.arn.rc NL.out).mono ?_
  rintro e w1 ⟨rfl, h1, k1⟩
  have H1 : Hid (Nx B L S bB gH gN gW row w g (.int .i64 6) (.int .i64 s) (.int .i64 y) (.int .u64 a) (.int .u64 b) (.slice wa ws.length wc) (.string p) w1 ∧ Arn w1 L (Q) { S with rc := 0, miss := wrap64 (S.miss + 1) }) := ⟨H.out.next k1, H.out.arn.same h1 rfl rfl H.out.arn.rc.symm rfl rfl rfl rfl rfl⟩
  clear h1 k1 c0 c1 c2 c3 c4 c5 c6
  have c1 := H1.out.1.ol.h1
  have c2 := H1.out.1.ol.h2
  have c3 := H1.out.1.ol.h3
  have c4 := H1.out.1.ol.h4
  go_wp2_with fail
  refine (num_any _ _).mono ?_
  rintro e w2 ⟨rfl, rfl⟩
  go_wp2
  go_ret
  exact ⟨rfl, ⟨⟨_, { S with rc := 0, miss := wrap64 (S.miss + 1) }, row, rfl, rfl, H1.out.2, H1.out.1.bk.sub rfl rfl rfl rfl rfl⟩⟩, H1.out.1.below⟩
theorem own_cas_bg (B : Nat) (L : Lay) (Q : List Nat) (S : AS) (bB gH gN gW : Nat) (row : Nat → Nat) (w : World) (s y : Int) (wc : Nat) (a b : Int) (wa : Option Addr) (ws : List Int) (p : ByteArray) (hL : ∀ g, L.has g → B ≤ g) (hA : Arn w L Q S) (hK : Bk w L S B bB gH gN gW row) (hs : 1 ≤ s) (hs2 : ¬ s ≤ (S.n : Int)) :
    Calls Try.prog 15 #[.pointer (some ⟨bB, 0, none⟩), .pointer (some ⟨L.b, 0, none⟩), .agg #[.int .i64 6, .int .i64 s, .int .i64 y, .int .u64 a, .int .u64 b, .slice wa ws.length wc, .string p], .int .i64 (S.n : Int), .int .i64 (S.wd : Int)] w fun e w' => e = .returned (.bool true) ∧ OwS B L bB gH gN gW S.n S.wd w' ∧ Below B w w' := by
  have hz := hA.h.hn.2
  have hwd := hA.h.hw.2
  have H : Hid (Pre B L Q S bB gH gN gW row w w.heap.size (.int .i64 6) (.int .i64 s) (.int .i64 y) (.int .u64 a) (.int .u64 b) (.slice wa ws.length wc) (.string p) (w.alloc (.cells #[.int .i64 6, .int .i64 s, .int .i64 y, .int .u64 a, .int .u64 b, .slice wa ws.length wc, .string p] 53))) := Pre.start hL hA hK (.int .i64 6) (.int .i64 s) (.int .i64 y) (.int .u64 a) (.int .u64 b) (.slice wa ws.length wc) (.string p) 53
  have NL : Hid (¬ S.live s) := by
    rintro ⟨k, hk, e, hu'⟩
    omega
  clear hA hK hL
  go_enter Try.func15, Try.ntmps15
  go_wp2_with fail
  generalize w.alloc (.cells #[.int .i64 6, .int .i64 s, .int .i64 y, .int .u64 a, .int .u64 b, .slice wa ws.length wc, .string p] 53) = W at *
  generalize w.heap.size = g at *
  have c1 := H.out.ol.h1
  have hs4 : decide (s ≤ (S.n : Int)) = false := decide_eq_false (by omega)
  go_quiet (fail)
  have H0 := H
  clear H c1
  have H : Hid (Pre B L Q S bB gH gN gW row w g (.int .i64 6) (.int .i64 s) (.int .i64 y) (.int .u64 a) (.int .u64 b) (.slice wa ws.length wc) (.string p) (W.drewN nq)) := H0.out.drewN nq
  clear H0
  generalize W.drewN nq = W at *
  have c0 := H.out.ol.h0
  have c1 := H.out.ol.h1
  have c2 := H.out.ol.h2
  have c3 := H.out.ol.h3
  have c4 := H.out.ol.h4
  have c5 := H.out.ol.h5
  have c6 := H.out.ol.h6
  go_wp2_with fail
  refine (cas_no L S W s y a b H.out.arn.h H.out.arn.rc NL.out).mono ?_
  rintro e w1 ⟨rfl, h1, k1⟩
  have H1 : Hid (Nx B L S bB gH gN gW row w g (.int .i64 6) (.int .i64 s) (.int .i64 y) (.int .u64 a) (.int .u64 b) (.slice wa ws.length wc) (.string p) w1 ∧ Arn w1 L (Q) { S with rc := 0, miss := wrap64 (S.miss + 1) }) := ⟨H.out.next k1, H.out.arn.same h1 rfl rfl H.out.arn.rc.symm rfl rfl rfl rfl rfl⟩
  clear h1 k1 c0 c1 c2 c3 c4 c5 c6
  have c1 := H1.out.1.ol.h1
  have c2 := H1.out.1.ol.h2
  have c3 := H1.out.1.ol.h3
  have c4 := H1.out.1.ol.h4
  go_wp2_with fail
  refine (num_any _ _).mono ?_
  rintro e w2 ⟨rfl, rfl⟩
  go_wp2
  go_ret
  exact ⟨rfl, ⟨⟨_, { S with rc := 0, miss := wrap64 (S.miss + 1) }, row, rfl, rfl, H1.out.2, H1.out.1.bk.sub rfl rfl rfl rfl rfl⟩⟩, H1.out.1.below⟩
end Go.Proofs.Ytdgkocgjihdbpaa
