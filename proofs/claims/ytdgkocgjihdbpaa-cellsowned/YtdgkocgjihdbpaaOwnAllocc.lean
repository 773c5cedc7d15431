import Derived.BigQuiet
import Derived.Test.YtdgkocgjihdbpaaOwn0
import Derived.Test.YtdgkocgjihdbpaaFifoLaw
namespace Go.Proofs.Ytdgkocgjihdbpaa
open Go.ChangeShapes Go.WideShapes Go.ChangeAt Go.RowKit
set_option linter.unusedVariables false
set_option maxRecDepth 100000
set_option maxHeartbeats 1600000
theorem own_allocc_in (B : Nat) (L : Lay) (Q' : List Nat) (S : AS) (bB gH gN gW : Nat) (row : Nat → Nat) (w : World) (x j : Nat) (wc : Nat) (a b : Int) (wa : Option Addr) (ws : List Int) (p : ByteArray) (k : Nat) (hL : ∀ g, L.has g → B ≤ g) (hA : Arn w L (k :: Q') S) (hK : Bk w L S B bB gH gN gW row) (hx : x < S.n) (hu : S.use x = true) (hj : j < S.wd) (hU : SeesU w B wa ws) (hlen : ws.length * 8 ≤ 140737488355328) (hm : ws.length ≤ S.wd) :
    Calls Try.prog 15 #[.pointer (some ⟨bB, 0, none⟩), .pointer (some ⟨L.b, 0, none⟩), .agg #[.int .i64 1, .int .i64 ((x : Int) + 1), .int .i64 (j : Int), .int .u64 a, .int .u64 b, .slice wa ws.length wc, .string p], .int .i64 (S.n : Int), .int .i64 (S.wd : Int)] w fun e w' => e = .returned (.bool true) ∧ OwS B L bB gH gN gW S.n S.wd w' ∧ Below B w w' := by
  have hz := hA.h.hn.2
  have hwd := hA.h.hw.2
  have H : Hid (Pre B L (k :: Q') S bB gH gN gW row w w.heap.size (.int .i64 1) (.int .i64 ((x : Int) + 1)) (.int .i64 (j : Int)) (.int .u64 a) (.int .u64 b) (.slice wa ws.length wc) (.string p) (w.alloc (.cells #[.int .i64 1, .int .i64 ((x : Int) + 1), .int .i64 (j : Int), .int .u64 a, .int .u64 b, .slice wa ws.length wc, .string p] 53))) := Pre.start hL hA hK (.int .i64 1) (.int .i64 ((x : Int) + 1)) (.int .i64 (j : Int)) (.int .u64 a) (.int .u64 b) (.slice wa ws.length wc) (.string p) 53
  have HU : Hid (SeesU w B wa ws) := hU
  clear hU
  clear hA hK hL
  go_enter Try.func15, Try.ntmps15
  go_wp2_with fail
  generalize w.alloc (.cells #[.int .i64 1, .int .i64 ((x : Int) + 1), .int .i64 (j : Int), .int .u64 a, .int .u64 b, .slice wa ws.length wc, .string p] 53) = W at *
  generalize w.heap.size = g at *
  have c1 := H.out.ol.h1
  have s2 := H.out.bk.p0
  have s3 := H.out.bk.h x hx
  rw [hu] at s3
  have i1 : (1 : Int) ≤ (x : Int) + 1 := by omega
  have i2 : (x : Int) + 1 ≤ (S.n : Int) := by omega
  have i3 : (0 : Int) ≤ (x : Int) + 1 := by omega
  have i4 : (x : Int) + 1 < ((S.n + 1 : Nat) : Int) := by omega
  go_quiet (fail)
  clear s2 s3
  have H0 := H
  clear H c1
  have H : Hid (Pre B L (k :: Q') S bB gH gN gW row w g (.int .i64 1) (.int .i64 ((x : Int) + 1)) (.int .i64 (j : Int)) (.int .u64 a) (.int .u64 b) (.slice wa ws.length wc) (.string p) (W.drewN nq)) := H0.out.drewN nq
  clear H0
  generalize W.drewN nq = W at *
  have c0 := H.out.ol.h0
  have c1 := H.out.ol.h1
  have c2 := H.out.ol.h2
  have c3 := H.out.ol.h3
  have c4 := H.out.ol.h4
  have c5 := H.out.ol.h5
  have c6 := H.out.ol.h6
  have HD : Hid (Pre B L (k :: Q') S bB gH gN gW row w g (.int .i64 1) (.int .i64 ((x : Int) + 1)) (.int .i64 (j : Int)) (.int .u64 a) (.int .u64 b) (.slice wa ws.length wc) (.string p) W.drew) := H.out.drewN 1
  have c5d : W.drew.cell? ⟨g, 5, none⟩ = _ := c5
  have c6d : W.drew.cell? ⟨g, 6, none⟩ = _ := c6
  have hkm := (H.out.arn.mem k).1 (by simp)
  have hkn := hkm.1
  have hkf := hkm.2
  clear hkm
  go_wp2_with fail
  go_region_held3 (fun W' => W'.cell? ⟨g, 5, none⟩ = some (.slice wa ws.length wc) ∧ W'.cell? ⟨g, 6, none⟩ = some (.string p)) (first | assumption | exact ⟨c5d, c6d⟩ | exact ⟨H1.out.1.ol.h5, H1.out.1.ol.h6⟩ | exact ⟨H3.out.1.ol.h5, H3.out.1.ol.h6⟩) (first | (go_at_call 35; refine (words_any wa wc ws W.drew B (Nat.le_trans HD.out.hB HD.out.below.size) (HU.out.later HD.out.below) hlen).mono ?_; rintro e w1 ⟨v, rfl, ho, hb⟩; obtain ⟨sp, cap, rfl, hgiv⟩ := ho.given (L := L) HD.out.arn.h.lt; have H1 : Hid (Pre B L (k :: Q') S bB gH gN gW row w g (.int .i64 1) (.int .i64 ((x : Int) + 1)) (.int .i64 (j : Int)) (.int .u64 a) (.int .u64 b) (.slice wa ws.length wc) (.string p) w1 ∧ Given w1 L sp ws.length (fun i => ws.getD i 0)) := ⟨HD.out.grow hb, hgiv⟩; clear ho hgiv hb) | (go_at_call 13; refine (arn_alloc L S w1 Q' p sp ws.length cap k _ H1.out.1.arn H1.out.2 hm).mono ?_; rintro e w3 ⟨rfl, h3, k3⟩; have H3 : Hid (Nx B L S bB gH gN gW row w g (.int .i64 1) (.int .i64 ((x : Int) + 1)) (.int .i64 (j : Int)) (.int .u64 a) (.int .u64 b) (.slice wa ws.length wc) (.string p) w3 ∧ Arn w3 L Q' (S.alloc k (.string p) (valW ws.length fun i => ws.getD i 0))) := ⟨H1.out.1.next k3, h3⟩; clear h3 k3))
  clear H HD H1 c0 c1 c2 c3 c4 c5 c6 c5d c6d
  have c5 := H3.out.1.ol.h5
  have p0 := H3.out.1.bk.p0
  have hh := H3.out.1.bk.h k hkn
  rw [hkf] at hh
  have hfH := H3.out.1.bk.fH (k + 1)
  have i5 : (1 : Int) ≤ (k : Int) + 1 := by omega
  have i6 : (k : Int) + 1 ≤ (S.n : Int) := by omega
  have i7 : (0 : Int) ≤ (k : Int) + 1 := by omega
  have i8 : (k : Int) + 1 < ((S.n + 1 : Nat) : Int) := by omega
  have i9 : decide ((k : Int) + 1 < 1) = false := decide_eq_false (by omega)
  have i10 : decide ((S.n : Int) < (k : Int) + 1) = false := decide_eq_false (by omega)
  have i11 : decide ((S.wd : Int) < (ws.length : Int)) = false := decide_eq_false (by omega)
  go_wp2_with fail
  refine (num_any _ _).mono ?_
  rintro e w2 ⟨rfl, rfl⟩
  go_wp2_with fail
  have H4 : Hid (A4 w2 gH gN k p ((w2.setCell ⟨gH, k + 1, none⟩ (.bool true)).setCell ⟨gN, k + 1, none⟩ (.string p)).drew) := A4.start H3.out.1.bk k hkn p
  have hgn := (H3.out.1.bk.nm k hkn).choose_spec.1
  have t1 : (w2.setCell ⟨gH, k + 1, none⟩ (.bool true)).drew.cell? ⟨bB, 1, none⟩ = some (.slice (some ⟨gN, 0, none⟩) (S.n + 1) (S.n + 1)) := (ne_cell _ _ _ _ _ _ (Or.inl H3.out.1.bk.bH)).trans H3.out.1.bk.p1
  have t2 : (w2.setCell ⟨gH, k + 1, none⟩ (.bool true)).drew.cell? ⟨g, 6, none⟩ = some (.string p) := (ne_cell _ _ _ _ _ _ (Or.inl H3.out.1.gH)).trans H3.out.1.ol.h6
  have t3 : (w2.setCell ⟨gH, k + 1, none⟩ (.bool true)).drew.cell? ⟨gN, k + 1, none⟩ = _ := (ne_cell _ _ _ _ _ _ (Or.inl H3.out.1.bk.HN.symm)).trans hgn
  have t4 : (w2.setCell ⟨gH, k + 1, none⟩ (.bool true)).drew.frozen? ⟨gN, k + 1, none⟩ = false := by have := H3.out.1.bk.fN (k + 1); simpa using this
  clear hgn
  refine wp_once ?_
  apply Exists.intro
  apply Exists.intro
  constructor
  · go_region_with (fail)
    all_goals exact Post1.here _ _
  clear t1 t2 t3 t4 c5 p0 hh hfH
  generalize ((w2.setCell ⟨gH, k + 1, none⟩ (.bool true)).setCell ⟨gN, k + 1, none⟩ (.string p)).drew = w4 at *
  have hmk := run_make_any (P := Try.prog) 51 50 _ 1 8 Try.underlying51 infoW S.wd (by omega) (by omega) w4
  rw [Nat.mul_one] at hmk
  have H5 : Hid (CopyS w2 gH gN k p ws S.wd w4.heap.size 0 _) := CopyS.start H4.out ws S.wd
  clear H4
  have hgg := H5.out.g0
  go_wp2_with fail
  generalize w4.heap.size = g5 at *
  clear hmk
  go_loopw [16] (fun i wr => ∃ t : Nat, t ≤ ws.length ∧ i = .int .i64 (t : Int) ∧ CopyS w2 gH gN k p ws S.wd g5 t wr) (fun i _ => ws.length - (intOf i).toNat)
  case atStart => exact ⟨0, by omega, rfl, H5.out⟩
  case round =>
    obtain ⟨t, ht, rfl, hS⟩ := hrel
    have H6 : Hid (CopyS w2 gH gN k p ws S.wd g5 t wr) := hS
    clear hS H5
    have c5 := (H6.out.a4.kp.cell (p := ⟨g, 5, none⟩) H3.out.1.ol.sz (fun e => e.elim H3.out.1.gH H3.out.1.gN)).trans H3.out.1.ol.h5
    by_cases h5 : t < ws.length
    · have hc := H6.out.hi t (Nat.le_refl _) (by omega)
      have hf := H6.out.fz t
      have H7 : Hid (CopyS w2 gH gN k p ws S.wd g5 (t + 1) _) := H6.out.put h5 (by omega)
      obtain ⟨b', off', rfl, hb', hx'⟩ := (HU.out.later (H3.out.1.below.trans (H6.out.a4.kp.below H3.out.1.bs (fun k hk e => by have h1 := H3.out.1.bk.lo; rcases e with rfl | rfl <;> omega)))) t h5
      clear hb'
      have x1 : (0 : Int) ≤ (t : Int) := by omega
      have x2 : (t : Int) < (S.wd : Int) := by omega
      have x3 : (t : Int) < (ws.length : Int) := by omega
      generalize ws[t] = z at *
      go_wp2
      go_roundw
      case rel => exact ⟨t + 1, by omega, by go_num, H7.out⟩
      case measure => simp [intOf]; omega
    · have e5 : t = ws.length := by omega
      subst e5
      have HB2 : Hid (Below B w wr) := H3.out.1.below.trans (H6.out.a4.kp.below H3.out.1.bs (fun k hk e => by have h1 := H3.out.1.bk.lo; rcases e with rfl | rfl <;> omega))
      have q2 := (H6.out.a4.kp.cell (p := ⟨bB, 2, none⟩) H3.out.1.bk.sz.1 (fun e => e.elim H3.out.1.bk.bH H3.out.1.bk.bN)).trans H3.out.1.bk.p2
      obtain ⟨vw, hvw, _⟩ := H3.out.1.bk.rw k hkn
      have q3 := (H6.out.a4.kp.cell (p := ⟨gW, k + 1, none⟩) H3.out.1.bk.sz.2.2.2 (fun e => e.elim H3.out.1.bk.HW.symm H3.out.1.bk.NW.symm)).trans hvw
      have q4 := (H6.out.a4.kp.frozen (p := ⟨gW, k + 1, none⟩) H3.out.1.bk.sz.2.2.2 (fun e => e.elim H3.out.1.bk.HW.symm H3.out.1.bk.NW.symm)).trans (H3.out.1.bk.fW (k + 1))
      clear hvw
      go_wp2
      go_ret
      refine ⟨rfl, ⟨⟨Q', (S.alloc k (.string p) (valW ws.length fun i => ws.getD i 0)), upd row k g5, rfl, rfl, ?_, ?_⟩⟩, HB2.out.setCell (p := ⟨gW, k + 1, none⟩) H3.out.1.bk.lo.2.2.2 _⟩
      · exact (H3.out.2.keeps H6.out.a4.kp (fun g hg e => e.elim (fun e => H3.out.1.bk.LH (e ▸ hg)) (fun e => H3.out.1.bk.LN (e ▸ hg)))).keeps ((Keeps.refl (fun k => k = gW) wr).setCell (p := ⟨gW, k + 1, none⟩) rfl _) (fun g hg e => H3.out.1.bk.LW (e ▸ hg))
      · refine H3.out.1.bk.alloc hkn hkf p _ hgg (fun e => by have := H3.out.2.h.lt g5 e; omega) H6.out.a4.kp H6.out.g1 H6.out.a4.cH H6.out.a4.cN H6.out.a4.fH H6.out.a4.fN (fun c hc => ?_) H6.out.fz H3.out.1.bs
        unfold valW
        split
        · exact H6.out.lo c (by assumption)
        · exact H6.out.hi c (by omega) hc
theorem own_allocc_lo (B : Nat) (L : Lay) (Q' : List Nat) (S : AS) (bB gH gN gW : Nat) (row : Nat → Nat) (w : World) (x : Nat) (y : Int) (wc : Nat) (a b : Int) (wa : Option Addr) (ws : List Int) (p : ByteArray) (k : Nat) (hL : ∀ g, L.has g → B ≤ g) (hA : Arn w L (k :: Q') S) (hK : Bk w L S B bB gH gN gW row) (hx : x < S.n) (hu : S.use x = true) (hy : ¬ 0 ≤ y) (hU : SeesU w B wa ws) (hlen : ws.length * 8 ≤ 140737488355328) (hm : ws.length ≤ S.wd) :
    Calls Try.prog 15 #[.pointer (some ⟨bB, 0, none⟩), .pointer (some ⟨L.b, 0, none⟩), .agg #[.int .i64 1, .int .i64 ((x : Int) + 1), .int .i64 y, .int .u64 a, .int .u64 b, .slice wa ws.length wc, .string p], .int .i64 (S.n : Int), .int .i64 (S.wd : Int)] w fun e w' => e = .returned (.bool true) ∧ OwS B L bB gH gN gW S.n S.wd w' ∧ Below B w w' := by
  have hz := hA.h.hn.2
  have hwd := hA.h.hw.2
  have H : Hid (Pre B L (k :: Q') S bB gH gN gW row w w.heap.size (.int .i64 1) (.int .i64 ((x : Int) + 1)) (.int .i64 y) (.int .u64 a) (.int .u64 b) (.slice wa ws.length wc) (.string p) (w.alloc (.cells #[.int .i64 1, .int .i64 ((x : Int) + 1), .int .i64 y, .int .u64 a, .int .u64 b, .slice wa ws.length wc, .string p] 53))) := Pre.start hL hA hK (.int .i64 1) (.int .i64 ((x : Int) + 1)) (.int .i64 y) (.int .u64 a) (.int .u64 b) (.slice wa ws.length wc) (.string p) 53
  have HU : Hid (SeesU w B wa ws) := hU
  clear hU
  clear hA hK hL
  go_enter Try.func15, Try.ntmps15
  go_wp2_with fail
  generalize w.alloc (.cells #[.int .i64 1, .int .i64 ((x : Int) + 1), .int .i64 y, .int .u64 a, .int .u64 b, .slice wa ws.length wc, .string p] 53) = W at *
  generalize w.heap.size = g at *
  have c1 := H.out.ol.h1
  have s2 := H.out.bk.p0
  have s3 := H.out.bk.h x hx
  rw [hu] at s3
  have i1 : (1 : Int) ≤ (x : Int) + 1 := by omega
  have i2 : (x : Int) + 1 ≤ (S.n : Int) := by omega
  have i3 : (0 : Int) ≤ (x : Int) + 1 := by omega
  have i4 : (x : Int) + 1 < ((S.n + 1 : Nat) : Int) := by omega
  go_quiet (fail)
  clear s2 s3
  have H0 := H
  clear H c1
  have H : Hid (Pre B L (k :: Q') S bB gH gN gW row w g (.int .i64 1) (.int .i64 ((x : Int) + 1)) (.int .i64 y) (.int .u64 a) (.int .u64 b) (.slice wa ws.length wc) (.string p) (W.drewN nq)) := H0.out.drewN nq
  clear H0
  generalize W.drewN nq = W at *
  have c0 := H.out.ol.h0
  have c1 := H.out.ol.h1
  have c2 := H.out.ol.h2
  have c3 := H.out.ol.h3
  have c4 := H.out.ol.h4
  have c5 := H.out.ol.h5
  have c6 := H.out.ol.h6
  have HD : Hid (Pre B L (k :: Q') S bB gH gN gW row w g (.int .i64 1) (.int .i64 ((x : Int) + 1)) (.int .i64 y) (.int .u64 a) (.int .u64 b) (.slice wa ws.length wc) (.string p) W.drew) := H.out.drewN 1
  have c5d : W.drew.cell? ⟨g, 5, none⟩ = _ := c5
  have c6d : W.drew.cell? ⟨g, 6, none⟩ = _ := c6
  have hkm := (H.out.arn.mem k).1 (by simp)
  have hkn := hkm.1
  have hkf := hkm.2
  clear hkm
  go_wp2_with fail
  go_region_held3 (fun W' => W'.cell? ⟨g, 5, none⟩ = some (.slice wa ws.length wc) ∧ W'.cell? ⟨g, 6, none⟩ = some (.string p)) (first | assumption | exact ⟨c5d, c6d⟩ | exact ⟨H1.out.1.ol.h5, H1.out.1.ol.h6⟩ | exact ⟨H3.out.1.ol.h5, H3.out.1.ol.h6⟩) (first | (go_at_call 35; refine (words_any wa wc ws W.drew B (Nat.le_trans HD.out.hB HD.out.below.size) (HU.out.later HD.out.below) hlen).mono ?_; rintro e w1 ⟨v, rfl, ho, hb⟩; obtain ⟨sp, cap, rfl, hgiv⟩ := ho.given (L := L) HD.out.arn.h.lt; have H1 : Hid (Pre B L (k :: Q') S bB gH gN gW row w g (.int .i64 1) (.int .i64 ((x : Int) + 1)) (.int .i64 y) (.int .u64 a) (.int .u64 b) (.slice wa ws.length wc) (.string p) w1 ∧ Given w1 L sp ws.length (fun i => ws.getD i 0)) := ⟨HD.out.grow hb, hgiv⟩; clear ho hgiv hb) | (go_at_call 13; refine (arn_alloc L S w1 Q' p sp ws.length cap k _ H1.out.1.arn H1.out.2 hm).mono ?_; rintro e w3 ⟨rfl, h3, k3⟩; have H3 : Hid (Nx B L S bB gH gN gW row w g (.int .i64 1) (.int .i64 ((x : Int) + 1)) (.int .i64 y) (.int .u64 a) (.int .u64 b) (.slice wa ws.length wc) (.string p) w3 ∧ Arn w3 L Q' (S.alloc k (.string p) (valW ws.length fun i => ws.getD i 0))) := ⟨H1.out.1.next k3, h3⟩; clear h3 k3))
  clear H HD H1 c0 c1 c2 c3 c4 c5 c6 c5d c6d
  have c5 := H3.out.1.ol.h5
  have p0 := H3.out.1.bk.p0
  have hh := H3.out.1.bk.h k hkn
  rw [hkf] at hh
  have hfH := H3.out.1.bk.fH (k + 1)
  have i5 : (1 : Int) ≤ (k : Int) + 1 := by omega
  have i6 : (k : Int) + 1 ≤ (S.n : Int) := by omega
  have i7 : (0 : Int) ≤ (k : Int) + 1 := by omega
  have i8 : (k : Int) + 1 < ((S.n + 1 : Nat) : Int) := by omega
  have i9 : decide ((k : Int) + 1 < 1) = false := decide_eq_false (by omega)
  have i10 : decide ((S.n : Int) < (k : Int) + 1) = false := decide_eq_false (by omega)
  have i11 : decide ((S.wd : Int) < (ws.length : Int)) = false := decide_eq_false (by omega)
  go_wp2_with fail
  refine (num_any _ _).mono ?_
  rintro e w2 ⟨rfl, rfl⟩
  go_wp2_with fail
  have H4 : Hid (A4 w2 gH gN k p ((w2.setCell ⟨gH, k + 1, none⟩ (.bool true)).setCell ⟨gN, k + 1, none⟩ (.string p)).drew) := A4.start H3.out.1.bk k hkn p
  have hgn := (H3.out.1.bk.nm k hkn).choose_spec.1
  have t1 : (w2.setCell ⟨gH, k + 1, none⟩ (.bool true)).drew.cell? ⟨bB, 1, none⟩ = some (.slice (some ⟨gN, 0, none⟩) (S.n + 1) (S.n + 1)) := (ne_cell _ _ _ _ _ _ (Or.inl H3.out.1.bk.bH)).trans H3.out.1.bk.p1
  have t2 : (w2.setCell ⟨gH, k + 1, none⟩ (.bool true)).drew.cell? ⟨g, 6, none⟩ = some (.string p) := (ne_cell _ _ _ _ _ _ (Or.inl H3.out.1.gH)).trans H3.out.1.ol.h6
  have t3 : (w2.setCell ⟨gH, k + 1, none⟩ (.bool true)).drew.cell? ⟨gN, k + 1, none⟩ = _ := (ne_cell _ _ _ _ _ _ (Or.inl H3.out.1.bk.HN.symm)).trans hgn
  have t4 : (w2.setCell ⟨gH, k + 1, none⟩ (.bool true)).drew.frozen? ⟨gN, k + 1, none⟩ = false := by have := H3.out.1.bk.fN (k + 1); simpa using this
  clear hgn
  refine wp_once ?_
  apply Exists.intro
  apply Exists.intro
  constructor
  · go_region_with (fail)
    all_goals exact Post1.here _ _
  clear t1 t2 t3 t4 c5 p0 hh hfH
  generalize ((w2.setCell ⟨gH, k + 1, none⟩ (.bool true)).setCell ⟨gN, k + 1, none⟩ (.string p)).drew = w4 at *
  have hmk := run_make_any (P := Try.prog) 51 50 _ 1 8 Try.underlying51 infoW S.wd (by omega) (by omega) w4
  rw [Nat.mul_one] at hmk
  have H5 : Hid (CopyS w2 gH gN k p ws S.wd w4.heap.size 0 _) := CopyS.start H4.out ws S.wd
  clear H4
  have hgg := H5.out.g0
  go_wp2_with fail
  generalize w4.heap.size = g5 at *
  clear hmk
  go_loopw [16] (fun i wr => ∃ t : Nat, t ≤ ws.length ∧ i = .int .i64 (t : Int) ∧ CopyS w2 gH gN k p ws S.wd g5 t wr) (fun i _ => ws.length - (intOf i).toNat)
  case atStart => exact ⟨0, by omega, rfl, H5.out⟩
  case round =>
    obtain ⟨t, ht, rfl, hS⟩ := hrel
    have H6 : Hid (CopyS w2 gH gN k p ws S.wd g5 t wr) := hS
    clear hS H5
    have c5 := (H6.out.a4.kp.cell (p := ⟨g, 5, none⟩) H3.out.1.ol.sz (fun e => e.elim H3.out.1.gH H3.out.1.gN)).trans H3.out.1.ol.h5
    by_cases h5 : t < ws.length
    · have hc := H6.out.hi t (Nat.le_refl _) (by omega)
      have hf := H6.out.fz t
      have H7 : Hid (CopyS w2 gH gN k p ws S.wd g5 (t + 1) _) := H6.out.put h5 (by omega)
      obtain ⟨b', off', rfl, hb', hx'⟩ := (HU.out.later (H3.out.1.below.trans (H6.out.a4.kp.below H3.out.1.bs (fun k hk e => by have h1 := H3.out.1.bk.lo; rcases e with rfl | rfl <;> omega)))) t h5
      clear hb'
      have x1 : (0 : Int) ≤ (t : Int) := by omega
      have x2 : (t : Int) < (S.wd : Int) := by omega
      have x3 : (t : Int) < (ws.length : Int) := by omega
      generalize ws[t] = z at *
      go_wp2
      go_roundw
      case rel => exact ⟨t + 1, by omega, by go_num, H7.out⟩
      case measure => simp [intOf]; omega
    · have e5 : t = ws.length := by omega
      subst e5
      have HB2 : Hid (Below B w wr) := H3.out.1.below.trans (H6.out.a4.kp.below H3.out.1.bs (fun k hk e => by have h1 := H3.out.1.bk.lo; rcases e with rfl | rfl <;> omega))
      have q2 := (H6.out.a4.kp.cell (p := ⟨bB, 2, none⟩) H3.out.1.bk.sz.1 (fun e => e.elim H3.out.1.bk.bH H3.out.1.bk.bN)).trans H3.out.1.bk.p2
      obtain ⟨vw, hvw, _⟩ := H3.out.1.bk.rw k hkn
      have q3 := (H6.out.a4.kp.cell (p := ⟨gW, k + 1, none⟩) H3.out.1.bk.sz.2.2.2 (fun e => e.elim H3.out.1.bk.HW.symm H3.out.1.bk.NW.symm)).trans hvw
      have q4 := (H6.out.a4.kp.frozen (p := ⟨gW, k + 1, none⟩) H3.out.1.bk.sz.2.2.2 (fun e => e.elim H3.out.1.bk.HW.symm H3.out.1.bk.NW.symm)).trans (H3.out.1.bk.fW (k + 1))
      clear hvw
      go_wp2
      go_ret
      refine ⟨rfl, ⟨⟨Q', (S.alloc k (.string p) (valW ws.length fun i => ws.getD i 0)), upd row k g5, rfl, rfl, ?_, ?_⟩⟩, HB2.out.setCell (p := ⟨gW, k + 1, none⟩) H3.out.1.bk.lo.2.2.2 _⟩
      · exact (H3.out.2.keeps H6.out.a4.kp (fun g hg e => e.elim (fun e => H3.out.1.bk.LH (e ▸ hg)) (fun e => H3.out.1.bk.LN (e ▸ hg)))).keeps ((Keeps.refl (fun k => k = gW) wr).setCell (p := ⟨gW, k + 1, none⟩) rfl _) (fun g hg e => H3.out.1.bk.LW (e ▸ hg))
      · refine H3.out.1.bk.alloc hkn hkf p _ hgg (fun e => by have := H3.out.2.h.lt g5 e; omega) H6.out.a4.kp H6.out.g1 H6.out.a4.cH H6.out.a4.cN H6.out.a4.fH H6.out.a4.fN (fun c hc => ?_) H6.out.fz H3.out.1.bs
        unfold valW
        split
        · exact H6.out.lo c (by assumption)
        · exact H6.out.hi c (by omega) hc
theorem own_allocc_hi (B : Nat) (L : Lay) (Q' : List Nat) (S : AS) (bB gH gN gW : Nat) (row : Nat → Nat) (w : World) (x : Nat) (y : Int) (wc : Nat) (a b : Int) (wa : Option Addr) (ws : List Int) (p : ByteArray) (k : Nat) (hL : ∀ g, L.has g → B ≤ g) (hA : Arn w L (k :: Q') S) (hK : Bk w L S B bB gH gN gW row) (hx : x < S.n) (hu : S.use x = true) (hy : 0 ≤ y) (hy2 : ¬ y < (S.wd : Int)) (hU : SeesU w B wa ws) (hlen : ws.length * 8 ≤ 140737488355328) (hm : ws.length ≤ S.wd) :
    Calls Try.prog 15 #[.pointer (some ⟨bB, 0, none⟩), .pointer (some ⟨L.b, 0, none⟩), .agg #[.int .i64 1, .int .i64 ((x : Int) + 1), .int .i64 y, .int .u64 a, .int .u64 b, .slice wa ws.length wc, .string p], .int .i64 (S.n : Int), .int .i64 (S.wd : Int)] w fun e w' => e = .returned (.bool true) ∧ OwS B L bB gH gN gW S.n S.wd w' ∧ Below B w w' := by
  have hz := hA.h.hn.2
  have hwd := hA.h.hw.2
  have H : Hid (Pre B L (k :: Q') S bB gH gN gW row w w.heap.size (.int .i64 1) (.int .i64 ((x : Int) + 1)) (.int .i64 y) (.int .u64 a) (.int .u64 b) (.slice wa ws.length wc) (.string p) (w.alloc (.cells #[.int .i64 1, .int .i64 ((x : Int) + 1), .int .i64 y, .int .u64 a, .int .u64 b, .slice wa ws.length wc, .string p] 53))) := Pre.start hL hA hK (.int .i64 1) (.int .i64 ((x : Int) + 1)) (.int .i64 y) (.int .u64 a) (.int .u64 b) (.slice wa ws.length wc) (.string p) 53
  have HU : Hid (SeesU w B wa ws) := hU
  clear hU
  clear hA hK hL
  go_enter Try.func15, Try.ntmps15
  go_wp2_with fail
  generalize w.alloc (.cells #[.int .i64 1, .int .i64 ((x : Int) + 1), .int .i64 y, .int .u64 a, .int .u64 b, .slice wa ws.length wc, .string p] 53) = W at *
  generalize w.heap.size = g at *
  have c1 := H.out.ol.h1
  have s2 := H.out.bk.p0
  have s3 := H.out.bk.h x hx
  rw [hu] at s3
  have i1 : (1 : Int) ≤ (x : Int) + 1 := by omega
  have i2 : (x : Int) + 1 ≤ (S.n : Int) := by omega
  have i3 : (0 : Int) ≤ (x : Int) + 1 := by omega
  have i4 : (x : Int) + 1 < ((S.n + 1 : Nat) : Int) := by omega
  go_quiet (fail)
  clear s2 s3
  have H0 := H
  clear H c1
  have H : Hid (Pre B L (k :: Q') S bB gH gN gW row w g (.int .i64 1) (.int .i64 ((x : Int) + 1)) (.int .i64 y) (.int .u64 a) (.int .u64 b) (.slice wa ws.length wc) (.string p) (W.drewN nq)) := H0.out.drewN nq
  clear H0
  generalize W.drewN nq = W at *
  have c0 := H.out.ol.h0
  have c1 := H.out.ol.h1
  have c2 := H.out.ol.h2
  have c3 := H.out.ol.h3
  have c4 := H.out.ol.h4
  have c5 := H.out.ol.h5
  have c6 := H.out.ol.h6
  have HD : Hid (Pre B L (k :: Q') S bB gH gN gW row w g (.int .i64 1) (.int .i64 ((x : Int) + 1)) (.int .i64 y) (.int .u64 a) (.int .u64 b) (.slice wa ws.length wc) (.string p) W.drew) := H.out.drewN 1
  have c5d : W.drew.cell? ⟨g, 5, none⟩ = _ := c5
  have c6d : W.drew.cell? ⟨g, 6, none⟩ = _ := c6
  have hkm := (H.out.arn.mem k).1 (by simp)
  have hkn := hkm.1
  have hkf := hkm.2
  clear hkm
  go_wp2_with fail
  go_region_held3 (fun W' => W'.cell? ⟨g, 5, none⟩ = some (.slice wa ws.length wc) ∧ W'.cell? ⟨g, 6, none⟩ = some (.string p)) (first | assumption | exact ⟨c5d, c6d⟩ | exact ⟨H1.out.1.ol.h5, H1.out.1.ol.h6⟩ | exact ⟨H3.out.1.ol.h5, H3.out.1.ol.h6⟩) (first | (go_at_call 35; refine (words_any wa wc ws W.drew B (Nat.le_trans HD.out.hB HD.out.below.size) (HU.out.later HD.out.below) hlen).mono ?_; rintro e w1 ⟨v, rfl, ho, hb⟩; obtain ⟨sp, cap, rfl, hgiv⟩ := ho.given (L := L) HD.out.arn.h.lt; have H1 : Hid (Pre B L (k :: Q') S bB gH gN gW row w g (.int .i64 1) (.int .i64 ((x : Int) + 1)) (.int .i64 y) (.int .u64 a) (.int .u64 b) (.slice wa ws.length wc) (.string p) w1 ∧ Given w1 L sp ws.length (fun i => ws.getD i 0)) := ⟨HD.out.grow hb, hgiv⟩; clear ho hgiv hb) | (go_at_call 13; refine (arn_alloc L S w1 Q' p sp ws.length cap k _ H1.out.1.arn H1.out.2 hm).mono ?_; rintro e w3 ⟨rfl, h3, k3⟩; have H3 : Hid (Nx B L S bB gH gN gW row w g (.int .i64 1) (.int .i64 ((x : Int) + 1)) (.int .i64 y) (.int .u64 a) (.int .u64 b) (.slice wa ws.length wc) (.string p) w3 ∧ Arn w3 L Q' (S.alloc k (.string p) (valW ws.length fun i => ws.getD i 0))) := ⟨H1.out.1.next k3, h3⟩; clear h3 k3))
  clear H HD H1 c0 c1 c2 c3 c4 c5 c6 c5d c6d
  have c5 := H3.out.1.ol.h5
  have p0 := H3.out.1.bk.p0
  have hh := H3.out.1.bk.h k hkn
  rw [hkf] at hh
  have hfH := H3.out.1.bk.fH (k + 1)
  have i5 : (1 : Int) ≤ (k : Int) + 1 := by omega
  have i6 : (k : Int) + 1 ≤ (S.n : Int) := by omega
  have i7 : (0 : Int) ≤ (k : Int) + 1 := by omega
  have i8 : (k : Int) + 1 < ((S.n + 1 : Nat) : Int) := by omega
  have i9 : decide ((k : Int) + 1 < 1) = false := decide_eq_false (by omega)
  have i10 : decide ((S.n : Int) < (k : Int) + 1) = false := decide_eq_false (by omega)
  have i11 : decide ((S.wd : Int) < (ws.length : Int)) = false := decide_eq_false (by omega)
  go_wp2_with fail
  refine (num_any _ _).mono ?_
  rintro e w2 ⟨rfl, rfl⟩
  go_wp2_with fail
  have H4 : Hid (A4 w2 gH gN k p ((w2.setCell ⟨gH, k + 1, none⟩ (.bool true)).setCell ⟨gN, k + 1, none⟩ (.string p)).drew) := A4.start H3.out.1.bk k hkn p
  have hgn := (H3.out.1.bk.nm k hkn).choose_spec.1
  have t1 : (w2.setCell ⟨gH, k + 1, none⟩ (.bool true)).drew.cell? ⟨bB, 1, none⟩ = some (.slice (some ⟨gN, 0, none⟩) (S.n + 1) (S.n + 1)) := (ne_cell _ _ _ _ _ _ (Or.inl H3.out.1.bk.bH)).trans H3.out.1.bk.p1
  have t2 : (w2.setCell ⟨gH, k + 1, none⟩ (.bool true)).drew.cell? ⟨g, 6, none⟩ = some (.string p) := (ne_cell _ _ _ _ _ _ (Or.inl H3.out.1.gH)).trans H3.out.1.ol.h6
  have t3 : (w2.setCell ⟨gH, k + 1, none⟩ (.bool true)).drew.cell? ⟨gN, k + 1, none⟩ = _ := (ne_cell _ _ _ _ _ _ (Or.inl H3.out.1.bk.HN.symm)).trans hgn
  have t4 : (w2.setCell ⟨gH, k + 1, none⟩ (.bool true)).drew.frozen? ⟨gN, k + 1, none⟩ = false := by have := H3.out.1.bk.fN (k + 1); simpa using this
  clear hgn
  refine wp_once ?_
  apply Exists.intro
  apply Exists.intro
  constructor
  · go_region_with (fail)
    all_goals exact Post1.here _ _
  clear t1 t2 t3 t4 c5 p0 hh hfH
  generalize ((w2.setCell ⟨gH, k + 1, none⟩ (.bool true)).setCell ⟨gN, k + 1, none⟩ (.string p)).drew = w4 at *
  have hmk := run_make_any (P := Try.prog) 51 50 _ 1 8 Try.underlying51 infoW S.wd (by omega) (by omega) w4
  rw [Nat.mul_one] at hmk
  have H5 : Hid (CopyS w2 gH gN k p ws S.wd w4.heap.size 0 _) := CopyS.start H4.out ws S.wd
  clear H4
  have hgg := H5.out.g0
  go_wp2_with fail
  generalize w4.heap.size = g5 at *
  clear hmk
  go_loopw [16] (fun i wr => ∃ t : Nat, t ≤ ws.length ∧ i = .int .i64 (t : Int) ∧ CopyS w2 gH gN k p ws S.wd g5 t wr) (fun i _ => ws.length - (intOf i).toNat)
  case atStart => exact ⟨0, by omega, rfl, H5.out⟩
  case round =>
    obtain ⟨t, ht, rfl, hS⟩ := hrel
    have H6 : Hid (CopyS w2 gH gN k p ws S.wd g5 t wr) := hS
    clear hS H5
    have c5 := (H6.out.a4.kp.cell (p := ⟨g, 5, none⟩) H3.out.1.ol.sz (fun e => e.elim H3.out.1.gH H3.out.1.gN)).trans H3.out.1.ol.h5
    by_cases h5 : t < ws.length
    · have hc := H6.out.hi t (Nat.le_refl _) (by omega)
      have hf := H6.out.fz t
      have H7 : Hid (CopyS w2 gH gN k p ws S.wd g5 (t + 1) _) := H6.out.put h5 (by omega)
      obtain ⟨b', off', rfl, hb', hx'⟩ := (HU.out.later (H3.out.1.below.trans (H6.out.a4.kp.below H3.out.1.bs (fun k hk e => by have h1 := H3.out.1.bk.lo; rcases e with rfl | rfl <;> omega)))) t h5
      clear hb'
      have x1 : (0 : Int) ≤ (t : Int) := by omega
      have x2 : (t : Int) < (S.wd : Int) := by omega
      have x3 : (t : Int) < (ws.length : Int) := by omega
      generalize ws[t] = z at *
      go_wp2
      go_roundw
      case rel => exact ⟨t + 1, by omega, by go_num, H7.out⟩
      case measure => simp [intOf]; omega
    · have e5 : t = ws.length := by omega
      subst e5
      have HB2 : Hid (Below B w wr) := H3.out.1.below.trans (H6.out.a4.kp.below H3.out.1.bs (fun k hk e => by have h1 := H3.out.1.bk.lo; rcases e with rfl | rfl <;> omega))
      have q2 := (H6.out.a4.kp.cell (p := ⟨bB, 2, none⟩) H3.out.1.bk.sz.1 (fun e => e.elim H3.out.1.bk.bH H3.out.1.bk.bN)).trans H3.out.1.bk.p2
      obtain ⟨vw, hvw, _⟩ := H3.out.1.bk.rw k hkn
      have q3 := (H6.out.a4.kp.cell (p := ⟨gW, k + 1, none⟩) H3.out.1.bk.sz.2.2.2 (fun e => e.elim H3.out.1.bk.HW.symm H3.out.1.bk.NW.symm)).trans hvw
      have q4 := (H6.out.a4.kp.frozen (p := ⟨gW, k + 1, none⟩) H3.out.1.bk.sz.2.2.2 (fun e => e.elim H3.out.1.bk.HW.symm H3.out.1.bk.NW.symm)).trans (H3.out.1.bk.fW (k + 1))
      clear hvw
      go_wp2
      go_ret
      refine ⟨rfl, ⟨⟨Q', (S.alloc k (.string p) (valW ws.length fun i => ws.getD i 0)), upd row k g5, rfl, rfl, ?_, ?_⟩⟩, HB2.out.setCell (p := ⟨gW, k + 1, none⟩) H3.out.1.bk.lo.2.2.2 _⟩
      · exact (H3.out.2.keeps H6.out.a4.kp (fun g hg e => e.elim (fun e => H3.out.1.bk.LH (e ▸ hg)) (fun e => H3.out.1.bk.LN (e ▸ hg)))).keeps ((Keeps.refl (fun k => k = gW) wr).setCell (p := ⟨gW, k + 1, none⟩) rfl _) (fun g hg e => H3.out.1.bk.LW (e ▸ hg))
      · refine H3.out.1.bk.alloc hkn hkf p _ hgg (fun e => by have := H3.out.2.h.lt g5 e; omega) H6.out.a4.kp H6.out.g1 H6.out.a4.cH H6.out.a4.cN H6.out.a4.fH H6.out.a4.fN (fun c hc => ?_) H6.out.fz H3.out.1.bs
        unfold valW
        split
        · exact H6.out.lo c (by assumption)
        · exact H6.out.hi c (by omega) hc
theorem own_allocc_un (B : Nat) (L : Lay) (Q' : List Nat) (S : AS) (bB gH gN gW : Nat) (row : Nat → Nat) (w : World) (x : Nat) (y : Int) (wc : Nat) (a b : Int) (wa : Option Addr) (ws : List Int) (p : ByteArray) (k : Nat) (hL : ∀ g, L.has g → B ≤ g) (hA : Arn w L (k :: Q') S) (hK : Bk w L S B bB gH gN gW row) (hx : x < S.n) (hu : S.use x = false) (hU : SeesU w B wa ws) (hlen : ws.length * 8 ≤ 140737488355328) (hm : ws.length ≤ S.wd) :
    Calls Try.prog 15 #[.pointer (some ⟨bB, 0, none⟩), .pointer (some ⟨L.b, 0, none⟩), .agg #[.int .i64 1, .int .i64 ((x : Int) + 1), .int .i64 y, .int .u64 a, .int .u64 b, .slice wa ws.length wc, .string p], .int .i64 (S.n : Int), .int .i64 (S.wd : Int)] w fun e w' => e = .returned (.bool true) ∧ OwS B L bB gH gN gW S.n S.wd w' ∧ Below B w w' := by
  have hz := hA.h.hn.2
  have hwd := hA.h.hw.2
  have H : Hid (Pre B L (k :: Q') S bB gH gN gW row w w.heap.size (.int .i64 1) (.int .i64 ((x : Int) + 1)) (.int .i64 y) (.int .u64 a) (.int .u64 b) (.slice wa ws.length wc) (.string p) (w.alloc (.cells #[.int .i64 1, .int .i64 ((x : Int) + 1), .int .i64 y, .int .u64 a, .int .u64 b, .slice wa ws.length wc, .string p] 53))) := Pre.start hL hA hK (.int .i64 1) (.int .i64 ((x : Int) + 1)) (.int .i64 y) (.int .u64 a) (.int .u64 b) (.slice wa ws.length wc) (.string p) 53
  have HU : Hid (SeesU w B wa ws) := hU
  clear hU
  have NL : Hid (¬ S.live ((x : Int) + 1)) := by
    rintro ⟨k, hk, e, hu'⟩
    have : k = x := by omega
    subst this
    rw [hu] at hu'
    cases hu'
  clear hA hK hL
  go_enter Try.func15, Try.ntmps15
  go_wp2_with fail
  generalize w.alloc (.cells #[.int .i64 1, .int .i64 ((x : Int) + 1), .int .i64 y, .int .u64 a, .int .u64 b, .slice wa ws.length wc, .string p] 53) = W at *
  generalize w.heap.size = g at *
  have c1 := H.out.ol.h1
  have s2 := H.out.bk.p0
  have s3 := H.out.bk.h x hx
  rw [hu] at s3
  have i1 : (1 : Int) ≤ (x : Int) + 1 := by omega
  have i2 : (x : Int) + 1 ≤ (S.n : Int) := by omega
  have i3 : (0 : Int) ≤ (x : Int) + 1 := by omega
  have i4 : (x : Int) + 1 < ((S.n + 1 : Nat) : Int) := by omega
  go_quiet (fail)
  clear s2 s3
  have H0 := H
  clear H c1
  have H : Hid (Pre B L (k :: Q') S bB gH gN gW row w g (.int .i64 1) (.int .i64 ((x : Int) + 1)) (.int .i64 y) (.int .u64 a) (.int .u64 b) (.slice wa ws.length wc) (.string p) (W.drewN nq)) := H0.out.drewN nq
  clear H0
  generalize W.drewN nq = W at *
  have c0 := H.out.ol.h0
  have c1 := H.out.ol.h1
  have c2 := H.out.ol.h2
  have c3 := H.out.ol.h3
  have c4 := H.out.ol.h4
  have c5 := H.out.ol.h5
  have c6 := H.out.ol.h6
  have HD : Hid (Pre B L (k :: Q') S bB gH gN gW row w g (.int .i64 1) (.int .i64 ((x : Int) + 1)) (.int .i64 y) (.int .u64 a) (.int .u64 b) (.slice wa ws.length wc) (.string p) W.drew) := H.out.drewN 1
  have c5d : W.drew.cell? ⟨g, 5, none⟩ = _ := c5
  have c6d : W.drew.cell? ⟨g, 6, none⟩ = _ := c6
  have hkm := (H.out.arn.mem k).1 (by simp)
  have hkn := hkm.1
  have hkf := hkm.2
  clear hkm
  go_wp2_with fail
  go_region_held3 (fun W' => W'.cell? ⟨g, 5, none⟩ = some (.slice wa ws.length wc) ∧ W'.cell? ⟨g, 6, none⟩ = some (.string p)) (first | assumption | exact ⟨c5d, c6d⟩ | exact ⟨H1.out.1.ol.h5, H1.out.1.ol.h6⟩ | exact ⟨H3.out.1.ol.h5, H3.out.1.ol.h6⟩) (first | (go_at_call 35; refine (words_any wa wc ws W.drew B (Nat.le_trans HD.out.hB HD.out.below.size) (HU.out.later HD.out.below) hlen).mono ?_; rintro e w1 ⟨v, rfl, ho, hb⟩; obtain ⟨sp, cap, rfl, hgiv⟩ := ho.given (L := L) HD.out.arn.h.lt; have H1 : Hid (Pre B L (k :: Q') S bB gH gN gW row w g (.int .i64 1) (.int .i64 ((x : Int) + 1)) (.int .i64 y) (.int .u64 a) (.int .u64 b) (.slice wa ws.length wc) (.string p) w1 ∧ Given w1 L sp ws.length (fun i => ws.getD i 0)) := ⟨HD.out.grow hb, hgiv⟩; clear ho hgiv hb) | (go_at_call 13; refine (arn_alloc L S w1 Q' p sp ws.length cap k _ H1.out.1.arn H1.out.2 hm).mono ?_; rintro e w3 ⟨rfl, h3, k3⟩; have H3 : Hid (Nx B L S bB gH gN gW row w g (.int .i64 1) (.int .i64 ((x : Int) + 1)) (.int .i64 y) (.int .u64 a) (.int .u64 b) (.slice wa ws.length wc) (.string p) w3 ∧ Arn w3 L Q' (S.alloc k (.string p) (valW ws.length fun i => ws.getD i 0))) := ⟨H1.out.1.next k3, h3⟩; clear h3 k3))
  clear H HD H1 c0 c1 c2 c3 c4 c5 c6 c5d c6d
  have c5 := H3.out.1.ol.h5
  have p0 := H3.out.1.bk.p0
  have hh := H3.out.1.bk.h k hkn
  rw [hkf] at hh
  have hfH := H3.out.1.bk.fH (k + 1)
  have i5 : (1 : Int) ≤ (k : Int) + 1 := by omega
  have i6 : (k : Int) + 1 ≤ (S.n : Int) := by omega
  have i7 : (0 : Int) ≤ (k : Int) + 1 := by omega
  have i8 : (k : Int) + 1 < ((S.n + 1 : Nat) : Int) := by omega
  have i9 : decide ((k : Int) + 1 < 1) = false := decide_eq_false (by omega)
  have i10 : decide ((S.n : Int) < (k : Int) + 1) = false := decide_eq_false (by omega)
  have i11 : decide ((S.wd : Int) < (ws.length : Int)) = false := decide_eq_false (by omega)
  go_wp2_with fail
  refine (num_any _ _).mono ?_
  rintro e w2 ⟨rfl, rfl⟩
  go_wp2_with fail
  have H4 : Hid (A4 w2 gH gN k p ((w2.setCell ⟨gH, k + 1, none⟩ (.bool true)).setCell ⟨gN, k + 1, none⟩ (.string p)).drew) := A4.start H3.out.1.bk k hkn p
  have hgn := (H3.out.1.bk.nm k hkn).choose_spec.1
  have t1 : (w2.setCell ⟨gH, k + 1, none⟩ (.bool true)).drew.cell? ⟨bB, 1, none⟩ = some (.slice (some ⟨gN, 0, none⟩) (S.n + 1) (S.n + 1)) := (ne_cell _ _ _ _ _ _ (Or.inl H3.out.1.bk.bH)).trans H3.out.1.bk.p1
  have t2 : (w2.setCell ⟨gH, k + 1, none⟩ (.bool true)).drew.cell? ⟨g, 6, none⟩ = some (.string p) := (ne_cell _ _ _ _ _ _ (Or.inl H3.out.1.gH)).trans H3.out.1.ol.h6
  have t3 : (w2.setCell ⟨gH, k + 1, none⟩ (.bool true)).drew.cell? ⟨gN, k + 1, none⟩ = _ := (ne_cell _ _ _ _ _ _ (Or.inl H3.out.1.bk.HN.symm)).trans hgn
  have t4 : (w2.setCell ⟨gH, k + 1, none⟩ (.bool true)).drew.frozen? ⟨gN, k + 1, none⟩ = false := by have := H3.out.1.bk.fN (k + 1); simpa using this
  clear hgn
  refine wp_once ?_
  apply Exists.intro
  apply Exists.intro
  constructor
  · go_region_with (fail)
    all_goals exact Post1.here _ _
  clear t1 t2 t3 t4 c5 p0 hh hfH
  generalize ((w2.setCell ⟨gH, k + 1, none⟩ (.bool true)).setCell ⟨gN, k + 1, none⟩ (.string p)).drew = w4 at *
  have hmk := run_make_any (P := Try.prog) 51 50 _ 1 8 Try.underlying51 infoW S.wd (by omega) (by omega) w4
  rw [Nat.mul_one] at hmk
  have H5 : Hid (CopyS w2 gH gN k p ws S.wd w4.heap.size 0 _) := CopyS.start H4.out ws S.wd
  clear H4
  have hgg := H5.out.g0
  go_wp2_with fail
  generalize w4.heap.size = g5 at *
  clear hmk
  go_loopw [16] (fun i wr => ∃ t : Nat, t ≤ ws.length ∧ i = .int .i64 (t : Int) ∧ CopyS w2 gH gN k p ws S.wd g5 t wr) (fun i _ => ws.length - (intOf i).toNat)
  case atStart => exact ⟨0, by omega, rfl, H5.out⟩
  case round =>
    obtain ⟨t, ht, rfl, hS⟩ := hrel
    have H6 : Hid (CopyS w2 gH gN k p ws S.wd g5 t wr) := hS
    clear hS H5
    have c5 := (H6.out.a4.kp.cell (p := ⟨g, 5, none⟩) H3.out.1.ol.sz (fun e => e.elim H3.out.1.gH H3.out.1.gN)).trans H3.out.1.ol.h5
    by_cases h5 : t < ws.length
    · have hc := H6.out.hi t (Nat.le_refl _) (by omega)
      have hf := H6.out.fz t
      have H7 : Hid (CopyS w2 gH gN k p ws S.wd g5 (t + 1) _) := H6.out.put h5 (by omega)
      obtain ⟨b', off', rfl, hb', hx'⟩ := (HU.out.later (H3.out.1.below.trans (H6.out.a4.kp.below H3.out.1.bs (fun k hk e => by have h1 := H3.out.1.bk.lo; rcases e with rfl | rfl <;> omega)))) t h5
      clear hb'
      have x1 : (0 : Int) ≤ (t : Int) := by omega
      have x2 : (t : Int) < (S.wd : Int) := by omega
      have x3 : (t : Int) < (ws.length : Int) := by omega
      generalize ws[t] = z at *
      go_wp2
      go_roundw
      case rel => exact ⟨t + 1, by omega, by go_num, H7.out⟩
      case measure => simp [intOf]; omega
    · have e5 : t = ws.length := by omega
      subst e5
      have HB2 : Hid (Below B w wr) := H3.out.1.below.trans (H6.out.a4.kp.below H3.out.1.bs (fun k hk e => by have h1 := H3.out.1.bk.lo; rcases e with rfl | rfl <;> omega))
      have q2 := (H6.out.a4.kp.cell (p := ⟨bB, 2, none⟩) H3.out.1.bk.sz.1 (fun e => e.elim H3.out.1.bk.bH H3.out.1.bk.bN)).trans H3.out.1.bk.p2
      obtain ⟨vw, hvw, _⟩ := H3.out.1.bk.rw k hkn
      have q3 := (H6.out.a4.kp.cell (p := ⟨gW, k + 1, none⟩) H3.out.1.bk.sz.2.2.2 (fun e => e.elim H3.out.1.bk.HW.symm H3.out.1.bk.NW.symm)).trans hvw
      have q4 := (H6.out.a4.kp.frozen (p := ⟨gW, k + 1, none⟩) H3.out.1.bk.sz.2.2.2 (fun e => e.elim H3.out.1.bk.HW.symm H3.out.1.bk.NW.symm)).trans (H3.out.1.bk.fW (k + 1))
      clear hvw
      go_wp2
      go_ret
      refine ⟨rfl, ⟨⟨Q', (S.alloc k (.string p) (valW ws.length fun i => ws.getD i 0)), upd row k g5, rfl, rfl, ?_, ?_⟩⟩, HB2.out.setCell (p := ⟨gW, k + 1, none⟩) H3.out.1.bk.lo.2.2.2 _⟩
      · exact (H3.out.2.keeps H6.out.a4.kp (fun g hg e => e.elim (fun e => H3.out.1.bk.LH (e ▸ hg)) (fun e => H3.out.1.bk.LN (e ▸ hg)))).keeps ((Keeps.refl (fun k => k = gW) wr).setCell (p := ⟨gW, k + 1, none⟩) rfl _) (fun g hg e => H3.out.1.bk.LW (e ▸ hg))
      · refine H3.out.1.bk.alloc hkn hkf p _ hgg (fun e => by have := H3.out.2.h.lt g5 e; omega) H6.out.a4.kp H6.out.g1 H6.out.a4.cH H6.out.a4.cN H6.out.a4.fH H6.out.a4.fN (fun c hc => ?_) H6.out.fz H3.out.1.bs
        unfold valW
        split
        · exact H6.out.lo c (by assumption)
        · exact H6.out.hi c (by omega) hc
theorem own_allocc_sm (B : Nat) (L : Lay) (Q' : List Nat) (S : AS) (bB gH gN gW : Nat) (row : Nat → Nat) (w : World) (s y : Int) (wc : Nat) (a b : Int) (wa : Option Addr) (ws : List Int) (p : ByteArray) (k : Nat) (hL : ∀ g, L.has g → B ≤ g) (hA : Arn w L (k :: Q') S) (hK : Bk w L S B bB gH gN gW row) (hs : ¬ 1 ≤ s) (hU : SeesU w B wa ws) (hlen : ws.length * 8 ≤ 140737488355328) (hm : ws.length ≤ S.wd) :
    Calls Try.prog 15 #[.pointer (some ⟨bB, 0, none⟩), .pointer (some ⟨L.b, 0, none⟩), .agg #[.int .i64 1, .int .i64 s, .int .i64 y, .int .u64 a, .int .u64 b, .slice wa ws.length wc, .string p], .int .i64 (S.n : Int), .int .i64 (S.wd : Int)] w fun e w' => e = .returned (.bool true) ∧ OwS B L bB gH gN gW S.n S.wd w' ∧ Below B w w' := by
  have hz := hA.h.hn.2
  have hwd := hA.h.hw.2
  have H : Hid (Pre B L (k :: Q') S bB gH gN gW row w w.heap.size (.int .i64 1) (.int .i64 s) (.int .i64 y) (.int .u64 a) (.int .u64 b) (.slice wa ws.length wc) (.string p) (w.alloc (.cells #[.int .i64 1, .int .i64 s, .int .i64 y, .int .u64 a, .int .u64 b, .slice wa ws.length wc, .string p] 53))) := Pre.start hL hA hK (.int .i64 1) (.int .i64 s) (.int .i64 y) (.int .u64 a) (.int .u64 b) (.slice wa ws.length wc) (.string p) 53
  have HU : Hid (SeesU w B wa ws) := hU
  clear hU
  have NL : Hid (¬ S.live s) := by
    rintro ⟨k, hk, e, hu'⟩
    omega
  clear hA hK hL
  go_enter Try.func15, Try.ntmps15
  go_wp2_with fail
  generalize w.alloc (.cells #[.int .i64 1, .int .i64 s, .int .i64 y, .int .u64 a, .int .u64 b, .slice wa ws.length wc, .string p] 53) = W at *
  generalize w.heap.size = g at *
  have c1 := H.out.ol.h1
  have hs4 : decide (1 ≤ s) = false := decide_eq_false (by omega)
  go_quiet (fail)
  have H0 := H
  clear H c1
  have H : Hid (Pre B L (k :: Q') S bB gH gN gW row w g (.int .i64 1) (.int .i64 s) (.int .i64 y) (.int .u64 a) (.int .u64 b) (.slice wa ws.length wc) (.string p) (W.drewN nq)) := H0.out.drewN nq
  clear H0
  generalize W.drewN nq = W at *
  have c0 := H.out.ol.h0
  have c1 := H.out.ol.h1
  have c2 := H.out.ol.h2
  have c3 := H.out.ol.h3
  have c4 := H.out.ol.h4
  have c5 := H.out.ol.h5
  have c6 := H.out.ol.h6
  have HD : Hid (Pre B L (k :: Q') S bB gH gN gW row w g (.int .i64 1) (.int .i64 s) (.int .i64 y) (.int .u64 a) (.int .u64 b) (.slice wa ws.length wc) (.string p) W.drew) := H.out.drewN 1
  have c5d : W.drew.cell? ⟨g, 5, none⟩ = _ := c5
  have c6d : W.drew.cell? ⟨g, 6, none⟩ = _ := c6
  have hkm := (H.out.arn.mem k).1 (by simp)
  have hkn := hkm.1
  have hkf := hkm.2
  clear hkm
  go_wp2_with fail
  go_region_held3 (fun W' => W'.cell? ⟨g, 5, none⟩ = some (.slice wa ws.length wc) ∧ W'.cell? ⟨g, 6, none⟩ = some (.string p)) (first | assumption | exact ⟨c5d, c6d⟩ | exact ⟨H1.out.1.ol.h5, H1.out.1.ol.h6⟩ | exact ⟨H3.out.1.ol.h5, H3.out.1.ol.h6⟩) (first | (go_at_call 35; refine (words_any wa wc ws W.drew B (Nat.le_trans HD.out.hB HD.out.below.size) (HU.out.later HD.out.below) hlen).mono ?_; rintro e w1 ⟨v, rfl, ho, hb⟩; obtain ⟨sp, cap, rfl, hgiv⟩ := ho.given (L := L) HD.out.arn.h.lt; have H1 : Hid (Pre B L (k :: Q') S bB gH gN gW row w g (.int .i64 1) (.int .i64 s) (.int .i64 y) (.int .u64 a) (.int .u64 b) (.slice wa ws.length wc) (.string p) w1 ∧ Given w1 L sp ws.length (fun i => ws.getD i 0)) := ⟨HD.out.grow hb, hgiv⟩; clear ho hgiv hb) | (go_at_call 13; refine (arn_alloc L S w1 Q' p sp ws.length cap k _ H1.out.1.arn H1.out.2 hm).mono ?_; rintro e w3 ⟨rfl, h3, k3⟩; have H3 : Hid (Nx B L S bB gH gN gW row w g (.int .i64 1) (.int .i64 s) (.int .i64 y) (.int .u64 a) (.int .u64 b) (.slice wa ws.length wc) (.string p) w3 ∧ Arn w3 L Q' (S.alloc k (.string p) (valW ws.length fun i => ws.getD i 0))) := ⟨H1.out.1.next k3, h3⟩; clear h3 k3))
  clear H HD H1 c0 c1 c2 c3 c4 c5 c6 c5d c6d
  have c5 := H3.out.1.ol.h5
  have p0 := H3.out.1.bk.p0
  have hh := H3.out.1.bk.h k hkn
  rw [hkf] at hh
  have hfH := H3.out.1.bk.fH (k + 1)
  have i5 : (1 : Int) ≤ (k : Int) + 1 := by omega
  have i6 : (k : Int) + 1 ≤ (S.n : Int) := by omega
  have i7 : (0 : Int) ≤ (k : Int) + 1 := by omega
  have i8 : (k : Int) + 1 < ((S.n + 1 : Nat) : Int) := by omega
  have i9 : decide ((k : Int) + 1 < 1) = false := decide_eq_false (by omega)
  have i10 : decide ((S.n : Int) < (k : Int) + 1) = false := decide_eq_false (by omega)
  have i11 : decide ((S.wd : Int) < (ws.length : Int)) = false := decide_eq_false (by omega)
  go_wp2_with fail
  refine (num_any _ _).mono ?_
  rintro e w2 ⟨rfl, rfl⟩
  go_wp2_with fail
  have H4 : Hid (A4 w2 gH gN k p ((w2.setCell ⟨gH, k + 1, none⟩ (.bool true)).setCell ⟨gN, k + 1, none⟩ (.string p)).drew) := A4.start H3.out.1.bk k hkn p
  have hgn := (H3.out.1.bk.nm k hkn).choose_spec.1
  have t1 : (w2.setCell ⟨gH, k + 1, none⟩ (.bool true)).drew.cell? ⟨bB, 1, none⟩ = some (.slice (some ⟨gN, 0, none⟩) (S.n + 1) (S.n + 1)) := (ne_cell _ _ _ _ _ _ (Or.inl H3.out.1.bk.bH)).trans H3.out.1.bk.p1
  have t2 : (w2.setCell ⟨gH, k + 1, none⟩ (.bool true)).drew.cell? ⟨g, 6, none⟩ = some (.string p) := (ne_cell _ _ _ _ _ _ (Or.inl H3.out.1.gH)).trans H3.out.1.ol.h6
  have t3 : (w2.setCell ⟨gH, k + 1, none⟩ (.bool true)).drew.cell? ⟨gN, k + 1, none⟩ = _ := (ne_cell _ _ _ _ _ _ (Or.inl H3.out.1.bk.HN.symm)).trans hgn
  have t4 : (w2.setCell ⟨gH, k + 1, none⟩ (.bool true)).drew.frozen? ⟨gN, k + 1, none⟩ = false := by have := H3.out.1.bk.fN (k + 1); simpa using this
  clear hgn
  refine wp_once ?_
  apply Exists.intro
  apply Exists.intro
  constructor
  · go_region_with (fail)
    all_goals exact Post1.here _ _
  clear t1 t2 t3 t4 c5 p0 hh hfH
  generalize ((w2.setCell ⟨gH, k + 1, none⟩ (.bool true)).setCell ⟨gN, k + 1, none⟩ (.string p)).drew = w4 at *
  have hmk := run_make_any (P := Try.prog) 51 50 _ 1 8 Try.underlying51 infoW S.wd (by omega) (by omega) w4
  rw [Nat.mul_one] at hmk
  have H5 : Hid (CopyS w2 gH gN k p ws S.wd w4.heap.size 0 _) := CopyS.start H4.out ws S.wd
  clear H4
  have hgg := H5.out.g0
  go_wp2_with fail
  generalize w4.heap.size = g5 at *
  clear hmk
  go_loopw [16] (fun i wr => ∃ t : Nat, t ≤ ws.length ∧ i = .int .i64 (t : Int) ∧ CopyS w2 gH gN k p ws S.wd g5 t wr) (fun i _ => ws.length - (intOf i).toNat)
  case atStart => exact ⟨0, by omega, rfl, H5.out⟩
  case round =>
    obtain ⟨t, ht, rfl, hS⟩ := hrel
    have H6 : Hid (CopyS w2 gH gN k p ws S.wd g5 t wr) := hS
    clear hS H5
    have c5 := (H6.out.a4.kp.cell (p := ⟨g, 5, none⟩) H3.out.1.ol.sz (fun e => e.elim H3.out.1.gH H3.out.1.gN)).trans H3.out.1.ol.h5
    by_cases h5 : t < ws.length
    · have hc := H6.out.hi t (Nat.le_refl _) (by omega)
      have hf := H6.out.fz t
      have H7 : Hid (CopyS w2 gH gN k p ws S.wd g5 (t + 1) _) := H6.out.put h5 (by omega)
      obtain ⟨b', off', rfl, hb', hx'⟩ := (HU.out.later (H3.out.1.below.trans (H6.out.a4.kp.below H3.out.1.bs (fun k hk e => by have h1 := H3.out.1.bk.lo; rcases e with rfl | rfl <;> omega)))) t h5
      clear hb'
      have x1 : (0 : Int) ≤ (t : Int) := by omega
      have x2 : (t : Int) < (S.wd : Int) := by omega
      have x3 : (t : Int) < (ws.length : Int) := by omega
      generalize ws[t] = z at *
      go_wp2
      go_roundw
      case rel => exact ⟨t + 1, by omega, by go_num, H7.out⟩
      case measure => simp [intOf]; omega
    · have e5 : t = ws.length := by omega
      subst e5
      have HB2 : Hid (Below B w wr) := H3.out.1.below.trans (H6.out.a4.kp.below H3.out.1.bs (fun k hk e => by have h1 := H3.out.1.bk.lo; rcases e with rfl | rfl <;> omega))
      have q2 := (H6.out.a4.kp.cell (p := ⟨bB, 2, none⟩) H3.out.1.bk.sz.1 (fun e => e.elim H3.out.1.bk.bH H3.out.1.bk.bN)).trans H3.out.1.bk.p2
      obtain ⟨vw, hvw, _⟩ := H3.out.1.bk.rw k hkn
      have q3 := (H6.out.a4.kp.cell (p := ⟨gW, k + 1, none⟩) H3.out.1.bk.sz.2.2.2 (fun e => e.elim H3.out.1.bk.HW.symm H3.out.1.bk.NW.symm)).trans hvw
      have q4 := (H6.out.a4.kp.frozen (p := ⟨gW, k + 1, none⟩) H3.out.1.bk.sz.2.2.2 (fun e => e.elim H3.out.1.bk.HW.symm H3.out.1.bk.NW.symm)).trans (H3.out.1.bk.fW (k + 1))
      clear hvw
      go_wp2
      go_ret
      refine ⟨rfl, ⟨⟨Q', (S.alloc k (.string p) (valW ws.length fun i => ws.getD i 0)), upd row k g5, rfl, rfl, ?_, ?_⟩⟩, HB2.out.setCell (p := ⟨gW, k + 1, none⟩) H3.out.1.bk.lo.2.2.2 _⟩
      · exact (H3.out.2.keeps H6.out.a4.kp (fun g hg e => e.elim (fun e => H3.out.1.bk.LH (e ▸ hg)) (fun e => H3.out.1.bk.LN (e ▸ hg)))).keeps ((Keeps.refl (fun k => k = gW) wr).setCell (p := ⟨gW, k + 1, none⟩) rfl _) (fun g hg e => H3.out.1.bk.LW (e ▸ hg))
      · refine H3.out.1.bk.alloc hkn hkf p _ hgg (fun e => by have := H3.out.2.h.lt g5 e; omega) H6.out.a4.kp H6.out.g1 H6.out.a4.cH H6.out.a4.cN H6.out.a4.fH H6.out.a4.fN (fun c hc => ?_) H6.out.fz H3.out.1.bs
        unfold valW
        split
        · exact H6.out.lo c (by assumption)
        · exact H6.out.hi c (by omega) hc
theorem own_allocc_bg (B : Nat) (L : Lay) (Q' : List Nat) (S : AS) (bB gH gN gW : Nat) (row : Nat → Nat) (w : World) (s y : Int) (wc : Nat) (a b : Int) (wa : Option Addr) (ws : List Int) (p : ByteArray) (k : Nat) (hL : ∀ g, L.has g → B ≤ g) (hA : Arn w L (k :: Q') S) (hK : Bk w L S B bB gH gN gW row) (hs : 1 ≤ s) (hs2 : ¬ s ≤ (S.n : Int)) (hU : SeesU w B wa ws) (hlen : ws.length * 8 ≤ 140737488355328) (hm : ws.length ≤ S.wd) :
    Calls Try.prog 15 #[.pointer (some ⟨bB, 0, none⟩), .pointer (some ⟨L.b, 0, none⟩), .agg #[.int .i64 1, .int .i64 s, .int .i64 y, .int .u64 a, .int .u64 b, .slice wa ws.length wc, .string p], .int .i64 (S.n : Int), .int .i64 (S.wd : Int)] w fun e w' => e = .returned (.bool true) ∧ OwS B L bB gH gN gW S.n S.wd w' ∧ Below B w w' := by
  have hz := hA.h.hn.2
  have hwd := hA.h.hw.2
  have H : Hid (Pre B L (k :: Q') S bB gH gN gW row w w.heap.size (.int .i64 1) (.int .i64 s) (.int .i64 y) (.int .u64 a) (.int .u64 b) (.slice wa ws.length wc) (.string p) (w.alloc (.cells #[.int .i64 1, .int .i64 s, .int .i64 y, .int .u64 a, .int .u64 b, .slice wa ws.length wc, .string p] 53))) := Pre.start hL hA hK (.int .i64 1) (.int .i64 s) (.int .i64 y) (.int .u64 a) (.int .u64 b) (.slice wa ws.length wc) (.string p) 53
  have HU : Hid (SeesU w B wa ws) := hU
  clear hU
  have NL : Hid (¬ S.live s) := by
    rintro ⟨k, hk, e, hu'⟩
    omega
  clear hA hK hL
  go_enter Try.func15, Try.ntmps15
  go_wp2_with fail
  generalize w.alloc (.cells #[.int .i64 1, .int .i64 s, .int .i64 y, .int .u64 a, .int .u64 b, .slice wa ws.length wc, .string p] 53) = W at *
  generalize w.heap.size = g at *
  have c1 := H.out.ol.h1
  have hs4 : decide (s ≤ (S.n : Int)) = false := decide_eq_false (by omega)
  go_quiet (fail)
  have H0 := H
  clear H c1
  have H : Hid (Pre B L (k :: Q') S bB gH gN gW row w g (.int .i64 1) (.int .i64 s) (.int .i64 y) (.int .u64 a) (.int .u64 b) (.slice wa ws.length wc) (.string p) (W.drewN nq)) := H0.out.drewN nq
  clear H0
  generalize W.drewN nq = W at *
  have c0 := H.out.ol.h0
  have c1 := H.out.ol.h1
  have c2 := H.out.ol.h2
  have c3 := H.out.ol.h3
  have c4 := H.out.ol.h4
  have c5 := H.out.ol.h5
  have c6 := H.out.ol.h6
  have HD : Hid (Pre B L (k :: Q') S bB gH gN gW row w g (.int .i64 1) (.int .i64 s) (.int .i64 y) (.int .u64 a) (.int .u64 b) (.slice wa ws.length wc) (.string p) W.drew) := H.out.drewN 1
  have c5d : W.drew.cell? ⟨g, 5, none⟩ = _ := c5
  have c6d : W.drew.cell? ⟨g, 6, none⟩ = _ := c6
  have hkm := (H.out.arn.mem k).1 (by simp)
  have hkn := hkm.1
  have hkf := hkm.2
  clear hkm
  go_wp2_with fail
  go_region_held3 (fun W' => W'.cell? ⟨g, 5, none⟩ = some (.slice wa ws.length wc) ∧ W'.cell? ⟨g, 6, none⟩ = some (.string p)) (first | assumption | exact ⟨c5d, c6d⟩ | exact ⟨H1.out.1.ol.h5, H1.out.1.ol.h6⟩ | exact ⟨H3.out.1.ol.h5, H3.out.1.ol.h6⟩) (first | (go_at_call 35; refine (words_any wa wc ws W.drew B (Nat.le_trans HD.out.hB HD.out.below.size) (HU.out.later HD.out.below) hlen).mono ?_; rintro e w1 ⟨v, rfl, ho, hb⟩; obtain ⟨sp, cap, rfl, hgiv⟩ := ho.given (L := L) HD.out.arn.h.lt; have H1 : Hid (Pre B L (k :: Q') S bB gH gN gW row w g (.int .i64 1) (.int .i64 s) (.int .i64 y) (.int .u64 a) (.int .u64 b) (.slice wa ws.length wc) (.string p) w1 ∧ Given w1 L sp ws.length (fun i => ws.getD i 0)) := ⟨HD.out.grow hb, hgiv⟩; clear ho hgiv hb) | (go_at_call 13; refine (arn_alloc L S w1 Q' p sp ws.length cap k _ H1.out.1.arn H1.out.2 hm).mono ?_; rintro e w3 ⟨rfl, h3, k3⟩; have H3 : Hid (Nx B L S bB gH gN gW row w g (.int .i64 1) (.int .i64 s) (.int .i64 y) (.int .u64 a) (.int .u64 b) (.slice wa ws.length wc) (.string p) w3 ∧ Arn w3 L Q' (S.alloc k (.string p) (valW ws.length fun i => ws.getD i 0))) := ⟨H1.out.1.next k3, h3⟩; clear h3 k3))
  clear H HD H1 c0 c1 c2 c3 c4 c5 c6 c5d c6d
  have c5 := H3.out.1.ol.h5
  have p0 := H3.out.1.bk.p0
  have hh := H3.out.1.bk.h k hkn
  rw [hkf] at hh
  have hfH := H3.out.1.bk.fH (k + 1)
  have i5 : (1 : Int) ≤ (k : Int) + 1 := by omega
  have i6 : (k : Int) + 1 ≤ (S.n : Int) := by omega
  have i7 : (0 : Int) ≤ (k : Int) + 1 := by omega
  have i8 : (k : Int) + 1 < ((S.n + 1 : Nat) : Int) := by omega
  have i9 : decide ((k : Int) + 1 < 1) = false := decide_eq_false (by omega)
  have i10 : decide ((S.n : Int) < (k : Int) + 1) = false := decide_eq_false (by omega)
  have i11 : decide ((S.wd : Int) < (ws.length : Int)) = false := decide_eq_false (by omega)
  go_wp2_with fail
  refine (num_any _ _).mono ?_
  rintro e w2 ⟨rfl, rfl⟩
  go_wp2_with fail
  have H4 : Hid (A4 w2 gH gN k p ((w2.setCell ⟨gH, k + 1, none⟩ (.bool true)).setCell ⟨gN, k + 1, none⟩ (.string p)).drew) := A4.start H3.out.1.bk k hkn p
  have hgn := (H3.out.1.bk.nm k hkn).choose_spec.1
  have t1 : (w2.setCell ⟨gH, k + 1, none⟩ (.bool true)).drew.cell? ⟨bB, 1, none⟩ = some (.slice (some ⟨gN, 0, none⟩) (S.n + 1) (S.n + 1)) := (ne_cell _ _ _ _ _ _ (Or.inl H3.out.1.bk.bH)).trans H3.out.1.bk.p1
  have t2 : (w2.setCell ⟨gH, k + 1, none⟩ (.bool true)).drew.cell? ⟨g, 6, none⟩ = some (.string p) := (ne_cell _ _ _ _ _ _ (Or.inl H3.out.1.gH)).trans H3.out.1.ol.h6
  have t3 : (w2.setCell ⟨gH, k + 1, none⟩ (.bool true)).drew.cell? ⟨gN, k + 1, none⟩ = _ := (ne_cell _ _ _ _ _ _ (Or.inl H3.out.1.bk.HN.symm)).trans hgn
  have t4 : (w2.setCell ⟨gH, k + 1, none⟩ (.bool true)).drew.frozen? ⟨gN, k + 1, none⟩ = false := by have := H3.out.1.bk.fN (k + 1); simpa using this
  clear hgn
  refine wp_once ?_
  apply Exists.intro
  apply Exists.intro
  constructor
  · go_region_with (fail)
    all_goals exact Post1.here _ _
  clear t1 t2 t3 t4 c5 p0 hh hfH
  generalize ((w2.setCell ⟨gH, k + 1, none⟩ (.bool true)).setCell ⟨gN, k + 1, none⟩ (.string p)).drew = w4 at *
  have hmk := run_make_any (P := Try.prog) 51 50 _ 1 8 Try.underlying51 infoW S.wd (by omega) (by omega) w4
  rw [Nat.mul_one] at hmk
  have H5 : Hid (CopyS w2 gH gN k p ws S.wd w4.heap.size 0 _) := CopyS.start H4.out ws S.wd
  clear H4
  have hgg := H5.out.g0
  go_wp2_with fail
  generalize w4.heap.size = g5 at *
  clear hmk
  go_loopw [16] (fun i wr => ∃ t : Nat, t ≤ ws.length ∧ i = .int .i64 (t : Int) ∧ CopyS w2 gH gN k p ws S.wd g5 t wr) (fun i _ => ws.length - (intOf i).toNat)
  case atStart => exact ⟨0, by omega, rfl, H5.out⟩
  case round =>
    obtain ⟨t, ht, rfl, hS⟩ := hrel
    have H6 : Hid (CopyS w2 gH gN k p ws S.wd g5 t wr) := hS
    clear hS H5
    have c5 := (H6.out.a4.kp.cell (p := ⟨g, 5, none⟩) H3.out.1.ol.sz (fun e => e.elim H3.out.1.gH H3.out.1.gN)).trans H3.out.1.ol.h5
    by_cases h5 : t < ws.length
    · have hc := H6.out.hi t (Nat.le_refl _) (by omega)
      have hf := H6.out.fz t
      have H7 : Hid (CopyS w2 gH gN k p ws S.wd g5 (t + 1) _) := H6.out.put h5 (by omega)
      obtain ⟨b', off', rfl, hb', hx'⟩ := (HU.out.later (H3.out.1.below.trans (H6.out.a4.kp.below H3.out.1.bs (fun k hk e => by have h1 := H3.out.1.bk.lo; rcases e with rfl | rfl <;> omega)))) t h5
      clear hb'
      have x1 : (0 : Int) ≤ (t : Int) := by omega
      have x2 : (t : Int) < (S.wd : Int) := by omega
      have x3 : (t : Int) < (ws.length : Int) := by omega
      generalize ws[t] = z at *
      go_wp2
      go_roundw
      case rel => exact ⟨t + 1, by omega, by go_num, H7.out⟩
      case measure => simp [intOf]; omega
    · have e5 : t = ws.length := by omega
      subst e5
      have HB2 : Hid (Below B w wr) := H3.out.1.below.trans (H6.out.a4.kp.below H3.out.1.bs (fun k hk e => by have h1 := H3.out.1.bk.lo; rcases e with rfl | rfl <;> omega))
      have q2 := (H6.out.a4.kp.cell (p := ⟨bB, 2, none⟩) H3.out.1.bk.sz.1 (fun e => e.elim H3.out.1.bk.bH H3.out.1.bk.bN)).trans H3.out.1.bk.p2
      obtain ⟨vw, hvw, _⟩ := H3.out.1.bk.rw k hkn
      have q3 := (H6.out.a4.kp.cell (p := ⟨gW, k + 1, none⟩) H3.out.1.bk.sz.2.2.2 (fun e => e.elim H3.out.1.bk.HW.symm H3.out.1.bk.NW.symm)).trans hvw
      have q4 := (H6.out.a4.kp.frozen (p := ⟨gW, k + 1, none⟩) H3.out.1.bk.sz.2.2.2 (fun e => e.elim H3.out.1.bk.HW.symm H3.out.1.bk.NW.symm)).trans (H3.out.1.bk.fW (k + 1))
      clear hvw
      go_wp2
      go_ret
      refine ⟨rfl, ⟨⟨Q', (S.alloc k (.string p) (valW ws.length fun i => ws.getD i 0)), upd row k g5, rfl, rfl, ?_, ?_⟩⟩, HB2.out.setCell (p := ⟨gW, k + 1, none⟩) H3.out.1.bk.lo.2.2.2 _⟩
      · exact (H3.out.2.keeps H6.out.a4.kp (fun g hg e => e.elim (fun e => H3.out.1.bk.LH (e ▸ hg)) (fun e => H3.out.1.bk.LN (e ▸ hg)))).keeps ((Keeps.refl (fun k => k = gW) wr).setCell (p := ⟨gW, k + 1, none⟩) rfl _) (fun g hg e => H3.out.1.bk.LW (e ▸ hg))
      · refine H3.out.1.bk.alloc hkn hkf p _ hgg (fun e => by have := H3.out.2.h.lt g5 e; omega) H6.out.a4.kp H6.out.g1 H6.out.a4.cH H6.out.a4.cN H6.out.a4.fH H6.out.a4.fN (fun c hc => ?_) H6.out.fz H3.out.1.bs
        unfold valW
        split
        · exact H6.out.lo c (by assumption)
        · exact H6.out.hi c (by omega) hc
end Go.Proofs.Ytdgkocgjihdbpaa
