import Derived.Test.YteekompojgbkhaaGreatKOwnIE
import Derived.Test.YteekompojgbkhaaGreatKCells12E
import Derived.Test.YteekompojgbkhaaGreatRows
import Derived.WalkKit
import Derived.ProofKit
import Derived.OpenShut
import Derived.ShutString
import Derived.WalkLawsBesides
import Derived.Outline
import Derived.Laws.BitsAllLaws
namespace Go.Proofs.YteekompojgbkhaaGreat
open Go.ChangeShapes Go.WideShapes Go.ChangeAt Go.RowKit Go.MuLone Go.RwLone
set_option linter.unusedVariables false
set_option maxRecDepth 100000
set_option maxHeartbeats 1600000
theorem peek_no (L : Lay) (S : AS) (w : World) (x : Int) (h : Holds w L S) (hg : S.g0 = 0) (hr : S.rc = 0) (hx : ¬ S.live x) : Calls Tryz.prog 83 #[.pointer (some ⟨L.b, 0, none⟩), .int .i64 x] w fun e w' => e = .returned (.tuple #[.slice none 0 0, .int .i64 22]) ∧ Holds w' L { S with g0 := 0, rc := 0 } ∧ Keeps L.has w w' := by
  have H : Hid (Holds w L S) := h
  have HI : Hid (∀ W, Holds W L { S with g0 := 1, rc := -1073741824 } → Calls Tryz.prog 130 #[.pointer (some ⟨L.b, 0, none⟩), .int .i64 x] W fun e w' => e = .returned (.tuple #[.pointer none, .int .i64 22]) ∧ w' = W) := by
    intro W hW
    rcases S.live_or x with h1 | ⟨k, hk, rfl⟩
    · exact inUse_no L { S with g0 := 1, rc := -1073741824 } W x hW h1
    · have hu : S.use k = false := by
        cases hu : S.use k
        · rfl
        · exact absurd ⟨k, hk, rfl, hu⟩ hx
      exact inUse_not L { S with g0 := 1, rc := -1073741824 } W k hk hu hW
  clear h
  go_enter_defers Tryz.func83, Tryz.ntmps83
  go_wp2_with fail
  refine (missing_holds2 H.out).mono ?_
  rintro e w' ⟨rfl, rfl⟩
  go_wp2_with fail
  refine (gate_lock H.out hg hr).mono ?_
  rintro e w1 ⟨rfl, h1, k1⟩
  have H1 : Hid (Holds w1 L { S with g0 := 1, rc := -1073741824 } ∧ Keeps L.has w' w1) := ⟨h1, k1⟩
  clear h1 k1 H
  go_wp2_with fail
  refine (HI.out w1 H1.out.1).mono ?_
  rintro e w2 ⟨rfl, rfl⟩
  go_wp2_with fail
  refine leaves_cons (f := 129) (args := #[.pointer (some ⟨L.b, 3, none⟩)]) (by simp) (by simp [go_sem]) ?_
  refine (gate_unlockD H1.out.1 rfl rfl .returning).mono ?_
  rintro e u' w3 ⟨rfl, rfl, h3, k3⟩
  exact ⟨_, results_tmp2 rfl _ _ _, rfl, h3, H1.out.2.trans k3⟩
/-- A row of words that is being filled: t of wd. -/
structure PeekS (w : World) (L : Lay) (S : AS) (k g t : Nat) (wr : World) : Prop where
  h : Holds wr L S
  kp : Keeps L.has w wr
  g0 : w.heap.size ≤ g
  g1 : g < wr.heap.size
  lo : ∀ i, i < t → wr.cell? ⟨g, i, none⟩ = some (.int .u64 (S.word (k * S.wd + i)))
  hi : ∀ i, t ≤ i → i < S.wd → wr.cell? ⟨g, i, none⟩ = some (.int .u64 0)
  fz : ∀ i, wr.frozen? ⟨g, i, none⟩ = false
theorem PeekS.start {w w1 : World} {L : Lay} {S : AS} {k : Nat} (h : Holds w1 L S) (hk : Keeps L.has w w1) : PeekS w L S k w1.heap.size 0 (w1.alloc (.cells (madeCells #[.int .u64 0] S.wd) 104)) := by
  have hg := heap_alloc_new w1 (.cells (madeCells #[.int .u64 0] S.wd) 104)
  refine ⟨h.alloc _, hk.alloc _, hk.size, by simp, fun i hi => by omega, fun i _ hi => ?_, fun i => frozen?_heap hg i⟩
  rw [cell?_heap hg, getElem?_made _ _ _ hi]
  simp [Nat.mod_one]
theorem PeekS.put {w wr : World} {L : Lay} {S : AS} {k g t : Nat} (h : PeekS w L S k g t wr) (hn : ¬ L.has g) (ht : t < S.wd) : PeekS w L S k g (t + 1) (wr.setCell ⟨g, t, none⟩ (.int .u64 (S.word (k * S.wd + t)))) := by
  refine ⟨h.h.far (p := ⟨g, t, none⟩) hn _, h.kp.setCellNew (p := ⟨g, t, none⟩) h.g0 _, h.g0, by simpa using h.g1, fun i hi => ?_, fun i hi hd => ?_, fun i => by simpa using h.fz i⟩
  · by_cases e : i = t
    · subst e
      exact World.cell?_setCell_same _ _ _ (h.hi i (Nat.le_refl _) ht)
    · rw [World.cell?_setCell_other _ _ _ _ (fun e' => e (congrArg Addr.off e').symm)]
      exact h.lo i (by omega)
  · rw [World.cell?_setCell_other _ _ _ _ (fun e' => by have := congrArg Addr.off e'; simp at this; omega)]
    exact h.hi i (by omega) hd
theorem peek_ok (L : Lay) (S : AS) (w : World) (k : Nat) (h : Holds w L S) (hg : S.g0 = 0) (hr : S.rc = 0) (hk : k < S.n) (hu : S.use k = true) : Calls Tryz.prog 83 #[.pointer (some ⟨L.b, 0, none⟩), .int .i64 ((k : Int) + 1)] w fun e w' => ∃ g, e = .returned (.tuple #[.slice (some ⟨g, 0, none⟩) S.wd S.wd, .int .i64 0]) ∧ PeekS w L { S with g0 := 0, rc := 0 } k g S.wd w' := by
  have H : Hid (Holds w L S) := h
  have hwd := h.hw.2
  have hwl := h.hw.1
  have hN : k * S.wd + S.wd ≤ S.n * S.wd := by rw [← Nat.succ_mul]; exact Nat.mul_le_mul_right _ hk
  clear h
  go_enter_defers Tryz.func83, Tryz.ntmps83
  go_wp2_with fail
  refine (missing_holds2 H.out).mono ?_
  rintro e w' ⟨rfl, rfl⟩
  go_wp2_with fail
  refine (gate_lock H.out hg hr).mono ?_
  rintro e w1 ⟨rfl, h1, k1⟩
  have H1 : Hid (Holds w1 L { S with g0 := 1, rc := -1073741824 } ∧ Keeps L.has w' w1) := ⟨h1, k1⟩
  clear h1 k1
  go_wp2_with fail
  refine (inUse_yes L { S with g0 := 1, rc := -1073741824 } w1 k hk hu H1.out.1).mono ?_
  rintro e w2 ⟨rfl, rfl⟩
  go_wp2_with fail
  refine (cellsOf_any L { S with g0 := 1, rc := -1073741824 } w2 k hk H1.out.1).mono ?_
  rintro e w3 ⟨rfl, rfl⟩
  have hmk := run_make_any (P := Tryz.prog) 151 104 _ 1 8 Tryz.underlying151 infoW S.wd (by omega) (by omega) w2.drew
  rw [Nat.mul_one] at hmk
  have HP : Hid (PeekS w' L { S with g0 := 1, rc := -1073741824 } k w2.drew.heap.size 0 _) := PeekS.start H1.out.1.drew H1.out.2.drew
  have HW : Hid (Holds w' L { S with g0 := 0, rc := 0 }) := by
    have := H.out
    rw [show ({ S with g0 := 0, rc := 0 } : AS) = S from by cases S; simp only at hg hr; subst hg; subst hr; rfl]
    exact this
  clear H1 H
  have HN : Hid (¬ L.has w2.drew.heap.size) := HW.out.notNew HP.out.g0
  clear HW
  go_wp2_with fail
  rw [show w2.drew.heap.size = w2.heap.size from rfl] at HP HN
  generalize w2.heap.size = g at *
  go_loopw [37] (fun i wr => ∃ t : Nat, t ≤ S.wd ∧ i = .int .i64 t ∧ PeekS w' L { S with g0 := 1, rc := -1073741824 } k g t wr) (fun i _ => S.wd - (intOf i).toNat)
  case atStart => exact ⟨0, by omega, rfl, HP.out⟩
  case round =>
    obtain ⟨t, ht, rfl, hS⟩ := hrel
    have HS : Hid (PeekS w' L { S with g0 := 1, rc := -1073741824 } k g t wr) := hS
    clear hS HP hmk
    by_cases h4 : t < S.wd
    · have hc := HS.out.hi t (Nat.le_refl _) h4
      have hz := HS.out.fz t
      have HX : Hid (PeekS w' L { S with g0 := 1, rc := -1073741824 } k g (t + 1) _) := HS.out.put HN.out h4
      have HL : Hid (Calls Tryz.prog 82 #[.pointer (some ⟨L.u, k * S.wd + t, none⟩)] wr fun e w' => e = .returned (.int .u64 (S.word (k * S.wd + t))) ∧ w' = wr) := u64_load _ _ wr (HS.out.h.wo (k * S.wd + t) (by show _ < S.n * S.wd; omega))
      clear hN
      go_wp2_with fail
      refine HL.out.mono ?_
      rintro e w5 ⟨rfl, rfl⟩
      clear HS HL
      go_wp2
      go_roundw
      case rel => exact ⟨t + 1, by omega, by go_num, HX.out⟩
      case measure => simp [intOf]; omega
    · have e4 : t = S.wd := by omega
      subst e4
      go_wp2_with fail
      refine leaves_cons (f := 129) (args := #[.pointer (some ⟨L.b, 3, none⟩)]) (by simp) (by simp [go_sem]) ?_
      refine (gate_unlockD HS.out.h rfl rfl .returning).mono ?_
      rintro e u' w6 ⟨rfl, rfl, h6, k6⟩
      refine ⟨_, results_tmp2 rfl _ _ _, g, rfl, h6, HS.out.kp.trans k6, HS.out.g0, Nat.lt_of_lt_of_le HS.out.g1 k6.size, fun i hi => (k6.cell (p := ⟨g, i, none⟩) HS.out.g1 HN.out).trans (HS.out.lo i hi), fun i hi hd => (k6.cell (p := ⟨g, i, none⟩) HS.out.g1 HN.out).trans (HS.out.hi i hi hd), fun i => (k6.frozen (p := ⟨g, i, none⟩) HS.out.g1 HN.out).trans (HS.out.fz i)⟩
end Go.Proofs.YteekompojgbkhaaGreat

namespace Go.Proofs.YteekompojgbkhaaGreat
open Go.ChangeShapes Go.WideShapes Go.ChangeAt Go.RowKit Go.MuLone Go.RwLone
set_option linter.unusedVariables false
set_option maxRecDepth 100000
set_option maxHeartbeats 1600000
theorem missing_holds {w : World} {L : Lay} {S : AS} (h : Holds w L S) : Calls Tryz.prog 62 #[.pointer (some ⟨L.b, 0, none⟩)] w fun e w' => e = .returned (.bool false) ∧ w' = w := missing_not L.b S.wd w (by have := h.hw.1; omega) h.c0
theorem alloc_full (L : Lay) (S : AS) (w : World) (p : Ent) (sp : Option Addr) (m c : Nat) (h : Holds w L S) (hm : m ≤ S.wd) (hr : S.rc = 0) (hl : S.lk = 0) (h0 : S.count = 0) : Calls Tryz.prog 36 #[.pointer (some ⟨L.b, 0, none⟩), .agg #[.string p.nm, .string p.dt, .int .i64 p.tl], .slice sp m c] w fun e w' => e = .returned (.tuple #[.int .i64 0, .int .i64 21]) ∧ Holds w' L { S with rc := 0, lk := 0, acc := wrap64 (S.acc + 1) } ∧ Keeps L.has w w' := by
  have c0 := h.c0
  have H : Hid (Holds (boxW w p) L S) := h.alloc _
  have HW : Hid (Keeps L.has w (boxW w p)) := (Keeps.refl _ _).alloc _
  have c0b := H.out.c0
  clear h
  go_enter_defers Tryz.func36, Tryz.ntmps36
  go_wp2_with fail
  refine (missing_holds H.out).mono ?_
  rintro e w' ⟨rfl, hw'⟩
  rw [← hw'] at H HW
  clear hw' c0 c0b
  have c0 := H.out.c0
  go_wp2_with fail
  refine (gate_rlock H.out hr).mono ?_
  rintro e w1 ⟨rfl, h1, k1⟩
  have H1 : Hid (Holds w1 L { S with rc := 1 } ∧ Keeps L.has w' w1) := ⟨h1, k1⟩
  clear h1 k1 H c0
  go_wp2_with fail
  refine (que_lock H1.out.1 hl).mono ?_
  rintro e w2 ⟨rfl, h2, k2⟩
  have H2 : Hid (Holds w2 L { S with rc := 1, lk := 1 } ∧ Keeps L.has w' w2) := ⟨h2, H1.out.2.trans k2⟩
  clear h2 k2 H1
  go_wp2_with fail
  refine (acc_add H2.out.1).mono ?_
  rintro e w3 ⟨v, rfl, h3, k3⟩
  have H3 : Hid (Holds w3 L { S with rc := 1, lk := 1, acc := wrap64 (S.acc + 1) } ∧ Keeps L.has w' w3) := ⟨h3, H2.out.2.trans k3⟩
  clear h3 k3 H2
  go_wp2_with fail
  refine (que_none H3.out.1 h0).mono ?_
  rintro e w4 ⟨rfl, h4, k4⟩
  have H4 : Hid (Holds w4 L { S with rc := 1, lk := 1, acc := wrap64 (S.acc + 1) } ∧ Keeps L.has w' w4) := ⟨h4, H3.out.2.trans k4⟩
  clear h4 k4 H3
  go_wp2_with fail
  refine leaves_cons (f := 66) (args := #[.pointer (some ⟨L.b, 9, none⟩)]) (by simp) (by simp [go_sem]) ?_
  refine (que_unlockD H4.out.1 rfl .returning).mono ?_
  rintro e u' w5 ⟨rfl, rfl, h5, k5⟩
  refine leaves_cons (f := 64) (args := #[.pointer (some ⟨L.b, 3, none⟩)]) (by simp [settle]) (by simp [go_sem]) ?_
  refine (gate_runlockD h5 rfl .returning).mono ?_
  rintro e u' w6 ⟨rfl, rfl, h6, k6⟩
  exact ⟨_, results_tmp2 rfl _ _ _, rfl, h6, HW.out.trans ((H4.out.2.trans k5).trans k6)⟩
theorem alloc_ok (L : Lay) (S : AS) (w : World) (p : Ent) (sp : Option Addr) (m c k : Nat) (f : Nat → Int) (h : Holds w L S) (hg : Given w L sp m f) (hm : m ≤ S.wd) (hr : S.rc = 0) (hl : S.lk = 0) (hf : S.front < S.n) (h0 : 0 < S.count) (hc : S.count ≤ S.n) (hk : S.ring S.front = (k : Int) + 1) (hkn : k < S.n) : Calls Tryz.prog 36 #[.pointer (some ⟨L.b, 0, none⟩), .agg #[.string p.nm, .string p.dt, .int .i64 p.tl], .slice sp m c] w fun e w' => e = .returned (.tuple #[.int .i64 ((k : Int) + 1), .int .i64 0]) ∧ Holds w' L ({ S with rc := 0, lk := 0, acc := wrap64 (S.acc + 1), front := (S.front + 1) % S.n, count := S.count - 1 }.laid k p (valW m f)) ∧ Keeps L.has w w' := by
  have c0 := h.c0
  have H : Hid (Holds (boxW w p) L S ∧ Given (boxW w p) L sp m f) := ⟨h.alloc _, hg.keeps ((Keeps.refl _ _).alloc _)⟩
  have HW : Hid (Keeps L.has w (boxW w p)) := (Keeps.refl _ _).alloc _
  have hb1 : (boxW w p).heap[w.heap.size]? = some (.cells #[.string p.nm, .string p.dt, .int .i64 p.tl] 55) := heap_alloc_last _ _ _ rfl
  have HBX : Hid (∀ W, Keeps L.has (boxW w p) W → W.cell? ⟨w.heap.size, 0, none⟩ = some (.string p.nm) ∧ W.cell? ⟨w.heap.size, 1, none⟩ = some (.string p.dt) ∧ W.cell? ⟨w.heap.size, 2, none⟩ = some (.int .i64 p.tl)) := fun W k => by
    have e := (k.block w.heap.size (Array.getElem?_eq_some_iff.1 hb1).1 (fun e => by rcases e with e | e | e | e <;> (have := h.lb; have := h.ls; have := h.lu; have := h.lq; omega))).trans hb1
    exact ⟨(cell?_heap e 0).trans rfl, (cell?_heap e 1).trans rfl, (cell?_heap e 2).trans rfl⟩
  have c0b := H.out.1.c0
  have HF : Hid (S.front < S.n ∧ 0 < S.count ∧ S.count ≤ S.n) := ⟨hf, h0, hc⟩
  have HK : Hid (S.ring S.front = (k : Int) + 1) := hk
  clear h hg hf h0 hc hk hb1
  have hne : ¬ (k : Int) + 1 = 0 := by omega
  go_enter_defers Tryz.func36, Tryz.ntmps36
  go_wp2_with fail
  refine (missing_holds H.out.1).mono ?_
  rintro e w' ⟨rfl, hw'⟩
  rw [← hw'] at H HW HBX
  clear hw' c0 c0b
  have c0 := H.out.1.c0
  go_wp2_with fail
  refine (gate_rlock H.out.1 hr).mono ?_
  rintro e w1 ⟨rfl, h1, k1⟩
  have H1 : Hid (Holds w1 L { S with rc := 1 } ∧ Keeps L.has w' w1) := ⟨h1, k1⟩
  clear h1 k1 c0
  go_wp2_with fail
  refine (que_lock H1.out.1 hl).mono ?_
  rintro e w2 ⟨rfl, h2, k2⟩
  have H2 : Hid (Holds w2 L { S with rc := 1, lk := 1 } ∧ Keeps L.has w' w2) := ⟨h2, H1.out.2.trans k2⟩
  clear h2 k2 H1
  go_wp2_with fail
  refine (acc_add H2.out.1).mono ?_
  rintro e w3 ⟨v, rfl, h3, k3⟩
  have H3 : Hid (Holds w3 L { S with rc := 1, lk := 1, acc := wrap64 (S.acc + 1) } ∧ Keeps L.has w' w3) := ⟨h3, H2.out.2.trans k3⟩
  clear h3 k3 H2
  go_wp2_with fail
  refine (que_take H3.out.1 HF.out.1 HF.out.2.1 HF.out.2.2).mono ?_
  rintro e w4 ⟨rfl, h4, k4⟩
  have H4 : Hid (Holds w4 L { S with rc := 1, lk := 1, acc := wrap64 (S.acc + 1), front := (S.front + 1) % S.n, count := S.count - 1 } ∧ Keeps L.has w' w4) := ⟨h4, H3.out.2.trans k4⟩
  clear h4 k4 H3
  simp only [HK.out]
  obtain ⟨b0, b1, b2⟩ := HBX.out w4 H4.out.2
  go_wp2_with fail
  clear b0 b1 b2
  refine (lay_any L { S with rc := 1, lk := 1, acc := wrap64 (S.acc + 1), front := (S.front + 1) % S.n, count := S.count - 1 } w4 k p sp m c f hkn hm H4.out.1 (H.out.2.keeps H4.out.2)).mono ?_
  rintro e w5 ⟨rfl, h5, k5⟩
  have H5 : Hid (Holds w5 L ({ S with rc := 1, lk := 1, acc := wrap64 (S.acc + 1), front := (S.front + 1) % S.n, count := S.count - 1 }.laid k p (valW m f)) ∧ Keeps L.has w' w5) := ⟨h5, H4.out.2.trans k5⟩
  clear h5 k5 H4 H HF HK
  go_wp2_with fail
  refine leaves_cons (f := 66) (args := #[.pointer (some ⟨L.b, 9, none⟩)]) (by simp) (by simp [go_sem]) ?_
  refine (que_unlockD H5.out.1 rfl .returning).mono ?_
  rintro e u' w6 ⟨rfl, rfl, h6, k6⟩
  refine leaves_cons (f := 64) (args := #[.pointer (some ⟨L.b, 3, none⟩)]) (by simp [settle]) (by simp [go_sem]) ?_
  refine (gate_runlockD h6 rfl .returning).mono ?_
  rintro e u' w7 ⟨rfl, rfl, h7, k7⟩
  exact ⟨_, results_tmp2 rfl _ _ _, rfl, h7, HW.out.trans ((H5.out.2.trans k6).trans k7)⟩
end Go.Proofs.YteekompojgbkhaaGreat

namespace Go.Proofs.YteekompojgbkhaaGreat
open Go.ChangeShapes Go.WideShapes Go.ChangeAt Go.RowKit
set_option linter.unusedVariables false
theorem nodup_lenN : ∀ (n : Nat) (F : List Nat), F.Nodup → (∀ x ∈ F, x < n) → F.length ≤ n
  | 0, F, _, hr => by
    cases F with
    | nil => simp
    | cons a l => have := hr a (by simp); omega
  | n + 1, F, hd, hr => by
    have ih := nodup_lenN n (F.erase n) (hd.erase _) (fun x hx => by
      have h1 := (List.Nodup.mem_erase_iff hd).1 hx
      have h2 := hr x h1.2
      have h3 : x ≠ n := h1.1
      omega)
    have := List.length_erase (a := n) (l := F)
    split at this <;> omega
/-- An arena at rest: Q is its queue of free slots. -/
structure Arn (w : World) (L : Lay) (Q : List Nat) (S : AS) : Prop where
  h : Holds w L S
  g0 : S.g0 = 0
  rc : S.rc = 0
  lk : S.lk = 0
  fr : S.front < S.n
  cn : S.count = Q.length
  ri : ∀ i (hi : i < Q.length), S.ring ((S.front + i) % S.n) = (Q[i] : Int) + 1
  nd : Q.Nodup
  mem : ∀ k, k ∈ Q ↔ k < S.n ∧ S.use k = false
theorem Arn.len {w : World} {L : Lay} {Q : List Nat} {S : AS} (h : Arn w L Q S) : Q.length ≤ S.n := nodup_lenN S.n Q h.nd (fun x hx => ((h.mem x).1 hx).1)
theorem Arn.same {w w' : World} {L : Lay} {Q : List Nat} {S S' : AS} (h : Arn w L Q S) (h' : Holds w' L S') (e1 : S'.n = S.n) (e2 : S'.g0 = S.g0) (e3 : S'.rc = S.rc) (e4 : S'.lk = S.lk) (e5 : S'.front = S.front) (e6 : S'.count = S.count) (e7 : S'.ring = S.ring) (e8 : S'.use = S.use) : Arn w' L Q S' :=
  ⟨h', e2.trans h.g0, e3.trans h.rc, e4.trans h.lk, by rw [e5, e1]; exact h.fr, e6.trans h.cn, fun i hi => by rw [e7, e5, e1]; exact h.ri i hi, h.nd, fun k => by rw [e1, e8]; exact h.mem k⟩
theorem Arn.keeps {w w' : World} {L : Lay} {Q : List Nat} {S : AS} {P : Nat → Prop} (h : Arn w L Q S) (hk : Keeps P w w') (hP : ∀ g, L.has g → ¬ P g) : Arn w' L Q S := h.same (h.h.keeps hk hP) rfl rfl rfl rfl rfl rfl rfl rfl
theorem Holds.lt {w : World} {L : Lay} {S : AS} (h : Holds w L S) : ∀ g, L.has g → g < w.heap.size := by
  intro g hg
  rcases hg with rfl | rfl | rfl | rfl <;> first | exact h.lb | exact h.ls | exact h.lu | exact h.lq
theorem AS.settle {S : AS} (hr : S.rc = 0) (hl : S.lk = 0) : { S with rc := 0, lk := 0 } = S := by cases S; simp only at hr hl; subst hr; subst hl; rfl
def AS.alloc (S : AS) (k : Nat) (p : Ent) (val : Nat → Int) : AS := { S with acc := wrap64 (S.acc + 1), front := (S.front + 1) % S.n, count := S.count - 1 }.laid k p val
def AS.free (S : AS) (k : Nat) : AS := { S with acc := wrap64 (S.acc + 1), pay := upd S.pay k Ent.none, use := upd S.use k false, ring := upd S.ring ((S.front + S.count) % S.n) ((k : Int) + 1), count := S.count + 1 }
theorem mod_step (f i n : Nat) : ((f + 1) % n + i) % n = (f + (i + 1)) % n := by rw [Nat.mod_add_mod]; congr 1; omega
theorem arn_alloc (L : Lay) (S : AS) (w : World) (Q : List Nat) (p : Ent) (sp : Option Addr) (m c k : Nat) (f : Nat → Int) (h : Arn w L (k :: Q) S) (hg : Given w L sp m f) (hm : m ≤ S.wd) : Calls Tryz.prog 36 #[.pointer (some ⟨L.b, 0, none⟩), .agg #[.string p.nm, .string p.dt, .int .i64 p.tl], .slice sp m c] w fun e w' => e = .returned (.tuple #[.int .i64 ((k : Int) + 1), .int .i64 0]) ∧ Arn w' L Q (S.alloc k p (valW m f)) ∧ Keeps L.has w w' := by
  have hkn := ((h.mem k).1 (by simp)).1
  have hlen := h.len
  have hk : S.ring S.front = (k : Int) + 1 := by
    have := h.ri 0 (by simp)
    rw [Nat.add_zero, Nat.mod_eq_of_lt h.fr] at this
    simpa using this
  have hc := h.cn
  simp only [List.length_cons] at hlen hc
  refine (alloc_ok L S w p sp m c k f h.h hg hm h.rc h.lk h.fr (by omega) (by omega) hk hkn).mono ?_
  rintro e w' ⟨rfl, h', k'⟩
  have he : ({ S with rc := 0, lk := 0, acc := wrap64 (S.acc + 1), front := (S.front + 1) % S.n, count := S.count - 1 } : AS) = { S with acc := wrap64 (S.acc + 1), front := (S.front + 1) % S.n, count := S.count - 1 } := congrArg (fun T : AS => ({ T with acc := wrap64 (S.acc + 1), front := (S.front + 1) % S.n, count := S.count - 1 } : AS)) (AS.settle h.rc h.lk)
  rw [he] at h'
  refine ⟨rfl, ⟨h', h.g0, h.rc, h.lk, Nat.mod_lt _ (by have := h.fr; omega), ?_, fun i hi => ?_, (List.nodup_cons.1 h.nd).2, fun j => ?_⟩, k'⟩
  · show S.count - 1 = Q.length
    omega
  · show S.ring (((S.front + 1) % S.n + i) % S.n) = _
    rw [mod_step, h.ri (i + 1) (by simp; omega)]
    simp
  · show j ∈ Q ↔ j < S.n ∧ upd S.use k true j = false
    have h1 := h.mem j
    have h2 := (List.nodup_cons.1 h.nd).1
    unfold upd
    by_cases e : j = k
    · subst e
      simp [h2]
    · rw [if_neg e, ← h1]
      simp [e]
theorem arn_new (n wd : Nat) (w : World) (h1 : 1 ≤ n) (h2 : n ≤ 4096) (h3 : 1 ≤ wd) (h4 : wd ≤ 16) : Calls Tryz.prog 34 #[.int .i64 (n : Int), .int .i64 (wd : Int)] w fun e w' => ∃ L, e = .returned (.tuple #[.pointer (some ⟨L.b, 0, none⟩), .int .i64 0]) ∧ (∀ g, L.has g → w.heap.size ≤ g) ∧ Arn w' L (List.range n) (.fresh n wd) ∧ Below w.heap.size w w' := by
  refine (new_ok n wd w h1 h2 h3 h4).mono ?_
  rintro e w' ⟨s, u, rfl, hsu, h, hb⟩
  refine ⟨⟨w.heap.size + 2, s, u, w.heap.size + 3⟩, rfl, fun g hg => ?_, ⟨h, rfl, rfl, rfl, h1, by simp [AS.fresh], fun i hi => ?_, List.nodup_range, fun k => by simp [AS.fresh]⟩, hb⟩
  · rcases hg with h | h | h | h <;> simp only [] at h <;> omega
  · have hi' : i < n := by simpa using hi
    simp [AS.fresh, Nat.mod_eq_of_lt hi']
end Go.Proofs.YteekompojgbkhaaGreat

namespace Go.Proofs.YteekompojgbkhaaGreat
open Go.ChangeShapes Go.WideShapes Go.ChangeAt Go.RowKit

def timeV (t : Int) : Int × Int := if t ≤ 4611686018427387903 then (t, 0) else (0, 10)
def txnV (t : Int) : Int × Int := if t ≤ 4611686018427387903 then (9223372036854775808 + t, 0) else (0, 10)
def splitV (w : Int) : Int × Int := if w ≤ 4611686018427387903 then (1, w) else if w = 9223372036854775807 then (3, 0) else if 9223372036854775808 ≤ w ∧ w ≤ 13835058055282163711 then (2, w - 9223372036854775808) else (0, 0)
def linkV (s : Int) (m : Bool) : Int × Int := if 0 ≤ s ∧ s ≤ 2147483647 then (2 * s + (if m then 1 else 0), 0) else (0, 10)
def ofLinkV (w : Int) : Int × Bool × Int := if w / 2 ≤ 2147483647 then (w / 2, w % 2 == 1, 0) else (0, false, 10)

theorem tup2 {k l : IntKind} {a b : Int} {c : Int × Int} (h : c = (a, b)) : Ending.returned (.tuple #[.int k a, .int l b]) = .returned (.tuple #[.int k c.1, .int l c.2]) := by
  rw [h]
theorem tup3 {k l : IntKind} {a b : Int} {x : Bool} {c : Int × Bool × Int} (h : c = (a, x, b)) : Ending.returned (.tuple #[.int k a, .bool x, .int l b]) = .returned (.tuple #[.int k c.1, .bool c.2.1, .int l c.2.2]) := by
  rw [h]
theorem or_one (t : Int) (h0 : 0 ≤ t) (h : t ≤ 2147483647) : bits .or .u64 (t * 2) 1 = 2 * t + 1 := by
  rw [u64_or _ _ (by omega) (by omega) (by omega) (by omega)]
  have := nat_join 1 (t * 2).toNat 1 (by omega) (by decide)
  simp only [show (1 : Int).toNat = 1 from rfl]
  rw [this]; omega
theorem and_one (t : Int) (h0 : 0 ≤ t) (h : t ≤ 18446744073709551615) : (bits .and .u64 t 1 != 0) = (t % 2 == 1) := by
  rw [u64_and _ _ (by omega) (by omega) (by omega) (by omega)]
  have := nat_mask1 t.toNat
  simp only [show (1 : Int).toNat = 1 from rfl]
  rw [this, Bool.eq_iff_iff, bne_iff_ne, beq_iff_eq]; omega
theorem link12 (x : Int) (m : Bool) (w : World) (h0 : -9223372036854775808 ≤ x) (h1 : x ≤ 9223372036854775807) :
    Calls Tryz.prog 109 #[.int .i64 x, .bool m] w fun e w' => e = .returned (.tuple #[.int .u64 (linkV x m).1, .int .i64 (linkV x m).2]) ∧ w' = w := by
  by_cases hx : 0 ≤ x ∧ x ≤ 2147483647
  · obtain ⟨a, b⟩ := hx
    cases m
    · go_enter Tryz.func109, Tryz.ntmps109
      go_wp2
      go_ret2
      exact ⟨tup2 (by unfold linkV; rw [if_pos ⟨a, b⟩]; simp; try omega), rfl⟩
    · go_enter Tryz.func109, Tryz.ntmps109
      go_wp2
      go_ret2
      exact ⟨tup2 (by unfold linkV; rw [if_pos ⟨a, b⟩]; first | (rw [or_one x a b]; simp; done) | (simp; done) | (simp; omega)), rfl⟩
  · go_enter Tryz.func109, Tryz.ntmps109
    go_wp2
    all_goals go_ret2
    all_goals first | (exfalso; omega) | exact ⟨tup2 (by unfold linkV; rw [if_neg hx]), rfl⟩
theorem of13 (x : Int) (w : World) (h0 : 0 ≤ x) (h1 : x ≤ 18446744073709551615) :
    Calls Tryz.prog 126 #[.int .u64 x] w fun e w' => e = .returned (.tuple #[.int .i64 (ofLinkV x).1, .bool (ofLinkV x).2.1, .int .i64 (ofLinkV x).2.2]) ∧ w' = w := by
  go_enter Tryz.func126, Tryz.ntmps126
  go_wp2
  all_goals go_ret3
  · exact ⟨tup3 (by unfold ofLinkV; rw [if_neg (by omega)]), rfl⟩
  · exact ⟨tup3 (by unfold ofLinkV; rw [if_pos (by assumption)]; rw [and_one x h0 h1]), rfl⟩
end Go.Proofs.YteekompojgbkhaaGreat
