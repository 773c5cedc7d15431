import Derived.Test.YteekompojgbkhaaGreatKGatesE
import Derived.Test.YteekompojgbkhaaGreatKCells15E
namespace Go.Proofs.YteekompojgbkhaaGreat
open Go.ChangeShapes Go.WideShapes Go.ChangeAt Go.RowKit Go.MuLone Go.RwLone
set_option linter.unusedVariables false
set_option maxRecDepth 100000
set_option maxHeartbeats 1600000
theorem missing_holds {w : World} {L : Lay} {S : AS} (h : Holds w L S) : Calls Tryz.prog 62 #[.pointer (some ⟨L.b, 0, none⟩)] w fun e w' => e = .returned (.bool false) ∧ w' = w := missing_not L.b S.wd w (by have := h.hw.1; omega) h.c0
theorem alloc_full (L : Lay) (S : AS) (w : World) (p : Ent) (sp : Option Addr) (m c : Nat) (h : Holds w L S) (hm : m ≤ S.wd) (hr : S.rc = 0) (hl : S.lk = 0) (h0 : S.count = 0) : Calls Tryz.prog 36 #[.pointer (some ⟨L.b, 0, none⟩), .agg #[.string p.nm, .string p.dt, .int .i64 p.tl], .slice sp m c] w fun e w' => e = .returned (.tuple #[.int .i64 0, .int .i64 21]) ∧ Holds w' L { S with rc := 0, lk := 0, acc := wrap64 (S.acc + 1) } ∧ Keeps L.has w w' := by
  have c0 := h.c0
  have H : Hid (Holds (boxW w p) L S) := h.alloc _
  have HW : Hid (Keeps L.has w (boxW w p)) := (Keeps.refl _ _).alloc _
  have c0b := H.out.c0
  clear h
  go_enter_defers Tryz.func36, Tryz.ntmps36
  go_wp2_with fail
  refine (missing_holds H.out).mono ?_
  rintro e w' ⟨rfl, hw'⟩
  rw [← hw'] at H HW
  clear hw' c0 c0b
  have c0 := H.out.c0
  go_wp2_with fail
  refine (gate_rlock H.out hr).mono ?_
  rintro e w1 ⟨rfl, h1, k1⟩
  have H1 : Hid (Holds w1 L { S with rc := 1 } ∧ Keeps L.has w' w1) := ⟨h1, k1⟩
  clear h1 k1 H c0
  go_wp2_with fail
  refine (que_lock H1.out.1 hl).mono ?_
  rintro e w2 ⟨rfl, h2, k2⟩
  have H2 : Hid (Holds w2 L { S with rc := 1, lk := 1 } ∧ Keeps L.has w' w2) := ⟨h2, H1.out.2.trans k2⟩
  clear h2 k2 H1
  go_wp2_with fail
  refine (acc_add H2.out.1).mono ?_
  rintro e w3 ⟨v, rfl, h3, k3⟩
  have H3 : Hid (Holds w3 L { S with rc := 1, lk := 1, acc := wrap64 (S.acc + 1) } ∧ Keeps L.has w' w3) := ⟨h3, H2.out.2.trans k3⟩
  clear h3 k3 H2
  go_wp2_with fail
  refine (que_none H3.out.1 h0).mono ?_
  rintro e w4 ⟨rfl, h4, k4⟩
  have H4 : Hid (Holds w4 L { S with rc := 1, lk := 1, acc := wrap64 (S.acc + 1) } ∧ Keeps L.has w' w4) := ⟨h4, H3.out.2.trans k4⟩
  clear h4 k4 H3
  go_wp2_with fail
  refine leaves_cons (f := 66) (args := #[.pointer (some ⟨L.b, 9, none⟩)]) (by simp) (by simp [go_sem]) ?_
  refine (que_unlockD H4.out.1 rfl .returning).mono ?_
  rintro e u' w5 ⟨rfl, rfl, h5, k5⟩
  refine leaves_cons (f := 64) (args := #[.pointer (some ⟨L.b, 3, none⟩)]) (by simp [settle]) (by simp [go_sem]) ?_
  refine (gate_runlockD h5 rfl .returning).mono ?_
  rintro e u' w6 ⟨rfl, rfl, h6, k6⟩
  exact ⟨_, results_tmp2 rfl _ _ _, rfl, h6, HW.out.trans ((H4.out.2.trans k5).trans k6)⟩
theorem alloc_ok (L : Lay) (S : AS) (w : World) (p : Ent) (sp : Option Addr) (m c k : Nat) (f : Nat → Int) (h : Holds w L S) (hg : Given w L sp m f) (hm : m ≤ S.wd) (hr : S.rc = 0) (hl : S.lk = 0) (hf : S.front < S.n) (h0 : 0 < S.count) (hc : S.count ≤ S.n) (hk : S.ring S.front = (k : Int) + 1) (hkn : k < S.n) : Calls Tryz.prog 36 #[.pointer (some ⟨L.b, 0, none⟩), .agg #[.string p.nm, .string p.dt, .int .i64 p.tl], .slice sp m c] w fun e w' => e = .returned (.tuple #[.int .i64 ((k : Int) + 1), .int .i64 0]) ∧ Holds w' L ({ S with rc := 0, lk := 0, acc := wrap64 (S.acc + 1), front := (S.front + 1) % S.n, count := S.count - 1 }.laid k p (valW m f)) ∧ Keeps L.has w w' := by
  have c0 := h.c0
  have H : Hid (Holds (boxW w p) L S ∧ Given (boxW w p) L sp m f) := ⟨h.alloc _, hg.keeps ((Keeps.refl _ _).alloc _)⟩
  have HW : Hid (Keeps L.has w (boxW w p)) := (Keeps.refl _ _).alloc _
  have hb1 : (boxW w p).heap[w.heap.size]? = some (.cells #[.string p.nm, .string p.dt, .int .i64 p.tl] 55) := heap_alloc_last _ _ _ rfl
  have HBX : Hid (∀ W, Keeps L.has (boxW w p) W → W.cell? ⟨w.heap.size, 0, none⟩ = some (.string p.nm) ∧ W.cell? ⟨w.heap.size, 1, none⟩ = some (.string p.dt) ∧ W.cell? ⟨w.heap.size, 2, none⟩ = some (.int .i64 p.tl)) := fun W k => by
    have e := (k.block w.heap.size (Array.getElem?_eq_some_iff.1 hb1).1 (fun e => by rcases e with e | e | e | e <;> (have := h.lb; have := h.ls; have := h.lu; have := h.lq; omega))).trans hb1
    exact ⟨(cell?_heap e 0).trans rfl, (cell?_heap e 1).trans rfl, (cell?_heap e 2).trans rfl⟩
  have c0b := H.out.1.c0
  have HF : Hid (S.front < S.n ∧ 0 < S.count ∧ S.count ≤ S.n) := ⟨hf, h0, hc⟩
  have HK : Hid (S.ring S.front = (k : Int) + 1) := hk
  clear h hg hf h0 hc hk hb1
  have hne : ¬ (k : Int) + 1 = 0 := by omega
  go_enter_defers Tryz.func36, Tryz.ntmps36
  go_wp2_with fail
  refine (missing_holds H.out.1).mono ?_
  rintro e w' ⟨rfl, hw'⟩
  rw [← hw'] at H HW HBX
  clear hw' c0 c0b
  have c0 := H.out.1.c0
  go_wp2_with fail
  refine (gate_rlock H.out.1 hr).mono ?_
  rintro e w1 ⟨rfl, h1, k1⟩
  have H1 : Hid (Holds w1 L { S with rc := 1 } ∧ Keeps L.has w' w1) := ⟨h1, k1⟩
  clear h1 k1 c0
  go_wp2_with fail
  refine (que_lock H1.out.1 hl).mono ?_
  rintro e w2 ⟨rfl, h2, k2⟩
  have H2 : Hid (Holds w2 L { S with rc := 1, lk := 1 } ∧ Keeps L.has w' w2) := ⟨h2, H1.out.2.trans k2⟩
  clear h2 k2 H1
  go_wp2_with fail
  refine (acc_add H2.out.1).mono ?_
  rintro e w3 ⟨v, rfl, h3, k3⟩
  have H3 : Hid (Holds w3 L { S with rc := 1, lk := 1, acc := wrap64 (S.acc + 1) } ∧ Keeps L.has w' w3) := ⟨h3, H2.out.2.trans k3⟩
  clear h3 k3 H2
  go_wp2_with fail
  refine (que_take H3.out.1 HF.out.1 HF.out.2.1 HF.out.2.2).mono ?_
  rintro e w4 ⟨rfl, h4, k4⟩
  have H4 : Hid (Holds w4 L { S with rc := 1, lk := 1, acc := wrap64 (S.acc + 1), front := (S.front + 1) % S.n, count := S.count - 1 } ∧ Keeps L.has w' w4) := ⟨h4, H3.out.2.trans k4⟩
  clear h4 k4 H3
  simp only [HK.out]
  obtain ⟨b0, b1, b2⟩ := HBX.out w4 H4.out.2
  go_wp2_with fail
  clear b0 b1 b2
  refine (lay_any L { S with rc := 1, lk := 1, acc := wrap64 (S.acc + 1), front := (S.front + 1) % S.n, count := S.count - 1 } w4 k p sp m c f hkn hm H4.out.1 (H.out.2.keeps H4.out.2)).mono ?_
  rintro e w5 ⟨rfl, h5, k5⟩
  have H5 : Hid (Holds w5 L ({ S with rc := 1, lk := 1, acc := wrap64 (S.acc + 1), front := (S.front + 1) % S.n, count := S.count - 1 }.laid k p (valW m f)) ∧ Keeps L.has w' w5) := ⟨h5, H4.out.2.trans k5⟩
  clear h5 k5 H4 H HF HK
  go_wp2_with fail
  refine leaves_cons (f := 66) (args := #[.pointer (some ⟨L.b, 9, none⟩)]) (by simp) (by simp [go_sem]) ?_
  refine (que_unlockD H5.out.1 rfl .returning).mono ?_
  rintro e u' w6 ⟨rfl, rfl, h6, k6⟩
  refine leaves_cons (f := 64) (args := #[.pointer (some ⟨L.b, 3, none⟩)]) (by simp [settle]) (by simp [go_sem]) ?_
  refine (gate_runlockD h6 rfl .returning).mono ?_
  rintro e u' w7 ⟨rfl, rfl, h7, k7⟩
  exact ⟨_, results_tmp2 rfl _ _ _, rfl, h7, HW.out.trans ((H5.out.2.trans k6).trans k7)⟩
end Go.Proofs.YteekompojgbkhaaGreat

namespace Go.Proofs.YteekompojgbkhaaGreat
open Go.ChangeShapes Go.WideShapes Go.ChangeAt Go.RowKit
set_option linter.unusedVariables false
theorem nodup_lenN : ∀ (n : Nat) (F : List Nat), F.Nodup → (∀ x ∈ F, x < n) → F.length ≤ n
  | 0, F, _, hr => by
    cases F with
    | nil => simp
    | cons a l => have := hr a (by simp); omega
  | n + 1, F, hd, hr => by
    have ih := nodup_lenN n (F.erase n) (hd.erase _) (fun x hx => by
      have h1 := (List.Nodup.mem_erase_iff hd).1 hx
      have h2 := hr x h1.2
      have h3 : x ≠ n := h1.1
      omega)
    have := List.length_erase (a := n) (l := F)
    split at this <;> omega
/-- An arena at rest: Q is its queue of free slots. -/
structure Arn (w : World) (L : Lay) (Q : List Nat) (S : AS) : Prop where
  h : Holds w L S
  g0 : S.g0 = 0
  rc : S.rc = 0
  lk : S.lk = 0
  fr : S.front < S.n
  cn : S.count = Q.length
  ri : ∀ i (hi : i < Q.length), S.ring ((S.front + i) % S.n) = (Q[i] : Int) + 1
  nd : Q.Nodup
  mem : ∀ k, k ∈ Q ↔ k < S.n ∧ S.use k = false
theorem Arn.len {w : World} {L : Lay} {Q : List Nat} {S : AS} (h : Arn w L Q S) : Q.length ≤ S.n := nodup_lenN S.n Q h.nd (fun x hx => ((h.mem x).1 hx).1)
theorem Arn.same {w w' : World} {L : Lay} {Q : List Nat} {S S' : AS} (h : Arn w L Q S) (h' : Holds w' L S') (e1 : S'.n = S.n) (e2 : S'.g0 = S.g0) (e3 : S'.rc = S.rc) (e4 : S'.lk = S.lk) (e5 : S'.front = S.front) (e6 : S'.count = S.count) (e7 : S'.ring = S.ring) (e8 : S'.use = S.use) : Arn w' L Q S' :=
  ⟨h', e2.trans h.g0, e3.trans h.rc, e4.trans h.lk, by rw [e5, e1]; exact h.fr, e6.trans h.cn, fun i hi => by rw [e7, e5, e1]; exact h.ri i hi, h.nd, fun k => by rw [e1, e8]; exact h.mem k⟩
theorem Arn.keeps {w w' : World} {L : Lay} {Q : List Nat} {S : AS} {P : Nat → Prop} (h : Arn w L Q S) (hk : Keeps P w w') (hP : ∀ g, L.has g → ¬ P g) : Arn w' L Q S := h.same (h.h.keeps hk hP) rfl rfl rfl rfl rfl rfl rfl rfl
theorem Holds.lt {w : World} {L : Lay} {S : AS} (h : Holds w L S) : ∀ g, L.has g → g < w.heap.size := by
  intro g hg
  rcases hg with rfl | rfl | rfl | rfl <;> first | exact h.lb | exact h.ls | exact h.lu | exact h.lq
theorem AS.settle {S : AS} (hr : S.rc = 0) (hl : S.lk = 0) : { S with rc := 0, lk := 0 } = S := by cases S; simp only at hr hl; subst hr; subst hl; rfl
def AS.alloc (S : AS) (k : Nat) (p : Ent) (val : Nat → Int) : AS := { S with acc := wrap64 (S.acc + 1), front := (S.front + 1) % S.n, count := S.count - 1 }.laid k p val
def AS.free (S : AS) (k : Nat) : AS := { S with acc := wrap64 (S.acc + 1), pay := upd S.pay k Ent.none, use := upd S.use k false, ring := upd S.ring ((S.front + S.count) % S.n) ((k : Int) + 1), count := S.count + 1 }
theorem mod_step (f i n : Nat) : ((f + 1) % n + i) % n = (f + (i + 1)) % n := by rw [Nat.mod_add_mod]; congr 1; omega
theorem arn_alloc (L : Lay) (S : AS) (w : World) (Q : List Nat) (p : Ent) (sp : Option Addr) (m c k : Nat) (f : Nat → Int) (h : Arn w L (k :: Q) S) (hg : Given w L sp m f) (hm : m ≤ S.wd) : Calls Tryz.prog 36 #[.pointer (some ⟨L.b, 0, none⟩), .agg #[.string p.nm, .string p.dt, .int .i64 p.tl], .slice sp m c] w fun e w' => e = .returned (.tuple #[.int .i64 ((k : Int) + 1), .int .i64 0]) ∧ Arn w' L Q (S.alloc k p (valW m f)) ∧ Keeps L.has w w' := by
  have hkn := ((h.mem k).1 (by simp)).1
  have hlen := h.len
  have hk : S.ring S.front = (k : Int) + 1 := by
    have := h.ri 0 (by simp)
    rw [Nat.add_zero, Nat.mod_eq_of_lt h.fr] at this
    simpa using this
  have hc := h.cn
  simp only [List.length_cons] at hlen hc
  refine (alloc_ok L S w p sp m c k f h.h hg hm h.rc h.lk h.fr (by omega) (by omega) hk hkn).mono ?_
  rintro e w' ⟨rfl, h', k'⟩
  have he : ({ S with rc := 0, lk := 0, acc := wrap64 (S.acc + 1), front := (S.front + 1) % S.n, count := S.count - 1 } : AS) = { S with acc := wrap64 (S.acc + 1), front := (S.front + 1) % S.n, count := S.count - 1 } := congrArg (fun T : AS => ({ T with acc := wrap64 (S.acc + 1), front := (S.front + 1) % S.n, count := S.count - 1 } : AS)) (AS.settle h.rc h.lk)
  rw [he] at h'
  refine ⟨rfl, ⟨h', h.g0, h.rc, h.lk, Nat.mod_lt _ (by have := h.fr; omega), ?_, fun i hi => ?_, (List.nodup_cons.1 h.nd).2, fun j => ?_⟩, k'⟩
  · show S.count - 1 = Q.length
    omega
  · show S.ring (((S.front + 1) % S.n + i) % S.n) = _
    rw [mod_step, h.ri (i + 1) (by simp; omega)]
    simp
  · show j ∈ Q ↔ j < S.n ∧ upd S.use k true j = false
    have h1 := h.mem j
    have h2 := (List.nodup_cons.1 h.nd).1
    unfold upd
    by_cases e : j = k
    · subst e
      simp [h2]
    · rw [if_neg e, ← h1]
      simp [e]
theorem arn_new (n wd : Nat) (w : World) (h1 : 1 ≤ n) (h2 : n ≤ 4096) (h3 : 1 ≤ wd) (h4 : wd ≤ 16) : Calls Tryz.prog 34 #[.int .i64 (n : Int), .int .i64 (wd : Int)] w fun e w' => ∃ L, e = .returned (.tuple #[.pointer (some ⟨L.b, 0, none⟩), .int .i64 0]) ∧ (∀ g, L.has g → w.heap.size ≤ g) ∧ Arn w' L (List.range n) (.fresh n wd) ∧ Below w.heap.size w w' := by
  refine (new_ok n wd w h1 h2 h3 h4).mono ?_
  rintro e w' ⟨s, u, rfl, hsu, h, hb⟩
  refine ⟨⟨w.heap.size + 2, s, u, w.heap.size + 3⟩, rfl, fun g hg => ?_, ⟨h, rfl, rfl, rfl, h1, by simp [AS.fresh], fun i hi => ?_, List.nodup_range, fun k => by simp [AS.fresh]⟩, hb⟩
  · rcases hg with h | h | h | h <;> simp only [] at h <;> omega
  · have hi' : i < n := by simpa using hi
    simp [AS.fresh, Nat.mod_eq_of_lt hi']
end Go.Proofs.YteekompojgbkhaaGreat
