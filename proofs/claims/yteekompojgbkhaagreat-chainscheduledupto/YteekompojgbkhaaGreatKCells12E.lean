import Derived.Test.YteekompojgbkhaaGreatKCells3E
import Derived.Conc.RwLoneW
namespace Go.Proofs.YteekompojgbkhaaGreat
open Go.ChangeShapes Go.WideShapes Go.ChangeAt Go.RowKit
set_option linter.unusedVariables false
set_option maxRecDepth 100000
set_option maxHeartbeats 1600000
/-- A row of m words that is handed in: nobody of the arena's. -/
def Given (w : World) (L : Lay) (sp : Option Addr) (m : Nat) (f : Nat → Int) : Prop := ∀ i, i < m → ∃ g o, sp = some ⟨g, o, none⟩ ∧ ¬ L.has g ∧ g < w.heap.size ∧ w.cell? ⟨g, o + i, none⟩ = some (.int .u64 (f i))
theorem Given.keeps {w w' : World} {L : Lay} {sp : Option Addr} {m : Nat} {f : Nat → Int} (h : Given w L sp m f) (k : Keeps L.has w w') : Given w' L sp m f := fun i hi => by
  obtain ⟨g, o, h1, h2, h3, h4⟩ := h i hi
  exact ⟨g, o, h1, h2, Nat.lt_of_lt_of_le h3 k.size, (k.cell (p := ⟨g, o + i, none⟩) h3 h2).trans h4⟩
def valW (m : Nat) (f : Nat → Int) (i : Nat) : Int := if i < m then f i else 0
def layW (old : Nat → Int) (base i : Nat) (val : Nat → Int) : Nat → Int := fun j => if base ≤ j ∧ j < base + i then val (j - base) else old j
theorem layW_step (old : Nat → Int) (base i : Nat) (val : Nat → Int) : upd (layW old base i val) (base + i) (val i) = layW old base (i + 1) val := by
  funext j
  unfold upd layW
  by_cases h : j = base + i
  · subst h; simp
  · rw [if_neg h]
    by_cases h2 : base ≤ j ∧ j < base + i
    · rw [if_pos h2, if_pos (by omega)]
    · rw [if_neg h2, if_neg (by omega)]
theorem layW_zero (old : Nat → Int) (base : Nat) (val : Nat → Int) : layW old base 0 val = old := by
  funext j; unfold layW; rw [if_neg (by omega)]
/-- The world behind a boxed parameter. -/
abbrev boxW (w : World) (p : Ent) : World := w.alloc (.cells #[.string p.nm, .string p.dt, .int .i64 p.tl] 55)
def AS.laid (S : AS) (k : Nat) (p : Ent) (val : Nat → Int) : AS := { S with word := layW S.word (k * S.wd) S.wd val, pay := upd S.pay k p, turn := upd S.turn k (wrap64 (S.turn k + 1)), use := upd S.use k true }
theorem lay_any (L : Lay) (S : AS) (w : World) (k : Nat) (p : Ent) (sp : Option Addr) (m c : Nat) (f : Nat → Int) (hk : k < S.n) (hm : m ≤ S.wd) (h : Holds w L S) (hg : Given w L sp m f) :
    Calls Tryz.prog 69 #[.pointer (some ⟨L.b, 0, none⟩), .int .i64 ((k : Int) + 1), .agg #[.string p.nm, .string p.dt, .int .i64 p.tl], .slice sp m c] w fun e w' => e = .returned (.tuple #[]) ∧ Holds w' L (S.laid k p (valW m f)) ∧ Keeps L.has w w' := by
  have hz := h.hn.2
  have hwd := h.hw.2
  have hwl := h.hw.1
  have c1 := h.c1
  have H : Hid (Holds (boxW w p) L S) := h.alloc _
  have HG : Hid (Given w L sp m f) := hg
  have hbx : (boxW w p).heap.size = w.heap.size + 1 := by simp
  have hb1 : (boxW w p).heap[w.heap.size]? = some (.cells #[.string p.nm, .string p.dt, .int .i64 p.tl] 55) := heap_alloc_last _ _ _ rfl
  have HBX : Hid (∀ W, Keeps L.has (boxW w p) W → W.cell? ⟨w.heap.size, 0, none⟩ = some (.string p.nm) ∧ W.cell? ⟨w.heap.size, 1, none⟩ = some (.string p.dt) ∧ W.cell? ⟨w.heap.size, 2, none⟩ = some (.int .i64 p.tl)) := fun W k => by
    have e := (k.block w.heap.size (by omega) (fun e => by rcases e with e | e | e | e <;> (have := h.lb; have := h.ls; have := h.lu; have := h.lq; omega))).trans hb1
    exact ⟨(cell?_heap e 0).trans rfl, (cell?_heap e 1).trans rfl, (cell?_heap e 2).trans rfl⟩
  clear h hg hb1
  go_enter Tryz.func69, Tryz.ntmps69
  go_wp2_with fail
  refine (cellsOf_any L S (boxW w p) k hk H.out).mono ?_
  rintro e w' ⟨rfl, rfl⟩
  have hN : k * S.wd + S.wd ≤ S.n * S.wd := by rw [← Nat.succ_mul]; exact Nat.mul_le_mul_right _ hk
  go_wp2_with fail
  go_loopw [17] (fun i wr => ∃ t : Nat, t ≤ S.wd ∧ i = .int .i64 t ∧ Holds wr L { S with word := layW S.word (k * S.wd) t (valW m f) } ∧ Keeps L.has (boxW w p) wr) (fun i _ => S.wd - (intOf i).toNat)
  case atStart => exact ⟨0, by omega, rfl, by rw [layW_zero]; exact H.out.drew, (Keeps.refl _ _).drew⟩
  case round =>
    obtain ⟨t, ht, rfl, hS, hK⟩ := hrel
    have HS : Hid (Holds wr L { S with word := layW S.word (k * S.wd) t (valW m f) } ∧ Keeps L.has (boxW w p) wr) := ⟨hS, hK⟩
    clear hS hK H
    by_cases h4 : t < S.wd
    · have HX : Hid (∀ W, W = wr → Calls Tryz.prog 59 #[.pointer (some ⟨L.u, k * S.wd + t, none⟩), .int .u64 (valW m f t)] W fun e w' => e = .returned (.tuple #[]) ∧ Hid (Holds w' L { S with word := layW S.word (k * S.wd) (t + 1) (valW m f) } ∧ Keeps L.has (boxW w p) w')) := by
        rintro W rfl
        refine (u64_store _ _ _ _ (HS.out.1.wo (k * S.wd + t) (by show _ < S.n * S.wd; omega)) (HS.out.1.fz _ _ (Or.inr (Or.inr (Or.inl rfl))))).mono ?_
        rintro e w' ⟨rfl, rfl⟩
        have := HS.out.1.setWord (k * S.wd + t) (valW m f t)
        simp only [layW_step] at this
        exact ⟨rfl, this, HS.out.2.setCell (Or.inr (Or.inr (Or.inl rfl))) _⟩
      clear hN
      by_cases h5 : t < m
      · obtain ⟨g, o, rfl, hg1, hg2, hg3⟩ := (HG.out.keeps (((Keeps.refl _ _).alloc _).trans HS.out.2)) t h5
        have hv : valW m f t = f t := if_pos h5
        rw [hv] at HX
        clear HS HG hg1 hg2 hv
        go_wp2_with fail
        refine (HX.out _ rfl).mono ?_
        rintro e w' ⟨rfl, HR2⟩
        clear HX hg3
        go_wp2
        go_roundw
        case rel => exact ⟨t + 1, by omega, by go_num, HR2.out⟩
        case measure => simp [intOf]; omega
      · have hv : valW m f t = 0 := if_neg h5
        rw [hv] at HX
        clear HS HG hv
        go_wp2_with fail
        refine (HX.out _ rfl).mono ?_
        rintro e w' ⟨rfl, HR2⟩
        clear HX
        go_wp2
        go_roundw
        case rel => exact ⟨t + 1, by omega, by go_num, HR2.out⟩
        case measure => simp [intOf]; omega
    · have e4 : t = S.wd := by omega
      subst e4
      have d1 := HS.out.1.c1
      have d3 := HS.out.1.tn k hk
      have d4 := HS.out.1.us k hk
      have z : ∀ j, wr.frozen? ⟨L.s, j, none⟩ = false := fun j => HS.out.1.fz _ _ (Or.inr (Or.inl rfl))
      have z3 := z (k * 5 + 4)
      have z4 := z (k * 5)
      simp only [] at d1 d3 d4
      have d2 := HS.out.1.py k hk
      have d22 := HS.out.1.pd k hk
      have d23 := HS.out.1.pt k hk
      have z2 := z (k * 5 + 1)
      have z22 := z (k * 5 + 2)
      have z23 := z (k * 5 + 3)
      simp only [] at d2 d22 d23
      obtain ⟨b0, b1, b2⟩ := HBX.out wr HS.out.2
      clear HG hN z
      have HU : Hid (∀ W, W = (((wr.setCell ⟨L.s, k * 5 + 1, none⟩ (.string p.nm)).setCell ⟨L.s, k * 5 + 2, none⟩ (.string p.dt)).setCell ⟨L.s, k * 5 + 3, none⟩ (.int .i64 p.tl)).setCell ⟨L.s, k * 5 + 4, none⟩ (.int .i64 (wrap64 (S.turn k + 1))) → Calls Tryz.prog 122 #[.pointer (some ⟨L.s, k * 5, none⟩), .bool true] W fun e w' => e = .returned (.tuple #[]) ∧ Hid (Holds w' L (S.laid k p (valW m f)) ∧ Keeps L.has w w')) := by
        rintro W rfl
        have HT := (HS.out.1.setPay k p).setTurn k (wrap64 (S.turn k + 1))
        refine (bool_store _ _ true _ (HT.us k hk) (HT.fz _ _ (Or.inr (Or.inl rfl)))).mono ?_
        rintro e w' ⟨rfl, rfl⟩
        exact ⟨rfl, (HT.setUse k true).drew, ((((((((Keeps.refl _ _).alloc _).trans HS.out.2).setCell (Or.inr (Or.inl rfl)) _).setCell (Or.inr (Or.inl rfl)) _).setCell (Or.inr (Or.inl rfl)) _).setCell (Or.inr (Or.inl rfl)) _).setCell (Or.inr (Or.inl rfl)) _).drew⟩
      clear HS
      go_wp2_with fail
      refine (HU.out _ rfl).mono ?_
      rintro e w' ⟨rfl, HR⟩
      clear HU
      go_wp2
      exact ⟨rfl, .tuple #[], by simp [results, Tryz.results69], rfl, HR.out⟩
end Go.Proofs.YteekompojgbkhaaGreat

namespace Go.Proofs.YteekompojgbkhaaGreat
open Go.ChangeShapes Go.WideShapes Go.ChangeAt Go.RowKit Go.MuLone Go.RwLone
set_option linter.unusedVariables false
theorem AS.eta_rc (S : AS) (x : Int) (h : S.rc = x) : { S with rc := x } = S := by subst h; rfl
theorem w32_up : wrap32 (0 + 1) = 1 := by unfold wrap32; decide
theorem w32_down : wrap32 (1 + -1) = 0 := by unfold wrap32; decide
theorem gate_rlock {w : World} {L : Lay} {S : AS} (h : Holds w L S) (hr : S.rc = 0) : Calls Tryz.prog 63 #[.pointer (some ⟨L.b, 3, none⟩)] w fun e w' => e = .returned (.tuple #[]) ∧ Holds w' L { S with rc := 1 } ∧ Keeps L.has w w' := by
  refine (rlock_open rwRLib L.b 3 0 _ _ w h.c3 h.c6 (by rw [← hr]; exact h.c7) (h.fz _ _ (Or.inl rfl)) (by rw [w32_up]; decide)).mono ?_
  rintro e w' ⟨rfl, rfl⟩
  rw [w32_up]
  exact ⟨rfl, h.setRc 1, (Keeps.refl _ _).setCell (Or.inl rfl) _⟩
theorem gate_runlockD {w : World} {L : Lay} {S : AS} (h : Holds w L S) (hr : S.rc = 1) (u : FrameMode) : CallsD Tryz.prog 64 #[.pointer (some ⟨L.b, 3, none⟩)] u w fun e u' w' => u' = u ∧ (e = .returned (.tuple #[]) ∧ Holds w' L { S with rc := 0 } ∧ Keeps L.has w w') := by
  refine (runlock_deferred rwRLib L.b 3 1 _ _ u w h.c3 h.c5 (by rw [← hr]; exact h.c7) (h.fz _ _ (Or.inl rfl)) (by rw [w32_down]; decide)).mono ?_
  rintro e u' w' ⟨rfl, rfl, rfl⟩
  rw [w32_down]
  exact ⟨rfl, rfl, h.setRc 0, (Keeps.refl _ _).setCell (Or.inl rfl) _⟩
theorem gate_lock {w : World} {L : Lay} {S : AS} (h : Holds w L S) (hg : S.g0 = 0) (hr : S.rc = 0) : Calls Tryz.prog 128 #[.pointer (some ⟨L.b, 3, none⟩)] w fun e w' => e = .returned (.tuple #[]) ∧ Holds w' L { S with g0 := 1, rc := -1073741824 } ∧ Keeps L.has w w' := by
  refine (wlock_free rwWLib L.b 3 _ _ w (by rw [← hg]; exact h.c3) h.c5 h.c6 (by rw [← hr]; exact h.c7) (h.fz _ _ (Or.inl rfl)) (h.fz _ _ (Or.inl rfl))).mono ?_
  rintro e w' ⟨rfl, rfl⟩
  exact ⟨rfl, (h.setG0 1).setRc (-1073741824), ((Keeps.refl _ _).setCell (Or.inl rfl) _).setCell (Or.inl rfl) _⟩
theorem gate_unlockD {w : World} {L : Lay} {S : AS} (h : Holds w L S) (hg : S.g0 = 1) (hr : S.rc = -1073741824) (u : FrameMode) : CallsD Tryz.prog 129 #[.pointer (some ⟨L.b, 3, none⟩)] u w fun e u' w' => u' = u ∧ (e = .returned (.tuple #[]) ∧ Holds w' L { S with g0 := 0, rc := 0 } ∧ Keeps L.has w w') := by
  refine (wunlock_deferred rwWLib L.b 3 _ _ u w (by rw [← hg]; exact h.c3) h.c5 h.c6 (by rw [← hr]; exact h.c7) (h.fz _ _ (Or.inl rfl)) (h.fz _ _ (Or.inl rfl))).mono ?_
  rintro e u' w' ⟨rfl, rfl, rfl⟩
  exact ⟨rfl, rfl, (h.setRc 0).setG0 0, ((Keeps.refl _ _).setCell (Or.inl rfl) _).setCell (Or.inl rfl) _⟩
theorem que_lock {w : World} {L : Lay} {S : AS} (h : Holds w L S) (hr : S.lk = 0) : Calls Tryz.prog 65 #[.pointer (some ⟨L.b, 9, none⟩)] w fun e w' => e = .returned (.tuple #[]) ∧ Holds w' L { S with lk := 1 } ∧ Keeps L.has w w' := by
  refine (lock_free muLib ⟨L.b, 9, none⟩ w (by rw [← hr]; exact h.c9) (h.fz _ _ (Or.inl rfl))).mono ?_
  rintro e w' ⟨rfl, rfl⟩
  exact ⟨rfl, h.setLk 1, (Keeps.refl _ _).setCell (Or.inl rfl) _⟩
theorem que_unlockD {w : World} {L : Lay} {S : AS} (h : Holds w L S) (hr : S.lk = 1) (u : FrameMode) : CallsD Tryz.prog 66 #[.pointer (some ⟨L.b, 9, none⟩)] u w fun e u' w' => u' = u ∧ (e = .returned (.tuple #[]) ∧ Holds w' L { S with lk := 0 } ∧ Keeps L.has w w') := by
  refine (unlock_deferred muLib ⟨L.b, 9, none⟩ u w (by rw [← hr]; exact h.c9) (h.fz _ _ (Or.inl rfl))).mono ?_
  rintro e u' w' ⟨rfl, rfl, rfl⟩
  exact ⟨rfl, rfl, h.setLk 0, (Keeps.refl _ _).setCell (Or.inl rfl) _⟩
theorem acc_add {w : World} {L : Lay} {S : AS} (h : Holds w L S) : Calls Tryz.prog 67 #[.pointer (some ⟨L.b, 14, none⟩), .int .i64 1] w fun e w' => ∃ v, e = .returned v ∧ Holds w' L { S with acc := wrap64 (S.acc + 1) } ∧ Keeps L.has w w' := by
  refine (i64_add _ _ _ w h.c14 (h.fz _ _ (Or.inl rfl))).mono ?_
  rintro e w' ⟨rfl, rfl⟩
  exact ⟨_, rfl, h.setAcc _, (Keeps.refl _ _).setCell (Or.inl rfl) _⟩
theorem Holds.que {w : World} {L : Lay} {S : AS} (h : Holds w L S) : Que w L.b 9 L.q S.n S.front S.count := ⟨h.c11, h.c12, h.c13⟩
theorem que_take {w : World} {L : Lay} {S : AS} (h : Holds w L S) (hf : S.front < S.n) (h0 : 0 < S.count) (hc : S.count ≤ S.n) : Calls Tryz.prog 68 #[.pointer (some ⟨L.b, 9, none⟩)] w fun e w' => e = .returned (.int .i64 (S.ring S.front)) ∧ Holds w' L { S with front := (S.front + 1) % S.n, count := S.count - 1 } ∧ Keeps L.has w w' := by
  refine (take_some L.b 9 L.q S.n S.front S.count _ _ w h.que hf hc h0 (by have := h.hn.2; omega) rfl (h.ri _ hf) (h.fz _ _ (Or.inl rfl)) (h.fz _ _ (Or.inl rfl))).mono ?_
  rintro e w' ⟨rfl, rfl⟩
  have e1 : (S.count : Int) - 1 = ((S.count - 1 : Nat) : Int) := by omega
  rw [e1]
  exact ⟨rfl, ((h.setFront _).setCount _).drew.drew, (((Keeps.refl _ _).setCell (Or.inl rfl) _).setCell (Or.inl rfl) _).drew.drew⟩
theorem que_none {w : World} {L : Lay} {S : AS} (h : Holds w L S) (h0 : S.count = 0) : Calls Tryz.prog 68 #[.pointer (some ⟨L.b, 9, none⟩)] w fun e w' => e = .returned (.int .i64 0) ∧ Holds w' L S ∧ Keeps L.has w w' := by
  have := h.que
  rw [h0] at this
  refine (take_none L.b 9 L.q S.n S.front w this).mono ?_
  rintro e w' ⟨rfl, rfl⟩
  exact ⟨rfl, h, Keeps.refl _ _⟩
end Go.Proofs.YteekompojgbkhaaGreat

namespace Go.Proofs.YteekompojgbkhaaGreat
open Go.ChangeShapes Go.WideShapes Go.ChangeAt Go.RowKit Go.MuLone Go.RwLone
set_option linter.unusedVariables false
set_option maxRecDepth 100000
set_option maxHeartbeats 1600000
theorem missing_holds2 {w : World} {L : Lay} {S : AS} (h : Holds w L S) : Calls Tryz.prog 62 #[.pointer (some ⟨L.b, 0, none⟩)] w fun e w' => e = .returned (.bool false) ∧ w' = w := missing_not L.b S.wd w (by have := h.hw.1; omega) h.c0
end Go.Proofs.YteekompojgbkhaaGreat

namespace Go.Proofs.YteekompojgbkhaaGreat
open Go.ChangeShapes Go.WideShapes Go.ChangeAt Go.RowKit Go.MuLone Go.RwLone
set_option linter.unusedVariables false
set_option maxRecDepth 100000
set_option maxHeartbeats 1600000
theorem word_ok (L : Lay) (S : AS) (w : World) (k j : Nat) (h : Holds w L S) (hk : k < S.n) (hu : S.use k = true) (hj : j < S.wd) : Calls Tryz.prog 214 #[.pointer (some ⟨L.b, 0, none⟩), .int .i64 ((k : Int) + 1), .int .i64 (j : Int)] w fun e w' => e = .returned (.tuple #[.pointer (some ⟨L.u, k * S.wd + j, none⟩), .int .i64 0]) ∧ w' = w.drew := by
  have hwd := h.hw.2
  have c0 := h.c0
  have H : Hid (Holds w L S) := h
  have i1 : (j : Int) < (S.wd : Int) := by omega
  clear h
  go_enter Tryz.func214, Tryz.ntmps214
  go_wp2_with fail
  refine (reach_ok L S w k hk hu H.out).mono ?_
  rintro e w' ⟨rfl, rfl⟩
  go_wp2_with fail
  refine (cellsOf_any L S _ k hk H.out).mono ?_
  rintro e w' ⟨rfl, rfl⟩
  go_wp2
  go_ret2
  exact ⟨rfl, rfl⟩
theorem word_no (L : Lay) (S : AS) (w : World) (x y : Int) (h : Holds w L S) (hx : ¬ S.live x) : Calls Tryz.prog 214 #[.pointer (some ⟨L.b, 0, none⟩), .int .i64 x, .int .i64 y] w fun e w' => e = .returned (.tuple #[.pointer none, .int .i64 22]) ∧ Holds w' L { S with miss := wrap64 (S.miss + 1) } ∧ Keeps L.has w w' := by
  go_enter Tryz.func214, Tryz.ntmps214
  go_wp2_with fail
  refine (reach_no L S w x hx h).mono ?_
  rintro e w' ⟨rfl, h2, k2⟩
  have H2 : Hid (Holds w' L { S with miss := wrap64 (S.miss + 1) } ∧ Keeps L.has w w') := ⟨h2, k2⟩
  clear h2 k2 h
  go_wp2
  go_ret2
  exact ⟨rfl, H2.out⟩
theorem access_load (L : Lay) (S : AS) (w : World) (k j : Nat) (c1 : Value) (wo : Nat → Int) (B : Nat → Prop) (X : World → Prop) (h : Holds w L S) (hr : S.rc = 0) (hk : k < S.n) (hu : S.use k = true) (hj : j < S.wd) (hB : ∀ k, L.has k → B k) (hX : ∀ W W', Keeps L.has W W' → X W → X W')
    (HC : Hid (∀ W, Holds W L { S with rc := 1, acc := wrap64 (S.acc + 1) } → Keeps L.has w W → Calls Tryz.prog 179 #[.pointer (some ⟨L.u, k * S.wd + j, none⟩), c1] W fun e w' => e = .returned (.tuple #[]) ∧ Holds w' L { S with rc := 1, acc := wrap64 (S.acc + 1), word := wo } ∧ Keeps B W w' ∧ X w')) :
    Calls Tryz.prog 178 #[.pointer (some ⟨L.b, 0, none⟩), .int .i64 ((k : Int) + 1), .int .i64 (j : Int), .func (.func 179) #[] #[c1]] w fun e w' => e = .returned (.int .i64 0) ∧ Holds w' L { S with rc := 0, acc := wrap64 (S.acc + 1), word := wo } ∧ Keeps B w w' ∧ X w' := by
  have H : Hid (Holds w L S) := h
  have HB : Hid ((∀ k, L.has k → B k) ∧ ∀ W W', Keeps L.has W W' → X W → X W') := ⟨hB, hX⟩
  clear h hB hX
  go_enter_defers Tryz.func178, Tryz.ntmps178
  go_wp2_with fail
  refine (missing_holds2 H.out).mono ?_
  rintro e w' ⟨rfl, rfl⟩
  go_wp2_with fail
  refine (gate_rlock H.out hr).mono ?_
  rintro e w1 ⟨rfl, h1, k1⟩
  have H1 : Hid (Holds w1 L { S with rc := 1 } ∧ Keeps L.has w' w1) := ⟨h1, k1⟩
  clear h1 k1 H
  go_wp2_with fail
  refine (word_ok L { S with rc := 1 } w1 k j H1.out.1 hk hu hj).mono ?_
  rintro e w2 ⟨rfl, rfl⟩
  have H2 : Hid (Holds w1.drew L { S with rc := 1 } ∧ Keeps L.has w' w1.drew) := ⟨H1.out.1.drew, H1.out.2.drew⟩
  clear H1
  go_wp2_with fail
  refine (acc_add H2.out.1).mono ?_
  rintro e w3 ⟨v, rfl, h3, k3⟩
  have H3 : Hid (Holds w3 L { S with rc := 1, acc := wrap64 (S.acc + 1) } ∧ Keeps L.has w' w3) := ⟨h3, H2.out.2.trans k3⟩
  clear h3 k3 H2
  go_wp2_with fail
  refine (HC.out w3 H3.out.1 H3.out.2).mono ?_
  rintro e w4 ⟨rfl, h4, k4, x4⟩
  have H4 : Hid (Holds w4 L { S with rc := 1, acc := wrap64 (S.acc + 1), word := wo } ∧ Keeps B w' w4 ∧ X w4) := ⟨h4, (H3.out.2.mono HB.out.1).trans k4, x4⟩
  clear h4 k4 x4 H3 HC
  go_wp2_with fail
  refine leaves_cons (f := 64) (args := #[.pointer (some ⟨L.b, 3, none⟩)]) (by simp) (by simp [go_sem]) ?_
  refine (gate_runlockD H4.out.1 rfl .returning).mono ?_
  rintro e u' w7 ⟨rfl, rfl, h7, k7⟩
  exact ⟨_, results_tmp rfl _ _ _, rfl, h7, H4.out.2.1.trans (k7.mono HB.out.1), HB.out.2 _ _ k7 H4.out.2.2⟩
theorem access_store (L : Lay) (S : AS) (w : World) (k j : Nat) (c1 : Value) (wo : Nat → Int) (B : Nat → Prop) (X : World → Prop) (h : Holds w L S) (hr : S.rc = 0) (hk : k < S.n) (hu : S.use k = true) (hj : j < S.wd) (hB : ∀ k, L.has k → B k) (hX : ∀ W W', Keeps L.has W W' → X W → X W')
    (HC : Hid (∀ W, Holds W L { S with rc := 1, acc := wrap64 (S.acc + 1) } → Keeps L.has w W → Calls Tryz.prog 222 #[.pointer (some ⟨L.u, k * S.wd + j, none⟩), c1] W fun e w' => e = .returned (.tuple #[]) ∧ Holds w' L { S with rc := 1, acc := wrap64 (S.acc + 1), word := wo } ∧ Keeps B W w' ∧ X w')) :
    Calls Tryz.prog 178 #[.pointer (some ⟨L.b, 0, none⟩), .int .i64 ((k : Int) + 1), .int .i64 (j : Int), .func (.func 222) #[] #[c1]] w fun e w' => e = .returned (.int .i64 0) ∧ Holds w' L { S with rc := 0, acc := wrap64 (S.acc + 1), word := wo } ∧ Keeps B w w' ∧ X w' := by
  have H : Hid (Holds w L S) := h
  have HB : Hid ((∀ k, L.has k → B k) ∧ ∀ W W', Keeps L.has W W' → X W → X W') := ⟨hB, hX⟩
  clear h hB hX
  go_enter_defers Tryz.func178, Tryz.ntmps178
  go_wp2_with fail
  refine (missing_holds2 H.out).mono ?_
  rintro e w' ⟨rfl, rfl⟩
  go_wp2_with fail
  refine (gate_rlock H.out hr).mono ?_
  rintro e w1 ⟨rfl, h1, k1⟩
  have H1 : Hid (Holds w1 L { S with rc := 1 } ∧ Keeps L.has w' w1) := ⟨h1, k1⟩
  clear h1 k1 H
  go_wp2_with fail
  refine (word_ok L { S with rc := 1 } w1 k j H1.out.1 hk hu hj).mono ?_
  rintro e w2 ⟨rfl, rfl⟩
  have H2 : Hid (Holds w1.drew L { S with rc := 1 } ∧ Keeps L.has w' w1.drew) := ⟨H1.out.1.drew, H1.out.2.drew⟩
  clear H1
  go_wp2_with fail
  refine (acc_add H2.out.1).mono ?_
  rintro e w3 ⟨v, rfl, h3, k3⟩
  have H3 : Hid (Holds w3 L { S with rc := 1, acc := wrap64 (S.acc + 1) } ∧ Keeps L.has w' w3) := ⟨h3, H2.out.2.trans k3⟩
  clear h3 k3 H2
  go_wp2_with fail
  refine (HC.out w3 H3.out.1 H3.out.2).mono ?_
  rintro e w4 ⟨rfl, h4, k4, x4⟩
  have H4 : Hid (Holds w4 L { S with rc := 1, acc := wrap64 (S.acc + 1), word := wo } ∧ Keeps B w' w4 ∧ X w4) := ⟨h4, (H3.out.2.mono HB.out.1).trans k4, x4⟩
  clear h4 k4 x4 H3 HC
  go_wp2_with fail
  refine leaves_cons (f := 64) (args := #[.pointer (some ⟨L.b, 3, none⟩)]) (by simp) (by simp [go_sem]) ?_
  refine (gate_runlockD H4.out.1 rfl .returning).mono ?_
  rintro e u' w7 ⟨rfl, rfl, h7, k7⟩
  exact ⟨_, results_tmp rfl _ _ _, rfl, h7, H4.out.2.1.trans (k7.mono HB.out.1), HB.out.2 _ _ k7 H4.out.2.2⟩
theorem access_load_no (L : Lay) (S : AS) (w : World) (x y : Int) (c1 : Value) (h : Holds w L S) (hr : S.rc = 0) (hx : ¬ S.live x) :
    Calls Tryz.prog 178 #[.pointer (some ⟨L.b, 0, none⟩), .int .i64 x, .int .i64 y, .func (.func 179) #[] #[c1]] w fun e w' => e = .returned (.int .i64 22) ∧ Holds w' L { S with rc := 0, miss := wrap64 (S.miss + 1) } ∧ Keeps L.has w w' := by
  have H : Hid (Holds w L S) := h
  clear h
  go_enter_defers Tryz.func178, Tryz.ntmps178
  go_wp2_with fail
  refine (missing_holds2 H.out).mono ?_
  rintro e w' ⟨rfl, rfl⟩
  go_wp2_with fail
  refine (gate_rlock H.out hr).mono ?_
  rintro e w1 ⟨rfl, h1, k1⟩
  have H1 : Hid (Holds w1 L { S with rc := 1 } ∧ Keeps L.has w' w1) := ⟨h1, k1⟩
  clear h1 k1 H
  go_wp2_with fail
  refine (word_no L { S with rc := 1 } w1 x y H1.out.1 hx).mono ?_
  rintro e w2 ⟨rfl, h2, k2⟩
  have H2 : Hid (Holds w2 L { S with rc := 1, miss := wrap64 (S.miss + 1) } ∧ Keeps L.has w' w2) := ⟨h2, H1.out.2.trans k2⟩
  clear h2 k2 H1
  go_wp2_with fail
  refine leaves_cons (f := 64) (args := #[.pointer (some ⟨L.b, 3, none⟩)]) (by simp) (by simp [go_sem]) ?_
  refine (gate_runlockD H2.out.1 rfl .returning).mono ?_
  rintro e u' w7 ⟨rfl, rfl, h7, k7⟩
  exact ⟨_, results_tmp rfl _ _ _, rfl, h7, H2.out.2.trans k7⟩
theorem access_store_no (L : Lay) (S : AS) (w : World) (x y : Int) (c1 : Value) (h : Holds w L S) (hr : S.rc = 0) (hx : ¬ S.live x) :
    Calls Tryz.prog 178 #[.pointer (some ⟨L.b, 0, none⟩), .int .i64 x, .int .i64 y, .func (.func 222) #[] #[c1]] w fun e w' => e = .returned (.int .i64 22) ∧ Holds w' L { S with rc := 0, miss := wrap64 (S.miss + 1) } ∧ Keeps L.has w w' := by
  have H : Hid (Holds w L S) := h
  clear h
  go_enter_defers Tryz.func178, Tryz.ntmps178
  go_wp2_with fail
  refine (missing_holds2 H.out).mono ?_
  rintro e w' ⟨rfl, rfl⟩
  go_wp2_with fail
  refine (gate_rlock H.out hr).mono ?_
  rintro e w1 ⟨rfl, h1, k1⟩
  have H1 : Hid (Holds w1 L { S with rc := 1 } ∧ Keeps L.has w' w1) := ⟨h1, k1⟩
  clear h1 k1 H
  go_wp2_with fail
  refine (word_no L { S with rc := 1 } w1 x y H1.out.1 hx).mono ?_
  rintro e w2 ⟨rfl, h2, k2⟩
  have H2 : Hid (Holds w2 L { S with rc := 1, miss := wrap64 (S.miss + 1) } ∧ Keeps L.has w' w2) := ⟨h2, H1.out.2.trans k2⟩
  clear h2 k2 H1
  go_wp2_with fail
  refine leaves_cons (f := 64) (args := #[.pointer (some ⟨L.b, 3, none⟩)]) (by simp) (by simp [go_sem]) ?_
  refine (gate_runlockD H2.out.1 rfl .returning).mono ?_
  rintro e u' w7 ⟨rfl, rfl, h7, k7⟩
  exact ⟨_, results_tmp rfl _ _ _, rfl, h7, H2.out.2.trans k7⟩
end Go.Proofs.YteekompojgbkhaaGreat
