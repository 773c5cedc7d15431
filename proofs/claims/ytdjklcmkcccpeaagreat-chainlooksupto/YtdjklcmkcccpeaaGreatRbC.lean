import Derived.Test.YtdjklcmkcccpeaaGreatRbA
namespace Go.Proofs.YtdjklcmkcccpeaaGreat
open Go.ChangeShapes Go.WideShapes Go.ChangeAt Go.RowKit Go.MuLone Go.RwLone
set_option linter.unusedVariables false
set_option maxRecDepth 100000
set_option maxHeartbeats 3200000
abbrev rwlA (xb : Nat) (bk fr : Int) (wh lo : Bool) (nx sl : Int) (ov : Bool) (co : Int) : Array Value := #[.pointer (some ⟨xb, 0, none⟩), .int .i64 bk, .int .i64 fr, .bool wh, .bool lo, .int .i64 nx, .int .i64 sl, .bool ov, .int .i64 co]
/-- The document's Walk in its block. -/
def RwlH (w : World) (mb xb : Nat) (m : MW) : Prop := ∃ (bk fr : Int) (wh lo : Bool) (nx : Int), w.heap[mb]? = some (.cells (rwlA xb bk fr wh lo nx m.slot m.ended m.code) 237) ∧ (m.st = 0 → wh = true ∧ lo = false ∧ bk = m.src) ∧ (m.st = 1 → wh = false ∧ lo = false ∧ fr = m.src) ∧ (m.st = 2 → lo = true ∧ nx = m.pend ∧ ((wh = true ∧ m.own = 4097 + bk ∧ 0 ≤ bk ∧ bk ≤ 1000) ∨ (wh = false ∧ m.own = 0)))
/-- What is known of a walk. -/
def wlkOk (m : MW) : Prop := m.ended = decide (3 ≤ m.st) ∧ (m.st ≤ 2 → m.code = 0) ∧ (m.st ≤ 1 → m.slot = 0) ∧ (m.st = 1 → m.own = 0)
theorem rwl_stop (w : World) (mb xb : Nat) (bk fr : Int) (wh lo : Bool) (nx sl : Int) (ov : Bool) (co : Int) (c : Int) (h : w.heap[mb]? = some (.cells (rwlA xb bk fr wh lo nx sl ov co) 237)) : Calls Tryz.prog 196 #[.pointer (some ⟨mb, 0, none⟩), .int .i64 c] w fun e w' => e = .returned (.bool true) ∧ w'.heap[mb]? = some (.cells (rwlA xb bk fr wh lo nx 0 true c) 237) ∧ Keeps (fun g => g = mb) w w' := by
  have c6 : w.cell? ⟨mb, 6, none⟩ = some (.int .i64 sl) := (cell?_heap h 6).trans rfl
  have f6 := frozen?_heap h 6
  have c7 : w.cell? ⟨mb, 7, none⟩ = some (.bool ov) := (cell?_heap h 7).trans rfl
  have f7 := frozen?_heap h 7
  have c8 : w.cell? ⟨mb, 8, none⟩ = some (.int .i64 co) := (cell?_heap h 8).trans rfl
  have f8 := frozen?_heap h 8
  have HN : Hid ((((w.setCell ⟨mb, 6, none⟩ (.int .i64 0)).setCell ⟨mb, 7, none⟩ (.bool true)).setCell ⟨mb, 8, none⟩ (.int .i64 c)).heap[mb]? = some (.cells (rwlA xb bk fr wh lo nx 0 true c) 237) ∧ Keeps (fun g => g = mb) w (((w.setCell ⟨mb, 6, none⟩ (.int .i64 0)).setCell ⟨mb, 7, none⟩ (.bool true)).setCell ⟨mb, 8, none⟩ (.int .i64 c))) := ⟨(heapSetC (heapSetC (heapSetC h 6 _) 7 _) 8 _), (setK (setK (setK (Keeps.refl _ _))))⟩
  clear h
  go_enter Tryz.func196, Tryz.ntmps196
  go_wp2
  go_ret
  exact ⟨rfl, HN.out⟩
theorem rwl_ahead0 (w : World) (mb xb : Nat) (bk fr : Int) (wh lo : Bool) (nx sl : Int) (n : Int) (h : w.heap[mb]? = some (.cells (rwlA xb bk fr wh lo nx sl false 0) 237)) (hn : n = 0) : Calls Tryz.prog 197 #[.pointer (some ⟨mb, 0, none⟩), .int .i64 n] w fun e w' => e = .returned (.bool true) ∧ w'.heap[mb]? = some (.cells (rwlA xb bk fr wh lo n 0 true 42) 237) ∧ Keeps (fun g => g = mb) w w' := by
  subst hn
  have c5 : w.cell? ⟨mb, 5, none⟩ = some (.int .i64 nx) := (cell?_heap h 5).trans rfl
  have f5 := frozen?_heap h 5
  have HN : Hid ((w.setCell ⟨mb, 5, none⟩ (.int .i64 0)).heap[mb]? = some (.cells (rwlA xb bk fr wh lo 0 sl false 0) 237) ∧ Keeps (fun g => g = mb) w (w.setCell ⟨mb, 5, none⟩ (.int .i64 0))) := ⟨(heapSetC h 5 _), (setK (Keeps.refl _ _))⟩
  clear h
  go_enter Tryz.func197, Tryz.ntmps197
  go_wp2_with fail
  refine (rwl_stop _ mb xb bk fr wh lo 0 sl false 0 42 HN.out.1).mono ?_
  rintro e w2 ⟨rfl, h2, k2⟩
  have H2 : Hid (w2.heap[mb]? = some (.cells (rwlA xb bk fr wh lo 0 0 true 42) 237) ∧ Keeps (fun g => g = mb) w w2) := ⟨h2, HN.out.2.trans k2⟩
  clear h2 k2 HN c5 f5
  go_wp2
  go_ret
  exact ⟨rfl, H2.out⟩
theorem rwl_ahead1 (w : World) (mb xb : Nat) (bk fr : Int) (wh lo : Bool) (nx sl : Int) (n : Int) (h : w.heap[mb]? = some (.cells (rwlA xb bk fr wh lo nx sl false 0) 237)) (hn : ¬ n = 0) (hE : 4096 < n) (hwh : wh = true) (hb : 0 ≤ bk ∧ bk ≤ 1000) (hne : ¬ n = 4097 + bk) : Calls Tryz.prog 197 #[.pointer (some ⟨mb, 0, none⟩), .int .i64 n] w fun e w' => e = .returned (.bool true) ∧ w'.heap[mb]? = some (.cells (rwlA xb bk fr wh lo n sl true 43) 237) ∧ Keeps (fun g => g = mb) w w' := by
  subst hwh
  have hne2 : (n != 4097 + bk) = true := by simp [hne]
  obtain ⟨hb0, hb1⟩ := hb
  clear hne
  have hn2 : (n == 0) = false := by simp [hn]
  have HE : Hid (decide (4096 < n) = true) := decide_eq_true hE
  have c5 : w.cell? ⟨mb, 5, none⟩ = some (.int .i64 nx) := (cell?_heap h 5).trans rfl
  have f5 := frozen?_heap h 5
  have c7 : w.cell? ⟨mb, 7, none⟩ = some (.bool false) := (cell?_heap h 7).trans rfl
  have f7 := frozen?_heap h 7
  have c8 : w.cell? ⟨mb, 8, none⟩ = some (.int .i64 0) := (cell?_heap h 8).trans rfl
  have f8 := frozen?_heap h 8
  have c3 : w.cell? ⟨mb, 3, none⟩ = some (.bool true) := (cell?_heap h 3).trans rfl
  have f3 := frozen?_heap h 3
  have c1 : w.cell? ⟨mb, 1, none⟩ = some (.int .i64 bk) := (cell?_heap h 1).trans rfl
  have f1 := frozen?_heap h 1
  have HN : Hid ((((w.setCell ⟨mb, 5, none⟩ (.int .i64 n)).setCell ⟨mb, 7, none⟩ (.bool true)).setCell ⟨mb, 8, none⟩ (.int .i64 43)).heap[mb]? = some (.cells (rwlA xb bk fr true lo n sl true 43) 237) ∧ Keeps (fun g => g = mb) w (((w.setCell ⟨mb, 5, none⟩ (.int .i64 n)).setCell ⟨mb, 7, none⟩ (.bool true)).setCell ⟨mb, 8, none⟩ (.int .i64 43))) := ⟨(heapSetC (heapSetC (heapSetC h 5 _) 7 _) 8 _), (setK (setK (setK (Keeps.refl _ _))))⟩
  clear h hE hn
  go_enter Tryz.func197, Tryz.ntmps197
  go_wp2_with fail
  refine (rend_any n _).mono ?_
  rintro e w1 ⟨rfl, hw1⟩
  rw [hw1, HE.out]
  clear hw1 w1 HE
  go_wp2
  go_ret
  exact ⟨rfl, HN.out⟩
theorem rwl_ahead2 (w : World) (mb xb : Nat) (bk fr : Int) (wh lo : Bool) (nx sl : Int) (n : Int) (h : w.heap[mb]? = some (.cells (rwlA xb bk fr wh lo nx sl false 0) 237)) (hn : ¬ n = 0) (hE : 4096 < n) (hwh : wh = true) (hb : 0 ≤ bk ∧ bk ≤ 1000) (hne : n = 4097 + bk) : Calls Tryz.prog 197 #[.pointer (some ⟨mb, 0, none⟩), .int .i64 n] w fun e w' => e = .returned (.bool true) ∧ w'.heap[mb]? = some (.cells (rwlA xb bk fr wh lo n sl true 0) 237) ∧ Keeps (fun g => g = mb) w w' := by
  subst hwh
  have hne2 : (n != 4097 + bk) = false := by simp [hne]
  obtain ⟨hb0, hb1⟩ := hb
  clear hne
  have hn2 : (n == 0) = false := by simp [hn]
  have HE : Hid (decide (4096 < n) = true) := decide_eq_true hE
  have c5 : w.cell? ⟨mb, 5, none⟩ = some (.int .i64 nx) := (cell?_heap h 5).trans rfl
  have f5 := frozen?_heap h 5
  have c7 : w.cell? ⟨mb, 7, none⟩ = some (.bool false) := (cell?_heap h 7).trans rfl
  have f7 := frozen?_heap h 7
  have c8 : w.cell? ⟨mb, 8, none⟩ = some (.int .i64 0) := (cell?_heap h 8).trans rfl
  have f8 := frozen?_heap h 8
  have c3 : w.cell? ⟨mb, 3, none⟩ = some (.bool true) := (cell?_heap h 3).trans rfl
  have f3 := frozen?_heap h 3
  have c1 : w.cell? ⟨mb, 1, none⟩ = some (.int .i64 bk) := (cell?_heap h 1).trans rfl
  have f1 := frozen?_heap h 1
  have HN : Hid (((w.setCell ⟨mb, 5, none⟩ (.int .i64 n)).setCell ⟨mb, 7, none⟩ (.bool true)).heap[mb]? = some (.cells (rwlA xb bk fr true lo n sl true 0) 237) ∧ Keeps (fun g => g = mb) w ((w.setCell ⟨mb, 5, none⟩ (.int .i64 n)).setCell ⟨mb, 7, none⟩ (.bool true))) := ⟨(heapSetC (heapSetC h 5 _) 7 _), (setK (setK (Keeps.refl _ _)))⟩
  clear h hE hn
  go_enter Tryz.func197, Tryz.ntmps197
  go_wp2_with fail
  refine (rend_any n _).mono ?_
  rintro e w1 ⟨rfl, hw1⟩
  rw [hw1, HE.out]
  clear hw1 w1 HE
  go_wp2
  go_ret
  exact ⟨rfl, HN.out⟩
theorem rwl_ahead3 (w : World) (mb xb : Nat) (bk fr : Int) (wh lo : Bool) (nx sl : Int) (n : Int) (h : w.heap[mb]? = some (.cells (rwlA xb bk fr wh lo nx sl false 0) 237)) (hn : ¬ n = 0) (hE : 4096 < n) (hwh : wh = false) : Calls Tryz.prog 197 #[.pointer (some ⟨mb, 0, none⟩), .int .i64 n] w fun e w' => e = .returned (.bool true) ∧ w'.heap[mb]? = some (.cells (rwlA xb bk fr wh lo n sl true 0) 237) ∧ Keeps (fun g => g = mb) w w' := by
  subst hwh
  have hn2 : (n == 0) = false := by simp [hn]
  have HE : Hid (decide (4096 < n) = true) := decide_eq_true hE
  have c5 : w.cell? ⟨mb, 5, none⟩ = some (.int .i64 nx) := (cell?_heap h 5).trans rfl
  have f5 := frozen?_heap h 5
  have c7 : w.cell? ⟨mb, 7, none⟩ = some (.bool false) := (cell?_heap h 7).trans rfl
  have f7 := frozen?_heap h 7
  have c8 : w.cell? ⟨mb, 8, none⟩ = some (.int .i64 0) := (cell?_heap h 8).trans rfl
  have f8 := frozen?_heap h 8
  have c3 : w.cell? ⟨mb, 3, none⟩ = some (.bool false) := (cell?_heap h 3).trans rfl
  have f3 := frozen?_heap h 3
  have c1 : w.cell? ⟨mb, 1, none⟩ = some (.int .i64 bk) := (cell?_heap h 1).trans rfl
  have f1 := frozen?_heap h 1
  have HN : Hid (((w.setCell ⟨mb, 5, none⟩ (.int .i64 n)).setCell ⟨mb, 7, none⟩ (.bool true)).heap[mb]? = some (.cells (rwlA xb bk fr false lo n sl true 0) 237) ∧ Keeps (fun g => g = mb) w ((w.setCell ⟨mb, 5, none⟩ (.int .i64 n)).setCell ⟨mb, 7, none⟩ (.bool true))) := ⟨(heapSetC (heapSetC h 5 _) 7 _), (setK (setK (Keeps.refl _ _)))⟩
  clear h hE hn
  go_enter Tryz.func197, Tryz.ntmps197
  go_wp2_with fail
  refine (rend_any n _).mono ?_
  rintro e w1 ⟨rfl, hw1⟩
  rw [hw1, HE.out]
  clear hw1 w1 HE
  go_wp2
  go_ret
  exact ⟨rfl, HN.out⟩
theorem rwl_ahead4 (w : World) (mb xb : Nat) (bk fr : Int) (wh lo : Bool) (nx sl : Int) (n : Int) (h : w.heap[mb]? = some (.cells (rwlA xb bk fr wh lo nx sl false 0) 237)) (hn : ¬ n = 0) (hE : ¬ 4096 < n) : Calls Tryz.prog 197 #[.pointer (some ⟨mb, 0, none⟩), .int .i64 n] w fun e w' => e = .returned (.bool (decide (¬ sl = 0))) ∧ w'.heap[mb]? = some (.cells (rwlA xb bk fr wh lo n sl false 0) 237) ∧ Keeps (fun g => g = mb) w w' := by
  have hn2 : (n == 0) = false := by simp [hn]
  have HE : Hid (decide (4096 < n) = false) := decide_eq_false hE
  have c5 : w.cell? ⟨mb, 5, none⟩ = some (.int .i64 nx) := (cell?_heap h 5).trans rfl
  have f5 := frozen?_heap h 5
  have c7 : w.cell? ⟨mb, 7, none⟩ = some (.bool false) := (cell?_heap h 7).trans rfl
  have f7 := frozen?_heap h 7
  have c6 : w.cell? ⟨mb, 6, none⟩ = some (.int .i64 sl) := (cell?_heap h 6).trans rfl
  have f6 := frozen?_heap h 6
  have HN : Hid ((w.setCell ⟨mb, 5, none⟩ (.int .i64 n)).heap[mb]? = some (.cells (rwlA xb bk fr wh lo n sl false 0) 237) ∧ Keeps (fun g => g = mb) w (w.setCell ⟨mb, 5, none⟩ (.int .i64 n))) := ⟨(heapSetC h 5 _), (setK (Keeps.refl _ _))⟩
  clear h hE hn
  obtain ⟨r, hr⟩ : ∃ r, decide (¬ sl = 0) = r := ⟨_, rfl⟩
  have hr2 : (sl != 0) = r := by rw [← hr]; by_cases e : sl = 0 <;> simp [e]
  rw [hr]
  clear hr
  go_enter Tryz.func197, Tryz.ntmps197
  go_wp2_with fail
  refine (rend_any n _).mono ?_
  rintro e w1 ⟨rfl, hw1⟩
  rw [hw1, HE.out]
  clear hw1 w1 HE
  go_wp2
  go_ret
  exact ⟨rfl, HN.out⟩
/-- What ahead answers is what look does. -/
theorem rwl_ahead (w : World) (mb xb : Nat) (bk fr : Int) (wh : Bool) (nx : Int) (n : Int) (st : Nat) (src own sl pend : Int) (h : w.heap[mb]? = some (.cells (rwlA xb bk fr wh true nx sl false 0) 237)) (ho : (wh = true ∧ own = 4097 + bk ∧ 0 ≤ bk ∧ bk ≤ 1000) ∨ (wh = false ∧ own = 0)) : Calls Tryz.prog 197 #[.pointer (some ⟨mb, 0, none⟩), .int .i64 n] w fun e w' => e = .returned (.bool (lookW ⟨st, src, own, sl, pend, false, 0⟩ n).1) ∧ RwlH w' mb xb (lookW ⟨st, src, own, sl, pend, false, 0⟩ n).2 ∧ Keeps (fun g => g = mb) w w' := by
  unfold lookW
  dsimp only
  by_cases h0 : n = 0
  · rw [if_pos h0]
    refine (rwl_ahead0 w mb xb bk fr wh true nx sl n h h0).mono ?_
    rintro e w' ⟨rfl, h2, k2⟩
    exact ⟨rfl, ⟨bk, fr, wh, true, n, h2, fun e => absurd e (show ¬ 3 = 0 by decide), fun e => absurd e (show ¬ 3 = 1 by decide), fun e => absurd e (show ¬ 3 = 2 by decide)⟩, k2⟩
  · rw [if_neg h0]
    by_cases h1 : 4096 < n
    · rw [if_pos h1]
      rcases ho with ⟨hw, ho, hb⟩ | ⟨hw, ho⟩
      · have hown : ¬ own = 0 := by omega
        by_cases h3 : n = 4097 + bk
        · rw [if_neg (fun e => e.2 (by rw [ho]; exact h3))]
          refine (rwl_ahead2 w mb xb bk fr wh true nx sl n h h0 h1 hw hb h3).mono ?_
          rintro e w' ⟨rfl, h2, k2⟩
          exact ⟨rfl, ⟨bk, fr, wh, true, n, h2, fun e => absurd e (show ¬ 3 = 0 by decide), fun e => absurd e (show ¬ 3 = 1 by decide), fun e => absurd e (show ¬ 3 = 2 by decide)⟩, k2⟩
        · rw [if_pos ⟨hown, fun e => h3 (by rw [← ho]; exact e)⟩]
          refine (rwl_ahead1 w mb xb bk fr wh true nx sl n h h0 h1 hw hb h3).mono ?_
          rintro e w' ⟨rfl, h2, k2⟩
          exact ⟨rfl, ⟨bk, fr, wh, true, n, h2, fun e => absurd e (show ¬ 3 = 0 by decide), fun e => absurd e (show ¬ 3 = 1 by decide), fun e => absurd e (show ¬ 3 = 2 by decide)⟩, k2⟩
      · rw [if_neg (fun e => e.1 ho)]
        refine (rwl_ahead3 w mb xb bk fr wh true nx sl n h h0 h1 hw).mono ?_
        rintro e w' ⟨rfl, h2, k2⟩
        exact ⟨rfl, ⟨bk, fr, wh, true, n, h2, fun e => absurd e (show ¬ 3 = 0 by decide), fun e => absurd e (show ¬ 3 = 1 by decide), fun e => absurd e (show ¬ 3 = 2 by decide)⟩, k2⟩
    · rw [if_neg h1]
      refine (rwl_ahead4 w mb xb bk fr wh true nx sl n h h0 h1).mono ?_
      rintro e w' ⟨rfl, h2, k2⟩
      exact ⟨rfl, ⟨bk, fr, wh, true, n, h2, fun e => absurd e (show ¬ 2 = 0 by decide), fun e => absurd e (show ¬ 2 = 1 by decide), fun _ => ⟨rfl, rfl, ho⟩⟩, k2⟩
end Go.Proofs.YtdjklcmkcccpeaaGreat
