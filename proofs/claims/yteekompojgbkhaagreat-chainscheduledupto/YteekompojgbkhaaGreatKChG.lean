import Derived.Test.YteekompojgbkhaaGreatKChD
namespace Go.Proofs.YteekompojgbkhaaGreat
open Go.ChangeShapes Go.WideShapes Go.ChangeAt Go.RowKit Go.MuLone Go.RwLone
set_option linter.unusedVariables false
set_option maxRecDepth 100000
set_option maxHeartbeats 3200000
/-- A Walk, plain. st 0: the head is to be loaded, 1: the source's link, 2: the pending one's, 3: it has ended. -/
structure MW where
  st : Nat
  src : Int
  own : Int
  slot : Int
  pend : Int
  ended : Bool
  code : Int
def wlkF : Nat → Nat
  | 0 => 46
  | 1 => 185
  | 2 => 133
  | _ => 177
abbrev wlkA (mb xb f : Nat) (src own slot pend : Int) (ended : Bool) (code : Int) : Array Value := #[.pointer (some ⟨xb, 0, none⟩), nxV f mb, .int .i64 src, .int .i64 own, .int .i64 slot, .int .i64 pend, .bool ended, .int .i64 code]
abbrev wlkC (mb xb : Nat) (m : MW) : Array Value := wlkA mb xb (wlkF m.st) m.src m.own m.slot m.pend m.ended m.code
def WlkH (w : World) (mb xb : Nat) (m : MW) : Prop := w.heap[mb]? = some (.cells (wlkC mb xb m) 94)
def endW (m : MW) (e : Int) : MW := { m with ended := true, code := e, st := 3 }
def failW (m : MW) (e : Int) : MW := endW { m with slot := 0 } e
def lookW (m : MW) (n : Int) : Bool × MW := if n = 0 then (true, failW m 42) else if 4096 < n then (if m.own ≠ 0 ∧ n ≠ m.own then (true, endW m 43) else (true, endW m 0)) else (decide (¬ m.slot = 0), { m with pend := n, st := 2 })
theorem wlk_cells {w : World} {mb xb f : Nat} {src own slot pend code : Int} {ended : Bool} (h : w.heap[mb]? = some (.cells (wlkA mb xb f src own slot pend ended code) 94)) : w.cell? ⟨mb, 0, none⟩ = some (.pointer (some ⟨xb, 0, none⟩)) ∧ w.cell? ⟨mb, 1, none⟩ = some (nxV f mb) ∧ w.cell? ⟨mb, 2, none⟩ = some (.int .i64 src) ∧ w.cell? ⟨mb, 3, none⟩ = some (.int .i64 own) ∧ w.cell? ⟨mb, 4, none⟩ = some (.int .i64 slot) ∧ w.cell? ⟨mb, 5, none⟩ = some (.int .i64 pend) ∧ w.cell? ⟨mb, 6, none⟩ = some (.bool ended) ∧ w.cell? ⟨mb, 7, none⟩ = some (.int .i64 code) := ⟨(cell?_heap h 0).trans rfl, (cell?_heap h 1).trans rfl, (cell?_heap h 2).trans rfl, (cell?_heap h 3).trans rfl, (cell?_heap h 4).trans rfl, (cell?_heap h 5).trans rfl, (cell?_heap h 6).trans rfl, (cell?_heap h 7).trans rfl⟩
theorem setK {w w' : World} {b j : Nat} {v : Value} (k : Keeps (fun g => g = b) w w') : Keeps (fun g => g = b) w (w'.setCell ⟨b, j, none⟩ v) := Keeps.setCell (B := fun g => g = b) k rfl _
theorem wlk_end (w : World) (mb xb f : Nat) (src own slot pend : Int) (ended : Bool) (code : Int) (c : Int) (h : w.heap[mb]? = some (.cells (wlkA mb xb f src own slot pend ended code) 94)) : Calls Tryz.prog 131 #[.pointer (some ⟨mb, 0, none⟩), .int .i64 c] w fun e w' => e = .returned (.bool true) ∧ w'.heap[mb]? = some (.cells (wlkA mb xb 177 src own slot pend true c) 94) ∧ Keeps (fun g => g = mb) w w' := by
  obtain ⟨-, c1, -, -, -, -, c6, c7⟩ := wlk_cells h
  have f1 := frozen?_heap h 1
  have f6 := frozen?_heap h 6
  have f7 := frozen?_heap h 7
  have HN : Hid ((((w.setCell ⟨mb, 6, none⟩ (.bool true)).setCell ⟨mb, 7, none⟩ (.int .i64 c)).setCell ⟨mb, 1, none⟩ (nxV 177 mb)).heap[mb]? = some (.cells (wlkA mb xb 177 src own slot pend true c) 94) ∧ Keeps (fun g => g = mb) w (((w.setCell ⟨mb, 6, none⟩ (.bool true)).setCell ⟨mb, 7, none⟩ (.int .i64 c)).setCell ⟨mb, 1, none⟩ (nxV 177 mb))) := ⟨heapSetC (heapSetC (heapSetC h 6 _) 7 _) 1 _, setK (setK (setK (Keeps.refl _ _)))⟩
  clear h
  go_enter Tryz.func131, Tryz.ntmps131
  go_wp2
  go_ret
  exact ⟨rfl, HN.out⟩
theorem wlk_fail (w : World) (mb xb f : Nat) (src own slot pend : Int) (ended : Bool) (code : Int) (c : Int) (h : w.heap[mb]? = some (.cells (wlkA mb xb f src own slot pend ended code) 94)) : Calls Tryz.prog 84 #[.pointer (some ⟨mb, 0, none⟩), .int .i64 c] w fun e w' => e = .returned (.bool true) ∧ w'.heap[mb]? = some (.cells (wlkA mb xb 177 src own 0 pend true c) 94) ∧ Keeps (fun g => g = mb) w w' := by
  obtain ⟨-, -, -, -, c4, -, -, -⟩ := wlk_cells h
  have f4 := frozen?_heap h 4
  have HN : Hid ((w.setCell ⟨mb, 4, none⟩ (.int .i64 0)).heap[mb]? = some (.cells (wlkA mb xb f src own 0 pend ended code) 94) ∧ Keeps (fun g => g = mb) w (w.setCell ⟨mb, 4, none⟩ (.int .i64 0))) := ⟨heapSetC h 4 _, setK (Keeps.refl _ _)⟩
  clear h
  go_enter Tryz.func84, Tryz.ntmps84
  go_wp2_with fail
  clear c4 f4
  generalize w.setCell ⟨mb, 4, none⟩ (.int .i64 0) = w1 at *
  refine (wlk_end w1 mb xb f src own 0 pend ended code c HN.out.1).mono ?_
  rintro e w2 ⟨rfl, h2, k2⟩
  have H2 : Hid (w2.heap[mb]? = some (.cells (wlkA mb xb 177 src own 0 pend true c) 94) ∧ Keeps (fun g => g = mb) w w2) := ⟨h2, HN.out.2.trans k2⟩
  clear h2 k2 HN
  go_wp2
  go_ret
  exact ⟨rfl, H2.out⟩
theorem wlk_leave (w : World) (mb xb f : Nat) (src own slot pend : Int) (ended : Bool) (code : Int) (h : w.heap[mb]? = some (.cells (wlkA mb xb f src own slot pend ended code) 94)) : Calls Tryz.prog 177 #[.pointer (some ⟨mb, 0, none⟩)] w fun e w' => e = .returned (.bool true) ∧ w'.heap[mb]? = some (.cells (wlkA mb xb f src own 0 pend ended code) 94) ∧ Keeps (fun g => g = mb) w w' := by
  obtain ⟨-, -, -, -, c4, -, -, -⟩ := wlk_cells h
  have f4 := frozen?_heap h 4
  have HN : Hid ((w.setCell ⟨mb, 4, none⟩ (.int .i64 0)).heap[mb]? = some (.cells (wlkA mb xb f src own 0 pend ended code) 94) ∧ Keeps (fun g => g = mb) w (w.setCell ⟨mb, 4, none⟩ (.int .i64 0))) := ⟨heapSetC h 4 _, setK (Keeps.refl _ _)⟩
  clear h
  go_enter Tryz.func177, Tryz.ntmps177
  go_wp2
  go_ret
  exact ⟨rfl, HN.out⟩
theorem wlk_look0 (w : World) (mb xb f : Nat) (src own slot pend : Int) (ended : Bool) (code : Int) (n : Int) (h : w.heap[mb]? = some (.cells (wlkA mb xb f src own slot pend ended code) 94)) (hn : n = 0) : Calls Tryz.prog 86 #[.pointer (some ⟨mb, 0, none⟩), .int .i64 n] w fun e w' => e = .returned (.bool true) ∧ w'.heap[mb]? = some (.cells (wlkA mb xb 177 src own 0 pend true 42) 94) ∧ Keeps (fun g => g = mb) w w' := by
  have c3 := (wlk_cells h).2.2.2.1
  have HH : Hid (w.heap[mb]? = some (.cells (wlkA mb xb f src own slot pend ended code) 94)) := h
  subst hn
  clear h
  go_enter Tryz.func86, Tryz.ntmps86
  go_wp2_with fail
  clear c3
  refine (wlk_fail w mb xb f src own slot pend ended code 42 HH.out).mono ?_
  rintro e w2 ⟨rfl, h2, k2⟩
  have H2 : Hid (w2.heap[mb]? = some (.cells (wlkA mb xb 177 src own 0 pend true 42) 94) ∧ Keeps (fun g => g = mb) w w2) := ⟨h2, k2⟩
  clear h2 k2 HH
  go_wp2
  go_ret
  exact ⟨rfl, H2.out⟩
theorem wlk_look1 (w : World) (mb xb f : Nat) (src own slot pend : Int) (ended : Bool) (code : Int) (n : Int) (h : w.heap[mb]? = some (.cells (wlkA mb xb f src own slot pend ended code) 94)) (hn : ¬ n = 0) (hE : 4096 < n) (ho : ¬ own = 0) (hne : ¬ n = own) : Calls Tryz.prog 86 #[.pointer (some ⟨mb, 0, none⟩), .int .i64 n] w fun e w' => e = .returned (.bool true) ∧ w'.heap[mb]? = some (.cells (wlkA mb xb 177 src own slot pend true 43) 94) ∧ Keeps (fun g => g = mb) w w' := by
  have c3 := (wlk_cells h).2.2.2.1
  have HH : Hid (w.heap[mb]? = some (.cells (wlkA mb xb f src own slot pend ended code) 94)) := h
  clear h
  have ho2 : (own != 0) = true := by simp [ho]
  have hne2 : (n != own) = true := by simp [hne]
  go_enter Tryz.func86, Tryz.ntmps86
  go_wp2_with fail
  refine (is_end n w).mono ?_
  rintro e w1 ⟨rfl, hw1⟩
  rw [hw1, decide_eq_true hE]
  clear hw1 w1
  go_wp2_with fail
  clear c3
  refine (wlk_end _ mb xb f src own slot pend ended code 43 HH.out).mono ?_
  rintro e w2 ⟨rfl, h2, k2⟩
  have H2 : Hid (w2.heap[mb]? = some (.cells (wlkA mb xb 177 src own slot pend true 43) 94) ∧ Keeps (fun g => g = mb) w w2) := ⟨h2, k2⟩
  clear h2 k2 HH
  go_wp2
  go_ret
  exact ⟨rfl, H2.out⟩
theorem wlk_look2 (w : World) (mb xb f : Nat) (src own slot pend : Int) (ended : Bool) (code : Int) (n : Int) (h : w.heap[mb]? = some (.cells (wlkA mb xb f src own slot pend ended code) 94)) (hn : ¬ n = 0) (hE : 4096 < n) (ho : own = 0) : Calls Tryz.prog 86 #[.pointer (some ⟨mb, 0, none⟩), .int .i64 n] w fun e w' => e = .returned (.bool true) ∧ w'.heap[mb]? = some (.cells (wlkA mb xb 177 src own slot pend true 0) 94) ∧ Keeps (fun g => g = mb) w w' := by
  have c3 := (wlk_cells h).2.2.2.1
  have HH : Hid (w.heap[mb]? = some (.cells (wlkA mb xb f src own slot pend ended code) 94)) := h
  clear h
  have ho2 : (own != 0) = false := by simp [ho]
  clear ho
  go_enter Tryz.func86, Tryz.ntmps86
  go_wp2_with fail
  refine (is_end n w).mono ?_
  rintro e w1 ⟨rfl, hw1⟩
  rw [hw1, decide_eq_true hE]
  clear hw1 w1
  go_wp2_with fail
  refine (is_end n w).mono ?_
  rintro e w1 ⟨rfl, hw1⟩
  rw [hw1, decide_eq_true hE]
  clear hw1 w1
  go_wp2_with fail
  clear c3
  refine (wlk_end _ mb xb f src own slot pend ended code 0 HH.out).mono ?_
  rintro e w2 ⟨rfl, h2, k2⟩
  have H2 : Hid (w2.heap[mb]? = some (.cells (wlkA mb xb 177 src own slot pend true 0) 94) ∧ Keeps (fun g => g = mb) w w2) := ⟨h2, k2⟩
  clear h2 k2 HH
  go_wp2
  go_ret
  exact ⟨rfl, H2.out⟩
theorem wlk_look3 (w : World) (mb xb f : Nat) (src own slot pend : Int) (ended : Bool) (code : Int) (n : Int) (h : w.heap[mb]? = some (.cells (wlkA mb xb f src own slot pend ended code) 94)) (hn : ¬ n = 0) (hE : 4096 < n) (ho : ¬ own = 0) (hne : n = own) : Calls Tryz.prog 86 #[.pointer (some ⟨mb, 0, none⟩), .int .i64 n] w fun e w' => e = .returned (.bool true) ∧ w'.heap[mb]? = some (.cells (wlkA mb xb 177 src own slot pend true 0) 94) ∧ Keeps (fun g => g = mb) w w' := by
  have c3 := (wlk_cells h).2.2.2.1
  have HH : Hid (w.heap[mb]? = some (.cells (wlkA mb xb f src own slot pend ended code) 94)) := h
  clear h
  have ho2 : (own != 0) = true := by simp [ho]
  have hne2 : (n != own) = false := by simp [hne]
  clear hne
  go_enter Tryz.func86, Tryz.ntmps86
  go_wp2_with fail
  refine (is_end n w).mono ?_
  rintro e w1 ⟨rfl, hw1⟩
  rw [hw1, decide_eq_true hE]
  clear hw1 w1
  go_wp2_with fail
  refine (is_end n w).mono ?_
  rintro e w1 ⟨rfl, hw1⟩
  rw [hw1, decide_eq_true hE]
  clear hw1 w1
  go_wp2_with fail
  clear c3
  refine (wlk_end _ mb xb f src own slot pend ended code 0 HH.out).mono ?_
  rintro e w2 ⟨rfl, h2, k2⟩
  have H2 : Hid (w2.heap[mb]? = some (.cells (wlkA mb xb 177 src own slot pend true 0) 94) ∧ Keeps (fun g => g = mb) w w2) := ⟨h2, k2⟩
  clear h2 k2 HH
  go_wp2
  go_ret
  exact ⟨rfl, H2.out⟩
theorem wlk_look4 (w : World) (mb xb f : Nat) (src own slot pend : Int) (ended : Bool) (code : Int) (n : Int) (h : w.heap[mb]? = some (.cells (wlkA mb xb f src own slot pend ended code) 94)) (hn : ¬ n = 0) (hE : ¬ 4096 < n) : Calls Tryz.prog 86 #[.pointer (some ⟨mb, 0, none⟩), .int .i64 n] w fun e w' => e = .returned (.bool (decide (¬ slot = 0))) ∧ w'.heap[mb]? = some (.cells (wlkA mb xb 133 src own slot n ended code) 94) ∧ Keeps (fun g => g = mb) w w' := by
  have c3 := (wlk_cells h).2.2.2.1
  have HH : Hid (w.heap[mb]? = some (.cells (wlkA mb xb f src own slot pend ended code) 94)) := h
  have c5 := (wlk_cells h).2.2.2.2.2.1
  have c1 := (wlk_cells h).2.1
  have c4 := (wlk_cells h).2.2.2.2.1
  have f5 := frozen?_heap h 5
  have f1 := frozen?_heap h 1
  have HN : Hid (((w.setCell ⟨mb, 5, none⟩ (.int .i64 n)).setCell ⟨mb, 1, none⟩ (nxV 133 mb)).heap[mb]? = some (.cells (wlkA mb xb 133 src own slot n ended code) 94) ∧ Keeps (fun g => g = mb) w ((w.setCell ⟨mb, 5, none⟩ (.int .i64 n)).setCell ⟨mb, 1, none⟩ (nxV 133 mb))) := ⟨heapSetC (heapSetC h 5 _) 1 _, setK (setK (Keeps.refl _ _))⟩
  clear h
  have HE : Hid (decide (4096 < n) = false) := decide_eq_false hE
  clear hE
  obtain ⟨r, hr⟩ : ∃ r, decide (¬ slot = 0) = r := ⟨_, rfl⟩
  rw [hr]
  have HR : Hid (decide (¬ slot = 0) = r) := hr
  clear hr
  go_enter Tryz.func86, Tryz.ntmps86
  go_wp2_with fail
  refine (is_end n w).mono ?_
  rintro e w1 ⟨rfl, hw1⟩
  rw [hw1, HE.out]
  clear hw1 w1
  go_wp2_with fail
  refine (is_end n w).mono ?_
  rintro e w2 ⟨rfl, hw2⟩
  rw [hw2, HE.out]
  clear hw2 w2
  by_cases hz : slot = 0
  · have : r = false := by rw [← HR.out]; simp [hz]
    subst this
    clear HR
    go_wp2
    go_ret
    exact ⟨rfl, HN.out⟩
  · have : r = true := by rw [← HR.out]; simp [hz]
    subst this
    have hz2 : (slot != 0) = true := by simp [hz]
    clear HR
    go_wp2
    go_ret
    exact ⟨rfl, HN.out⟩
theorem wlk_look (w : World) (mb xb : Nat) (m : MW) (n : Int) (h : WlkH w mb xb m) : Calls Tryz.prog 86 #[.pointer (some ⟨mb, 0, none⟩), .int .i64 n] w fun e w' => e = .returned (.bool (lookW m n).1) ∧ WlkH w' mb xb (lookW m n).2 ∧ Keeps (fun g => g = mb) w w' := by
  obtain ⟨st, src, own, slot, pend, ended, code⟩ := m
  unfold lookW
  by_cases h0 : n = 0
  · rw [if_pos h0]
    exact wlk_look0 w mb xb _ src own slot pend ended code n h h0
  · rw [if_neg h0]
    by_cases h1 : 4096 < n
    · rw [if_pos h1]
      by_cases h2 : own = 0
      · rw [if_neg (fun e => e.1 h2)]
        exact wlk_look2 w mb xb _ src own slot pend ended code n h h0 h1 h2
      · by_cases h3 : n = own
        · rw [if_neg (fun e => e.2 h3)]
          exact wlk_look3 w mb xb _ src own slot pend ended code n h h0 h1 h2 h3
        · rw [if_pos ⟨h2, h3⟩]
          exact wlk_look1 w mb xb _ src own slot pend ended code n h h0 h1 h2 h3
    · rw [if_neg h1]
      exact wlk_look4 w mb xb _ src own slot pend ended code n h h0 h1
end Go.Proofs.YteekompojgbkhaaGreat
