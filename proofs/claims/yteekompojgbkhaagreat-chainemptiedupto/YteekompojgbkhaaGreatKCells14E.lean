import Derived.Test.YteekompojgbkhaaGreatKCells12E
import Derived.Test.YteekompojgbkhaaGreatKCells3E
namespace Go.Proofs.YteekompojgbkhaaGreat
open Go.ChangeShapes Go.WideShapes Go.ChangeAt Go.RowKit Go.MuLone Go.RwLone
set_option linter.unusedVariables false
set_option maxRecDepth 100000
set_option maxHeartbeats 1600000
theorem Keeps.fresh {B : Nat → Prop} {w w' : World} (h : Keeps (fun k => B k ∨ w.heap.size ≤ k) w w') : Keeps B w w' :=
  ⟨h.os, h.tape, h.output, h.size, fun k hk hn => h.block k hk (fun e => e.elim hn (fun e => by omega))⟩
theorem Keeps.wide {B : Nat → Prop} {w w' : World} (h : Keeps B w w') (n : Nat) : Keeps (fun k => B k ∨ n ≤ k) w w' := h.mono (fun k hk => Or.inl hk)
theorem Holds.notNew {w : World} {L : Lay} {S : AS} (h : Holds w L S) {g : Nat} (hg : w.heap.size ≤ g) : ¬ L.has g := by
  have h1 := h.lb; have h2 := h.ls; have h3 := h.lu; have h4 := h.lq
  intro e
  rcases e with e | e | e | e <;> omega
theorem cell?_new (w : World) (v : Value) (t : TypeId) : (w.alloc (.cells #[v] t)).cell? ⟨w.heap.size, 0, none⟩ = some v := (cell?_heap (heap_alloc_new w _) 0).trans rfl
theorem frozen?_new (w : World) (v : Value) (t : TypeId) : (w.alloc (.cells #[v] t)).frozen? ⟨w.heap.size, 0, none⟩ = false := frozen?_heap (heap_alloc_new w _) 0
theorem load1_any (a : Addr) (g : Nat) (x : Int) (u : Value) (w : World) (h1 : w.cell? a = some (.int .u64 x)) (h2 : w.cell? ⟨g, 0, none⟩ = some u) (z : w.frozen? ⟨g, 0, none⟩ = false) : Calls Tryz.prog 179 #[.pointer (some a), .pointer (some ⟨g, 0, none⟩)] w fun e w' => e = .returned (.tuple #[]) ∧ w' = w.setCell ⟨g, 0, none⟩ (.int .u64 x) := by
  go_enter Tryz.func179, Tryz.ntmps179
  go_wp2_with fail
  refine (u64_load a x w h1).mono ?_
  rintro e w' ⟨rfl, rfl⟩
  go_wp2
  exact ⟨rfl, .tuple #[], by simp [results, Tryz.results179], rfl, rfl⟩
theorem store1_any (a : Addr) (g : Nat) (y : Int) (u : Value) (w : World) (h1 : w.cell? a = some u) (z : w.frozen? a = false) (h2 : w.cell? ⟨g, 0, none⟩ = some (.int .u64 y)) : Calls Tryz.prog 222 #[.pointer (some a), .pointer (some ⟨g, 0, none⟩)] w fun e w' => e = .returned (.tuple #[]) ∧ w' = w.setCell a (.int .u64 y) := by
  go_enter Tryz.func222, Tryz.ntmps222
  go_wp2_with fail
  refine (u64_store a u y w h1 z).mono ?_
  rintro e w' ⟨rfl, rfl⟩
  go_wp2
  exact ⟨rfl, .tuple #[], by simp [results, Tryz.results222], rfl, rfl⟩
theorem load_ok (L : Lay) (S : AS) (w : World) (k j : Nat) (h : Holds w L S) (hr : S.rc = 0) (hk : k < S.n) (hu : S.use k = true) (hj : j < S.wd) : Calls Tryz.prog 135 #[.pointer (some ⟨L.b, 0, none⟩), .int .i64 ((k : Int) + 1), .int .i64 (j : Int)] w fun e w' => e = .returned (.tuple #[.int .u64 (S.word (k * S.wd + j)), .int .i64 0]) ∧ Holds w' L { S with rc := 0, acc := wrap64 (S.acc + 1) } ∧ Keeps L.has w w' := by
  have hN : k * S.wd + S.wd ≤ S.n * S.wd := by rw [← Nat.succ_mul]; exact Nat.mul_le_mul_right _ hk
  have HA : Hid (∀ W, W = w.alloc (.cells #[.int .u64 0] 104) → Calls Tryz.prog 178 #[.pointer (some ⟨L.b, 0, none⟩), .int .i64 ((k : Int) + 1), .int .i64 (j : Int), .func (.func 179) #[] #[.pointer (some ⟨w.heap.size, 0, none⟩)]] W fun e w' => e = .returned (.int .i64 0) ∧ Hid (Holds w' L { S with rc := 0, acc := wrap64 (S.acc + 1) } ∧ Keeps L.has w w') ∧ w'.cell? ⟨w.heap.size, 0, none⟩ = some (.int .u64 (S.word (k * S.wd + j)))) := by
    rintro W rfl
    refine (access_load L S _ k j _ S.word (fun k => L.has k ∨ w.heap.size ≤ k) (fun W => w.heap.size < W.heap.size ∧ W.cell? ⟨w.heap.size, 0, none⟩ = some (.int .u64 (S.word (k * S.wd + j)))) (h.alloc _) hr hk hu hj (fun k => Or.inl) ?_ ?_).mono ?_
    · rintro W W' hK ⟨x1, x2⟩
      exact ⟨Nat.lt_of_lt_of_le x1 hK.size, (hK.cell (p := ⟨w.heap.size, 0, none⟩) x1 (h.notNew (Nat.le_refl _))).trans x2⟩
    · intro W hW hK
      have hs : w.heap.size < W.heap.size := Nat.lt_of_lt_of_le (by simp) hK.size
      have q1 : W.cell? ⟨w.heap.size, 0, none⟩ = some (.int .u64 0) := (hK.cell (p := ⟨w.heap.size, 0, none⟩) (by simp) (h.notNew (Nat.le_refl _))).trans (cell?_new w _ _)
      have q2 : W.frozen? ⟨w.heap.size, 0, none⟩ = false := (hK.frozen (p := ⟨w.heap.size, 0, none⟩) (by simp) (h.notNew (Nat.le_refl _))).trans (frozen?_new w _ _)
      refine (load1_any _ w.heap.size _ _ W (hW.wo (k * S.wd + j) (by show _ < S.n * S.wd; omega)) q1 q2).mono ?_
      rintro e w' ⟨rfl, rfl⟩
      refine ⟨rfl, hW.far (p := ⟨w.heap.size, 0, none⟩) (h.notNew (Nat.le_refl _)) _, (Keeps.refl _ _).setCell (p := ⟨w.heap.size, 0, none⟩) (Or.inr (Nat.le_refl _)) _, ?_, World.cell?_setCell_same _ _ _ q1⟩
      show _ < (W.setCell _ _).heap.size
      simpa using hs
    · rintro e w' ⟨rfl, h1, k1, _, x1⟩
      exact ⟨rfl, ⟨h1, ((((Keeps.refl L.has w).alloc _).wide w.heap.size).trans k1).fresh⟩, x1⟩
  clear h hN
  go_enter Tryz.func135, Tryz.ntmps135
  go_wp2_with fail
  refine (HA.out _ rfl).mono ?_
  rintro e w' ⟨rfl, HR, x1⟩
  clear HA
  go_wp2
  go_ret2
  exact ⟨rfl, HR.out⟩
theorem load_no (L : Lay) (S : AS) (w : World) (x y : Int) (h : Holds w L S) (hr : S.rc = 0) (hx : ¬ S.live x) : Calls Tryz.prog 135 #[.pointer (some ⟨L.b, 0, none⟩), .int .i64 x, .int .i64 y] w fun e w' => e = .returned (.tuple #[.int .u64 0, .int .i64 22]) ∧ Holds w' L { S with rc := 0, miss := wrap64 (S.miss + 1) } ∧ Keeps L.has w w' := by
  have HA : Hid (∀ W, W = w.alloc (.cells #[.int .u64 0] 104) → Calls Tryz.prog 178 #[.pointer (some ⟨L.b, 0, none⟩), .int .i64 x, .int .i64 y, .func (.func 179) #[] #[.pointer (some ⟨w.heap.size, 0, none⟩)]] W fun e w' => e = .returned (.int .i64 22) ∧ Hid (Holds w' L { S with rc := 0, miss := wrap64 (S.miss + 1) } ∧ Keeps L.has w w') ∧ w'.cell? ⟨w.heap.size, 0, none⟩ = some (.int .u64 0)) := by
    rintro W rfl
    refine (access_load_no L S _ x y _ (h.alloc _) hr hx).mono ?_
    rintro e w' ⟨rfl, h1, k1⟩
    exact ⟨rfl, ⟨h1, ((Keeps.refl L.has w).alloc _).trans k1⟩, (k1.cell (p := ⟨w.heap.size, 0, none⟩) (by simp) (h.notNew (Nat.le_refl _))).trans (cell?_new w _ _)⟩
  clear h
  go_enter Tryz.func135, Tryz.ntmps135
  go_wp2_with fail
  refine (HA.out _ rfl).mono ?_
  rintro e w' ⟨rfl, HR, x1⟩
  clear HA
  go_wp2
  go_ret2
  exact ⟨rfl, HR.out⟩
theorem store_ok (L : Lay) (S : AS) (w : World) (k j : Nat) (y : Int) (h : Holds w L S) (hr : S.rc = 0) (hk : k < S.n) (hu : S.use k = true) (hj : j < S.wd) : Calls Tryz.prog 215 #[.pointer (some ⟨L.b, 0, none⟩), .int .i64 ((k : Int) + 1), .int .i64 (j : Int), .int .u64 y] w fun e w' => e = .returned (.int .i64 0) ∧ Holds w' L { S with rc := 0, acc := wrap64 (S.acc + 1), word := upd S.word (k * S.wd + j) y } ∧ Keeps L.has w w' := by
  have hN : k * S.wd + S.wd ≤ S.n * S.wd := by rw [← Nat.succ_mul]; exact Nat.mul_le_mul_right _ hk
  have HA : Hid (∀ W, W = w.alloc (.cells #[.int .u64 y] 104) → Calls Tryz.prog 178 #[.pointer (some ⟨L.b, 0, none⟩), .int .i64 ((k : Int) + 1), .int .i64 (j : Int), .func (.func 222) #[] #[.pointer (some ⟨w.heap.size, 0, none⟩)]] W fun e w' => e = .returned (.int .i64 0) ∧ Hid (Holds w' L { S with rc := 0, acc := wrap64 (S.acc + 1), word := upd S.word (k * S.wd + j) y } ∧ Keeps L.has w w')) := by
    rintro W rfl
    refine (access_store L S _ k j _ (upd S.word (k * S.wd + j) y) L.has (fun _ => True) (h.alloc _) hr hk hu hj (fun k h => h) (fun _ _ _ _ => trivial) ?_).mono ?_
    · intro W hW hK
      have q1 : W.cell? ⟨w.heap.size, 0, none⟩ = some (.int .u64 y) := (hK.cell (p := ⟨w.heap.size, 0, none⟩) (by simp) (h.notNew (Nat.le_refl _))).trans (cell?_new w _ _)
      refine (store1_any _ w.heap.size _ _ W (hW.wo (k * S.wd + j) (by show _ < S.n * S.wd; omega)) (hW.fz _ _ (Or.inr (Or.inr (Or.inl rfl)))) q1).mono ?_
      rintro e w' ⟨rfl, rfl⟩
      exact ⟨rfl, hW.setWord _ y, (Keeps.refl _ _).setCell (Or.inr (Or.inr (Or.inl rfl))) _, trivial⟩
    · rintro e w' ⟨rfl, h1, k1, _⟩
      exact ⟨rfl, h1, ((Keeps.refl L.has w).alloc _).trans k1⟩
  clear h hN
  go_enter Tryz.func215, Tryz.ntmps215
  go_wp2_with fail
  refine (HA.out _ rfl).mono ?_
  rintro e w' ⟨rfl, HR⟩
  clear HA
  go_wp2
  go_ret
  exact ⟨rfl, HR.out⟩
theorem store_no (L : Lay) (S : AS) (w : World) (x z y : Int) (h : Holds w L S) (hr : S.rc = 0) (hx : ¬ S.live x) : Calls Tryz.prog 215 #[.pointer (some ⟨L.b, 0, none⟩), .int .i64 x, .int .i64 z, .int .u64 y] w fun e w' => e = .returned (.int .i64 22) ∧ Holds w' L { S with rc := 0, miss := wrap64 (S.miss + 1) } ∧ Keeps L.has w w' := by
  have HA : Hid (∀ W, W = w.alloc (.cells #[.int .u64 y] 104) → Calls Tryz.prog 178 #[.pointer (some ⟨L.b, 0, none⟩), .int .i64 x, .int .i64 z, .func (.func 222) #[] #[.pointer (some ⟨w.heap.size, 0, none⟩)]] W fun e w' => e = .returned (.int .i64 22) ∧ Hid (Holds w' L { S with rc := 0, miss := wrap64 (S.miss + 1) } ∧ Keeps L.has w w')) := by
    rintro W rfl
    refine (access_store_no L S _ x z _ (h.alloc _) hr hx).mono ?_
    rintro e w' ⟨rfl, h1, k1⟩
    exact ⟨rfl, h1, ((Keeps.refl L.has w).alloc _).trans k1⟩
  clear h
  go_enter Tryz.func215, Tryz.ntmps215
  go_wp2_with fail
  refine (HA.out _ rfl).mono ?_
  rintro e w' ⟨rfl, HR⟩
  clear HA
  go_wp2
  go_ret
  exact ⟨rfl, HR.out⟩
end Go.Proofs.YteekompojgbkhaaGreat

namespace Go.Proofs.YteekompojgbkhaaGreat
open Go.ChangeShapes Go.WideShapes Go.ChangeAt Go.RowKit Go.MuLone Go.RwLone
set_option linter.unusedVariables false
set_option maxRecDepth 100000
set_option maxHeartbeats 1600000
theorem cas1_hit (a : Addr) (g1 g2 g3 : Nat) (x y : Int) (u : Value) (w : World) (h1 : w.cell? a = some (.int .u64 x)) (z : w.frozen? a = false) (q1 : w.cell? ⟨g1, 0, none⟩ = some (.int .u64 x)) (q2 : w.cell? ⟨g2, 0, none⟩ = some (.int .u64 y)) (q3 : w.cell? ⟨g3, 0, none⟩ = some u) (z3 : w.frozen? ⟨g3, 0, none⟩ = false) (ha : a.block ≠ g3) : Calls Tryz.prog 225 #[.pointer (some a), .pointer (some ⟨g1, 0, none⟩), .pointer (some ⟨g2, 0, none⟩), .pointer (some ⟨g3, 0, none⟩)] w fun e w' => e = .returned (.tuple #[]) ∧ w' = (w.setCell a (.int .u64 y)).setCell ⟨g3, 0, none⟩ (.bool true) := by
  have q3' : (w.setCell a (.int .u64 y)).cell? ⟨g3, 0, none⟩ = some u := (World.cell?_setCell_other _ _ _ _ (fun e => ha (congrArg Addr.block e))).trans q3
  have z3' : (w.setCell a (.int .u64 y)).frozen? ⟨g3, 0, none⟩ = false := by simpa using z3
  go_enter Tryz.func225, Tryz.ntmps225
  go_wp2_with fail
  refine (u64_cas_hit a x y w h1 z).mono ?_
  rintro e w' ⟨rfl, rfl⟩
  go_wp2
  exact ⟨rfl, .tuple #[], by simp [results, Tryz.results225], rfl, rfl⟩
theorem cas1_miss (a : Addr) (g1 g2 g3 : Nat) (x v y : Int) (u : Value) (w : World) (h1 : w.cell? a = some (.int .u64 x)) (z : w.frozen? a = false) (q1 : w.cell? ⟨g1, 0, none⟩ = some (.int .u64 v)) (q2 : w.cell? ⟨g2, 0, none⟩ = some (.int .u64 y)) (q3 : w.cell? ⟨g3, 0, none⟩ = some u) (z3 : w.frozen? ⟨g3, 0, none⟩ = false) (hne : ¬ x = v) : Calls Tryz.prog 225 #[.pointer (some a), .pointer (some ⟨g1, 0, none⟩), .pointer (some ⟨g2, 0, none⟩), .pointer (some ⟨g3, 0, none⟩)] w fun e w' => e = .returned (.tuple #[]) ∧ w' = w.setCell ⟨g3, 0, none⟩ (.bool false) := by
  go_enter Tryz.func225, Tryz.ntmps225
  go_wp2_with fail
  refine (u64_cas_miss a x v y w h1 z hne).mono ?_
  rintro e w' ⟨rfl, rfl⟩
  go_wp2
  exact ⟨rfl, .tuple #[], by simp [results, Tryz.results225], rfl, rfl⟩
/-- The world in which CAS calls access. -/
abbrev casW (w : World) (x y : Int) : World := ((w.alloc (.cells #[.int .u64 x] 104)).alloc (.cells #[.int .u64 y] 104)).alloc (.cells #[.bool false] 4)
theorem casW_keeps (w : World) (x y : Int) (B : Nat → Prop) : Keeps B w (casW w x y) := (((Keeps.refl B w).alloc _).alloc _).alloc _
theorem casW_cells (w : World) (x y : Int) : (casW w x y).cell? ⟨w.heap.size, 0, none⟩ = some (.int .u64 x) ∧ (casW w x y).cell? ⟨w.heap.size + 1, 0, none⟩ = some (.int .u64 y) ∧ (casW w x y).cell? ⟨w.heap.size + 1 + 1, 0, none⟩ = some (.bool false) ∧ (casW w x y).frozen? ⟨w.heap.size + 1 + 1, 0, none⟩ = false := by
  have e1 : (casW w x y).heap[w.heap.size]? = some (.cells #[.int .u64 x] 104) := (Below.heap_alloc _ _ _ (by simp; omega)).trans ((Below.heap_alloc _ _ _ (by simp)).trans (heap_alloc_last _ _ _ rfl))
  have e2 : (casW w x y).heap[w.heap.size + 1]? = some (.cells #[.int .u64 y] 104) := (Below.heap_alloc _ _ _ (by simp)).trans (heap_alloc_last _ _ _ (by simp))
  have e3 : (casW w x y).heap[w.heap.size + 1 + 1]? = some (.cells #[.bool false] 4) := heap_alloc_last _ _ _ (by simp)
  exact ⟨(cell?_heap e1 0).trans rfl, (cell?_heap e2 0).trans rfl, (cell?_heap e3 0).trans rfl, frozen?_heap e3 0⟩
theorem casW_size (w : World) (x y : Int) : (casW w x y).heap.size = w.heap.size + 3 := by simp
theorem cas_any (L : Lay) (S : AS) (w : World) (k j : Nat) (x y : Int) (b : Bool) (wo : Nat → Int) (HB : Hid (b = decide (S.word (k * S.wd + j) = x) ∧ wo = if S.word (k * S.wd + j) = x then upd S.word (k * S.wd + j) y else S.word)) (h : Holds w L S) (hr : S.rc = 0) (hk : k < S.n) (hu : S.use k = true) (hj : j < S.wd) : Calls Tryz.prog 221 #[.pointer (some ⟨L.b, 0, none⟩), .int .i64 ((k : Int) + 1), .int .i64 (j : Int), .int .u64 x, .int .u64 y] w fun e w' => e = .returned (.tuple #[.bool b, .int .i64 0]) ∧ Holds w' L { S with rc := 0, acc := wrap64 (S.acc + 1), word := wo } ∧ Keeps L.has w w' := by
  have hN : k * S.wd + S.wd ≤ S.n * S.wd := by rw [← Nat.succ_mul]; exact Nat.mul_le_mul_right _ hk
  have HA : Hid (∀ W, W = casW w x y → Calls Tryz.prog 178 #[.pointer (some ⟨L.b, 0, none⟩), .int .i64 ((k : Int) + 1), .int .i64 (j : Int), .func (.func 225) #[] #[.pointer (some ⟨w.heap.size, 0, none⟩), .pointer (some ⟨w.heap.size + 1, 0, none⟩), .pointer (some ⟨w.heap.size + 1 + 1, 0, none⟩)]] W fun e w' => e = .returned (.int .i64 0) ∧ Hid (Holds w' L { S with rc := 0, acc := wrap64 (S.acc + 1), word := wo } ∧ Keeps L.has w w') ∧ w'.cell? ⟨w.heap.size + 1 + 1, 0, none⟩ = some (.bool b)) := by
    rintro W rfl
    have hC := casW_cells w x y
    have hZ := casW_size w x y
    have n1 : ¬ L.has (w.heap.size + 1) := h.notNew (by omega)
    have n2 : ¬ L.has (w.heap.size + 1 + 1) := h.notNew (by omega)
    have nu : ∀ g, L.u = g → ¬ w.heap.size ≤ g := fun g e hg => h.notNew (g := L.u) (by omega) (Or.inr (Or.inr (Or.inl rfl)))
    have m2 : w.heap.size ≤ w.heap.size + 1 + 1 := by omega
    refine (access_cas L S (casW w x y) k j _ _ _ wo (fun k => L.has k ∨ w.heap.size ≤ k) (fun W => w.heap.size + 2 < W.heap.size ∧ W.cell? ⟨w.heap.size + 1 + 1, 0, none⟩ = some (.bool b)) (h.keeps (casW_keeps w x y (fun _ => False)) (fun _ _ e => e)) hr hk hu hj (fun k => Or.inl) ?_ ?_).mono ?_
    · rintro W W' hK ⟨x1, x2⟩
      exact ⟨Nat.lt_of_lt_of_le x1 hK.size, (hK.cell (p := ⟨w.heap.size + 1 + 1, 0, none⟩) x1 n2).trans x2⟩
    · intro W hW hK
      have hs : w.heap.size + 2 < W.heap.size := Nat.lt_of_lt_of_le (by omega) hK.size
      have q1 := (hK.cell (p := ⟨w.heap.size, 0, none⟩) (by show _ < (casW w x y).heap.size; simp only []; omega) (h.notNew (Nat.le_refl _))).trans hC.1
      have q2 := (hK.cell (p := ⟨w.heap.size + 1, 0, none⟩) (by show _ < (casW w x y).heap.size; simp only []; omega) n1).trans hC.2.1
      have q3 := (hK.cell (p := ⟨w.heap.size + 1 + 1, 0, none⟩) (by show _ < (casW w x y).heap.size; simp only []; omega) n2).trans hC.2.2.1
      have q4 := (hK.frozen (p := ⟨w.heap.size + 1 + 1, 0, none⟩) (by show _ < (casW w x y).heap.size; simp only []; omega) n2).trans hC.2.2.2
      have hwo := hW.wo (k * S.wd + j) (by show _ < S.n * S.wd; omega)
      have hfz := hW.fz L.u (k * S.wd + j) (Or.inr (Or.inr (Or.inl rfl)))
      by_cases hx : S.word (k * S.wd + j) = x
      · obtain ⟨rfl, rfl⟩ := HB.out
        subst hx
        refine (cas1_hit _ _ _ _ _ _ _ W hwo hfz q1 q2 q3 q4 (fun e => nu _ e m2)).mono ?_
        rintro e w' ⟨rfl, rfl⟩
        refine ⟨rfl, ?_, (((Keeps.refl _ _).setCell (Or.inl (Or.inr (Or.inr (Or.inl rfl)))) _).setCell (p := ⟨w.heap.size + 1 + 1, 0, none⟩) (Or.inr m2) _), ?_, ?_⟩
        · simp only [if_true]
          exact (hW.setWord _ y).far (p := ⟨w.heap.size + 1 + 1, 0, none⟩) n2 _
        · show _ < ((W.setCell _ _).setCell _ _).heap.size
          simpa using hs
        · rw [decide_eq_true rfl]
          exact World.cell?_setCell_same _ _ _ ((World.cell?_setCell_other _ _ _ _ (fun e => nu _ (congrArg Addr.block e) m2)).trans q3)
      · obtain ⟨rfl, rfl⟩ := HB.out
        refine (cas1_miss _ _ _ _ _ _ _ _ W hwo hfz q1 q2 q3 q4 hx).mono ?_
        rintro e w' ⟨rfl, rfl⟩
        refine ⟨rfl, ?_, (Keeps.refl _ _).setCell (p := ⟨w.heap.size + 1 + 1, 0, none⟩) (Or.inr m2) _, ?_, ?_⟩
        · rw [if_neg hx]
          exact hW.far (p := ⟨w.heap.size + 1 + 1, 0, none⟩) n2 _
        · show _ < (W.setCell _ _).heap.size
          simpa using hs
        · rw [decide_eq_false hx]
          exact World.cell?_setCell_same _ _ _ q3
    · rintro e w' ⟨rfl, h1, k1, _, x1⟩
      exact ⟨rfl, ⟨h1, ((casW_keeps w x y L.has).wide w.heap.size |>.trans k1).fresh⟩, x1⟩
  clear h hN HB
  go_enter Tryz.func221, Tryz.ntmps221
  go_wp2_with fail
  refine (HA.out _ rfl).mono ?_
  rintro e w' ⟨rfl, HR, x1⟩
  clear HA
  go_wp2
  go_ret2
  exact ⟨rfl, HR.out⟩
theorem cas_no (L : Lay) (S : AS) (w : World) (u v x y : Int) (h : Holds w L S) (hr : S.rc = 0) (hx : ¬ S.live u) : Calls Tryz.prog 221 #[.pointer (some ⟨L.b, 0, none⟩), .int .i64 u, .int .i64 v, .int .u64 x, .int .u64 y] w fun e w' => e = .returned (.tuple #[.bool false, .int .i64 22]) ∧ Holds w' L { S with rc := 0, miss := wrap64 (S.miss + 1) } ∧ Keeps L.has w w' := by
  have HA : Hid (∀ W, W = casW w x y → Calls Tryz.prog 178 #[.pointer (some ⟨L.b, 0, none⟩), .int .i64 u, .int .i64 v, .func (.func 225) #[] #[.pointer (some ⟨w.heap.size, 0, none⟩), .pointer (some ⟨w.heap.size + 1, 0, none⟩), .pointer (some ⟨w.heap.size + 1 + 1, 0, none⟩)]] W fun e w' => e = .returned (.int .i64 22) ∧ Hid (Holds w' L { S with rc := 0, miss := wrap64 (S.miss + 1) } ∧ Keeps L.has w w') ∧ w'.cell? ⟨w.heap.size + 1 + 1, 0, none⟩ = some (.bool false)) := by
    rintro W rfl
    have hZ := casW_size w x y
    have n2 : ¬ L.has (w.heap.size + 1 + 1) := h.notNew (by omega)
    refine (access_cas_no L S (casW w x y) u v _ _ _ (h.keeps (casW_keeps w x y (fun _ => False)) (fun _ _ e => e)) hr hx).mono ?_
    rintro e w' ⟨rfl, h1, k1⟩
    exact ⟨rfl, ⟨h1, (casW_keeps w x y L.has).trans k1⟩, (k1.cell (p := ⟨w.heap.size + 1 + 1, 0, none⟩) (by show _ < (casW w x y).heap.size; simp only []; omega) n2).trans (casW_cells w x y).2.2.1⟩
  clear h
  go_enter Tryz.func221, Tryz.ntmps221
  go_wp2_with fail
  refine (HA.out _ rfl).mono ?_
  rintro e w' ⟨rfl, HR, x1⟩
  clear HA
  go_wp2
  go_ret2
  exact ⟨rfl, HR.out⟩
end Go.Proofs.YteekompojgbkhaaGreat
