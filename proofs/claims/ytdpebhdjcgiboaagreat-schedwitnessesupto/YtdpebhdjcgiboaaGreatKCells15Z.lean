import Derived.Test.YtdpebhdjcgiboaaGreatKCells12Z
import Derived.Test.YtdpebhdjcgiboaaGreatKCells9Z
namespace Go.Proofs.YtdpebhdjcgiboaaGreat
open Go.ChangeShapes Go.WideShapes Go.ChangeAt Go.RowKit Go.MuLone Go.RwLone
set_option linter.unusedVariables false
set_option maxRecDepth 100000
set_option maxHeartbeats 1600000
theorem Keeps.fresh {B : Nat → Prop} {w w' : World} (h : Keeps (fun k => B k ∨ w.heap.size ≤ k) w w') : Keeps B w w' :=
  ⟨h.os, h.tape, h.output, h.size, fun k hk hn => h.block k hk (fun e => e.elim hn (fun e => by omega))⟩
theorem Keeps.wide {B : Nat → Prop} {w w' : World} (h : Keeps B w w') (n : Nat) : Keeps (fun k => B k ∨ n ≤ k) w w' := h.mono (fun k hk => Or.inl hk)
theorem Holds.notNew {w : World} {L : Lay} {S : AS} (h : Holds w L S) {g : Nat} (hg : w.heap.size ≤ g) : ¬ L.has g := by
  have h1 := h.lb; have h2 := h.ls; have h3 := h.lu; have h4 := h.lq
  intro e
  rcases e with e | e | e | e <;> omega
theorem cell?_new (w : World) (v : Value) (t : TypeId) : (w.alloc (.cells #[v] t)).cell? ⟨w.heap.size, 0, none⟩ = some v := (cell?_heap (heap_alloc_new w _) 0).trans rfl
theorem frozen?_new (w : World) (v : Value) (t : TypeId) : (w.alloc (.cells #[v] t)).frozen? ⟨w.heap.size, 0, none⟩ = false := frozen?_heap (heap_alloc_new w _) 0
theorem load1_any (a : Addr) (g : Nat) (x : Int) (u : Value) (w : World) (h1 : w.cell? a = some (.int .u64 x)) (h2 : w.cell? ⟨g, 0, none⟩ = some u) (z : w.frozen? ⟨g, 0, none⟩ = false) : Calls Tryz.prog 182 #[.pointer (some a), .pointer (some ⟨g, 0, none⟩)] w fun e w' => e = .returned (.tuple #[]) ∧ w' = w.setCell ⟨g, 0, none⟩ (.int .u64 x) := by
  go_enter Tryz.func182, Tryz.ntmps182
  go_wp2_with fail
  refine (u64_load a x w h1).mono ?_
  rintro e w' ⟨rfl, rfl⟩
  go_wp2
  exact ⟨rfl, .tuple #[], by simp [results, Tryz.results182], rfl, rfl⟩
theorem store1_any (a : Addr) (g : Nat) (y : Int) (u : Value) (w : World) (h1 : w.cell? a = some u) (z : w.frozen? a = false) (h2 : w.cell? ⟨g, 0, none⟩ = some (.int .u64 y)) : Calls Tryz.prog 167 #[.pointer (some a), .pointer (some ⟨g, 0, none⟩)] w fun e w' => e = .returned (.tuple #[]) ∧ w' = w.setCell a (.int .u64 y) := by
  go_enter Tryz.func167, Tryz.ntmps167
  go_wp2_with fail
  refine (u64_store a u y w h1 z).mono ?_
  rintro e w' ⟨rfl, rfl⟩
  go_wp2
  exact ⟨rfl, .tuple #[], by simp [results, Tryz.results167], rfl, rfl⟩
theorem load_ok (L : Lay) (S : AS) (w : World) (k j : Nat) (h : Holds w L S) (hr : S.rc = 0) (hk : k < S.n) (hu : S.use k = true) (hj : j < S.wd) : Calls Tryz.prog 157 #[.pointer (some ⟨L.b, 0, none⟩), .int .i64 ((k : Int) + 1), .int .i64 (j : Int)] w fun e w' => e = .returned (.tuple #[.int .u64 (S.word (k * S.wd + j)), .int .i64 0]) ∧ Holds w' L { S with rc := 0, acc := wrap64 (S.acc + 1) } ∧ Keeps L.has w w' := by
  have hN : k * S.wd + S.wd ≤ S.n * S.wd := by rw [← Nat.succ_mul]; exact Nat.mul_le_mul_right _ hk
  have HA : Hid (∀ W, W = w.alloc (.cells #[.int .u64 0] 55) → Calls Tryz.prog 166 #[.pointer (some ⟨L.b, 0, none⟩), .int .i64 ((k : Int) + 1), .int .i64 (j : Int), .func (.func 182) #[] #[.pointer (some ⟨w.heap.size, 0, none⟩)]] W fun e w' => e = .returned (.int .i64 0) ∧ Hid (Holds w' L { S with rc := 0, acc := wrap64 (S.acc + 1) } ∧ Keeps L.has w w') ∧ w'.cell? ⟨w.heap.size, 0, none⟩ = some (.int .u64 (S.word (k * S.wd + j)))) := by
    rintro W rfl
    refine (access_load L S _ k j _ S.word (fun k => L.has k ∨ w.heap.size ≤ k) (fun W => w.heap.size < W.heap.size ∧ W.cell? ⟨w.heap.size, 0, none⟩ = some (.int .u64 (S.word (k * S.wd + j)))) (h.alloc _) hr hk hu hj (fun k => Or.inl) ?_ ?_).mono ?_
    · rintro W W' hK ⟨x1, x2⟩
      exact ⟨Nat.lt_of_lt_of_le x1 hK.size, (hK.cell (p := ⟨w.heap.size, 0, none⟩) x1 (h.notNew (Nat.le_refl _))).trans x2⟩
    · intro W hW hK
      have hs : w.heap.size < W.heap.size := Nat.lt_of_lt_of_le (by simp) hK.size
      have q1 : W.cell? ⟨w.heap.size, 0, none⟩ = some (.int .u64 0) := (hK.cell (p := ⟨w.heap.size, 0, none⟩) (by simp) (h.notNew (Nat.le_refl _))).trans (cell?_new w _ _)
      have q2 : W.frozen? ⟨w.heap.size, 0, none⟩ = false := (hK.frozen (p := ⟨w.heap.size, 0, none⟩) (by simp) (h.notNew (Nat.le_refl _))).trans (frozen?_new w _ _)
      refine (load1_any _ w.heap.size _ _ W (hW.wo (k * S.wd + j) (by show _ < S.n * S.wd; omega)) q1 q2).mono ?_
      rintro e w' ⟨rfl, rfl⟩
      refine ⟨rfl, hW.far (p := ⟨w.heap.size, 0, none⟩) (h.notNew (Nat.le_refl _)) _, (Keeps.refl _ _).setCell (p := ⟨w.heap.size, 0, none⟩) (Or.inr (Nat.le_refl _)) _, ?_, World.cell?_setCell_same _ _ _ q1⟩
      show _ < (W.setCell _ _).heap.size
      simpa using hs
    · rintro e w' ⟨rfl, h1, k1, _, x1⟩
      exact ⟨rfl, ⟨h1, ((((Keeps.refl L.has w).alloc _).wide w.heap.size).trans k1).fresh⟩, x1⟩
  clear h hN
  go_enter Tryz.func157, Tryz.ntmps157
  go_wp2_with fail
  refine (HA.out _ rfl).mono ?_
  rintro e w' ⟨rfl, HR, x1⟩
  clear HA
  go_wp2
  go_ret2
  exact ⟨rfl, HR.out⟩
theorem store_ok (L : Lay) (S : AS) (w : World) (k j : Nat) (y : Int) (h : Holds w L S) (hr : S.rc = 0) (hk : k < S.n) (hu : S.use k = true) (hj : j < S.wd) : Calls Tryz.prog 123 #[.pointer (some ⟨L.b, 0, none⟩), .int .i64 ((k : Int) + 1), .int .i64 (j : Int), .int .u64 y] w fun e w' => e = .returned (.int .i64 0) ∧ Holds w' L { S with rc := 0, acc := wrap64 (S.acc + 1), word := upd S.word (k * S.wd + j) y } ∧ Keeps L.has w w' := by
  have hN : k * S.wd + S.wd ≤ S.n * S.wd := by rw [← Nat.succ_mul]; exact Nat.mul_le_mul_right _ hk
  have HA : Hid (∀ W, W = w.alloc (.cells #[.int .u64 y] 55) → Calls Tryz.prog 166 #[.pointer (some ⟨L.b, 0, none⟩), .int .i64 ((k : Int) + 1), .int .i64 (j : Int), .func (.func 167) #[] #[.pointer (some ⟨w.heap.size, 0, none⟩)]] W fun e w' => e = .returned (.int .i64 0) ∧ Hid (Holds w' L { S with rc := 0, acc := wrap64 (S.acc + 1), word := upd S.word (k * S.wd + j) y } ∧ Keeps L.has w w')) := by
    rintro W rfl
    refine (access_store L S _ k j _ (upd S.word (k * S.wd + j) y) L.has (fun _ => True) (h.alloc _) hr hk hu hj (fun k h => h) (fun _ _ _ _ => trivial) ?_).mono ?_
    · intro W hW hK
      have q1 : W.cell? ⟨w.heap.size, 0, none⟩ = some (.int .u64 y) := (hK.cell (p := ⟨w.heap.size, 0, none⟩) (by simp) (h.notNew (Nat.le_refl _))).trans (cell?_new w _ _)
      refine (store1_any _ w.heap.size _ _ W (hW.wo (k * S.wd + j) (by show _ < S.n * S.wd; omega)) (hW.fz _ _ (Or.inr (Or.inr (Or.inl rfl)))) q1).mono ?_
      rintro e w' ⟨rfl, rfl⟩
      exact ⟨rfl, hW.setWord _ y, (Keeps.refl _ _).setCell (Or.inr (Or.inr (Or.inl rfl))) _, trivial⟩
    · rintro e w' ⟨rfl, h1, k1, _⟩
      exact ⟨rfl, h1, ((Keeps.refl L.has w).alloc _).trans k1⟩
  clear h hN
  go_enter Tryz.func123, Tryz.ntmps123
  go_wp2_with fail
  refine (HA.out _ rfl).mono ?_
  rintro e w' ⟨rfl, HR⟩
  clear HA
  go_wp2
  go_ret
  exact ⟨rfl, HR.out⟩
end Go.Proofs.YtdpebhdjcgiboaaGreat

namespace Go.Proofs.YtdpebhdjcgiboaaGreat
open Go.ChangeShapes Go.WideShapes Go.ChangeAt Go.RowKit Go.MuLone Go.RwLone
set_option linter.unusedVariables false
set_option maxRecDepth 100000
set_option maxHeartbeats 1600000
theorem cas1_hit (a : Addr) (g1 g2 g3 : Nat) (x y : Int) (u : Value) (w : World) (h1 : w.cell? a = some (.int .u64 x)) (z : w.frozen? a = false) (q1 : w.cell? ⟨g1, 0, none⟩ = some (.int .u64 x)) (q2 : w.cell? ⟨g2, 0, none⟩ = some (.int .u64 y)) (q3 : w.cell? ⟨g3, 0, none⟩ = some u) (z3 : w.frozen? ⟨g3, 0, none⟩ = false) (ha : a.block ≠ g3) : Calls Tryz.prog 183 #[.pointer (some a), .pointer (some ⟨g1, 0, none⟩), .pointer (some ⟨g2, 0, none⟩), .pointer (some ⟨g3, 0, none⟩)] w fun e w' => e = .returned (.tuple #[]) ∧ w' = (w.setCell a (.int .u64 y)).setCell ⟨g3, 0, none⟩ (.bool true) := by
  have q3' : (w.setCell a (.int .u64 y)).cell? ⟨g3, 0, none⟩ = some u := (World.cell?_setCell_other _ _ _ _ (fun e => ha (congrArg Addr.block e))).trans q3
  have z3' : (w.setCell a (.int .u64 y)).frozen? ⟨g3, 0, none⟩ = false := by simpa using z3
  go_enter Tryz.func183, Tryz.ntmps183
  go_wp2_with fail
  refine (u64_cas_hit a x y w h1 z).mono ?_
  rintro e w' ⟨rfl, rfl⟩
  go_wp2
  exact ⟨rfl, .tuple #[], by simp [results, Tryz.results183], rfl, rfl⟩
theorem cas1_miss (a : Addr) (g1 g2 g3 : Nat) (x v y : Int) (u : Value) (w : World) (h1 : w.cell? a = some (.int .u64 x)) (z : w.frozen? a = false) (q1 : w.cell? ⟨g1, 0, none⟩ = some (.int .u64 v)) (q2 : w.cell? ⟨g2, 0, none⟩ = some (.int .u64 y)) (q3 : w.cell? ⟨g3, 0, none⟩ = some u) (z3 : w.frozen? ⟨g3, 0, none⟩ = false) (hne : ¬ x = v) : Calls Tryz.prog 183 #[.pointer (some a), .pointer (some ⟨g1, 0, none⟩), .pointer (some ⟨g2, 0, none⟩), .pointer (some ⟨g3, 0, none⟩)] w fun e w' => e = .returned (.tuple #[]) ∧ w' = w.setCell ⟨g3, 0, none⟩ (.bool false) := by
  go_enter Tryz.func183, Tryz.ntmps183
  go_wp2_with fail
  refine (u64_cas_miss a x v y w h1 z hne).mono ?_
  rintro e w' ⟨rfl, rfl⟩
  go_wp2
  exact ⟨rfl, .tuple #[], by simp [results, Tryz.results183], rfl, rfl⟩
/-- The world in which CAS calls access. -/
abbrev casW (w : World) (x y : Int) : World := ((w.alloc (.cells #[.int .u64 x] 55)).alloc (.cells #[.int .u64 y] 55)).alloc (.cells #[.bool false] 4)
theorem casW_keeps (w : World) (x y : Int) (B : Nat → Prop) : Keeps B w (casW w x y) := (((Keeps.refl B w).alloc _).alloc _).alloc _
theorem casW_cells (w : World) (x y : Int) : (casW w x y).cell? ⟨w.heap.size, 0, none⟩ = some (.int .u64 x) ∧ (casW w x y).cell? ⟨w.heap.size + 1, 0, none⟩ = some (.int .u64 y) ∧ (casW w x y).cell? ⟨w.heap.size + 1 + 1, 0, none⟩ = some (.bool false) ∧ (casW w x y).frozen? ⟨w.heap.size + 1 + 1, 0, none⟩ = false := by
  have e1 : (casW w x y).heap[w.heap.size]? = some (.cells #[.int .u64 x] 55) := (Below.heap_alloc _ _ _ (by simp; omega)).trans ((Below.heap_alloc _ _ _ (by simp)).trans (heap_alloc_last _ _ _ rfl))
  have e2 : (casW w x y).heap[w.heap.size + 1]? = some (.cells #[.int .u64 y] 55) := (Below.heap_alloc _ _ _ (by simp)).trans (heap_alloc_last _ _ _ (by simp))
  have e3 : (casW w x y).heap[w.heap.size + 1 + 1]? = some (.cells #[.bool false] 4) := heap_alloc_last _ _ _ (by simp)
  exact ⟨(cell?_heap e1 0).trans rfl, (cell?_heap e2 0).trans rfl, (cell?_heap e3 0).trans rfl, frozen?_heap e3 0⟩
theorem casW_size (w : World) (x y : Int) : (casW w x y).heap.size = w.heap.size + 3 := by simp
theorem cas_any (L : Lay) (S : AS) (w : World) (k j : Nat) (x y : Int) (b : Bool) (wo : Nat → Int) (HB : Hid (b = decide (S.word (k * S.wd + j) = x) ∧ wo = if S.word (k * S.wd + j) = x then upd S.word (k * S.wd + j) y else S.word)) (h : Holds w L S) (hr : S.rc = 0) (hk : k < S.n) (hu : S.use k = true) (hj : j < S.wd) : Calls Tryz.prog 158 #[.pointer (some ⟨L.b, 0, none⟩), .int .i64 ((k : Int) + 1), .int .i64 (j : Int), .int .u64 x, .int .u64 y] w fun e w' => e = .returned (.tuple #[.bool b, .int .i64 0]) ∧ Holds w' L { S with rc := 0, acc := wrap64 (S.acc + 1), word := wo } ∧ Keeps L.has w w' := by
  have hN : k * S.wd + S.wd ≤ S.n * S.wd := by rw [← Nat.succ_mul]; exact Nat.mul_le_mul_right _ hk
  have HA : Hid (∀ W, W = casW w x y → Calls Tryz.prog 166 #[.pointer (some ⟨L.b, 0, none⟩), .int .i64 ((k : Int) + 1), .int .i64 (j : Int), .func (.func 183) #[] #[.pointer (some ⟨w.heap.size, 0, none⟩), .pointer (some ⟨w.heap.size + 1, 0, none⟩), .pointer (some ⟨w.heap.size + 1 + 1, 0, none⟩)]] W fun e w' => e = .returned (.int .i64 0) ∧ Hid (Holds w' L { S with rc := 0, acc := wrap64 (S.acc + 1), word := wo } ∧ Keeps L.has w w') ∧ w'.cell? ⟨w.heap.size + 1 + 1, 0, none⟩ = some (.bool b)) := by
    rintro W rfl
    have hC := casW_cells w x y
    have hZ := casW_size w x y
    have n1 : ¬ L.has (w.heap.size + 1) := h.notNew (by omega)
    have n2 : ¬ L.has (w.heap.size + 1 + 1) := h.notNew (by omega)
    have nu : ∀ g, L.u = g → ¬ w.heap.size ≤ g := fun g e hg => h.notNew (g := L.u) (by omega) (Or.inr (Or.inr (Or.inl rfl)))
    have m2 : w.heap.size ≤ w.heap.size + 1 + 1 := by omega
    refine (access_cas L S (casW w x y) k j _ _ _ wo (fun k => L.has k ∨ w.heap.size ≤ k) (fun W => w.heap.size + 2 < W.heap.size ∧ W.cell? ⟨w.heap.size + 1 + 1, 0, none⟩ = some (.bool b)) (h.keeps (casW_keeps w x y (fun _ => False)) (fun _ _ e => e)) hr hk hu hj (fun k => Or.inl) ?_ ?_).mono ?_
    · rintro W W' hK ⟨x1, x2⟩
      exact ⟨Nat.lt_of_lt_of_le x1 hK.size, (hK.cell (p := ⟨w.heap.size + 1 + 1, 0, none⟩) x1 n2).trans x2⟩
    · intro W hW hK
      have hs : w.heap.size + 2 < W.heap.size := Nat.lt_of_lt_of_le (by omega) hK.size
      have q1 := (hK.cell (p := ⟨w.heap.size, 0, none⟩) (by show _ < (casW w x y).heap.size; simp only []; omega) (h.notNew (Nat.le_refl _))).trans hC.1
      have q2 := (hK.cell (p := ⟨w.heap.size + 1, 0, none⟩) (by show _ < (casW w x y).heap.size; simp only []; omega) n1).trans hC.2.1
      have q3 := (hK.cell (p := ⟨w.heap.size + 1 + 1, 0, none⟩) (by show _ < (casW w x y).heap.size; simp only []; omega) n2).trans hC.2.2.1
      have q4 := (hK.frozen (p := ⟨w.heap.size + 1 + 1, 0, none⟩) (by show _ < (casW w x y).heap.size; simp only []; omega) n2).trans hC.2.2.2
      have hwo := hW.wo (k * S.wd + j) (by show _ < S.n * S.wd; omega)
      have hfz := hW.fz L.u (k * S.wd + j) (Or.inr (Or.inr (Or.inl rfl)))
      by_cases hx : S.word (k * S.wd + j) = x
      · obtain ⟨rfl, rfl⟩ := HB.out
        subst hx
        refine (cas1_hit _ _ _ _ _ _ _ W hwo hfz q1 q2 q3 q4 (fun e => nu _ e m2)).mono ?_
        rintro e w' ⟨rfl, rfl⟩
        refine ⟨rfl, ?_, (((Keeps.refl _ _).setCell (Or.inl (Or.inr (Or.inr (Or.inl rfl)))) _).setCell (p := ⟨w.heap.size + 1 + 1, 0, none⟩) (Or.inr m2) _), ?_, ?_⟩
        · simp only [if_true]
          exact (hW.setWord _ y).far (p := ⟨w.heap.size + 1 + 1, 0, none⟩) n2 _
        · show _ < ((W.setCell _ _).setCell _ _).heap.size
          simpa using hs
        · rw [decide_eq_true rfl]
          exact World.cell?_setCell_same _ _ _ ((World.cell?_setCell_other _ _ _ _ (fun e => nu _ (congrArg Addr.block e) m2)).trans q3)
      · obtain ⟨rfl, rfl⟩ := HB.out
        refine (cas1_miss _ _ _ _ _ _ _ _ W hwo hfz q1 q2 q3 q4 hx).mono ?_
        rintro e w' ⟨rfl, rfl⟩
        refine ⟨rfl, ?_, (Keeps.refl _ _).setCell (p := ⟨w.heap.size + 1 + 1, 0, none⟩) (Or.inr m2) _, ?_, ?_⟩
        · rw [if_neg hx]
          exact hW.far (p := ⟨w.heap.size + 1 + 1, 0, none⟩) n2 _
        · show _ < (W.setCell _ _).heap.size
          simpa using hs
        · rw [decide_eq_false hx]
          exact World.cell?_setCell_same _ _ _ q3
    · rintro e w' ⟨rfl, h1, k1, _, x1⟩
      exact ⟨rfl, ⟨h1, ((casW_keeps w x y L.has).wide w.heap.size |>.trans k1).fresh⟩, x1⟩
  clear h hN HB
  go_enter Tryz.func158, Tryz.ntmps158
  go_wp2_with fail
  refine (HA.out _ rfl).mono ?_
  rintro e w' ⟨rfl, HR, x1⟩
  clear HA
  go_wp2
  go_ret2
  exact ⟨rfl, HR.out⟩
end Go.Proofs.YtdpebhdjcgiboaaGreat

namespace Go.Proofs.YtdpebhdjcgiboaaGreat
open Go.ChangeShapes Go.WideShapes Go.ChangeAt Go.RowKit Go.MuLone Go.RwLone
set_option linter.unusedVariables false
set_option maxRecDepth 100000
set_option maxHeartbeats 1600000
theorem infoW : (Tryz.prog.info? 55).map (fun i => (i.zero, i.size, i.bytes)) = some (some (.int .u64 0), 1, 8) := by kernel_rfl
/-- A row of words that is being filled: t of wd. -/
structure PeekS (w : World) (L : Lay) (S : AS) (k g t : Nat) (wr : World) : Prop where
  h : Holds wr L S
  kp : Keeps L.has w wr
  g0 : w.heap.size ≤ g
  g1 : g < wr.heap.size
  lo : ∀ i, i < t → wr.cell? ⟨g, i, none⟩ = some (.int .u64 (S.word (k * S.wd + i)))
  hi : ∀ i, t ≤ i → i < S.wd → wr.cell? ⟨g, i, none⟩ = some (.int .u64 0)
  fz : ∀ i, wr.frozen? ⟨g, i, none⟩ = false
  ty : ∃ c, wr.heap[g]? = some (.cells c 55) ∧ c.size = S.wd
theorem PeekS.start {w w1 : World} {L : Lay} {S : AS} {k : Nat} (h : Holds w1 L S) (hk : Keeps L.has w w1) : PeekS w L S k w1.heap.size 0 (w1.alloc (.cells (madeCells #[.int .u64 0] S.wd) 55)) := by
  have hg := heap_alloc_new w1 (.cells (madeCells #[.int .u64 0] S.wd) 55)
  refine ⟨h.alloc _, hk.alloc _, hk.size, by simp, fun i hi => by omega, fun i _ hi => ?_, fun i => frozen?_heap hg i, _, hg, by simp [madeCells]⟩
  rw [cell?_heap hg, getElem?_made _ _ _ hi]
  simp [Nat.mod_one]
theorem PeekS.put {w wr : World} {L : Lay} {S : AS} {k g t : Nat} (h : PeekS w L S k g t wr) (hn : ¬ L.has g) (ht : t < S.wd) : PeekS w L S k g (t + 1) (wr.setCell ⟨g, t, none⟩ (.int .u64 (S.word (k * S.wd + t)))) := by
  refine ⟨h.h.far (p := ⟨g, t, none⟩) hn _, h.kp.setCellNew (p := ⟨g, t, none⟩) h.g0 _, h.g0, by simpa using h.g1, fun i hi => ?_, fun i hi hd => ?_, fun i => by simpa using h.fz i, ?_⟩
  · by_cases e : i = t
    · subst e
      exact World.cell?_setCell_same _ _ _ (h.hi i (Nat.le_refl _) ht)
    · rw [World.cell?_setCell_other _ _ _ _ (fun e' => e (congrArg Addr.off e').symm)]
      exact h.lo i (by omega)
  · rw [World.cell?_setCell_other _ _ _ _ (fun e' => by have := congrArg Addr.off e'; simp at this; omega)]
    exact h.hi i (by omega) hd
  · obtain ⟨c, hc, hs⟩ := h.ty
    exact ⟨c.setIfInBounds t (.int .u64 (S.word (k * S.wd + t))), by simp [World.setCell, Array.getElem?_modify, hc], by simpa using hs⟩
theorem peek_ok (L : Lay) (S : AS) (w : World) (k : Nat) (h : Holds w L S) (hg : S.g0 = 0) (hr : S.rc = 0) (hk : k < S.n) (hu : S.use k = true) : Calls Tryz.prog 119 #[.pointer (some ⟨L.b, 0, none⟩), .int .i64 ((k : Int) + 1)] w fun e w' => ∃ g, e = .returned (.tuple #[.slice (some ⟨g, 0, none⟩) S.wd S.wd, .int .i64 0]) ∧ PeekS w L { S with g0 := 0, rc := 0 } k g S.wd w' := by
  have H : Hid (Holds w L S) := h
  have hwd := h.hw.2
  have hwl := h.hw.1
  have hN : k * S.wd + S.wd ≤ S.n * S.wd := by rw [← Nat.succ_mul]; exact Nat.mul_le_mul_right _ hk
  clear h
  go_enter_defers Tryz.func119, Tryz.ntmps119
  go_wp2_with fail
  refine (missing_holds H.out).mono ?_
  rintro e w' ⟨rfl, rfl⟩
  go_wp2_with fail
  refine (gate_lock H.out hg hr).mono ?_
  rintro e w1 ⟨rfl, h1, k1⟩
  have H1 : Hid (Holds w1 L { S with g0 := 1, rc := -1073741824 } ∧ Keeps L.has w' w1) := ⟨h1, k1⟩
  clear h1 k1
  go_wp2_with fail
  refine (inUse_yes L { S with g0 := 1, rc := -1073741824 } w1 k hk hu H1.out.1).mono ?_
  rintro e w2 ⟨rfl, rfl⟩
  go_wp2_with fail
  refine (cellsOf_any L { S with g0 := 1, rc := -1073741824 } w2 k hk H1.out.1).mono ?_
  rintro e w3 ⟨rfl, rfl⟩
  have hmk := run_make_any (P := Tryz.prog) 46 55 _ 1 8 Tryz.underlying46 infoW S.wd (by omega) (by omega) w2.drew
  rw [Nat.mul_one] at hmk
  have HP : Hid (PeekS w' L { S with g0 := 1, rc := -1073741824 } k w2.drew.heap.size 0 _) := PeekS.start H1.out.1.drew H1.out.2.drew
  have HW : Hid (Holds w' L { S with g0 := 0, rc := 0 }) := by
    have := H.out
    rw [show ({ S with g0 := 0, rc := 0 } : AS) = S from by cases S; simp only at hg hr; subst hg; subst hr; rfl]
    exact this
  clear H1 H
  have HN : Hid (¬ L.has w2.drew.heap.size) := HW.out.notNew HP.out.g0
  clear HW
  go_wp2_with fail
  rw [show w2.drew.heap.size = w2.heap.size from rfl] at HP HN
  generalize w2.heap.size = g at *
  go_loopw [37] (fun i wr => ∃ t : Nat, t ≤ S.wd ∧ i = .int .i64 t ∧ PeekS w' L { S with g0 := 1, rc := -1073741824 } k g t wr) (fun i _ => S.wd - (intOf i).toNat)
  case atStart => exact ⟨0, by omega, rfl, HP.out⟩
  case round =>
    obtain ⟨t, ht, rfl, hS⟩ := hrel
    have HS : Hid (PeekS w' L { S with g0 := 1, rc := -1073741824 } k g t wr) := hS
    clear hS HP hmk
    by_cases h4 : t < S.wd
    · have hc := HS.out.hi t (Nat.le_refl _) h4
      have hz := HS.out.fz t
      have HX : Hid (PeekS w' L { S with g0 := 1, rc := -1073741824 } k g (t + 1) _) := HS.out.put HN.out h4
      have HL : Hid (Calls Tryz.prog 164 #[.pointer (some ⟨L.u, k * S.wd + t, none⟩)] wr fun e w' => e = .returned (.int .u64 (S.word (k * S.wd + t))) ∧ w' = wr) := u64_load _ _ wr (HS.out.h.wo (k * S.wd + t) (by show _ < S.n * S.wd; omega))
      clear hN
      go_wp2_with fail
      refine HL.out.mono ?_
      rintro e w5 ⟨rfl, rfl⟩
      clear HS HL
      go_wp2
      go_roundw
      case rel => exact ⟨t + 1, by omega, by go_num, HX.out⟩
      case measure => simp [intOf]; omega
    · have e4 : t = S.wd := by omega
      subst e4
      go_wp2_with fail
      refine leaves_cons (f := 162) (args := #[.pointer (some ⟨L.b, 3, none⟩)]) (by simp) (by simp [go_sem]) ?_
      refine (gate_unlockD HS.out.h rfl rfl .returning).mono ?_
      rintro e u' w6 ⟨rfl, rfl, h6, k6⟩
      refine ⟨_, results_tmp2 rfl _ _ _, g, rfl, h6, HS.out.kp.trans k6, HS.out.g0, Nat.lt_of_lt_of_le HS.out.g1 k6.size, fun i hi => (k6.cell (p := ⟨g, i, none⟩) HS.out.g1 HN.out).trans (HS.out.lo i hi), fun i hi hd => (k6.cell (p := ⟨g, i, none⟩) HS.out.g1 HN.out).trans (HS.out.hi i hi hd), fun i => (k6.frozen (p := ⟨g, i, none⟩) HS.out.g1 HN.out).trans (HS.out.fz i), HS.out.ty.imp (fun c hc => ⟨(k6.block g HS.out.g1 HN.out).trans hc.1, hc.2⟩)⟩
end Go.Proofs.YtdpebhdjcgiboaaGreat
