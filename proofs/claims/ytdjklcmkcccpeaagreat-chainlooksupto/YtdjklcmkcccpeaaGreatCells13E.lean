import Derived.Test.YtdjklcmkcccpeaaGreatCells12E
import Derived.Test.YtdjklcmkcccpeaaGreatCells6E
namespace Go.Proofs.YtdjklcmkcccpeaaGreat
open Go.ChangeShapes Go.WideShapes Go.ChangeAt Go.RowKit Go.MuLone Go.RwLone
set_option linter.unusedVariables false
set_option maxRecDepth 100000
set_option maxHeartbeats 1600000
theorem Keeps.fresh {B : Nat → Prop} {w w' : World} (h : Keeps (fun k => B k ∨ w.heap.size ≤ k) w w') : Keeps B w w' :=
  ⟨h.os, h.tape, h.output, h.size, fun k hk hn => h.block k hk (fun e => e.elim hn (fun e => by omega))⟩
theorem Keeps.wide {B : Nat → Prop} {w w' : World} (h : Keeps B w w') (n : Nat) : Keeps (fun k => B k ∨ n ≤ k) w w' := h.mono (fun k hk => Or.inl hk)
theorem Holds.notNew {w : World} {L : Lay} {S : AS} (h : Holds w L S) {g : Nat} (hg : w.heap.size ≤ g) : ¬ L.has g := by
  have h1 := h.lb; have h2 := h.ls; have h3 := h.lu; have h4 := h.lq
  intro e
  rcases e with e | e | e | e <;> omega
theorem cell?_new (w : World) (v : Value) (t : TypeId) : (w.alloc (.cells #[v] t)).cell? ⟨w.heap.size, 0, none⟩ = some v := (cell?_heap (heap_alloc_new w _) 0).trans rfl
theorem frozen?_new (w : World) (v : Value) (t : TypeId) : (w.alloc (.cells #[v] t)).frozen? ⟨w.heap.size, 0, none⟩ = false := frozen?_heap (heap_alloc_new w _) 0
theorem load1_any (a : Addr) (g : Nat) (x : Int) (u : Value) (w : World) (h1 : w.cell? a = some (.int .u64 x)) (h2 : w.cell? ⟨g, 0, none⟩ = some u) (z : w.frozen? ⟨g, 0, none⟩ = false) : Calls Tryz.prog 175 #[.pointer (some a), .pointer (some ⟨g, 0, none⟩)] w fun e w' => e = .returned (.tuple #[]) ∧ w' = w.setCell ⟨g, 0, none⟩ (.int .u64 x) := by
  go_enter Tryz.func175, Tryz.ntmps175
  go_wp2_with fail
  refine (u64_load a x w h1).mono ?_
  rintro e w' ⟨rfl, rfl⟩
  go_wp2
  exact ⟨rfl, .tuple #[], by simp [results, Tryz.results175], rfl, rfl⟩
theorem store1_any (a : Addr) (g : Nat) (y : Int) (u : Value) (w : World) (h1 : w.cell? a = some u) (z : w.frozen? a = false) (h2 : w.cell? ⟨g, 0, none⟩ = some (.int .u64 y)) : Calls Tryz.prog 224 #[.pointer (some a), .pointer (some ⟨g, 0, none⟩)] w fun e w' => e = .returned (.tuple #[]) ∧ w' = w.setCell a (.int .u64 y) := by
  go_enter Tryz.func224, Tryz.ntmps224
  go_wp2_with fail
  refine (u64_store a u y w h1 z).mono ?_
  rintro e w' ⟨rfl, rfl⟩
  go_wp2
  exact ⟨rfl, .tuple #[], by simp [results, Tryz.results224], rfl, rfl⟩
theorem load_ok (L : Lay) (S : AS) (w : World) (k j : Nat) (h : Holds w L S) (hr : S.rc = 0) (hk : k < S.n) (hu : S.use k = true) (hj : j < S.wd) : Calls Tryz.prog 128 #[.pointer (some ⟨L.b, 0, none⟩), .int .i64 ((k : Int) + 1), .int .i64 (j : Int)] w fun e w' => e = .returned (.tuple #[.int .u64 (S.word (k * S.wd + j)), .int .i64 0]) ∧ Holds w' L { S with rc := 0, acc := wrap64 (S.acc + 1) } ∧ Keeps L.has w w' := by
  have hN : k * S.wd + S.wd ≤ S.n * S.wd := by rw [← Nat.succ_mul]; exact Nat.mul_le_mul_right _ hk
  have HA : Hid (∀ W, W = w.alloc (.cells #[.int .u64 0] 95) → Calls Tryz.prog 174 #[.pointer (some ⟨L.b, 0, none⟩), .int .i64 ((k : Int) + 1), .int .i64 (j : Int), .func (.func 175) #[] #[.pointer (some ⟨w.heap.size, 0, none⟩)]] W fun e w' => e = .returned (.int .i64 0) ∧ Hid (Holds w' L { S with rc := 0, acc := wrap64 (S.acc + 1) } ∧ Keeps L.has w w') ∧ w'.cell? ⟨w.heap.size, 0, none⟩ = some (.int .u64 (S.word (k * S.wd + j)))) := by
    rintro W rfl
    refine (access_load L S _ k j _ S.word (fun k => L.has k ∨ w.heap.size ≤ k) (fun W => w.heap.size < W.heap.size ∧ W.cell? ⟨w.heap.size, 0, none⟩ = some (.int .u64 (S.word (k * S.wd + j)))) (h.alloc _) hr hk hu hj (fun k => Or.inl) ?_ ?_).mono ?_
    · rintro W W' hK ⟨x1, x2⟩
      exact ⟨Nat.lt_of_lt_of_le x1 hK.size, (hK.cell (p := ⟨w.heap.size, 0, none⟩) x1 (h.notNew (Nat.le_refl _))).trans x2⟩
    · intro W hW hK
      have hs : w.heap.size < W.heap.size := Nat.lt_of_lt_of_le (by simp) hK.size
      have q1 : W.cell? ⟨w.heap.size, 0, none⟩ = some (.int .u64 0) := (hK.cell (p := ⟨w.heap.size, 0, none⟩) (by simp) (h.notNew (Nat.le_refl _))).trans (cell?_new w _ _)
      have q2 : W.frozen? ⟨w.heap.size, 0, none⟩ = false := (hK.frozen (p := ⟨w.heap.size, 0, none⟩) (by simp) (h.notNew (Nat.le_refl _))).trans (frozen?_new w _ _)
      refine (load1_any _ w.heap.size _ _ W (hW.wo (k * S.wd + j) (by show _ < S.n * S.wd; omega)) q1 q2).mono ?_
      rintro e w' ⟨rfl, rfl⟩
      refine ⟨rfl, hW.far (p := ⟨w.heap.size, 0, none⟩) (h.notNew (Nat.le_refl _)) _, (Keeps.refl _ _).setCell (p := ⟨w.heap.size, 0, none⟩) (Or.inr (Nat.le_refl _)) _, ?_, World.cell?_setCell_same _ _ _ q1⟩
      show _ < (W.setCell _ _).heap.size
      simpa using hs
    · rintro e w' ⟨rfl, h1, k1, _, x1⟩
      exact ⟨rfl, ⟨h1, ((((Keeps.refl L.has w).alloc _).wide w.heap.size).trans k1).fresh⟩, x1⟩
  clear h hN
  go_enter Tryz.func128, Tryz.ntmps128
  go_wp2_with fail
  refine (HA.out _ rfl).mono ?_
  rintro e w' ⟨rfl, HR, x1⟩
  clear HA
  go_wp2
  go_ret2
  exact ⟨rfl, HR.out⟩
theorem load_cell (L : Lay) (S : AS) (w : World) (k : Nat) (x : Int) (h : Holds w L S) (hr : S.rc = 0) (hk : k < S.n) (hu : S.use k = true) (hj : ¬ (0 ≤ x ∧ x < (S.wd : Int))) : Calls Tryz.prog 128 #[.pointer (some ⟨L.b, 0, none⟩), .int .i64 ((k : Int) + 1), .int .i64 x] w fun e w' => e = .returned (.tuple #[.int .u64 0, .int .i64 23]) ∧ Holds w' L { S with rc := 0 } ∧ Keeps L.has w w' := by
  have HA : Hid (∀ W, W = w.alloc (.cells #[.int .u64 0] 95) → Calls Tryz.prog 174 #[.pointer (some ⟨L.b, 0, none⟩), .int .i64 ((k : Int) + 1), .int .i64 x, .func (.func 175) #[] #[.pointer (some ⟨w.heap.size, 0, none⟩)]] W fun e w' => e = .returned (.int .i64 23) ∧ Hid (Holds w' L { S with rc := 0 } ∧ Keeps L.has w w') ∧ w'.cell? ⟨w.heap.size, 0, none⟩ = some (.int .u64 0)) := by
    rintro W rfl
    refine (access_load_cell L S _ k x _ (h.alloc _) hr hk hu hj).mono ?_
    rintro e w' ⟨rfl, h1, k1⟩
    exact ⟨rfl, ⟨h1, ((Keeps.refl L.has w).alloc _).trans k1⟩, (k1.cell (p := ⟨w.heap.size, 0, none⟩) (by simp) (h.notNew (Nat.le_refl _))).trans (cell?_new w _ _)⟩
  clear h
  go_enter Tryz.func128, Tryz.ntmps128
  go_wp2_with fail
  refine (HA.out _ rfl).mono ?_
  rintro e w' ⟨rfl, HR, x1⟩
  clear HA
  go_wp2
  go_ret2
  exact ⟨rfl, HR.out⟩
theorem load_no (L : Lay) (S : AS) (w : World) (x y : Int) (h : Holds w L S) (hr : S.rc = 0) (hx : ¬ S.live x) : Calls Tryz.prog 128 #[.pointer (some ⟨L.b, 0, none⟩), .int .i64 x, .int .i64 y] w fun e w' => e = .returned (.tuple #[.int .u64 0, .int .i64 22]) ∧ Holds w' L { S with rc := 0, miss := wrap64 (S.miss + 1) } ∧ Keeps L.has w w' := by
  have HA : Hid (∀ W, W = w.alloc (.cells #[.int .u64 0] 95) → Calls Tryz.prog 174 #[.pointer (some ⟨L.b, 0, none⟩), .int .i64 x, .int .i64 y, .func (.func 175) #[] #[.pointer (some ⟨w.heap.size, 0, none⟩)]] W fun e w' => e = .returned (.int .i64 22) ∧ Hid (Holds w' L { S with rc := 0, miss := wrap64 (S.miss + 1) } ∧ Keeps L.has w w') ∧ w'.cell? ⟨w.heap.size, 0, none⟩ = some (.int .u64 0)) := by
    rintro W rfl
    refine (access_load_no L S _ x y _ (h.alloc _) hr hx).mono ?_
    rintro e w' ⟨rfl, h1, k1⟩
    exact ⟨rfl, ⟨h1, ((Keeps.refl L.has w).alloc _).trans k1⟩, (k1.cell (p := ⟨w.heap.size, 0, none⟩) (by simp) (h.notNew (Nat.le_refl _))).trans (cell?_new w _ _)⟩
  clear h
  go_enter Tryz.func128, Tryz.ntmps128
  go_wp2_with fail
  refine (HA.out _ rfl).mono ?_
  rintro e w' ⟨rfl, HR, x1⟩
  clear HA
  go_wp2
  go_ret2
  exact ⟨rfl, HR.out⟩
theorem store_ok (L : Lay) (S : AS) (w : World) (k j : Nat) (y : Int) (h : Holds w L S) (hr : S.rc = 0) (hk : k < S.n) (hu : S.use k = true) (hj : j < S.wd) : Calls Tryz.prog 215 #[.pointer (some ⟨L.b, 0, none⟩), .int .i64 ((k : Int) + 1), .int .i64 (j : Int), .int .u64 y] w fun e w' => e = .returned (.int .i64 0) ∧ Holds w' L { S with rc := 0, acc := wrap64 (S.acc + 1), word := upd S.word (k * S.wd + j) y } ∧ Keeps L.has w w' := by
  have hN : k * S.wd + S.wd ≤ S.n * S.wd := by rw [← Nat.succ_mul]; exact Nat.mul_le_mul_right _ hk
  have HA : Hid (∀ W, W = w.alloc (.cells #[.int .u64 y] 95) → Calls Tryz.prog 174 #[.pointer (some ⟨L.b, 0, none⟩), .int .i64 ((k : Int) + 1), .int .i64 (j : Int), .func (.func 224) #[] #[.pointer (some ⟨w.heap.size, 0, none⟩)]] W fun e w' => e = .returned (.int .i64 0) ∧ Hid (Holds w' L { S with rc := 0, acc := wrap64 (S.acc + 1), word := upd S.word (k * S.wd + j) y } ∧ Keeps L.has w w')) := by
    rintro W rfl
    refine (access_store L S _ k j _ (upd S.word (k * S.wd + j) y) L.has (fun _ => True) (h.alloc _) hr hk hu hj (fun k h => h) (fun _ _ _ _ => trivial) ?_).mono ?_
    · intro W hW hK
      have q1 : W.cell? ⟨w.heap.size, 0, none⟩ = some (.int .u64 y) := (hK.cell (p := ⟨w.heap.size, 0, none⟩) (by simp) (h.notNew (Nat.le_refl _))).trans (cell?_new w _ _)
      refine (store1_any _ w.heap.size _ _ W (hW.wo (k * S.wd + j) (by show _ < S.n * S.wd; omega)) (hW.fz _ _ (Or.inr (Or.inr (Or.inl rfl)))) q1).mono ?_
      rintro e w' ⟨rfl, rfl⟩
      exact ⟨rfl, hW.setWord _ y, (Keeps.refl _ _).setCell (Or.inr (Or.inr (Or.inl rfl))) _, trivial⟩
    · rintro e w' ⟨rfl, h1, k1, _⟩
      exact ⟨rfl, h1, ((Keeps.refl L.has w).alloc _).trans k1⟩
  clear h hN
  go_enter Tryz.func215, Tryz.ntmps215
  go_wp2_with fail
  refine (HA.out _ rfl).mono ?_
  rintro e w' ⟨rfl, HR⟩
  clear HA
  go_wp2
  go_ret
  exact ⟨rfl, HR.out⟩
theorem store_cell (L : Lay) (S : AS) (w : World) (k : Nat) (x y : Int) (h : Holds w L S) (hr : S.rc = 0) (hk : k < S.n) (hu : S.use k = true) (hj : ¬ (0 ≤ x ∧ x < (S.wd : Int))) : Calls Tryz.prog 215 #[.pointer (some ⟨L.b, 0, none⟩), .int .i64 ((k : Int) + 1), .int .i64 x, .int .u64 y] w fun e w' => e = .returned (.int .i64 23) ∧ Holds w' L { S with rc := 0 } ∧ Keeps L.has w w' := by
  have HA : Hid (∀ W, W = w.alloc (.cells #[.int .u64 y] 95) → Calls Tryz.prog 174 #[.pointer (some ⟨L.b, 0, none⟩), .int .i64 ((k : Int) + 1), .int .i64 x, .func (.func 224) #[] #[.pointer (some ⟨w.heap.size, 0, none⟩)]] W fun e w' => e = .returned (.int .i64 23) ∧ Hid (Holds w' L { S with rc := 0 } ∧ Keeps L.has w w')) := by
    rintro W rfl
    refine (access_store_cell L S _ k x _ (h.alloc _) hr hk hu hj).mono ?_
    rintro e w' ⟨rfl, h1, k1⟩
    exact ⟨rfl, h1, ((Keeps.refl L.has w).alloc _).trans k1⟩
  clear h
  go_enter Tryz.func215, Tryz.ntmps215
  go_wp2_with fail
  refine (HA.out _ rfl).mono ?_
  rintro e w' ⟨rfl, HR⟩
  clear HA
  go_wp2
  go_ret
  exact ⟨rfl, HR.out⟩
theorem store_no (L : Lay) (S : AS) (w : World) (x z y : Int) (h : Holds w L S) (hr : S.rc = 0) (hx : ¬ S.live x) : Calls Tryz.prog 215 #[.pointer (some ⟨L.b, 0, none⟩), .int .i64 x, .int .i64 z, .int .u64 y] w fun e w' => e = .returned (.int .i64 22) ∧ Holds w' L { S with rc := 0, miss := wrap64 (S.miss + 1) } ∧ Keeps L.has w w' := by
  have HA : Hid (∀ W, W = w.alloc (.cells #[.int .u64 y] 95) → Calls Tryz.prog 174 #[.pointer (some ⟨L.b, 0, none⟩), .int .i64 x, .int .i64 z, .func (.func 224) #[] #[.pointer (some ⟨w.heap.size, 0, none⟩)]] W fun e w' => e = .returned (.int .i64 22) ∧ Hid (Holds w' L { S with rc := 0, miss := wrap64 (S.miss + 1) } ∧ Keeps L.has w w')) := by
    rintro W rfl
    refine (access_store_no L S _ x z _ (h.alloc _) hr hx).mono ?_
    rintro e w' ⟨rfl, h1, k1⟩
    exact ⟨rfl, h1, ((Keeps.refl L.has w).alloc _).trans k1⟩
  clear h
  go_enter Tryz.func215, Tryz.ntmps215
  go_wp2_with fail
  refine (HA.out _ rfl).mono ?_
  rintro e w' ⟨rfl, HR⟩
  clear HA
  go_wp2
  go_ret
  exact ⟨rfl, HR.out⟩
end Go.Proofs.YtdjklcmkcccpeaaGreat
