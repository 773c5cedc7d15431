import Derived.Test.YteekompojgbkhaaGreatKCells12E
import Derived.Test.YteekompojgbkhaaGreatKCells3E
namespace Go.Proofs.YteekompojgbkhaaGreat
open Go.ChangeShapes Go.WideShapes Go.ChangeAt Go.RowKit Go.MuLone Go.RwLone
set_option linter.unusedVariables false
set_option maxRecDepth 100000
set_option maxHeartbeats 1600000
theorem Keeps.fresh {B : Nat → Prop} {w w' : World} (h : Keeps (fun k => B k ∨ w.heap.size ≤ k) w w') : Keeps B w w' :=
  ⟨h.os, h.tape, h.output, h.size, fun k hk hn => h.block k hk (fun e => e.elim hn (fun e => by omega))⟩
theorem Keeps.wide {B : Nat → Prop} {w w' : World} (h : Keeps B w w') (n : Nat) : Keeps (fun k => B k ∨ n ≤ k) w w' := h.mono (fun k hk => Or.inl hk)
theorem Holds.notNew {w : World} {L : Lay} {S : AS} (h : Holds w L S) {g : Nat} (hg : w.heap.size ≤ g) : ¬ L.has g := by
  have h1 := h.lb; have h2 := h.ls; have h3 := h.lu; have h4 := h.lq
  intro e
  rcases e with e | e | e | e <;> omega
theorem cell?_new (w : World) (v : Value) (t : TypeId) : (w.alloc (.cells #[v] t)).cell? ⟨w.heap.size, 0, none⟩ = some v := (cell?_heap (heap_alloc_new w _) 0).trans rfl
theorem frozen?_new (w : World) (v : Value) (t : TypeId) : (w.alloc (.cells #[v] t)).frozen? ⟨w.heap.size, 0, none⟩ = false := frozen?_heap (heap_alloc_new w _) 0
theorem load1_any (a : Addr) (g : Nat) (x : Int) (u : Value) (w : World) (h1 : w.cell? a = some (.int .u64 x)) (h2 : w.cell? ⟨g, 0, none⟩ = some u) (z : w.frozen? ⟨g, 0, none⟩ = false) : Calls Tryz.prog 179 #[.pointer (some a), .pointer (some ⟨g, 0, none⟩)] w fun e w' => e = .returned (.tuple #[]) ∧ w' = w.setCell ⟨g, 0, none⟩ (.int .u64 x) := by
  go_enter Tryz.func179, Tryz.ntmps179
  go_wp2_with fail
  refine (u64_load a x w h1).mono ?_
  rintro e w' ⟨rfl, rfl⟩
  go_wp2
  exact ⟨rfl, .tuple #[], by simp [results, Tryz.results179], rfl, rfl⟩
theorem store1_any (a : Addr) (g : Nat) (y : Int) (u : Value) (w : World) (h1 : w.cell? a = some u) (z : w.frozen? a = false) (h2 : w.cell? ⟨g, 0, none⟩ = some (.int .u64 y)) : Calls Tryz.prog 222 #[.pointer (some a), .pointer (some ⟨g, 0, none⟩)] w fun e w' => e = .returned (.tuple #[]) ∧ w' = w.setCell a (.int .u64 y) := by
  go_enter Tryz.func222, Tryz.ntmps222
  go_wp2_with fail
  refine (u64_store a u y w h1 z).mono ?_
  rintro e w' ⟨rfl, rfl⟩
  go_wp2
  exact ⟨rfl, .tuple #[], by simp [results, Tryz.results222], rfl, rfl⟩
theorem load_ok (L : Lay) (S : AS) (w : World) (k j : Nat) (h : Holds w L S) (hr : S.rc = 0) (hk : k < S.n) (hu : S.use k = true) (hj : j < S.wd) : Calls Tryz.prog 135 #[.pointer (some ⟨L.b, 0, none⟩), .int .i64 ((k : Int) + 1), .int .i64 (j : Int)] w fun e w' => e = .returned (.tuple #[.int .u64 (S.word (k * S.wd + j)), .int .i64 0]) ∧ Holds w' L { S with rc := 0, acc := wrap64 (S.acc + 1) } ∧ Keeps L.has w w' := by
  have hN : k * S.wd + S.wd ≤ S.n * S.wd := by rw [← Nat.succ_mul]; exact Nat.mul_le_mul_right _ hk
  have HA : Hid (∀ W, W = w.alloc (.cells #[.int .u64 0] 104) → Calls Tryz.prog 178 #[.pointer (some ⟨L.b, 0, none⟩), .int .i64 ((k : Int) + 1), .int .i64 (j : Int), .func (.func 179) #[] #[.pointer (some ⟨w.heap.size, 0, none⟩)]] W fun e w' => e = .returned (.int .i64 0) ∧ Hid (Holds w' L { S with rc := 0, acc := wrap64 (S.acc + 1) } ∧ Keeps L.has w w') ∧ w'.cell? ⟨w.heap.size, 0, none⟩ = some (.int .u64 (S.word (k * S.wd + j)))) := by
    rintro W rfl
    refine (access_load L S _ k j _ S.word (fun k => L.has k ∨ w.heap.size ≤ k) (fun W => w.heap.size < W.heap.size ∧ W.cell? ⟨w.heap.size, 0, none⟩ = some (.int .u64 (S.word (k * S.wd + j)))) (h.alloc _) hr hk hu hj (fun k => Or.inl) ?_ ?_).mono ?_
    · rintro W W' hK ⟨x1, x2⟩
      exact ⟨Nat.lt_of_lt_of_le x1 hK.size, (hK.cell (p := ⟨w.heap.size, 0, none⟩) x1 (h.notNew (Nat.le_refl _))).trans x2⟩
    · intro W hW hK
      have hs : w.heap.size < W.heap.size := Nat.lt_of_lt_of_le (by simp) hK.size
      have q1 : W.cell? ⟨w.heap.size, 0, none⟩ = some (.int .u64 0) := (hK.cell (p := ⟨w.heap.size, 0, none⟩) (by simp) (h.notNew (Nat.le_refl _))).trans (cell?_new w _ _)
      have q2 : W.frozen? ⟨w.heap.size, 0, none⟩ = false := (hK.frozen (p := ⟨w.heap.size, 0, none⟩) (by simp) (h.notNew (Nat.le_refl _))).trans (frozen?_new w _ _)
      refine (load1_any _ w.heap.size _ _ W (hW.wo (k * S.wd + j) (by show _ < S.n * S.wd; omega)) q1 q2).mono ?_
      rintro e w' ⟨rfl, rfl⟩
      refine ⟨rfl, hW.far (p := ⟨w.heap.size, 0, none⟩) (h.notNew (Nat.le_refl _)) _, (Keeps.refl _ _).setCell (p := ⟨w.heap.size, 0, none⟩) (Or.inr (Nat.le_refl _)) _, ?_, World.cell?_setCell_same _ _ _ q1⟩
      show _ < (W.setCell _ _).heap.size
      simpa using hs
    · rintro e w' ⟨rfl, h1, k1, _, x1⟩
      exact ⟨rfl, ⟨h1, ((((Keeps.refl L.has w).alloc _).wide w.heap.size).trans k1).fresh⟩, x1⟩
  clear h hN
  go_enter Tryz.func135, Tryz.ntmps135
  go_wp2_with fail
  refine (HA.out _ rfl).mono ?_
  rintro e w' ⟨rfl, HR, x1⟩
  clear HA
  go_wp2
  go_ret2
  exact ⟨rfl, HR.out⟩
theorem load_no (L : Lay) (S : AS) (w : World) (x y : Int) (h : Holds w L S) (hr : S.rc = 0) (hx : ¬ S.live x) : Calls Tryz.prog 135 #[.pointer (some ⟨L.b, 0, none⟩), .int .i64 x, .int .i64 y] w fun e w' => e = .returned (.tuple #[.int .u64 0, .int .i64 22]) ∧ Holds w' L { S with rc := 0, miss := wrap64 (S.miss + 1) } ∧ Keeps L.has w w' := by
  have HA : Hid (∀ W, W = w.alloc (.cells #[.int .u64 0] 104) → Calls Tryz.prog 178 #[.pointer (some ⟨L.b, 0, none⟩), .int .i64 x, .int .i64 y, .func (.func 179) #[] #[.pointer (some ⟨w.heap.size, 0, none⟩)]] W fun e w' => e = .returned (.int .i64 22) ∧ Hid (Holds w' L { S with rc := 0, miss := wrap64 (S.miss + 1) } ∧ Keeps L.has w w') ∧ w'.cell? ⟨w.heap.size, 0, none⟩ = some (.int .u64 0)) := by
    rintro W rfl
    refine (access_load_no L S _ x y _ (h.alloc _) hr hx).mono ?_
    rintro e w' ⟨rfl, h1, k1⟩
    exact ⟨rfl, ⟨h1, ((Keeps.refl L.has w).alloc _).trans k1⟩, (k1.cell (p := ⟨w.heap.size, 0, none⟩) (by simp) (h.notNew (Nat.le_refl _))).trans (cell?_new w _ _)⟩
  clear h
  go_enter Tryz.func135, Tryz.ntmps135
  go_wp2_with fail
  refine (HA.out _ rfl).mono ?_
  rintro e w' ⟨rfl, HR, x1⟩
  clear HA
  go_wp2
  go_ret2
  exact ⟨rfl, HR.out⟩
theorem store_ok (L : Lay) (S : AS) (w : World) (k j : Nat) (y : Int) (h : Holds w L S) (hr : S.rc = 0) (hk : k < S.n) (hu : S.use k = true) (hj : j < S.wd) : Calls Tryz.prog 215 #[.pointer (some ⟨L.b, 0, none⟩), .int .i64 ((k : Int) + 1), .int .i64 (j : Int), .int .u64 y] w fun e w' => e = .returned (.int .i64 0) ∧ Holds w' L { S with rc := 0, acc := wrap64 (S.acc + 1), word := upd S.word (k * S.wd + j) y } ∧ Keeps L.has w w' := by
  have hN : k * S.wd + S.wd ≤ S.n * S.wd := by rw [← Nat.succ_mul]; exact Nat.mul_le_mul_right _ hk
  have HA : Hid (∀ W, W = w.alloc (.cells #[.int .u64 y] 104) → Calls Tryz.prog 178 #[.pointer (some ⟨L.b, 0, none⟩), .int .i64 ((k : Int) + 1), .int .i64 (j : Int), .func (.func 222) #[] #[.pointer (some ⟨w.heap.size, 0, none⟩)]] W fun e w' => e = .returned (.int .i64 0) ∧ Hid (Holds w' L { S with rc := 0, acc := wrap64 (S.acc + 1), word := upd S.word (k * S.wd + j) y } ∧ Keeps L.has w w')) := by
    rintro W rfl
    refine (access_store L S _ k j _ (upd S.word (k * S.wd + j) y) L.has (fun _ => True) (h.alloc _) hr hk hu hj (fun k h => h) (fun _ _ _ _ => trivial) ?_).mono ?_
    · intro W hW hK
      have q1 : W.cell? ⟨w.heap.size, 0, none⟩ = some (.int .u64 y) := (hK.cell (p := ⟨w.heap.size, 0, none⟩) (by simp) (h.notNew (Nat.le_refl _))).trans (cell?_new w _ _)
      refine (store1_any _ w.heap.size _ _ W (hW.wo (k * S.wd + j) (by show _ < S.n * S.wd; omega)) (hW.fz _ _ (Or.inr (Or.inr (Or.inl rfl)))) q1).mono ?_
      rintro e w' ⟨rfl, rfl⟩
      exact ⟨rfl, hW.setWord _ y, (Keeps.refl _ _).setCell (Or.inr (Or.inr (Or.inl rfl))) _, trivial⟩
    · rintro e w' ⟨rfl, h1, k1, _⟩
      exact ⟨rfl, h1, ((Keeps.refl L.has w).alloc _).trans k1⟩
  clear h hN
  go_enter Tryz.func215, Tryz.ntmps215
  go_wp2_with fail
  refine (HA.out _ rfl).mono ?_
  rintro e w' ⟨rfl, HR⟩
  clear HA
  go_wp2
  go_ret
  exact ⟨rfl, HR.out⟩
theorem store_no (L : Lay) (S : AS) (w : World) (x z y : Int) (h : Holds w L S) (hr : S.rc = 0) (hx : ¬ S.live x) : Calls Tryz.prog 215 #[.pointer (some ⟨L.b, 0, none⟩), .int .i64 x, .int .i64 z, .int .u64 y] w fun e w' => e = .returned (.int .i64 22) ∧ Holds w' L { S with rc := 0, miss := wrap64 (S.miss + 1) } ∧ Keeps L.has w w' := by
  have HA : Hid (∀ W, W = w.alloc (.cells #[.int .u64 y] 104) → Calls Tryz.prog 178 #[.pointer (some ⟨L.b, 0, none⟩), .int .i64 x, .int .i64 z, .func (.func 222) #[] #[.pointer (some ⟨w.heap.size, 0, none⟩)]] W fun e w' => e = .returned (.int .i64 22) ∧ Hid (Holds w' L { S with rc := 0, miss := wrap64 (S.miss + 1) } ∧ Keeps L.has w w')) := by
    rintro W rfl
    refine (access_store_no L S _ x z _ (h.alloc _) hr hx).mono ?_
    rintro e w' ⟨rfl, h1, k1⟩
    exact ⟨rfl, h1, ((Keeps.refl L.has w).alloc _).trans k1⟩
  clear h
  go_enter Tryz.func215, Tryz.ntmps215
  go_wp2_with fail
  refine (HA.out _ rfl).mono ?_
  rintro e w' ⟨rfl, HR⟩
  clear HA
  go_wp2
  go_ret
  exact ⟨rfl, HR.out⟩
end Go.Proofs.YteekompojgbkhaaGreat

namespace Go.Proofs.YteekompojgbkhaaGreat
open Go.ChangeShapes Go.WideShapes Go.ChangeAt Go.RowKit Go.MuLone Go.RwLone
set_option linter.unusedVariables false
set_option maxRecDepth 100000
set_option maxHeartbeats 1600000
/-- The world in which CAS calls access. -/
abbrev casW (w : World) (x y : Int) : World := ((w.alloc (.cells #[.int .u64 x] 104)).alloc (.cells #[.int .u64 y] 104)).alloc (.cells #[.bool false] 4)
end Go.Proofs.YteekompojgbkhaaGreat

namespace Go.Proofs.YteekompojgbkhaaGreat
open Go.ChangeShapes Go.WideShapes Go.ChangeAt Go.RowKit
set_option linter.unusedVariables false
theorem infoP : (Tryz.prog.info? 215).map (fun i => (i.zero, i.size, i.bytes)) = some (some (.agg #[.int .u32 0, .string ⟨#[]⟩, .string ⟨#[]⟩, .int .i64 0, .int .i64 0]), 5, 56) := by kernel_rfl
theorem Made.fill {w W : World} {s u n wd : Nat} (h : Made w s u n wd W) (h1 : 1 ≤ n) (h2 : n ≤ 4096) (h3 : 1 ≤ wd) (h4 : wd ≤ 16) : Calls Tryz.prog 57 #[.pointer (some ⟨w.heap.size + 2, 9, none⟩), .int .i64 (n : Int)] W fun e w' => e = .returned (.tuple #[]) ∧ Hid (Holds w' ⟨w.heap.size + 2, s, u, w.heap.size + 3⟩ (.fresh n wd) ∧ Below w.heap.size w w') := by
  have hsz := h.size
  refine (fill_any (w.heap.size + 2) 9 n W (by omega) (by omega) (by omega) ((cell?_heap h.a _).trans rfl) ((cell?_heap h.a _).trans rfl) ((cell?_heap h.a _).trans rfl) (frozen?_heap h.a _) (frozen?_heap h.a _)).mono ?_
  rintro e w' ⟨rfl, hf⟩
  exact ⟨rfl, h.holds ⟨h1, h2⟩ ⟨h3, h4⟩ hf⟩
set_option maxRecDepth 100000 in
set_option maxHeartbeats 1600000 in
theorem new_ok (n wd : Nat) (w : World) (h1 : 1 ≤ n) (h2 : n ≤ 4096) (h3 : 1 ≤ wd) (h4 : wd ≤ 16) : Calls Tryz.prog 34 #[.int .i64 (n : Int), .int .i64 (wd : Int)] w fun e w' => ∃ s u, e = .returned (.tuple #[.pointer (some ⟨w.heap.size + 2, 0, none⟩), .int .i64 0]) ∧ (s = w.heap.size ∧ u = w.heap.size + 1 ∨ s = w.heap.size + 1 ∧ u = w.heap.size) ∧ Holds w' ⟨w.heap.size + 2, s, u, w.heap.size + 3⟩ (.fresh n wd) ∧ Below w.heap.size w w' := by
  have i1 : ¬ (n : Int) < 1 := by omega
  have i2 : ¬ (n : Int) > 4096 := by omega
  have i3 : ¬ (wd : Int) < 1 := by omega
  have i4 : ¬ (wd : Int) > 16 := by omega
  have hnw : n * wd ≤ 65536 := Nat.le_trans (Nat.mul_le_mul h2 h4) (by decide)
  have hm1 := run_make_any (P := Tryz.prog) 121 215 _ 5 56 Tryz.underlying121 infoP n (by omega) (by omega)
  have hm2 := run_make_any (P := Tryz.prog) 122 148 _ 1 8 Tryz.underlying122 infoU (n * wd) (by omega) (by omega)
  have hw : IntKind.i64.wrap ((n : Int) * (wd : Int)) = ((n * wd : Nat) : Int) := by rw [IntKind.wrap_i64, ← Int.natCast_mul]; omega
  have HM1 : Hid (Made w _ _ n wd _) := Made.one w n wd
  have HM2 : Hid (Made w _ _ n wd _) := Made.two w n wd
  rw [Int.natCast_mul] at hw hm2
  go_enter Tryz.func34, Tryz.ntmps34
  go_wp2_with fail
  refine wp_twice ?_
  refine ⟨?_, ?_, ?_, ?_, ?_, ?_, ?_⟩
  rotate_left 4
  · go_region_with (fail)
    all_goals first | exact Post2.one _ _ _ _ | exact Post2.two _ _ _ _
  · clear hm1 hm2 hw hnw HM2
    go_wp2_with fail
    refine (HM1.out.fill h1 h2 h3 h4).mono ?_
    rintro e w' ⟨rfl, HF⟩
    clear HM1
    go_wp2
    go_ret2
    exact ⟨_, _, rfl, Or.inl ⟨rfl, rfl⟩, HF.out.1, HF.out.2⟩
  · clear hm1 hm2 hw hnw HM1
    go_wp2_with fail
    refine (HM2.out.fill h1 h2 h3 h4).mono ?_
    rintro e w' ⟨rfl, HF⟩
    clear HM2
    go_wp2
    go_ret2
    exact ⟨_, _, rfl, Or.inr ⟨rfl, rfl⟩, HF.out.1, HF.out.2⟩
end Go.Proofs.YteekompojgbkhaaGreat

namespace Go.Proofs.YteekompojgbkhaaGreat
open Go.ChangeShapes Go.WideShapes Go.ChangeAt Go.RowKit
set_option linter.unusedVariables false

/-- The slice value v holds the numbers vs, in blocks below B. -/
def SeesI (w : World) (B : Nat) (v : Value) (vs : List Int) : Prop :=
  ∃ ao cap, v = .slice ao vs.length cap ∧ vs.length ≤ cap ∧ vs.length ≤ 140737488355328 ∧ (∀ i (hi : i < vs.length), ∃ b off, ao = some ⟨b, off, none⟩ ∧ b < B ∧ w.cell? ⟨b, off + i, none⟩ = some (.int .i64 vs[i]))
theorem SeesI.later {w w' : World} {B : Nat} {v : Value} {vs : List Int} (h : SeesI w B v vs) (hb : Below B w w') : SeesI w' B v vs := by
  obtain ⟨ao, cap, rfl, h1, h2, h3⟩ := h
  refine ⟨ao, cap, rfl, h1, h2, fun i hi => ?_⟩
  obtain ⟨b, off, e, hbB, c0⟩ := h3 i hi
  exact ⟨b, off, e, hbB, by rw [hb.cell hbB]; exact c0⟩
/-- The slice value v holds just the numbers xs, in a row of the call's own (blocks from B on). -/
def ownI (w : World) (B : Nat) (v : Value) (xs : List Int) : Prop := w.ownsRow B 3 1 v xs.length (xs.map (Value.int .i64))
theorem ownI_nil (w : World) (B : Nat) : ownI w B (.slice none 0 0) [] := World.ownsRow_nil _ _ _ _
theorem ownI.drew {w : World} {B : Nat} {v : Value} {xs : List Int} (h : ownI w B v xs) : ownI w.drew B v xs := World.ownsRow.drew h
theorem ownsRow_of_block {w w' : World} {B : Nat} {e : TypeId} {size : Nat} {v : Value} {n : Nat} {xs : List Value} (h : w.ownsRow B e size v n xs) (hk : ∀ g, v.ownBlock = some g → w'.heap[g]? = w.heap[g]?) : w'.ownsRow B e size v n xs := by
  refine ⟨h.1, ?_⟩
  rcases h.2 with h1 | ⟨g, cap, cur, rfl, h1, h2, h3⟩
  · exact Or.inl h1
  · exact Or.inr ⟨g, cap, cur, rfl, h1, (hk g rfl).trans h2, h3⟩
theorem ownI.keeps {w w' : World} {B : Nat} {v : Value} {xs : List Int} {P : Nat → Prop} (h : ownI w B v xs) (hk : Keeps P w w') (hP : ∀ g, B ≤ g → ¬ P g) : ownI w' B v xs :=
  ownsRow_of_block h (fun g hg => by obtain ⟨h1, h2⟩ := World.ownsRow.lt h g hg; exact hk.block g h2 (hP g h1))
theorem ownI.form {w : World} {B : Nat} {v : Value} {xs : List Int} (h : ownI w B v xs) : ∃ sp cap, v = .slice sp xs.length cap ∧ ∀ i (hi : i < xs.length), ∃ g, sp = some ⟨g, 0, none⟩ ∧ w.cell? ⟨g, i, none⟩ = some (.int .i64 xs[i]) := by
  rcases h.2 with ⟨rfl, hn⟩ | ⟨g, cap, cur, rfl, h1, h2, h3⟩
  · exact ⟨none, 0, by rw [hn], fun i hi => by omega⟩
  · refine ⟨some ⟨g, 0, none⟩, cap, rfl, fun i hi => ⟨g, rfl, ?_⟩⟩
    have := World.ownsRow.cellAt (g := g) (cap := cap) h i (by omega)
    rw [this]
    simp [List.getElem?_eq_getElem hi]

theorem infoW : (Tryz.prog.info? 104).map (fun i => (i.zero, i.size, i.bytes)) = some (some (.int .u64 0), 1, 8) := by kernel_rfl
/-- The slice value v holds just the numbers xs, in a row of the call's own (blocks from B on). -/
def ownU (w : World) (B : Nat) (v : Value) (xs : List Int) : Prop := w.ownsRow B 104 1 v xs.length (xs.map (Value.int .u64))
theorem ownU.drew {w : World} {B : Nat} {v : Value} {xs : List Int} (h : ownU w B v xs) : ownU w.drew B v xs := World.ownsRow.drew h
theorem ownU.keeps {w w' : World} {B : Nat} {v : Value} {xs : List Int} {P : Nat → Prop} (h : ownU w B v xs) (hk : Keeps P w w') (hP : ∀ g, B ≤ g → ¬ P g) : ownU w' B v xs :=
  ownsRow_of_block h (fun g hg => by obtain ⟨h1, h2⟩ := World.ownsRow.lt h g hg; exact hk.block g h2 (hP g h1))
theorem ownU.form {w : World} {B : Nat} {v : Value} {xs : List Int} (h : ownU w B v xs) : ∃ sp cap, v = .slice sp xs.length cap ∧ ∀ i (hi : i < xs.length), ∃ g, sp = some ⟨g, 0, none⟩ ∧ w.cell? ⟨g, i, none⟩ = some (.int .u64 xs[i]) := by
  rcases h.2 with ⟨rfl, hn⟩ | ⟨g, cap, cur, rfl, h1, h2, h3⟩
  · exact ⟨none, 0, by rw [hn], fun i hi => by omega⟩
  · refine ⟨some ⟨g, 0, none⟩, cap, rfl, fun i hi => ⟨g, rfl, ?_⟩⟩
    have := World.ownsRow.cellAt (g := g) (cap := cap) h i (by omega)
    rw [this]
    simp [List.getElem?_eq_getElem hi]


end Go.Proofs.YteekompojgbkhaaGreat
