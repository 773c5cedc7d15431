import Derived.Test.YteekompojgbkhaaGreatKCells16E
import Derived.Test.YteekompojgbkhaaGreatKCells15E
import Derived.Test.YteekompojgbkhaaGreatKCells14E
import Derived.Test.YteekompojgbkhaaGreatKRegG
import Derived.OwnWalk
import Derived.Below
import Derived.Laws.OwnMore
import Derived.Deep.OwnRows
import Derived.Laws.AppendOwnNone
namespace Go.Proofs.YteekompojgbkhaaGreat
open Go.ChangeShapes Go.WideShapes Go.ChangeAt Go.RowKit Go.MuLone Go.RwLone
set_option linter.unusedVariables false
set_option maxRecDepth 100000
set_option maxHeartbeats 3200000
/-- Is this the number of a slot in use? -/
def liv (S : AS) (x : Int) : Bool := decide (1 ≤ x) && (decide (x ≤ (S.n : Int)) && S.use (x - 1).toNat)
theorem liv_yes {S : AS} {x : Int} (h : liv S x = true) : ∃ k, k < S.n ∧ x = (k : Int) + 1 ∧ S.use k = true := by
  unfold liv at h
  rw [Bool.and_eq_true, Bool.and_eq_true, decide_eq_true_eq, decide_eq_true_eq] at h
  exact ⟨(x - 1).toNat, by omega, by omega, h.2.2⟩
theorem liv_no {S : AS} {x : Int} (h : liv S x = false) : ¬ S.live x := by
  rintro ⟨k, h1, rfl, h3⟩
  unfold liv at h
  rw [show ((k : Int) + 1 - 1).toNat = k from by omega, h3, decide_eq_true (show 1 ≤ (k : Int) + 1 by omega), decide_eq_true (show (k : Int) + 1 ≤ (S.n : Int) by omega)] at h
  cases h
/-- The number of the cell of a slot. -/
def atC (S : AS) (x : Int) (j : Nat) : Nat := (x - 1).toNat * S.wd + j
theorem atC_of (S : AS) (k j : Nat) : atC S ((k : Int) + 1) j = k * S.wd + j := by unfold atC; rw [show ((k : Int) + 1 - 1).toNat = k from by omega]
/-- An access more, a miss more. -/
def acc1 (S : AS) : AS := { S with acc := wrap64 (S.acc + 1) }
def mis1 (S : AS) : AS := { S with miss := wrap64 (S.miss + 1) }
def put1 (S : AS) (i : Nat) (y : Int) : AS := { S with acc := wrap64 (S.acc + 1), word := upd S.word i y }
theorem eta_rc0 (S : AS) (h : S.rc = 0) : { S with rc := 0 } = S := AS.eta_rc S 0 h
theorem arn_load (L : Lay) (S : AS) (w : World) (Q : List Nat) (x : Int) (j : Nat) (h : Arn w L Q S) (hx : liv S x = true) (hj : j < S.wd) : Calls Tryz.prog 135 #[.pointer (some ⟨L.b, 0, none⟩), .int .i64 x, .int .i64 (j : Int)] w fun e w' => e = .returned (.tuple #[.int .u64 (S.word (atC S x j)), .int .i64 0]) ∧ Arn w' L Q (acc1 S) ∧ Keeps L.has w w' := by
  obtain ⟨k, hk, rfl, hu⟩ := liv_yes hx
  rw [atC_of]
  refine (load_ok L S w k j h.h h.rc hk hu hj).mono ?_
  rintro e w' ⟨rfl, h2, k2⟩
  have e2 : ({ S with rc := 0, acc := wrap64 (S.acc + 1) } : AS) = acc1 S := eta_rc0 (acc1 S) h.rc
  rw [e2] at h2
  exact ⟨rfl, h.same h2 rfl rfl rfl rfl rfl rfl rfl rfl, k2⟩
theorem arn_load_no (L : Lay) (S : AS) (w : World) (Q : List Nat) (x y : Int) (h : Arn w L Q S) (hx : liv S x = false) : Calls Tryz.prog 135 #[.pointer (some ⟨L.b, 0, none⟩), .int .i64 x, .int .i64 y] w fun e w' => e = .returned (.tuple #[.int .u64 0, .int .i64 22]) ∧ Arn w' L Q (mis1 S) ∧ Keeps L.has w w' := by
  refine (load_no L S w x y h.h h.rc (liv_no hx)).mono ?_
  rintro e w' ⟨rfl, h2, k2⟩
  have e2 : ({ S with rc := 0, miss := wrap64 (S.miss + 1) } : AS) = mis1 S := eta_rc0 (mis1 S) h.rc
  rw [e2] at h2
  exact ⟨rfl, h.same h2 rfl rfl rfl rfl rfl rfl rfl rfl, k2⟩
theorem arn_store (L : Lay) (S : AS) (w : World) (Q : List Nat) (x : Int) (j : Nat) (y : Int) (h : Arn w L Q S) (hx : liv S x = true) (hj : j < S.wd) : Calls Tryz.prog 215 #[.pointer (some ⟨L.b, 0, none⟩), .int .i64 x, .int .i64 (j : Int), .int .u64 y] w fun e w' => e = .returned (.int .i64 0) ∧ Arn w' L Q (put1 S (atC S x j) y) ∧ Keeps L.has w w' := by
  obtain ⟨k, hk, rfl, hu⟩ := liv_yes hx
  rw [atC_of]
  refine (store_ok L S w k j y h.h h.rc hk hu hj).mono ?_
  rintro e w' ⟨rfl, h2, k2⟩
  have e2 : ({ S with rc := 0, acc := wrap64 (S.acc + 1), word := upd S.word (k * S.wd + j) y } : AS) = put1 S (k * S.wd + j) y := eta_rc0 (put1 S (k * S.wd + j) y) h.rc
  rw [e2] at h2
  exact ⟨rfl, h.same h2 rfl rfl rfl rfl rfl rfl rfl rfl, k2⟩
theorem arn_store_no (L : Lay) (S : AS) (w : World) (Q : List Nat) (x z y : Int) (h : Arn w L Q S) (hx : liv S x = false) : Calls Tryz.prog 215 #[.pointer (some ⟨L.b, 0, none⟩), .int .i64 x, .int .i64 z, .int .u64 y] w fun e w' => e = .returned (.int .i64 22) ∧ Arn w' L Q (mis1 S) ∧ Keeps L.has w w' := by
  refine (store_no L S w x z y h.h h.rc (liv_no hx)).mono ?_
  rintro e w' ⟨rfl, h2, k2⟩
  have e2 : ({ S with rc := 0, miss := wrap64 (S.miss + 1) } : AS) = mis1 S := eta_rc0 (mis1 S) h.rc
  rw [e2] at h2
  exact ⟨rfl, h.same h2 rfl rfl rfl rfl rfl rfl rfl rfl, k2⟩
theorem arn_cas_hit (L : Lay) (S : AS) (w : World) (Q : List Nat) (x : Int) (j : Nat) (u y : Int) (h : Arn w L Q S) (hx : liv S x = true) (hj : j < S.wd) (hu : S.word (atC S x j) = u) : Calls Tryz.prog 221 #[.pointer (some ⟨L.b, 0, none⟩), .int .i64 x, .int .i64 (j : Int), .int .u64 u, .int .u64 y] w fun e w' => e = .returned (.tuple #[.bool true, .int .i64 0]) ∧ Arn w' L Q (put1 S (atC S x j) y) ∧ Keeps L.has w w' := by
  obtain ⟨k, hk, rfl, hus⟩ := liv_yes hx
  rw [atC_of] at hu ⊢
  refine (cas_any L S w k j u y true (upd S.word (k * S.wd + j) y) ⟨by rw [hu, decide_eq_true rfl], by rw [if_pos hu]⟩ h.h h.rc hk hus hj).mono ?_
  rintro e w' ⟨rfl, h2, k2⟩
  have e2 : ({ S with rc := 0, acc := wrap64 (S.acc + 1), word := upd S.word (k * S.wd + j) y } : AS) = put1 S (k * S.wd + j) y := eta_rc0 (put1 S (k * S.wd + j) y) h.rc
  rw [e2] at h2
  exact ⟨rfl, h.same h2 rfl rfl rfl rfl rfl rfl rfl rfl, k2⟩
theorem arn_cas_miss (L : Lay) (S : AS) (w : World) (Q : List Nat) (x : Int) (j : Nat) (u y : Int) (h : Arn w L Q S) (hx : liv S x = true) (hj : j < S.wd) (hu : ¬ S.word (atC S x j) = u) : Calls Tryz.prog 221 #[.pointer (some ⟨L.b, 0, none⟩), .int .i64 x, .int .i64 (j : Int), .int .u64 u, .int .u64 y] w fun e w' => e = .returned (.tuple #[.bool false, .int .i64 0]) ∧ Arn w' L Q (acc1 S) ∧ Keeps L.has w w' := by
  obtain ⟨k, hk, rfl, hus⟩ := liv_yes hx
  rw [atC_of] at hu
  refine (cas_any L S w k j u y false S.word ⟨by rw [decide_eq_false hu], by rw [if_neg hu]⟩ h.h h.rc hk hus hj).mono ?_
  rintro e w' ⟨rfl, h2, k2⟩
  have e2 : ({ S with rc := 0, acc := wrap64 (S.acc + 1), word := S.word } : AS) = acc1 S := eta_rc0 (acc1 S) h.rc
  rw [e2] at h2
  exact ⟨rfl, h.same h2 rfl rfl rfl rfl rfl rfl rfl rfl, k2⟩
theorem arn_cas_no (L : Lay) (S : AS) (w : World) (Q : List Nat) (x v u y : Int) (h : Arn w L Q S) (hx : liv S x = false) : Calls Tryz.prog 221 #[.pointer (some ⟨L.b, 0, none⟩), .int .i64 x, .int .i64 v, .int .u64 u, .int .u64 y] w fun e w' => e = .returned (.tuple #[.bool false, .int .i64 22]) ∧ Arn w' L Q (mis1 S) ∧ Keeps L.has w w' := by
  refine (cas_no L S w x v u y h.h h.rc (liv_no hx)).mono ?_
  rintro e w' ⟨rfl, h2, k2⟩
  have e2 : ({ S with rc := 0, miss := wrap64 (S.miss + 1) } : AS) = mis1 S := eta_rc0 (mis1 S) h.rc
  rw [e2] at h2
  exact ⟨rfl, h.same h2 rfl rfl rfl rfl rfl rfl rfl rfl, k2⟩
/-- An index, plain: the cell of the links, the heads' words, their accesses. -/
structure XS where
  cell : Nat
  nb : Nat
  hd : Nat → Int
  cn : Int
/-- Where it lies. -/
structure XL where
  x : Nat
  h : Nat
def XL.has (X : XL) (g : Nat) : Prop := g = X.x ∨ g = X.h
structure IxH (w : World) (ab : Nat) (X : XL) (x : XS) : Prop where
  c0 : w.cell? ⟨X.x, 0, none⟩ = some (.pointer (some ⟨ab, 0, none⟩))
  c1 : w.cell? ⟨X.x, 1, none⟩ = some (.int .i64 (x.cell : Int))
  c2 : w.cell? ⟨X.x, 2, none⟩ = some (.slice (some ⟨X.h, 0, none⟩) x.nb x.nb)
  c3 : w.cell? ⟨X.x, 3, none⟩ = some (.int .i64 x.cn)
  hd : ∀ b, b < x.nb → w.cell? ⟨X.h, b, none⟩ = some (.int .u64 (x.hd b))
  f : ∀ g j, X.has g → w.frozen? ⟨g, j, none⟩ = false
  lx : X.x < w.heap.size
  lh : X.h < w.heap.size
  ne : X.x ≠ X.h
  nb : 1 ≤ x.nb ∧ x.nb ≤ 256
theorem IxH.keeps {w w' : World} {ab : Nat} {X : XL} {x : XS} {D : Nat → Prop} (h : IxH w ab X x) (k : Keeps D w w') (hn : ∀ g, X.has g → ¬ D g) : IxH w' ab X x := by
  have e1 : ∀ j, w'.cell? ⟨X.x, j, none⟩ = w.cell? ⟨X.x, j, none⟩ := fun j => k.cell (p := ⟨X.x, j, none⟩) h.lx (hn _ (.inl rfl))
  have e2 : ∀ j, w'.cell? ⟨X.h, j, none⟩ = w.cell? ⟨X.h, j, none⟩ := fun j => k.cell (p := ⟨X.h, j, none⟩) h.lh (hn _ (.inr rfl))
  refine ⟨(e1 0).trans h.c0, (e1 1).trans h.c1, (e1 2).trans h.c2, (e1 3).trans h.c3, fun b hb => (e2 b).trans (h.hd b hb), fun g j hg => ?_, Nat.lt_of_lt_of_le h.lx k.size, Nat.lt_of_lt_of_le h.lh k.size, h.ne, h.nb⟩
  rcases hg with rfl | rfl
  · exact (World.frozen?_of_block (w := w) (a := ⟨X.x, j, none⟩) (k.block X.x h.lx (hn _ (.inl rfl)))).trans (h.f _ j (.inl rfl))
  · exact (World.frozen?_of_block (w := w) (a := ⟨X.h, j, none⟩) (k.block X.h h.lh (hn _ (.inr rfl)))).trans (h.f _ j (.inr rfl))
def XS.cn1 (x : XS) : XS := { x with cn := wrap64 (x.cn + 1) }
theorem IxH.setCn {w : World} {ab : Nat} {X : XL} {x : XS} (h : IxH w ab X x) (v : Int) : IxH (w.setCell ⟨X.x, 3, none⟩ (.int .i64 v)) ab X { x with cn := v } := by
  have o : ∀ j, j ≠ 3 → (w.setCell ⟨X.x, 3, none⟩ (.int .i64 v)).cell? ⟨X.x, j, none⟩ = w.cell? ⟨X.x, j, none⟩ := fun j hj => World.cell?_setCell_other _ _ _ _ (fun e => hj (congrArg Addr.off e).symm)
  have o2 : ∀ j, (w.setCell ⟨X.x, 3, none⟩ (.int .i64 v)).cell? ⟨X.h, j, none⟩ = w.cell? ⟨X.h, j, none⟩ := fun j => World.cell?_setCell_other _ _ _ _ (fun e => h.ne (congrArg Addr.block e))
  exact ⟨(o 0 (by decide)).trans h.c0, (o 1 (by decide)).trans h.c1, (o 2 (by decide)).trans h.c2, World.cell?_setCell_same _ _ _ h.c3, fun b hb => (o2 b).trans (h.hd b hb), fun g j hg => by simpa using h.f g j hg, by simpa using h.lx, by simpa using h.lh, h.ne, h.nb⟩
theorem IxH.setHd {w : World} {ab : Nat} {X : XL} {x : XS} (h : IxH w ab X x) (b : Nat) (hb : b < x.nb) (v : Int) : IxH (w.setCell ⟨X.h, b, none⟩ (.int .u64 v)) ab X { x with hd := upd x.hd b v } := by
  have o : ∀ j, (w.setCell ⟨X.h, b, none⟩ (.int .u64 v)).cell? ⟨X.x, j, none⟩ = w.cell? ⟨X.x, j, none⟩ := fun j => World.cell?_setCell_other _ _ _ _ (fun e => h.ne (congrArg Addr.block e).symm)
  refine ⟨(o 0).trans h.c0, (o 1).trans h.c1, (o 2).trans h.c2, (o 3).trans h.c3, fun i hi => ?_, fun g j hg => by simpa using h.f g j hg, by simpa using h.lx, by simpa using h.lh, h.ne, h.nb⟩
  by_cases e : i = b
  · subst e
    show _ = some (Value.int _ (upd x.hd i v i))
    rw [upd_same]
    exact World.cell?_setCell_same _ _ _ (h.hd i hb)
  · show _ = some (Value.int _ (upd x.hd b v i))
    rw [upd_other _ _ e, World.cell?_setCell_other _ _ _ _ (fun e' => e (congrArg Addr.off e').symm)]
    exact h.hd i hi
/-- A word that is a link. -/
def LkOk (v : Int) : Prop := 0 ≤ v ∧ v ≤ 4294967295
theorem lkof_any (n : Int) (w : World) (h0 : 0 ≤ n) (h1 : n ≤ 2147483647) : Calls Tryz.prog 60 #[.int .i64 n] w fun e w' => e = .returned (.int .u64 (2 * n)) ∧ w' = w := by
  have hl := link12 n false w (by omega) (by omega)
  have e : linkV n false = (2 * n, 0) := by unfold linkV; rw [if_pos ⟨h0, h1⟩]; simp
  rw [e] at hl
  have HL : Hid (∀ _ : Unit, _) := fun _ => hl
  clear hl e
  go_enter Tryz.func60, Tryz.ntmps60
  go_wp2_with fail
  refine (HL.out ()).mono ?_
  rintro e w' ⟨rfl, rfl⟩
  go_wp2
  go_ret
  exact ⟨rfl, rfl⟩
theorem mkof_any (n : Int) (w : World) (h0 : 0 ≤ n) (h1 : n ≤ 2147483647) : Calls Tryz.prog 212 #[.int .i64 n] w fun e w' => e = .returned (.int .u64 (2 * n + 1)) ∧ w' = w := by
  have hl := link12 n true w (by omega) (by omega)
  have e : linkV n true = (2 * n + 1, 0) := by unfold linkV; rw [if_pos ⟨h0, h1⟩]; simp
  rw [e] at hl
  have HL : Hid (∀ _ : Unit, _) := fun _ => hl
  clear hl e
  go_enter Tryz.func212, Tryz.ntmps212
  go_wp2_with fail
  refine (HL.out ()).mono ?_
  rintro e w' ⟨rfl, rfl⟩
  go_wp2
  go_ret
  exact ⟨rfl, rfl⟩
theorem take_any (v : Int) (w : World) (h : LkOk v) : Calls Tryz.prog 81 #[.int .u64 v] w fun e w' => e = .returned (.tuple #[.int .i64 (v / 2), .bool (v % 2 == 1)]) ∧ w' = w := by
  have hl := of13 v w h.1 (by have := h.2; omega)
  have e : ofLinkV v = (v / 2, v % 2 == 1, 0) := by unfold ofLinkV; rw [if_pos (by have := h.2; omega)]
  rw [e] at hl
  have HL : Hid (∀ _ : Unit, _) := fun _ => hl
  obtain ⟨a, ha⟩ : ∃ a, v / 2 = a := ⟨_, rfl⟩
  obtain ⟨b, hb⟩ : ∃ b, (v % 2 == 1) = b := ⟨_, rfl⟩
  rw [ha, hb] at HL ⊢
  clear hl e ha hb
  go_enter Tryz.func81, Tryz.ntmps81
  go_wp2_with fail
  refine (HL.out ()).mono ?_
  rintro e w' ⟨rfl, rfl⟩
  go_wp2
  go_ret2
  exact ⟨rfl, rfl⟩
theorem end_of (b : Int) (w : World) (h0 : 0 ≤ b) (h1 : b ≤ 1000) : Calls Tryz.prog 61 #[.int .i64 b] w fun e w' => e = .returned (.int .i64 (4097 + b)) ∧ w' = w := by
  go_enter Tryz.func61, Tryz.ntmps61
  go_wp2
  go_ret
  exact ⟨rfl, rfl⟩
theorem is_end (n : Int) (w : World) : Calls Tryz.prog 132 #[.int .i64 n] w fun e w' => e = .returned (.bool (decide (4096 < n))) ∧ w' = w := by
  go_enter Tryz.func132, Tryz.ntmps132
  go_wp2
  go_ret
  exact ⟨rfl, rfl⟩
end Go.Proofs.YteekompojgbkhaaGreat

namespace Go.Proofs.YteekompojgbkhaaGreat
open Go.ChangeShapes Go.WideShapes Go.ChangeAt Go.RowKit
set_option linter.unusedVariables false
set_option maxRecDepth 100000
theorem addr_add (b off k : Nat) : (⟨b, off, none⟩ : Addr).add k = ⟨b, off + k, none⟩ := by unfold Addr.add; split <;> simp_all
theorem szAl (w : World) (o : Obj) : (w.alloc o).heap.size = w.heap.size + 1 := by show (w.heap.push o).size = _; simp
/-- The slice value v reads as the list xs, each thing in the cells that cs tells, in blocks below B. -/
def InG {α : Type} (cs : α → List Value) (w : World) (B : Nat) (v : Value) (xs : List α) : Prop :=
  ∃ ao cap, v = .slice ao xs.length cap ∧ xs.length ≤ cap ∧ (ao = none → cap = 0) ∧ ∀ j u, (xs.flatMap cs)[j]? = some u → ∃ b off, ao = some ⟨b, off, none⟩ ∧ b < B ∧ w.cell? ⟨b, off + j, none⟩ = some u
theorem InG.later {α : Type} {cs : α → List Value} {w w' : World} {B : Nat} {v : Value} {xs : List α} (h : InG cs w B v xs) (hb : Below B w w') : InG cs w' B v xs := by
  obtain ⟨ao, cap, e, h1, h2, h3⟩ := h
  refine ⟨ao, cap, e, h1, h2, fun j u hj => ?_⟩
  obtain ⟨b, off, e1, e2, e3⟩ := h3 j u hj
  exact ⟨b, off, e1, e2, (hb.cell e2).trans e3⟩
theorem InG.up {α : Type} {cs : α → List Value} {w : World} {B C : Nat} {v : Value} {xs : List α} (h : InG cs w B v xs) (hb : B ≤ C) : InG cs w C v xs := by
  obtain ⟨ao, cap, e, h1, h2, h3⟩ := h
  refine ⟨ao, cap, e, h1, h2, fun j u hj => ?_⟩
  obtain ⟨b, off, e1, e2, e3⟩ := h3 j u hj
  exact ⟨b, off, e1, Nat.lt_of_lt_of_le e2 hb, e3⟩
theorem InG.form {α : Type} {cs : α → List Value} {w : World} {B : Nat} {v : Value} {xs : List α} (h : InG cs w B v xs) : ∃ a cap, v = .slice a xs.length cap := by
  obtain ⟨a, cap, e, _⟩ := h
  exact ⟨a, cap, e⟩
theorem flat_len {α β : Type} (cs : α → List β) (n : Nat) (hn : ∀ x, (cs x).length = n) (xs : List α) : (xs.flatMap cs).length = xs.length * n := by
  induction xs with
  | nil => simp
  | cons a xs ih => rw [List.flatMap_cons, List.length_append, ih, hn, List.length_cons, Nat.add_mul, Nat.one_mul, Nat.add_comm]
theorem flat_get {α β : Type} (cs : α → List β) (n : Nat) (hn : ∀ x, (cs x).length = n) : ∀ (xs : List α) (i : Nat) (hi : i < xs.length) (j : Nat), j < n → (xs.flatMap cs)[i * n + j]? = (cs xs[i])[j]?
  | a :: xs, 0, _, j, hj => by
    rw [List.flatMap_cons, Nat.zero_mul, Nat.zero_add, List.getElem?_append_left (by rw [hn]; exact hj)]
    rfl
  | a :: xs, i + 1, hi, j, hj => by
    rw [List.flatMap_cons, List.getElem?_append_right (by rw [hn, Nat.add_mul]; omega), hn, show (i + 1) * n + j - n = i * n + j from by rw [Nat.add_mul]; omega]
    exact flat_get cs n hn xs i (by simpa using hi) j hj
theorem InG.cell {α : Type} {cs : α → List Value} {n : Nat} (hn : ∀ x, (cs x).length = n) {w : World} {B m cap : Nat} {a : Option Addr} {xs : List α} (h : InG cs w B (.slice a m cap) xs) (i : Nat) (hi : i < xs.length) (h0 : 0 < n) :
    ∃ b off, a = some ⟨b, off, none⟩ ∧ b < B ∧ ∀ j, j < n → w.cell? ⟨b, off + i * n + j, none⟩ = (cs xs[i])[j]? := by
  obtain ⟨ao, cap', e, h1, h2, h3⟩ := h
  injection e with e1 e2 e3
  subst e1
  have get : ∀ j, (hj : j < n) → ∃ u, (cs xs[i])[j]? = some u := fun j hj => ⟨(cs xs[i])[j]'(by rw [hn]; exact hj), List.getElem?_eq_getElem _⟩
  obtain ⟨u0, hu0⟩ := get 0 h0
  obtain ⟨b, off, e1, e2, _⟩ := h3 (i * n + 0) u0 ((flat_get cs n hn xs i hi 0 h0).trans hu0)
  refine ⟨b, off, e1, e2, fun j hj => ?_⟩
  obtain ⟨u, hu⟩ := get j hj
  obtain ⟨b', off', e1', _, e3⟩ := h3 (i * n + j) u ((flat_get cs n hn xs i hi j hj).trans hu)
  rw [e1] at e1'
  injection e1' with e1'
  injection e1' with e4 e5
  subst e4 e5
  rw [hu, ← e3, Nat.add_assoc]
/-- The slice value v holds just the list xs, in a row of the call's own. -/
def OwG {α : Type} (cs : α → List Value) (e : TypeId) (n : Nat) (w : World) (B : Nat) (v : Value) (xs : List α) : Prop := w.ownsRow B e n v xs.length (xs.flatMap cs)
theorem OwG.nil {α : Type} (cs : α → List Value) (e : TypeId) (n : Nat) (w : World) (B : Nat) : OwG cs e n w B (.slice none 0 0) [] := World.ownsRow_nil _ _ _ _
theorem OwG.form {α : Type} {cs : α → List Value} {e : TypeId} {n : Nat} {w : World} {B : Nat} {v : Value} {xs : List α} (h : OwG cs e n w B v xs) : ∃ a cap, v = .slice a xs.length cap := by
  rcases h.2 with ⟨rfl, hn⟩ | ⟨g, cap, cur, rfl, _⟩
  · exact ⟨none, 0, by rw [hn]⟩
  · exact ⟨_, cap, rfl⟩
theorem OwG.in {α : Type} {cs : α → List Value} {e : TypeId} {n : Nat} {w : World} {B : Nat} {v : Value} {xs : List α} (h : OwG cs e n w B v xs) : InG cs w w.heap.size v xs := by
  have hh := h
  rcases h.2 with ⟨rfl, hn⟩ | ⟨g, cap, cur, rfl, hb, hg, hnc, hm, hs, ht⟩
  · refine ⟨none, 0, by rw [hn], by omega, fun _ => rfl, fun j u hj => ?_⟩
    have : xs = [] := List.eq_nil_of_length_eq_zero hn
    subst this
    simp at hj
  · refine ⟨some ⟨g, 0, none⟩, cap, rfl, hnc, (fun h => by cases h), fun j u hj => ⟨g, 0, rfl, (Array.getElem?_eq_some_iff.1 hg).1, ?_⟩⟩
    have hlt := (List.getElem?_eq_some_iff.1 hj).1
    rw [Nat.zero_add, World.ownsRow.cellAt hh j (by have := h.1; omega)]
    exact hj
/-- All blocks but those of type t stay. -/
def KpT (t : TypeId) (w w' : World) : Prop := ∀ (k : Nat) (c : Array Value) (t' : TypeId) (f : Nat × Nat), w.heap[k]? = some (Obj.cells c t' f) → t' ≠ t → w'.heap[k]? = w.heap[k]?
theorem KpT.below {t : TypeId} {w w' : World} (h : Below w.heap.size w w') : KpT t w w' := fun k c t' f hk _ => h.block k (Array.getElem?_eq_some_iff.1 hk).1
theorem KpT.trans {t : TypeId} {a b c : World} (h : KpT t a b) (g : KpT t b c) : KpT t a c := fun k c t' f hk ht => by
  have e := h k c t' f hk ht
  exact (g k c t' f (e.trans hk) ht).trans e
theorem KpT.set {t : TypeId} {w : World} {p j : Nat} {c : Array Value} {f : Nat × Nat} (h : w.heap[p]? = some (.cells c t f)) (u : Value) : KpT t w (w.setCell ⟨p, j, none⟩ u) := fun k c' t' f' hk ht => by
  refine Below.heap_setCell _ _ _ _ (fun e => ?_)
  have e' : k = p := e
  rw [e', h] at hk
  injection hk with hk
  injection hk with h1 h2 h3
  exact ht h2.symm
theorem KpT.app {e : TypeId} {n m B : Nat} {v : Value} {xs : List Value} {w w' : World} (h : w.ownsRow B e n v m xs) (hk : ∀ k, k < w.heap.size → some k ≠ v.ownBlock → w'.heap[k]? = w.heap[k]?) : KpT e w w' := fun k c t' f hc ht => by
  refine hk k (Array.getElem?_eq_some_iff.1 hc).1 (fun he => ?_)
  rcases h.2 with ⟨rfl, _⟩ | ⟨g, cap, cur, rfl, _, hg, _⟩
  · cases he
  · have e1 : k = g := Option.some.inj he
    rw [e1, hg] at hc
    injection hc with hc
    injection hc with h1 h2 h3
    exact ht h2.symm
theorem OwG.kept {α : Type} {cs : α → List Value} {e t : TypeId} {n : Nat} {w w' : World} {B : Nat} {v : Value} {xs : List α} (h : OwG cs e n w B v xs) (hk : KpT t w w') (ht : e ≠ t) : OwG cs e n w' B v xs := by
  refine ⟨h.1, ?_⟩
  rcases h.2 with h1 | ⟨g, cap, cur, rfl, h1, h2, h3⟩
  · exact .inl h1
  · exact .inr ⟨g, cap, cur, rfl, h1, (hk g cur e (0, 0) h2 ht).trans h2, h3⟩
theorem OwG.later {α : Type} {cs : α → List Value} {e : TypeId} {n : Nat} {w w' : World} {B : Nat} {v : Value} {xs : List α} (h : OwG cs e n w B v xs) (hb : Below w.heap.size w w') : OwG cs e n w' B v xs := by
  refine ⟨h.1, ?_⟩
  rcases h.2 with h1 | ⟨g, cap, cur, rfl, h1, h2, h3⟩
  · exact .inl h1
  · exact .inr ⟨g, cap, cur, rfl, h1, (hb.block g (Array.getElem?_eq_some_iff.1 h2).1).trans h2, h3⟩
theorem OwG.set {α : Type} {cs : α → List Value} {e : TypeId} {n : Nat} {w : World} {B : Nat} {v : Value} {xs : List α} (h : OwG cs e n w B v xs) {p : Addr} (hp : p.block < B) (u : Value) : OwG cs e n (w.setCell p u) B v xs := by
  refine ⟨h.1, ?_⟩
  rcases h.2 with h1 | ⟨g, cap, cur, rfl, h1, h2, h3⟩
  · exact .inl h1
  · exact .inr ⟨g, cap, cur, rfl, h1, (Below.heap_setCell _ _ _ _ (by omega)).trans h2, h3⟩
theorem OwG.down {α : Type} {cs : α → List Value} {e : TypeId} {n : Nat} {w : World} {B C : Nat} {v : Value} {xs : List α} (h : OwG cs e n w B v xs) (hc : C ≤ B) : OwG cs e n w C v xs := by
  refine ⟨h.1, ?_⟩
  rcases h.2 with h1 | ⟨g, cap, cur, e, h1, h2⟩
  · exact .inl h1
  · exact .inr ⟨g, cap, cur, e, Nat.le_trans hc h1, h2⟩
/-- One thing more, behind a row of one's own. -/
theorem app_one_wp {α : Type} {cs : α → List Value} {wr : World} {o : Oper} {a : Act} {K : Act → World → Prop} {Q : Exit → Act → World → Prop} (s x : Operand) (t e : TypeId)
    (ho : o.op = .call { callee := .builtin .append, args := #[s, x], argTypes := #[t, t] })
    {z : Value} {n bytes : Nat} (hu : Tryz.prog.underlying t = some (.slice e)) (hinfo : (Tryz.prog.info? e).map (fun i => (i.zero, i.size, i.bytes)) = some (some z, n, bytes)) (hzs : z.cells.size = n) (hn0 : 0 < n) (hn : ∀ y, (cs y).length = n)
    (B : Nat) (v : Value) (xs : List α) (c : α) (hown : OwG cs e n wr B v xs) (hs : a.eval s = v) (g : Nat) (hg : g = wr.heap.size) (hx : a.eval x = .slice (some ⟨g, 0, none⟩) 1 1) (h1 : ∀ u ∈ cs c, u.oneCell' = true)
    (ar : Array Value) (har : ar = (cs c).toArray)
    (hm : xs.length < maxLen) (hbytes : (xs.length + 1) * bytes ≤ 140737488355328) (hB : B ≤ wr.heap.size)
    (h : ∀ v' w', OwG cs e n w' B v' (xs ++ [c]) → Below B wr w' → KpT e wr w' → K (a.put o.dst v') w') :
    o.wp Tryz.prog a (wr.alloc (.cells ar e)) K Q := by
  subst hg har
  obtain ⟨i0, hi, hz0, hz1, hz2⟩ := info_parts hinfo
  refine wp_append_own _ s x t ho B e i0 z n bytes hu hi hz0 hz1 hz2 hzs hn0 v xs.length _ hs (World.ownsRow.alloc hown _)
    ⟨wr.heap.size, 0, none⟩ 1 1 (cs c) hx (by rw [hn]; omega) ?_ h1 (by omega) hbytes (by rw [szAl]; omega) ?_
  · intro j u hj
    rw [addr_add, Nat.zero_add]
    unfold World.cell?
    rw [heap_alloc_last _ _ _ rfl]
    simpa using hj
  · intro v' w' hown' hgrow _
    refine h v' w' ?_ ?_ ?_
    · have : (xs ++ [c]).length = xs.length + 1 := by simp
      unfold OwG; rw [this, List.flatMap_append, show [c].flatMap cs = cs c from by simp]; exact hown'
    · exact ((Below.refl _ _).alloc hB _).grown hgrow (by rw [szAl]; omega) (fun k hk => (World.ownsRow.lt hown k hk).1)
    · exact KpT.app hown (fun k hk hne => (hgrow.block k (by rw [szAl]; omega) hne).trans (Below.heap_alloc _ _ k hk))
/-- One thing more, behind a row of one's own. -/
theorem app_one {α : Type} {cs : α → List Value} {wr : World} {ops : Array Oper} {rest : List Oper} {o : Oper} {a : Act} {Q : Exit → Act → World → Prop} (hgd : o.guard = none) (s x : Operand) (t e : TypeId)
    (ho : o.op = .call { callee := .builtin .append, args := #[s, x], argTypes := #[t, t] })
    {z : Value} {n bytes : Nat} (hu : Tryz.prog.underlying t = some (.slice e)) (hinfo : (Tryz.prog.info? e).map (fun i => (i.zero, i.size, i.bytes)) = some (some z, n, bytes)) (hzs : z.cells.size = n) (hn0 : 0 < n) (hn : ∀ y, (cs y).length = n)
    (B : Nat) (v : Value) (xs : List α) (c : α) (hown : OwG cs e n wr B v xs) (hs : a.eval s = v) (g : Nat) (hg : g = wr.heap.size) (hx : a.eval x = .slice (some ⟨g, 0, none⟩) 1 1) (h1 : ∀ u ∈ cs c, u.oneCell' = true)
    (ar : Array Value) (har : ar = (cs c).toArray)
    (hm : xs.length < maxLen) (hbytes : (xs.length + 1) * bytes ≤ 140737488355328) (hB : B ≤ wr.heap.size)
    (h : ∀ v' w', OwG cs e n w' B v' (xs ++ [c]) → Below B wr w' → KpT e wr w' → wpList Tryz.prog ops Q rest (a.put o.dst v') w') :
    wpList Tryz.prog ops Q (o :: rest) a (wr.alloc (.cells ar e)) := by
  subst hg har
  obtain ⟨i0, hi, hz0, hz1, hz2⟩ := info_parts hinfo
  refine wpList_append_own _ hgd s x t ho B e i0 z n bytes hu hi hz0 hz1 hz2 hzs hn0 v xs.length _ hs (World.ownsRow.alloc hown _)
    ⟨wr.heap.size, 0, none⟩ 1 1 (cs c) hx (by rw [hn]; omega) ?_ h1 (by omega) hbytes (by rw [szAl]; omega) ?_
  · intro j u hj
    rw [addr_add, Nat.zero_add]
    unfold World.cell?
    rw [heap_alloc_last _ _ _ rfl]
    simpa using hj
  · intro v' w' hown' hgrow _
    refine h v' w' ?_ ?_ ?_
    · have : (xs ++ [c]).length = xs.length + 1 := by simp
      unfold OwG; rw [this, List.flatMap_append, show [c].flatMap cs = cs c from by simp]; exact hown'
    · exact ((Below.refl _ _).alloc hB _).grown hgrow (by rw [szAl]; omega) (fun k hk => (World.ownsRow.lt hown k hk).1)
    · exact KpT.app hown (fun k hk hne => (hgrow.block k (by rw [szAl]; omega) hne).trans (Below.heap_alloc _ _ k hk))
/-- An empty row just made. -/
theorem OwG.made {α : Type} (cs : α → List Value) (e : TypeId) (n : Nat) (w : World) (B : Nat) (hB : B ≤ w.heap.size) : OwG cs e n (w.alloc (.cells #[] e)) B (.slice (some ⟨w.heap.size, 0, none⟩) 0 0) [] := by
  have := World.ownsRow_lit (base := B) (e := e) (size := n) w #[] 0 hB (by unfold maxLen; omega) (by simp)
  exact this
theorem owG_some {α : Type} {cs : α → List Value} {e : TypeId} {n : Nat} {w : World} {B : Nat} {v : Value} {xs : List α} (h : OwG cs e n w B v xs) (hx : xs ≠ []) : ∃ g cap, v = .slice (Option.some ⟨g, 0, none⟩) xs.length cap ∧ B ≤ g ∧ g < w.heap.size := by
  rcases h.2 with ⟨rfl, hn⟩ | ⟨g, cap, cur, rfl, h1, h2, h3⟩
  · exact absurd (List.eq_nil_of_length_eq_zero hn) hx
  · exact ⟨g, cap, rfl, h1, (Array.getElem?_eq_some_iff.1 h2).1⟩
theorem owG_cap {α : Type} {cs : α → List Value} {e : TypeId} {c : Nat} {W : World} {B g m cp : Nat} {xs : List α} (h : OwG cs e c W B (.slice (some ⟨g, 0, none⟩) m cp) xs) : m = xs.length ∧ xs.length ≤ cp ∧ cp ≤ 9223372036854775807 ∧ B ≤ g ∧ ∃ cur, W.heap[g]? = some (.cells cur e (0, 0)) := by
  rcases h.2 with ⟨h1, hn⟩ | ⟨g', cap, cur, h1, h2, h3, h4, h5, h6⟩
  · cases h1
  · injection h1 with e1 e2 e3
    injection e1 with e1
    injection e1 with e1
    subst e1 e2 e3
    exact ⟨rfl, h4, by unfold maxLen at h5; omega, h2, cur, h3⟩
theorem blk {α : Type} {cs : α → List Value} {e : TypeId} {n : Nat} {w : World} {B : Nat} {v : Value} {xs : List α} (h : OwG cs e n w B v xs) {g : Nat} (hg : v.ownBlock = some g) : ∃ cur, w.heap[g]? = some (.cells cur e (0, 0)) := by
  rcases h.2 with ⟨rfl, _⟩ | ⟨g', cap, cur, rfl, h1, h2, h3⟩
  · cases hg
  · have : g' = g := Option.some.inj hg
    subst this
    exact ⟨cur, h2⟩
theorem owK {α : Type} {cs : α → List Value} {e : TypeId} {n : Nat} {w w' : World} {B : Nat} {v : Value} {xs : List α} {D : Nat → Prop} (h : OwG cs e n w B v xs) (k : Keeps D w w') (hn : ∀ g, v.ownBlock = some g → ¬ D g) : OwG cs e n w' B v xs := by
  refine ⟨h.1, ?_⟩
  rcases h.2 with h1 | ⟨g, cap, cur, rfl, h1, h2, h3⟩
  · exact .inl h1
  · exact .inr ⟨g, cap, cur, rfl, h1, (k.block g (Array.getElem?_eq_some_iff.1 h2).1 (hn g rfl)).trans h2, h3⟩
end Go.Proofs.YteekompojgbkhaaGreat
