import Derived.Test.YtdpebhdjcgiboaaGreatKCells2
import Derived.Laws.LoneSync
namespace Go.Proofs.YtdpebhdjcgiboaaGreat
open Go.ChangeShapes Go.WideShapes Go.ChangeAt Go.RowKit
set_option linter.unusedVariables false

/-- The blocks of an arena: its own, its places', its words', its ring's. -/
structure Lay where
  b : Nat
  s : Nat
  u : Nat
  q : Nat
def Lay.has (L : Lay) (k : Nat) : Prop := k = L.b ∨ k = L.s ∨ k = L.u ∨ k = L.q
/-- What an arena holds: the lock words too (g0, rc: the gate's; lk: the queue's). -/
structure AS where
  n : Nat
  wd : Nat
  g0 : Int
  rc : Int
  lk : Int
  front : Nat
  count : Nat
  acc : Int
  miss : Int
  use : Nat → Bool
  turn : Nat → Int
  word : Nat → Int
  ring : Nat → Int
def upd {α : Type} (f : Nat → α) (i : Nat) (x : α) : Nat → α := fun j => if j = i then x else f j
theorem upd_same {α : Type} (f : Nat → α) (i : Nat) (x : α) : upd f i x i = x := if_pos rfl
theorem upd_other {α : Type} (f : Nat → α) {i j : Nat} (x : α) (h : j ≠ i) : upd f i x j = f j := if_neg h
def bitI (b : Bool) : Int := if b then 1 else 0
theorem shape_set (w : World) (a : Addr) (u : Value) (b : Nat) : (w.setCell a u).shape? b = w.shape? b := by
  unfold World.shape? World.setCell
  simp only [Array.getElem?_modify]
  by_cases h : a.block = b
  · rw [if_pos h]
    rcases w.heap[b]? with _ | o
    · rfl
    · cases o <;> simp
      split <;> simp
  · rw [if_neg h]
structure Holds (w : World) (L : Lay) (S : AS) : Prop where
  c0 : w.cell? ⟨L.b, 0, none⟩ = some (.int .i64 (S.wd : Int))
  c1 : w.cell? ⟨L.b, 1, none⟩ = some (.slice (some ⟨L.s, 0, none⟩) S.n S.n)
  c2 : w.cell? ⟨L.b, 2, none⟩ = some (.slice (some ⟨L.u, 0, none⟩) (S.n * S.wd) (S.n * S.wd))
  c3 : w.cell? ⟨L.b, 3, none⟩ = some (.int .i32 S.g0)
  c5 : w.cell? ⟨L.b, 5, none⟩ = some (.int .u32 0)
  c6 : w.cell? ⟨L.b, 6, none⟩ = some (.int .u32 0)
  c7 : w.cell? ⟨L.b, 7, none⟩ = some (.int .i32 S.rc)
  c9 : w.cell? ⟨L.b, 9, none⟩ = some (.int .i32 S.lk)
  c11 : w.cell? ⟨L.b, 11, none⟩ = some (.slice (some ⟨L.q, 0, none⟩) S.n S.n)
  c12 : w.cell? ⟨L.b, 12, none⟩ = some (.int .i64 (S.front : Int))
  c13 : w.cell? ⟨L.b, 13, none⟩ = some (.int .i64 (S.count : Int))
  c14 : w.cell? ⟨L.b, 14, none⟩ = some (.int .i64 S.acc)
  c15 : w.cell? ⟨L.b, 15, none⟩ = some (.int .i64 S.miss)
  us : ∀ i, i < S.n → w.cell? ⟨L.s, i * 2, none⟩ = some (.int .u32 (bitI (S.use i)))
  tn : ∀ i, i < S.n → w.cell? ⟨L.s, i * 2 + 1, none⟩ = some (.int .i64 (S.turn i))
  wo : ∀ i, i < S.n * S.wd → w.cell? ⟨L.u, i, none⟩ = some (.int .u64 (S.word i))
  ri : ∀ i, i < S.n → w.cell? ⟨L.q, i, none⟩ = some (.int .i64 (S.ring i))
  fz : ∀ g j, L.has g → w.frozen? ⟨g, j, none⟩ = false
  lb : L.b < w.heap.size
  ls : L.s < w.heap.size
  lu : L.u < w.heap.size
  lq : L.q < w.heap.size
  bs : L.b ≠ L.s
  bu : L.b ≠ L.u
  bq : L.b ≠ L.q
  su : L.s ≠ L.u
  sq : L.s ≠ L.q
  uq : L.u ≠ L.q
  hn : 1 ≤ S.n ∧ S.n ≤ 4096
  hw : 1 ≤ S.wd ∧ S.wd ≤ 16
  sh : w.shape? L.s = some (263, S.n * 2)
theorem Holds.kept {w w' : World} {L : Lay} {S : AS} (h : Holds w L S) (hk : ∀ k, L.has k → w'.heap[k]? = w.heap[k]?) (hs : w.heap.size ≤ w'.heap.size) : Holds w' L S := by
  have eb : ∀ j, w'.cell? ⟨L.b, j, none⟩ = w.cell? ⟨L.b, j, none⟩ := fun j => World.cell?_of_block (w := w) (hk L.b (Or.inl rfl))
  have es : ∀ j, w'.cell? ⟨L.s, j, none⟩ = w.cell? ⟨L.s, j, none⟩ := fun j => World.cell?_of_block (w := w) (hk L.s (Or.inr (Or.inl rfl)))
  have eu : ∀ j, w'.cell? ⟨L.u, j, none⟩ = w.cell? ⟨L.u, j, none⟩ := fun j => World.cell?_of_block (w := w) (hk L.u (Or.inr (Or.inr (Or.inl rfl))))
  have eq : ∀ j, w'.cell? ⟨L.q, j, none⟩ = w.cell? ⟨L.q, j, none⟩ := fun j => World.cell?_of_block (w := w) (hk L.q (Or.inr (Or.inr (Or.inr rfl))))
  exact ⟨(eb 0).trans h.c0, (eb 1).trans h.c1, (eb 2).trans h.c2, (eb 3).trans h.c3, (eb 5).trans h.c5, (eb 6).trans h.c6, (eb 7).trans h.c7, (eb 9).trans h.c9, (eb 11).trans h.c11, (eb 12).trans h.c12, (eb 13).trans h.c13, (eb 14).trans h.c14, (eb 15).trans h.c15, fun i hi => (es _).trans (h.us i hi), fun i hi => (es _).trans (h.tn i hi), fun i hi => (eu _).trans (h.wo i hi), fun i hi => (eq _).trans (h.ri i hi), fun g j hg => (World.frozen?_of_block (w := w) (hk g hg)).trans (h.fz g j hg), Nat.lt_of_lt_of_le h.lb hs, Nat.lt_of_lt_of_le h.ls hs, Nat.lt_of_lt_of_le h.lu hs, Nat.lt_of_lt_of_le h.lq hs, h.bs, h.bu, h.bq, h.su, h.sq, h.uq, h.hn, h.hw, by unfold World.shape?; rw [hk L.s (Or.inr (Or.inl rfl))]; exact h.sh⟩
theorem Holds.keeps {w w' : World} {L : Lay} {S : AS} {B : Nat → Prop} (h : Holds w L S) (k : Keeps B w w') (hn : ∀ g, L.has g → ¬ B g) : Holds w' L S :=
  h.kept (fun g hg => k.block g (by rcases hg with rfl | rfl | rfl | rfl <;> first | exact h.lb | exact h.ls | exact h.lu | exact h.lq) (hn g hg)) k.size
theorem Holds.drew {w : World} {L : Lay} {S : AS} (h : Holds w L S) : Holds w.drew L S := h.kept (fun _ _ => rfl) (Nat.le_refl _)
theorem Holds.alloc {w : World} {L : Lay} {S : AS} (h : Holds w L S) (o : Obj) : Holds (w.alloc o) L S :=
  h.kept (fun g hg => Below.heap_alloc w o g (by rcases hg with rfl | rfl | rfl | rfl <;> first | exact h.lb | exact h.ls | exact h.lu | exact h.lq)) (by simp)
theorem Holds.far {w : World} {L : Lay} {S : AS} (h : Holds w L S) {p : Addr} (hp : ¬ L.has p.block) (u : Value) : Holds (w.setCell p u) L S :=
  h.kept (fun g hg => Below.heap_setCell w p u g (fun e => hp (e ▸ hg))) (by simp)
theorem Holds.setG0 {w : World} {L : Lay} {S : AS} (h : Holds w L S) (x : Int) : Holds (w.setCell ⟨L.b, 3, none⟩ (.int .i32 x)) L { S with g0 := x } := by
  have ne : ∀ (g j : Nat), ⟨g, j, none⟩ ≠ (⟨L.b, 3, none⟩ : Addr) → (w.setCell ⟨L.b, 3, none⟩ (.int .i32 x)).cell? ⟨g, j, none⟩ = w.cell? ⟨g, j, none⟩ := fun g j hh => World.cell?_setCell_other _ _ _ _ (fun e => hh e.symm)
  have off : ∀ (g j : Nat), (g ≠ L.b ∨ j ≠ 3) → ⟨g, j, none⟩ ≠ (⟨L.b, 3, none⟩ : Addr) := fun g j hh e => hh.elim (fun k => k (congrArg Addr.block e)) (fun k => k (congrArg Addr.off e))
  exact ⟨(ne _ _ (off _ _ (Or.inr (by decide)))).trans h.c0, (ne _ _ (off _ _ (Or.inr (by decide)))).trans h.c1, (ne _ _ (off _ _ (Or.inr (by decide)))).trans h.c2, World.cell?_setCell_same _ _ _ h.c3, (ne _ _ (off _ _ (Or.inr (by decide)))).trans h.c5, (ne _ _ (off _ _ (Or.inr (by decide)))).trans h.c6, (ne _ _ (off _ _ (Or.inr (by decide)))).trans h.c7, (ne _ _ (off _ _ (Or.inr (by decide)))).trans h.c9, (ne _ _ (off _ _ (Or.inr (by decide)))).trans h.c11, (ne _ _ (off _ _ (Or.inr (by decide)))).trans h.c12, (ne _ _ (off _ _ (Or.inr (by decide)))).trans h.c13, (ne _ _ (off _ _ (Or.inr (by decide)))).trans h.c14, (ne _ _ (off _ _ (Or.inr (by decide)))).trans h.c15, fun i hi => (ne _ _ (off _ _ (Or.inl (h.bs.symm)))).trans (h.us i hi), fun i hi => (ne _ _ (off _ _ (Or.inl (h.bs.symm)))).trans (h.tn i hi), fun i hi => (ne _ _ (off _ _ (Or.inl (h.bu.symm)))).trans (h.wo i hi), fun i hi => (ne _ _ (off _ _ (Or.inl (h.bq.symm)))).trans (h.ri i hi), fun g j hg => by simpa using h.fz g j hg, by simpa using h.lb, by simpa using h.ls, by simpa using h.lu, by simpa using h.lq, h.bs, h.bu, h.bq, h.su, h.sq, h.uq, h.hn, h.hw, by rw [shape_set]; exact h.sh⟩
theorem Holds.setRc {w : World} {L : Lay} {S : AS} (h : Holds w L S) (x : Int) : Holds (w.setCell ⟨L.b, 7, none⟩ (.int .i32 x)) L { S with rc := x } := by
  have ne : ∀ (g j : Nat), ⟨g, j, none⟩ ≠ (⟨L.b, 7, none⟩ : Addr) → (w.setCell ⟨L.b, 7, none⟩ (.int .i32 x)).cell? ⟨g, j, none⟩ = w.cell? ⟨g, j, none⟩ := fun g j hh => World.cell?_setCell_other _ _ _ _ (fun e => hh e.symm)
  have off : ∀ (g j : Nat), (g ≠ L.b ∨ j ≠ 7) → ⟨g, j, none⟩ ≠ (⟨L.b, 7, none⟩ : Addr) := fun g j hh e => hh.elim (fun k => k (congrArg Addr.block e)) (fun k => k (congrArg Addr.off e))
  exact ⟨(ne _ _ (off _ _ (Or.inr (by decide)))).trans h.c0, (ne _ _ (off _ _ (Or.inr (by decide)))).trans h.c1, (ne _ _ (off _ _ (Or.inr (by decide)))).trans h.c2, (ne _ _ (off _ _ (Or.inr (by decide)))).trans h.c3, (ne _ _ (off _ _ (Or.inr (by decide)))).trans h.c5, (ne _ _ (off _ _ (Or.inr (by decide)))).trans h.c6, World.cell?_setCell_same _ _ _ h.c7, (ne _ _ (off _ _ (Or.inr (by decide)))).trans h.c9, (ne _ _ (off _ _ (Or.inr (by decide)))).trans h.c11, (ne _ _ (off _ _ (Or.inr (by decide)))).trans h.c12, (ne _ _ (off _ _ (Or.inr (by decide)))).trans h.c13, (ne _ _ (off _ _ (Or.inr (by decide)))).trans h.c14, (ne _ _ (off _ _ (Or.inr (by decide)))).trans h.c15, fun i hi => (ne _ _ (off _ _ (Or.inl (h.bs.symm)))).trans (h.us i hi), fun i hi => (ne _ _ (off _ _ (Or.inl (h.bs.symm)))).trans (h.tn i hi), fun i hi => (ne _ _ (off _ _ (Or.inl (h.bu.symm)))).trans (h.wo i hi), fun i hi => (ne _ _ (off _ _ (Or.inl (h.bq.symm)))).trans (h.ri i hi), fun g j hg => by simpa using h.fz g j hg, by simpa using h.lb, by simpa using h.ls, by simpa using h.lu, by simpa using h.lq, h.bs, h.bu, h.bq, h.su, h.sq, h.uq, h.hn, h.hw, by rw [shape_set]; exact h.sh⟩
theorem Holds.setLk {w : World} {L : Lay} {S : AS} (h : Holds w L S) (x : Int) : Holds (w.setCell ⟨L.b, 9, none⟩ (.int .i32 x)) L { S with lk := x } := by
  have ne : ∀ (g j : Nat), ⟨g, j, none⟩ ≠ (⟨L.b, 9, none⟩ : Addr) → (w.setCell ⟨L.b, 9, none⟩ (.int .i32 x)).cell? ⟨g, j, none⟩ = w.cell? ⟨g, j, none⟩ := fun g j hh => World.cell?_setCell_other _ _ _ _ (fun e => hh e.symm)
  have off : ∀ (g j : Nat), (g ≠ L.b ∨ j ≠ 9) → ⟨g, j, none⟩ ≠ (⟨L.b, 9, none⟩ : Addr) := fun g j hh e => hh.elim (fun k => k (congrArg Addr.block e)) (fun k => k (congrArg Addr.off e))
  exact ⟨(ne _ _ (off _ _ (Or.inr (by decide)))).trans h.c0, (ne _ _ (off _ _ (Or.inr (by decide)))).trans h.c1, (ne _ _ (off _ _ (Or.inr (by decide)))).trans h.c2, (ne _ _ (off _ _ (Or.inr (by decide)))).trans h.c3, (ne _ _ (off _ _ (Or.inr (by decide)))).trans h.c5, (ne _ _ (off _ _ (Or.inr (by decide)))).trans h.c6, (ne _ _ (off _ _ (Or.inr (by decide)))).trans h.c7, World.cell?_setCell_same _ _ _ h.c9, (ne _ _ (off _ _ (Or.inr (by decide)))).trans h.c11, (ne _ _ (off _ _ (Or.inr (by decide)))).trans h.c12, (ne _ _ (off _ _ (Or.inr (by decide)))).trans h.c13, (ne _ _ (off _ _ (Or.inr (by decide)))).trans h.c14, (ne _ _ (off _ _ (Or.inr (by decide)))).trans h.c15, fun i hi => (ne _ _ (off _ _ (Or.inl (h.bs.symm)))).trans (h.us i hi), fun i hi => (ne _ _ (off _ _ (Or.inl (h.bs.symm)))).trans (h.tn i hi), fun i hi => (ne _ _ (off _ _ (Or.inl (h.bu.symm)))).trans (h.wo i hi), fun i hi => (ne _ _ (off _ _ (Or.inl (h.bq.symm)))).trans (h.ri i hi), fun g j hg => by simpa using h.fz g j hg, by simpa using h.lb, by simpa using h.ls, by simpa using h.lu, by simpa using h.lq, h.bs, h.bu, h.bq, h.su, h.sq, h.uq, h.hn, h.hw, by rw [shape_set]; exact h.sh⟩
theorem Holds.setFront {w : World} {L : Lay} {S : AS} (h : Holds w L S) (x : Nat) : Holds (w.setCell ⟨L.b, 12, none⟩ (.int .i64 (x : Int))) L { S with front := x } := by
  have ne : ∀ (g j : Nat), ⟨g, j, none⟩ ≠ (⟨L.b, 12, none⟩ : Addr) → (w.setCell ⟨L.b, 12, none⟩ (.int .i64 (x : Int))).cell? ⟨g, j, none⟩ = w.cell? ⟨g, j, none⟩ := fun g j hh => World.cell?_setCell_other _ _ _ _ (fun e => hh e.symm)
  have off : ∀ (g j : Nat), (g ≠ L.b ∨ j ≠ 12) → ⟨g, j, none⟩ ≠ (⟨L.b, 12, none⟩ : Addr) := fun g j hh e => hh.elim (fun k => k (congrArg Addr.block e)) (fun k => k (congrArg Addr.off e))
  exact ⟨(ne _ _ (off _ _ (Or.inr (by decide)))).trans h.c0, (ne _ _ (off _ _ (Or.inr (by decide)))).trans h.c1, (ne _ _ (off _ _ (Or.inr (by decide)))).trans h.c2, (ne _ _ (off _ _ (Or.inr (by decide)))).trans h.c3, (ne _ _ (off _ _ (Or.inr (by decide)))).trans h.c5, (ne _ _ (off _ _ (Or.inr (by decide)))).trans h.c6, (ne _ _ (off _ _ (Or.inr (by decide)))).trans h.c7, (ne _ _ (off _ _ (Or.inr (by decide)))).trans h.c9, (ne _ _ (off _ _ (Or.inr (by decide)))).trans h.c11, World.cell?_setCell_same _ _ _ h.c12, (ne _ _ (off _ _ (Or.inr (by decide)))).trans h.c13, (ne _ _ (off _ _ (Or.inr (by decide)))).trans h.c14, (ne _ _ (off _ _ (Or.inr (by decide)))).trans h.c15, fun i hi => (ne _ _ (off _ _ (Or.inl (h.bs.symm)))).trans (h.us i hi), fun i hi => (ne _ _ (off _ _ (Or.inl (h.bs.symm)))).trans (h.tn i hi), fun i hi => (ne _ _ (off _ _ (Or.inl (h.bu.symm)))).trans (h.wo i hi), fun i hi => (ne _ _ (off _ _ (Or.inl (h.bq.symm)))).trans (h.ri i hi), fun g j hg => by simpa using h.fz g j hg, by simpa using h.lb, by simpa using h.ls, by simpa using h.lu, by simpa using h.lq, h.bs, h.bu, h.bq, h.su, h.sq, h.uq, h.hn, h.hw, by rw [shape_set]; exact h.sh⟩
theorem Holds.setCount {w : World} {L : Lay} {S : AS} (h : Holds w L S) (x : Nat) : Holds (w.setCell ⟨L.b, 13, none⟩ (.int .i64 (x : Int))) L { S with count := x } := by
  have ne : ∀ (g j : Nat), ⟨g, j, none⟩ ≠ (⟨L.b, 13, none⟩ : Addr) → (w.setCell ⟨L.b, 13, none⟩ (.int .i64 (x : Int))).cell? ⟨g, j, none⟩ = w.cell? ⟨g, j, none⟩ := fun g j hh => World.cell?_setCell_other _ _ _ _ (fun e => hh e.symm)
  have off : ∀ (g j : Nat), (g ≠ L.b ∨ j ≠ 13) → ⟨g, j, none⟩ ≠ (⟨L.b, 13, none⟩ : Addr) := fun g j hh e => hh.elim (fun k => k (congrArg Addr.block e)) (fun k => k (congrArg Addr.off e))
  exact ⟨(ne _ _ (off _ _ (Or.inr (by decide)))).trans h.c0, (ne _ _ (off _ _ (Or.inr (by decide)))).trans h.c1, (ne _ _ (off _ _ (Or.inr (by decide)))).trans h.c2, (ne _ _ (off _ _ (Or.inr (by decide)))).trans h.c3, (ne _ _ (off _ _ (Or.inr (by decide)))).trans h.c5, (ne _ _ (off _ _ (Or.inr (by decide)))).trans h.c6, (ne _ _ (off _ _ (Or.inr (by decide)))).trans h.c7, (ne _ _ (off _ _ (Or.inr (by decide)))).trans h.c9, (ne _ _ (off _ _ (Or.inr (by decide)))).trans h.c11, (ne _ _ (off _ _ (Or.inr (by decide)))).trans h.c12, World.cell?_setCell_same _ _ _ h.c13, (ne _ _ (off _ _ (Or.inr (by decide)))).trans h.c14, (ne _ _ (off _ _ (Or.inr (by decide)))).trans h.c15, fun i hi => (ne _ _ (off _ _ (Or.inl (h.bs.symm)))).trans (h.us i hi), fun i hi => (ne _ _ (off _ _ (Or.inl (h.bs.symm)))).trans (h.tn i hi), fun i hi => (ne _ _ (off _ _ (Or.inl (h.bu.symm)))).trans (h.wo i hi), fun i hi => (ne _ _ (off _ _ (Or.inl (h.bq.symm)))).trans (h.ri i hi), fun g j hg => by simpa using h.fz g j hg, by simpa using h.lb, by simpa using h.ls, by simpa using h.lu, by simpa using h.lq, h.bs, h.bu, h.bq, h.su, h.sq, h.uq, h.hn, h.hw, by rw [shape_set]; exact h.sh⟩
theorem Holds.setAcc {w : World} {L : Lay} {S : AS} (h : Holds w L S) (x : Int) : Holds (w.setCell ⟨L.b, 14, none⟩ (.int .i64 x)) L { S with acc := x } := by
  have ne : ∀ (g j : Nat), ⟨g, j, none⟩ ≠ (⟨L.b, 14, none⟩ : Addr) → (w.setCell ⟨L.b, 14, none⟩ (.int .i64 x)).cell? ⟨g, j, none⟩ = w.cell? ⟨g, j, none⟩ := fun g j hh => World.cell?_setCell_other _ _ _ _ (fun e => hh e.symm)
  have off : ∀ (g j : Nat), (g ≠ L.b ∨ j ≠ 14) → ⟨g, j, none⟩ ≠ (⟨L.b, 14, none⟩ : Addr) := fun g j hh e => hh.elim (fun k => k (congrArg Addr.block e)) (fun k => k (congrArg Addr.off e))
  exact ⟨(ne _ _ (off _ _ (Or.inr (by decide)))).trans h.c0, (ne _ _ (off _ _ (Or.inr (by decide)))).trans h.c1, (ne _ _ (off _ _ (Or.inr (by decide)))).trans h.c2, (ne _ _ (off _ _ (Or.inr (by decide)))).trans h.c3, (ne _ _ (off _ _ (Or.inr (by decide)))).trans h.c5, (ne _ _ (off _ _ (Or.inr (by decide)))).trans h.c6, (ne _ _ (off _ _ (Or.inr (by decide)))).trans h.c7, (ne _ _ (off _ _ (Or.inr (by decide)))).trans h.c9, (ne _ _ (off _ _ (Or.inr (by decide)))).trans h.c11, (ne _ _ (off _ _ (Or.inr (by decide)))).trans h.c12, (ne _ _ (off _ _ (Or.inr (by decide)))).trans h.c13, World.cell?_setCell_same _ _ _ h.c14, (ne _ _ (off _ _ (Or.inr (by decide)))).trans h.c15, fun i hi => (ne _ _ (off _ _ (Or.inl (h.bs.symm)))).trans (h.us i hi), fun i hi => (ne _ _ (off _ _ (Or.inl (h.bs.symm)))).trans (h.tn i hi), fun i hi => (ne _ _ (off _ _ (Or.inl (h.bu.symm)))).trans (h.wo i hi), fun i hi => (ne _ _ (off _ _ (Or.inl (h.bq.symm)))).trans (h.ri i hi), fun g j hg => by simpa using h.fz g j hg, by simpa using h.lb, by simpa using h.ls, by simpa using h.lu, by simpa using h.lq, h.bs, h.bu, h.bq, h.su, h.sq, h.uq, h.hn, h.hw, by rw [shape_set]; exact h.sh⟩
theorem Holds.setUse {w : World} {L : Lay} {S : AS} (h : Holds w L S) (k : Nat) (x : Bool) : Holds (w.setCell ⟨L.s, k * 2, none⟩ (.int .u32 (bitI x))) L { S with use := upd S.use k x } := by
  have ne : ∀ (g j : Nat), ⟨g, j, none⟩ ≠ (⟨L.s, k * 2, none⟩ : Addr) → (w.setCell ⟨L.s, k * 2, none⟩ (.int .u32 (bitI x))).cell? ⟨g, j, none⟩ = w.cell? ⟨g, j, none⟩ := fun g j hh => World.cell?_setCell_other _ _ _ _ (fun e => hh e.symm)
  have off : ∀ (g j : Nat), (g ≠ L.s ∨ j ≠ k * 2) → ⟨g, j, none⟩ ≠ (⟨L.s, k * 2, none⟩ : Addr) := fun g j hh e => hh.elim (fun k => k (congrArg Addr.block e)) (fun k => k (congrArg Addr.off e))
  refine ⟨(ne _ _ (off _ _ (Or.inl (h.bs)))).trans h.c0, (ne _ _ (off _ _ (Or.inl (h.bs)))).trans h.c1, (ne _ _ (off _ _ (Or.inl (h.bs)))).trans h.c2, (ne _ _ (off _ _ (Or.inl (h.bs)))).trans h.c3, (ne _ _ (off _ _ (Or.inl (h.bs)))).trans h.c5, (ne _ _ (off _ _ (Or.inl (h.bs)))).trans h.c6, (ne _ _ (off _ _ (Or.inl (h.bs)))).trans h.c7, (ne _ _ (off _ _ (Or.inl (h.bs)))).trans h.c9, (ne _ _ (off _ _ (Or.inl (h.bs)))).trans h.c11, (ne _ _ (off _ _ (Or.inl (h.bs)))).trans h.c12, (ne _ _ (off _ _ (Or.inl (h.bs)))).trans h.c13, (ne _ _ (off _ _ (Or.inl (h.bs)))).trans h.c14, (ne _ _ (off _ _ (Or.inl (h.bs)))).trans h.c15, ?_, fun i hi => (ne _ _ (off _ _ (Or.inr (by omega)))).trans (h.tn i hi), fun i hi => (ne _ _ (off _ _ (Or.inl (h.su.symm)))).trans (h.wo i hi), fun i hi => (ne _ _ (off _ _ (Or.inl (h.sq.symm)))).trans (h.ri i hi), fun g j hg => by simpa using h.fz g j hg, by simpa using h.lb, by simpa using h.ls, by simpa using h.lu, by simpa using h.lq, h.bs, h.bu, h.bq, h.su, h.sq, h.uq, h.hn, h.hw, by rw [shape_set]; exact h.sh⟩
  intro i hi
  by_cases hik : i = k
  · subst hik
    have := World.cell?_setCell_same _ _ (.int .u32 (bitI x)) (h.us i hi)
    simpa [upd] using this
  · rw [ne _ _ (off _ _ (Or.inr (by omega)))]
    simpa [upd, hik] using h.us i hi
theorem Holds.setTurn {w : World} {L : Lay} {S : AS} (h : Holds w L S) (k : Nat) (x : Int) : Holds (w.setCell ⟨L.s, k * 2 + 1, none⟩ (.int .i64 x)) L { S with turn := upd S.turn k x } := by
  have ne : ∀ (g j : Nat), ⟨g, j, none⟩ ≠ (⟨L.s, k * 2 + 1, none⟩ : Addr) → (w.setCell ⟨L.s, k * 2 + 1, none⟩ (.int .i64 x)).cell? ⟨g, j, none⟩ = w.cell? ⟨g, j, none⟩ := fun g j hh => World.cell?_setCell_other _ _ _ _ (fun e => hh e.symm)
  have off : ∀ (g j : Nat), (g ≠ L.s ∨ j ≠ k * 2 + 1) → ⟨g, j, none⟩ ≠ (⟨L.s, k * 2 + 1, none⟩ : Addr) := fun g j hh e => hh.elim (fun k => k (congrArg Addr.block e)) (fun k => k (congrArg Addr.off e))
  refine ⟨(ne _ _ (off _ _ (Or.inl (h.bs)))).trans h.c0, (ne _ _ (off _ _ (Or.inl (h.bs)))).trans h.c1, (ne _ _ (off _ _ (Or.inl (h.bs)))).trans h.c2, (ne _ _ (off _ _ (Or.inl (h.bs)))).trans h.c3, (ne _ _ (off _ _ (Or.inl (h.bs)))).trans h.c5, (ne _ _ (off _ _ (Or.inl (h.bs)))).trans h.c6, (ne _ _ (off _ _ (Or.inl (h.bs)))).trans h.c7, (ne _ _ (off _ _ (Or.inl (h.bs)))).trans h.c9, (ne _ _ (off _ _ (Or.inl (h.bs)))).trans h.c11, (ne _ _ (off _ _ (Or.inl (h.bs)))).trans h.c12, (ne _ _ (off _ _ (Or.inl (h.bs)))).trans h.c13, (ne _ _ (off _ _ (Or.inl (h.bs)))).trans h.c14, (ne _ _ (off _ _ (Or.inl (h.bs)))).trans h.c15, fun i hi => (ne _ _ (off _ _ (Or.inr (by omega)))).trans (h.us i hi), ?_, fun i hi => (ne _ _ (off _ _ (Or.inl (h.su.symm)))).trans (h.wo i hi), fun i hi => (ne _ _ (off _ _ (Or.inl (h.sq.symm)))).trans (h.ri i hi), fun g j hg => by simpa using h.fz g j hg, by simpa using h.lb, by simpa using h.ls, by simpa using h.lu, by simpa using h.lq, h.bs, h.bu, h.bq, h.su, h.sq, h.uq, h.hn, h.hw, by rw [shape_set]; exact h.sh⟩
  intro i hi
  by_cases hik : i = k
  · subst hik
    have := World.cell?_setCell_same _ _ (.int .i64 x) (h.tn i hi)
    simpa [upd] using this
  · rw [ne _ _ (off _ _ (Or.inr (by omega)))]
    simpa [upd, hik] using h.tn i hi
theorem Holds.setWord {w : World} {L : Lay} {S : AS} (h : Holds w L S) (k : Nat) (x : Int) : Holds (w.setCell ⟨L.u, k, none⟩ (.int .u64 x)) L { S with word := upd S.word k x } := by
  have ne : ∀ (g j : Nat), ⟨g, j, none⟩ ≠ (⟨L.u, k, none⟩ : Addr) → (w.setCell ⟨L.u, k, none⟩ (.int .u64 x)).cell? ⟨g, j, none⟩ = w.cell? ⟨g, j, none⟩ := fun g j hh => World.cell?_setCell_other _ _ _ _ (fun e => hh e.symm)
  have off : ∀ (g j : Nat), (g ≠ L.u ∨ j ≠ k) → ⟨g, j, none⟩ ≠ (⟨L.u, k, none⟩ : Addr) := fun g j hh e => hh.elim (fun k => k (congrArg Addr.block e)) (fun k => k (congrArg Addr.off e))
  refine ⟨(ne _ _ (off _ _ (Or.inl (h.bu)))).trans h.c0, (ne _ _ (off _ _ (Or.inl (h.bu)))).trans h.c1, (ne _ _ (off _ _ (Or.inl (h.bu)))).trans h.c2, (ne _ _ (off _ _ (Or.inl (h.bu)))).trans h.c3, (ne _ _ (off _ _ (Or.inl (h.bu)))).trans h.c5, (ne _ _ (off _ _ (Or.inl (h.bu)))).trans h.c6, (ne _ _ (off _ _ (Or.inl (h.bu)))).trans h.c7, (ne _ _ (off _ _ (Or.inl (h.bu)))).trans h.c9, (ne _ _ (off _ _ (Or.inl (h.bu)))).trans h.c11, (ne _ _ (off _ _ (Or.inl (h.bu)))).trans h.c12, (ne _ _ (off _ _ (Or.inl (h.bu)))).trans h.c13, (ne _ _ (off _ _ (Or.inl (h.bu)))).trans h.c14, (ne _ _ (off _ _ (Or.inl (h.bu)))).trans h.c15, fun i hi => (ne _ _ (off _ _ (Or.inl (h.su)))).trans (h.us i hi), fun i hi => (ne _ _ (off _ _ (Or.inl (h.su)))).trans (h.tn i hi), ?_, fun i hi => (ne _ _ (off _ _ (Or.inl (h.uq.symm)))).trans (h.ri i hi), fun g j hg => by simpa using h.fz g j hg, by simpa using h.lb, by simpa using h.ls, by simpa using h.lu, by simpa using h.lq, h.bs, h.bu, h.bq, h.su, h.sq, h.uq, h.hn, h.hw, by rw [shape_set]; exact h.sh⟩
  intro i hi
  by_cases hik : i = k
  · subst hik
    have := World.cell?_setCell_same _ _ (.int .u64 x) (h.wo i hi)
    simpa [upd] using this
  · rw [ne _ _ (off _ _ (Or.inr (by omega)))]
    simpa [upd, hik] using h.wo i hi
end Go.Proofs.YtdpebhdjcgiboaaGreat

namespace Go.Proofs.YtdpebhdjcgiboaaGreat
open Go.ChangeShapes Go.WideShapes Go.ChangeAt Go.RowKit
set_option linter.unusedVariables false
set_option maxRecDepth 100000
set_option maxHeartbeats 800000

theorem u64_load (a : Addr) (x : Int) (w : World) (hc : w.cell? a = some (.int .u64 x)) : Calls Tryz.prog 164 #[.pointer (some a)] w fun e w' => e = .returned (.int .u64 x) ∧ w' = w := by
  have hl := run_call_load (P := Tryz.prog) Tryz.func191 (by kernel_rfl) (by kernel_rfl) (by kernel_rfl) .u64 (by kernel_rfl) hc
  go_enter Tryz.func164, Tryz.ntmps164
  go_wp2
  go_ret
  exact ⟨rfl, rfl⟩
theorem u64_store (a : Addr) (u : Value) (y : Int) (w : World) (hc : w.cell? a = some u) (hz : w.frozen? a = false) : Calls Tryz.prog 149 #[.pointer (some a), .int .u64 y] w fun e w' => e = .returned (.tuple #[]) ∧ w' = w.setCell a (.int .u64 y) := by
  have hl := run_call_store (P := Tryz.prog) Tryz.func179 (by kernel_rfl) (by kernel_rfl) (by kernel_rfl) (by kernel_rfl) (k := .u64) (y := y) hc hz
  go_enter Tryz.func149, Tryz.ntmps149
  go_wp2
  exact ⟨rfl, .tuple #[], by simp [results, Tryz.results149], rfl, rfl⟩
theorem u64_add (a : Addr) (x y : Int) (w : World) (hc : w.cell? a = some (.int .u64 x)) (hz : w.frozen? a = false) : Calls Tryz.prog 186 #[.pointer (some a), .int .u64 y] w fun e w' => e = .returned (.int .u64 (IntKind.u64.wrap (x + y))) ∧ w' = w.setCell a (.int .u64 (IntKind.u64.wrap (x + y))) := by
  have hl := run_call_add (P := Tryz.prog) Tryz.func202 (by kernel_rfl) (by kernel_rfl) (by kernel_rfl) .u64 (by kernel_rfl) (y := y) (s := IntKind.u64.wrap (x + y)) hc hz (by simp [go_sem])
  go_enter Tryz.func186, Tryz.ntmps186
  go_wp2
  go_ret
  exact ⟨rfl, rfl⟩
theorem u64_cas_hit (a : Addr) (x y : Int) (w : World) (hc : w.cell? a = some (.int .u64 x)) (hz : w.frozen? a = false) : Calls Tryz.prog 184 #[.pointer (some a), .int .u64 x, .int .u64 y] w fun e w' => e = .returned (.bool true) ∧ w' = w.setCell a (.int .u64 y) := by
  have hl := run_call_cas_hit (P := Tryz.prog) Tryz.func201 (by kernel_rfl) (by kernel_rfl) (by kernel_rfl) .u64 (by kernel_rfl) (y := y) hc hz
  go_enter Tryz.func184, Tryz.ntmps184
  go_wp2
  go_ret
  exact ⟨rfl, rfl⟩
theorem u64_cas_miss (a : Addr) (x z y : Int) (w : World) (hc : w.cell? a = some (.int .u64 x)) (hz : w.frozen? a = false) (hne : ¬ x = z) : Calls Tryz.prog 184 #[.pointer (some a), .int .u64 z, .int .u64 y] w fun e w' => e = .returned (.bool false) ∧ w' = w := by
  have hl := run_call_cas_miss (P := Tryz.prog) Tryz.func201 (by kernel_rfl) (by kernel_rfl) (by kernel_rfl) .u64 (by kernel_rfl) (y := y) hc hz hne
  go_enter Tryz.func184, Tryz.ntmps184
  go_wp2
  go_ret
  exact ⟨rfl, rfl⟩
theorem i64_add (a : Addr) (x y : Int) (w : World) (hc : w.cell? a = some (.int .i64 x)) (hz : w.frozen? a = false) : Calls Tryz.prog 109 #[.pointer (some a), .int .i64 y] w fun e w' => e = .returned (.int .i64 (wrap64 (x + y))) ∧ w' = w.setCell a (.int .i64 (wrap64 (x + y))) := by
  have hl := run_call_add (P := Tryz.prog) Tryz.func147 (by kernel_rfl) (by kernel_rfl) (by kernel_rfl) .i64 (by kernel_rfl) (y := y) (s := wrap64 (x + y)) hc hz (by simp [go_sem, wrap64, IntKind.wrap_i64])
  go_enter Tryz.func109, Tryz.ntmps109
  go_wp2
  go_ret
  exact ⟨rfl, rfl⟩
theorem bool_load (a : Addr) (b : Bool) (w : World) (hc : w.cell? a = some (.int .u32 (bitI b))) : Calls Tryz.prog 190 #[.pointer (some a)] w fun e w' => e = .returned (.bool b) ∧ w' = w := by
  have hl := run_call_load (P := Tryz.prog) Tryz.func203 (by kernel_rfl) (by kernel_rfl) (by kernel_rfl) .u32 (by kernel_rfl) hc
  cases b
  · simp only [bitI] at hl
    go_enter Tryz.func190, Tryz.ntmps190
    go_wp2
    go_ret
    exact ⟨rfl, rfl⟩
  · simp only [bitI] at hl
    go_enter Tryz.func190, Tryz.ntmps190
    go_wp2
    go_ret
    exact ⟨rfl, rfl⟩
theorem b32_any (b : Bool) (w : World) : Calls Tryz.prog 181 #[.bool b] w fun e w' => e = .returned (.int .u32 (bitI b)) ∧ w' = w := by
  cases b
  · go_enter Tryz.func181, Tryz.ntmps181
    go_wp2
    go_ret
    exact ⟨rfl, rfl⟩
  · go_enter Tryz.func181, Tryz.ntmps181
    go_wp2
    go_ret
    exact ⟨rfl, rfl⟩
theorem bool_store (a : Addr) (u : Value) (b : Bool) (w : World) (hc : w.cell? a = some u) (hz : w.frozen? a = false) : Calls Tryz.prog 150 #[.pointer (some a), .bool b] w fun e w' => e = .returned (.tuple #[]) ∧ w' = (w.setCell a (.int .u32 (bitI b))).drew := by
  have hl := run_call_store (P := Tryz.prog) Tryz.func180 (by kernel_rfl) (by kernel_rfl) (by kernel_rfl) (by kernel_rfl) (k := .u32) (y := bitI b) (w := w.drew) hc hz
  go_enter Tryz.func150, Tryz.ntmps150
  go_wp2_with fail
  refine wp_once ?_
  apply Exists.intro
  apply Exists.intro
  constructor
  · go_region_with (go_at_call 181; refine (b32_any _ _).mono ?_; rintro e w' ⟨rfl, rfl⟩)
    all_goals exact Post1.here _ _
  clear hl
  go_wp2
  exact ⟨rfl, .tuple #[], by simp [results, Tryz.results150], rfl, rfl⟩
end Go.Proofs.YtdpebhdjcgiboaaGreat

namespace Go.Proofs.YtdpebhdjcgiboaaGreat
open Go.ChangeShapes Go.WideShapes Go.ChangeAt Go.RowKit
set_option linter.unusedVariables false
set_option maxRecDepth 100000
set_option maxHeartbeats 1600000
theorem has_any (L : Lay) (S : AS) (w : World) (x : Int) (h : Holds w L S) : Calls Tryz.prog 189 #[.pointer (some ⟨L.b, 0, none⟩), .int .i64 x] w fun e w' => e = .returned (.bool (decide (1 ≤ x ∧ x ≤ (S.n : Int)))) ∧ w' = w := by
  have c1 := h.c1
  clear h
  by_cases h1 : 1 ≤ x
  · by_cases h2 : x ≤ (S.n : Int)
    · have hd : decide (1 ≤ x ∧ x ≤ (S.n : Int)) = true := by simp [h1, h2]
      rw [hd]
      go_enter Tryz.func189, Tryz.ntmps189
      go_wp2
      go_ret
      exact ⟨rfl, rfl⟩
    · have hd : decide (1 ≤ x ∧ x ≤ (S.n : Int)) = false := by simp [h2]
      rw [hd]
      go_enter Tryz.func189, Tryz.ntmps189
      go_wp2
      go_ret
      exact ⟨rfl, rfl⟩
  · have hd : decide (1 ≤ x ∧ x ≤ (S.n : Int)) = false := by simp [h1]
    rw [hd]
    go_enter Tryz.func189, Tryz.ntmps189
    go_wp2
    go_ret
    exact ⟨rfl, rfl⟩
theorem inUse_yes (L : Lay) (S : AS) (w : World) (k : Nat) (hk : k < S.n) (hu : S.use k = true) (h : Holds w L S) : Calls Tryz.prog 163 #[.pointer (some ⟨L.b, 0, none⟩), .int .i64 ((k : Int) + 1)] w fun e w' => e = .returned (.tuple #[.pointer (some ⟨L.s, k * 2, none⟩), .int .i64 0]) ∧ w' = w := by
  have c1 := h.c1
  have cu := h.us k hk
  have hz := h.hn.2
  rw [hu] at cu
  go_enter Tryz.func163, Tryz.ntmps163
  go_wp2_with fail
  refine (has_any L S _ _ h).mono ?_
  rintro e w' ⟨rfl, rfl⟩
  have hd : decide (1 ≤ (k : Int) + 1 ∧ (k : Int) + 1 ≤ (S.n : Int)) = true := by simp; omega
  rw [hd]
  clear h hd hu
  go_wp2_with fail
  refine (bool_load _ _ _ cu).mono ?_
  rintro e w'' ⟨rfl, rfl⟩
  go_wp2
  go_ret2
  exact ⟨rfl, rfl⟩
theorem reach_ok (L : Lay) (S : AS) (w : World) (k : Nat) (hk : k < S.n) (hu : S.use k = true) (h : Holds w L S) : Calls Tryz.prog 204 #[.pointer (some ⟨L.b, 0, none⟩), .int .i64 ((k : Int) + 1)] w fun e w' => e = .returned (.tuple #[.pointer (some ⟨L.s, k * 2, none⟩), .int .i64 0]) ∧ w' = w := by
  go_enter Tryz.func204, Tryz.ntmps204
  go_wp2_with fail
  refine (inUse_yes L S _ k hk hu h).mono ?_
  rintro e w' ⟨rfl, rfl⟩
  clear h
  go_wp2
  go_ret2
  exact ⟨rfl, rfl⟩
/-- Is x the number of a slot in use? -/
def AS.live (S : AS) (x : Int) : Prop := ∃ k, k < S.n ∧ x = (k : Int) + 1 ∧ S.use k = true
theorem cellsOf_any (L : Lay) (S : AS) (w : World) (k : Nat) (hk : k < S.n) (h : Holds w L S) : Calls Tryz.prog 148 #[.pointer (some ⟨L.b, 0, none⟩), .int .i64 ((k : Int) + 1)] w fun e w' => e = .returned (.slice (some ⟨L.u, k * S.wd, none⟩) S.wd (S.n * S.wd - k * S.wd)) ∧ w' = w.drew := by
  have c0 := h.c0
  have c2 := h.c2
  have hz := h.hn.2
  have hwd := h.hw.2
  have hwl := h.hw.1
  clear h
  have f1 : k * S.wd + S.wd ≤ S.n * S.wd := by rw [← Nat.succ_mul]; exact Nat.mul_le_mul_right _ hk
  have f2 : S.n * S.wd ≤ 65536 := Nat.le_trans (Nat.mul_le_mul hz hwd) (by decide)
  have e2 : IntKind.i64.wrap ((k : Int) * (S.wd : Int)) = ((k * S.wd : Nat) : Int) := by rw [← Int.natCast_mul, IntKind.wrap_i64]; omega
  have e3 : IntKind.i64.wrap (((k : Int) + 1) * (S.wd : Int)) = ((k * S.wd + S.wd : Nat) : Int) := by
    have : ((k : Int) + 1) * (S.wd : Int) = ((k * S.wd + S.wd : Nat) : Int) := by rw [Int.add_mul]; simp
    rw [this, IntKind.wrap_i64]; omega
  have e1 : IntKind.i64.wrap ((k : Int) + 1 - 1) = (k : Int) := by rw [IntKind.wrap_i64]; omega
  have e0 : IntKind.i64.wrap (k : Int) = (k : Int) := by rw [IntKind.wrap_i64]; omega
  have e4 : (k : Int) + 1 - 1 = (k : Int) := by omega
  generalize k * S.wd = m at *
  generalize S.n * S.wd = N at *
  have b1 : (0 : Int) ≤ (m : Int) := by omega
  have b2 : (m : Int) ≤ ((m + S.wd : Nat) : Int) := by omega
  have b3 : ((m + S.wd : Nat) : Int) ≤ (N : Int) := by omega
  have b4 : IntKind.i64.wrap (m : Int) = (m : Int) := by rw [IntKind.wrap_i64]; omega
  have b5 : IntKind.i64.wrap ((m + S.wd : Nat) : Int) = ((m + S.wd : Nat) : Int) := by rw [IntKind.wrap_i64]; omega
  have b6 : m + S.wd - m = S.wd := by omega
  have b7 : ¬ N = m := by omega
  generalize hM : m + S.wd = M at *
  have s1 : w.drew.cell? ⟨L.b, 0, none⟩ = some (.int .i64 (S.wd : Int)) := c0
  have s2 : w.drew.cell? ⟨L.b, 2, none⟩ = some (.slice (some ⟨L.u, 0, none⟩) N N) := c2
  clear hM hk hz hwd hwl f2
  go_enter Tryz.func148, Tryz.ntmps148
  go_wp2
  go_region_held3 (fun w' => w'.cell? ⟨L.b, 0, none⟩ = some (.int .i64 (S.wd : Int)) ∧ w'.cell? ⟨L.b, 2, none⟩ = some (.slice (some ⟨L.u, 0, none⟩) N N)) (first | assumption | exact ⟨s1, s2⟩) (fail)
  go_wp2
  go_ret
  exact ⟨rfl, rfl⟩
end Go.Proofs.YtdpebhdjcgiboaaGreat
