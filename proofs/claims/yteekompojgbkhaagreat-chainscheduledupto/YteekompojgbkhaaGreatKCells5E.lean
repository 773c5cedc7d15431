import Derived.Test.YteekompojgbkhaaGreatKCells2
namespace Go.Proofs.YteekompojgbkhaaGreat
open Go.ChangeShapes Go.WideShapes Go.ChangeAt Go.RowKit
set_option linter.unusedVariables false

/-- The blocks of an arena: its own, its places', its words', its ring's. -/
structure Lay where
  b : Nat
  s : Nat
  u : Nat
  q : Nat
def Lay.has (L : Lay) (k : Nat) : Prop := k = L.b ∨ k = L.s ∨ k = L.u ∨ k = L.q
/-- What an arena holds: the lock words too (g0, rc: the gate's; lk: the queue's). -/
structure Ent where
  nm : ByteArray
  dt : ByteArray
  tl : Int
def Ent.none : Ent := ⟨⟨#[]⟩, ⟨#[]⟩, 0⟩
structure AS where
  n : Nat
  wd : Nat
  g0 : Int
  rc : Int
  lk : Int
  front : Nat
  count : Nat
  acc : Int
  miss : Int
  use : Nat → Bool
  pay : Nat → Ent
  turn : Nat → Int
  word : Nat → Int
  ring : Nat → Int
def upd {α : Type} (f : Nat → α) (i : Nat) (x : α) : Nat → α := fun j => if j = i then x else f j
theorem upd_same {α : Type} (f : Nat → α) (i : Nat) (x : α) : upd f i x i = x := if_pos rfl
theorem upd_other {α : Type} (f : Nat → α) {i j : Nat} (x : α) (h : j ≠ i) : upd f i x j = f j := if_neg h
theorem upd_proj {β : Type} (g : Ent → β) (f : Nat → Ent) (k : Nat) (y : Ent) (h : g y = g (f k)) (i : Nat) : g (upd f k y i) = g (f i) := by
  unfold upd
  by_cases e : i = k
  · subst e; simp [h]
  · simp [e]
def bitI (b : Bool) : Int := if b then 1 else 0
structure Holds (w : World) (L : Lay) (S : AS) : Prop where
  c0 : w.cell? ⟨L.b, 0, none⟩ = some (.int .i64 (S.wd : Int))
  c1 : w.cell? ⟨L.b, 1, none⟩ = some (.slice (some ⟨L.s, 0, none⟩) S.n S.n)
  c2 : w.cell? ⟨L.b, 2, none⟩ = some (.slice (some ⟨L.u, 0, none⟩) (S.n * S.wd) (S.n * S.wd))
  c3 : w.cell? ⟨L.b, 3, none⟩ = some (.int .i32 S.g0)
  c5 : w.cell? ⟨L.b, 5, none⟩ = some (.int .u32 0)
  c6 : w.cell? ⟨L.b, 6, none⟩ = some (.int .u32 0)
  c7 : w.cell? ⟨L.b, 7, none⟩ = some (.int .i32 S.rc)
  c9 : w.cell? ⟨L.b, 9, none⟩ = some (.int .i32 S.lk)
  c11 : w.cell? ⟨L.b, 11, none⟩ = some (.slice (some ⟨L.q, 0, none⟩) S.n S.n)
  c12 : w.cell? ⟨L.b, 12, none⟩ = some (.int .i64 (S.front : Int))
  c13 : w.cell? ⟨L.b, 13, none⟩ = some (.int .i64 (S.count : Int))
  c14 : w.cell? ⟨L.b, 14, none⟩ = some (.int .i64 S.acc)
  c15 : w.cell? ⟨L.b, 15, none⟩ = some (.int .i64 S.miss)
  us : ∀ i, i < S.n → w.cell? ⟨L.s, i * 5, none⟩ = some (.int .u32 (bitI (S.use i)))
  py : ∀ i, i < S.n → w.cell? ⟨L.s, i * 5 + 1, none⟩ = some (.string (S.pay i).nm)
  pd : ∀ i, i < S.n → w.cell? ⟨L.s, i * 5 + 2, none⟩ = some (.string (S.pay i).dt)
  pt : ∀ i, i < S.n → w.cell? ⟨L.s, i * 5 + 3, none⟩ = some (.int .i64 (S.pay i).tl)
  tn : ∀ i, i < S.n → w.cell? ⟨L.s, i * 5 + 4, none⟩ = some (.int .i64 (S.turn i))
  wo : ∀ i, i < S.n * S.wd → w.cell? ⟨L.u, i, none⟩ = some (.int .u64 (S.word i))
  ri : ∀ i, i < S.n → w.cell? ⟨L.q, i, none⟩ = some (.int .i64 (S.ring i))
  fz : ∀ g j, L.has g → w.frozen? ⟨g, j, none⟩ = false
  lb : L.b < w.heap.size
  ls : L.s < w.heap.size
  lu : L.u < w.heap.size
  lq : L.q < w.heap.size
  bs : L.b ≠ L.s
  bu : L.b ≠ L.u
  bq : L.b ≠ L.q
  su : L.s ≠ L.u
  sq : L.s ≠ L.q
  uq : L.u ≠ L.q
  hn : 1 ≤ S.n ∧ S.n ≤ 4096
  hw : 1 ≤ S.wd ∧ S.wd ≤ 16
theorem Holds.kept {w w' : World} {L : Lay} {S : AS} (h : Holds w L S) (hk : ∀ k, L.has k → w'.heap[k]? = w.heap[k]?) (hs : w.heap.size ≤ w'.heap.size) : Holds w' L S := by
  have eb : ∀ j, w'.cell? ⟨L.b, j, none⟩ = w.cell? ⟨L.b, j, none⟩ := fun j => World.cell?_of_block (w := w) (hk L.b (Or.inl rfl))
  have es : ∀ j, w'.cell? ⟨L.s, j, none⟩ = w.cell? ⟨L.s, j, none⟩ := fun j => World.cell?_of_block (w := w) (hk L.s (Or.inr (Or.inl rfl)))
  have eu : ∀ j, w'.cell? ⟨L.u, j, none⟩ = w.cell? ⟨L.u, j, none⟩ := fun j => World.cell?_of_block (w := w) (hk L.u (Or.inr (Or.inr (Or.inl rfl))))
  have eq : ∀ j, w'.cell? ⟨L.q, j, none⟩ = w.cell? ⟨L.q, j, none⟩ := fun j => World.cell?_of_block (w := w) (hk L.q (Or.inr (Or.inr (Or.inr rfl))))
  exact ⟨(eb 0).trans h.c0, (eb 1).trans h.c1, (eb 2).trans h.c2, (eb 3).trans h.c3, (eb 5).trans h.c5, (eb 6).trans h.c6, (eb 7).trans h.c7, (eb 9).trans h.c9, (eb 11).trans h.c11, (eb 12).trans h.c12, (eb 13).trans h.c13, (eb 14).trans h.c14, (eb 15).trans h.c15, fun i hi => (es _).trans (h.us i hi), fun i hi => (es _).trans (h.py i hi), fun i hi => (es _).trans (h.pd i hi), fun i hi => (es _).trans (h.pt i hi), fun i hi => (es _).trans (h.tn i hi), fun i hi => (eu _).trans (h.wo i hi), fun i hi => (eq _).trans (h.ri i hi), fun g j hg => (World.frozen?_of_block (w := w) (hk g hg)).trans (h.fz g j hg), Nat.lt_of_lt_of_le h.lb hs, Nat.lt_of_lt_of_le h.ls hs, Nat.lt_of_lt_of_le h.lu hs, Nat.lt_of_lt_of_le h.lq hs, h.bs, h.bu, h.bq, h.su, h.sq, h.uq, h.hn, h.hw⟩
theorem Holds.keeps {w w' : World} {L : Lay} {S : AS} {B : Nat → Prop} (h : Holds w L S) (k : Keeps B w w') (hn : ∀ g, L.has g → ¬ B g) : Holds w' L S :=
  h.kept (fun g hg => k.block g (by rcases hg with rfl | rfl | rfl | rfl <;> first | exact h.lb | exact h.ls | exact h.lu | exact h.lq) (hn g hg)) k.size
theorem Holds.drew {w : World} {L : Lay} {S : AS} (h : Holds w L S) : Holds w.drew L S := h.kept (fun _ _ => rfl) (Nat.le_refl _)
theorem Holds.alloc {w : World} {L : Lay} {S : AS} (h : Holds w L S) (o : Obj) : Holds (w.alloc o) L S :=
  h.kept (fun g hg => Below.heap_alloc w o g (by rcases hg with rfl | rfl | rfl | rfl <;> first | exact h.lb | exact h.ls | exact h.lu | exact h.lq)) (by simp)
theorem Holds.far {w : World} {L : Lay} {S : AS} (h : Holds w L S) {p : Addr} (hp : ¬ L.has p.block) (u : Value) : Holds (w.setCell p u) L S :=
  h.kept (fun g hg => Below.heap_setCell w p u g (fun e => hp (e ▸ hg))) (by simp)
theorem Holds.setG0 {w : World} {L : Lay} {S : AS} (h : Holds w L S) (x : Int) : Holds (w.setCell ⟨L.b, 3, none⟩ (.int .i32 x)) L { S with g0 := x } := by
  have ne : ∀ (g j : Nat), ⟨g, j, none⟩ ≠ (⟨L.b, 3, none⟩ : Addr) → (w.setCell ⟨L.b, 3, none⟩ (.int .i32 x)).cell? ⟨g, j, none⟩ = w.cell? ⟨g, j, none⟩ := fun g j hh => World.cell?_setCell_other _ _ _ _ (fun e => hh e.symm)
  have off : ∀ (g j : Nat), (g ≠ L.b ∨ j ≠ 3) → ⟨g, j, none⟩ ≠ (⟨L.b, 3, none⟩ : Addr) := fun g j hh e => hh.elim (fun k => k (congrArg Addr.block e)) (fun k => k (congrArg Addr.off e))
  exact ⟨(ne _ _ (off _ _ (Or.inr (by decide)))).trans h.c0, (ne _ _ (off _ _ (Or.inr (by decide)))).trans h.c1, (ne _ _ (off _ _ (Or.inr (by decide)))).trans h.c2, World.cell?_setCell_same _ _ _ h.c3, (ne _ _ (off _ _ (Or.inr (by decide)))).trans h.c5, (ne _ _ (off _ _ (Or.inr (by decide)))).trans h.c6, (ne _ _ (off _ _ (Or.inr (by decide)))).trans h.c7, (ne _ _ (off _ _ (Or.inr (by decide)))).trans h.c9, (ne _ _ (off _ _ (Or.inr (by decide)))).trans h.c11, (ne _ _ (off _ _ (Or.inr (by decide)))).trans h.c12, (ne _ _ (off _ _ (Or.inr (by decide)))).trans h.c13, (ne _ _ (off _ _ (Or.inr (by decide)))).trans h.c14, (ne _ _ (off _ _ (Or.inr (by decide)))).trans h.c15, fun i hi => (ne _ _ (off _ _ (Or.inl (h.bs.symm)))).trans (h.us i hi), fun i hi => (ne _ _ (off _ _ (Or.inl (h.bs.symm)))).trans (h.py i hi), fun i hi => (ne _ _ (off _ _ (Or.inl (h.bs.symm)))).trans (h.pd i hi), fun i hi => (ne _ _ (off _ _ (Or.inl (h.bs.symm)))).trans (h.pt i hi), fun i hi => (ne _ _ (off _ _ (Or.inl (h.bs.symm)))).trans (h.tn i hi), fun i hi => (ne _ _ (off _ _ (Or.inl (h.bu.symm)))).trans (h.wo i hi), fun i hi => (ne _ _ (off _ _ (Or.inl (h.bq.symm)))).trans (h.ri i hi), fun g j hg => by simpa using h.fz g j hg, by simpa using h.lb, by simpa using h.ls, by simpa using h.lu, by simpa using h.lq, h.bs, h.bu, h.bq, h.su, h.sq, h.uq, h.hn, h.hw⟩
theorem Holds.setRc {w : World} {L : Lay} {S : AS} (h : Holds w L S) (x : Int) : Holds (w.setCell ⟨L.b, 7, none⟩ (.int .i32 x)) L { S with rc := x } := by
  have ne : ∀ (g j : Nat), ⟨g, j, none⟩ ≠ (⟨L.b, 7, none⟩ : Addr) → (w.setCell ⟨L.b, 7, none⟩ (.int .i32 x)).cell? ⟨g, j, none⟩ = w.cell? ⟨g, j, none⟩ := fun g j hh => World.cell?_setCell_other _ _ _ _ (fun e => hh e.symm)
  have off : ∀ (g j : Nat), (g ≠ L.b ∨ j ≠ 7) → ⟨g, j, none⟩ ≠ (⟨L.b, 7, none⟩ : Addr) := fun g j hh e => hh.elim (fun k => k (congrArg Addr.block e)) (fun k => k (congrArg Addr.off e))
  exact ⟨(ne _ _ (off _ _ (Or.inr (by decide)))).trans h.c0, (ne _ _ (off _ _ (Or.inr (by decide)))).trans h.c1, (ne _ _ (off _ _ (Or.inr (by decide)))).trans h.c2, (ne _ _ (off _ _ (Or.inr (by decide)))).trans h.c3, (ne _ _ (off _ _ (Or.inr (by decide)))).trans h.c5, (ne _ _ (off _ _ (Or.inr (by decide)))).trans h.c6, World.cell?_setCell_same _ _ _ h.c7, (ne _ _ (off _ _ (Or.inr (by decide)))).trans h.c9, (ne _ _ (off _ _ (Or.inr (by decide)))).trans h.c11, (ne _ _ (off _ _ (Or.inr (by decide)))).trans h.c12, (ne _ _ (off _ _ (Or.inr (by decide)))).trans h.c13, (ne _ _ (off _ _ (Or.inr (by decide)))).trans h.c14, (ne _ _ (off _ _ (Or.inr (by decide)))).trans h.c15, fun i hi => (ne _ _ (off _ _ (Or.inl (h.bs.symm)))).trans (h.us i hi), fun i hi => (ne _ _ (off _ _ (Or.inl (h.bs.symm)))).trans (h.py i hi), fun i hi => (ne _ _ (off _ _ (Or.inl (h.bs.symm)))).trans (h.pd i hi), fun i hi => (ne _ _ (off _ _ (Or.inl (h.bs.symm)))).trans (h.pt i hi), fun i hi => (ne _ _ (off _ _ (Or.inl (h.bs.symm)))).trans (h.tn i hi), fun i hi => (ne _ _ (off _ _ (Or.inl (h.bu.symm)))).trans (h.wo i hi), fun i hi => (ne _ _ (off _ _ (Or.inl (h.bq.symm)))).trans (h.ri i hi), fun g j hg => by simpa using h.fz g j hg, by simpa using h.lb, by simpa using h.ls, by simpa using h.lu, by simpa using h.lq, h.bs, h.bu, h.bq, h.su, h.sq, h.uq, h.hn, h.hw⟩
theorem Holds.setLk {w : World} {L : Lay} {S : AS} (h : Holds w L S) (x : Int) : Holds (w.setCell ⟨L.b, 9, none⟩ (.int .i32 x)) L { S with lk := x } := by
  have ne : ∀ (g j : Nat), ⟨g, j, none⟩ ≠ (⟨L.b, 9, none⟩ : Addr) → (w.setCell ⟨L.b, 9, none⟩ (.int .i32 x)).cell? ⟨g, j, none⟩ = w.cell? ⟨g, j, none⟩ := fun g j hh => World.cell?_setCell_other _ _ _ _ (fun e => hh e.symm)
  have off : ∀ (g j : Nat), (g ≠ L.b ∨ j ≠ 9) → ⟨g, j, none⟩ ≠ (⟨L.b, 9, none⟩ : Addr) := fun g j hh e => hh.elim (fun k => k (congrArg Addr.block e)) (fun k => k (congrArg Addr.off e))
  exact ⟨(ne _ _ (off _ _ (Or.inr (by decide)))).trans h.c0, (ne _ _ (off _ _ (Or.inr (by decide)))).trans h.c1, (ne _ _ (off _ _ (Or.inr (by decide)))).trans h.c2, (ne _ _ (off _ _ (Or.inr (by decide)))).trans h.c3, (ne _ _ (off _ _ (Or.inr (by decide)))).trans h.c5, (ne _ _ (off _ _ (Or.inr (by decide)))).trans h.c6, (ne _ _ (off _ _ (Or.inr (by decide)))).trans h.c7, World.cell?_setCell_same _ _ _ h.c9, (ne _ _ (off _ _ (Or.inr (by decide)))).trans h.c11, (ne _ _ (off _ _ (Or.inr (by decide)))).trans h.c12, (ne _ _ (off _ _ (Or.inr (by decide)))).trans h.c13, (ne _ _ (off _ _ (Or.inr (by decide)))).trans h.c14, (ne _ _ (off _ _ (Or.inr (by decide)))).trans h.c15, fun i hi => (ne _ _ (off _ _ (Or.inl (h.bs.symm)))).trans (h.us i hi), fun i hi => (ne _ _ (off _ _ (Or.inl (h.bs.symm)))).trans (h.py i hi), fun i hi => (ne _ _ (off _ _ (Or.inl (h.bs.symm)))).trans (h.pd i hi), fun i hi => (ne _ _ (off _ _ (Or.inl (h.bs.symm)))).trans (h.pt i hi), fun i hi => (ne _ _ (off _ _ (Or.inl (h.bs.symm)))).trans (h.tn i hi), fun i hi => (ne _ _ (off _ _ (Or.inl (h.bu.symm)))).trans (h.wo i hi), fun i hi => (ne _ _ (off _ _ (Or.inl (h.bq.symm)))).trans (h.ri i hi), fun g j hg => by simpa using h.fz g j hg, by simpa using h.lb, by simpa using h.ls, by simpa using h.lu, by simpa using h.lq, h.bs, h.bu, h.bq, h.su, h.sq, h.uq, h.hn, h.hw⟩
theorem Holds.setFront {w : World} {L : Lay} {S : AS} (h : Holds w L S) (x : Nat) : Holds (w.setCell ⟨L.b, 12, none⟩ (.int .i64 (x : Int))) L { S with front := x } := by
  have ne : ∀ (g j : Nat), ⟨g, j, none⟩ ≠ (⟨L.b, 12, none⟩ : Addr) → (w.setCell ⟨L.b, 12, none⟩ (.int .i64 (x : Int))).cell? ⟨g, j, none⟩ = w.cell? ⟨g, j, none⟩ := fun g j hh => World.cell?_setCell_other _ _ _ _ (fun e => hh e.symm)
  have off : ∀ (g j : Nat), (g ≠ L.b ∨ j ≠ 12) → ⟨g, j, none⟩ ≠ (⟨L.b, 12, none⟩ : Addr) := fun g j hh e => hh.elim (fun k => k (congrArg Addr.block e)) (fun k => k (congrArg Addr.off e))
  exact ⟨(ne _ _ (off _ _ (Or.inr (by decide)))).trans h.c0, (ne _ _ (off _ _ (Or.inr (by decide)))).trans h.c1, (ne _ _ (off _ _ (Or.inr (by decide)))).trans h.c2, (ne _ _ (off _ _ (Or.inr (by decide)))).trans h.c3, (ne _ _ (off _ _ (Or.inr (by decide)))).trans h.c5, (ne _ _ (off _ _ (Or.inr (by decide)))).trans h.c6, (ne _ _ (off _ _ (Or.inr (by decide)))).trans h.c7, (ne _ _ (off _ _ (Or.inr (by decide)))).trans h.c9, (ne _ _ (off _ _ (Or.inr (by decide)))).trans h.c11, World.cell?_setCell_same _ _ _ h.c12, (ne _ _ (off _ _ (Or.inr (by decide)))).trans h.c13, (ne _ _ (off _ _ (Or.inr (by decide)))).trans h.c14, (ne _ _ (off _ _ (Or.inr (by decide)))).trans h.c15, fun i hi => (ne _ _ (off _ _ (Or.inl (h.bs.symm)))).trans (h.us i hi), fun i hi => (ne _ _ (off _ _ (Or.inl (h.bs.symm)))).trans (h.py i hi), fun i hi => (ne _ _ (off _ _ (Or.inl (h.bs.symm)))).trans (h.pd i hi), fun i hi => (ne _ _ (off _ _ (Or.inl (h.bs.symm)))).trans (h.pt i hi), fun i hi => (ne _ _ (off _ _ (Or.inl (h.bs.symm)))).trans (h.tn i hi), fun i hi => (ne _ _ (off _ _ (Or.inl (h.bu.symm)))).trans (h.wo i hi), fun i hi => (ne _ _ (off _ _ (Or.inl (h.bq.symm)))).trans (h.ri i hi), fun g j hg => by simpa using h.fz g j hg, by simpa using h.lb, by simpa using h.ls, by simpa using h.lu, by simpa using h.lq, h.bs, h.bu, h.bq, h.su, h.sq, h.uq, h.hn, h.hw⟩
theorem Holds.setCount {w : World} {L : Lay} {S : AS} (h : Holds w L S) (x : Nat) : Holds (w.setCell ⟨L.b, 13, none⟩ (.int .i64 (x : Int))) L { S with count := x } := by
  have ne : ∀ (g j : Nat), ⟨g, j, none⟩ ≠ (⟨L.b, 13, none⟩ : Addr) → (w.setCell ⟨L.b, 13, none⟩ (.int .i64 (x : Int))).cell? ⟨g, j, none⟩ = w.cell? ⟨g, j, none⟩ := fun g j hh => World.cell?_setCell_other _ _ _ _ (fun e => hh e.symm)
  have off : ∀ (g j : Nat), (g ≠ L.b ∨ j ≠ 13) → ⟨g, j, none⟩ ≠ (⟨L.b, 13, none⟩ : Addr) := fun g j hh e => hh.elim (fun k => k (congrArg Addr.block e)) (fun k => k (congrArg Addr.off e))
  exact ⟨(ne _ _ (off _ _ (Or.inr (by decide)))).trans h.c0, (ne _ _ (off _ _ (Or.inr (by decide)))).trans h.c1, (ne _ _ (off _ _ (Or.inr (by decide)))).trans h.c2, (ne _ _ (off _ _ (Or.inr (by decide)))).trans h.c3, (ne _ _ (off _ _ (Or.inr (by decide)))).trans h.c5, (ne _ _ (off _ _ (Or.inr (by decide)))).trans h.c6, (ne _ _ (off _ _ (Or.inr (by decide)))).trans h.c7, (ne _ _ (off _ _ (Or.inr (by decide)))).trans h.c9, (ne _ _ (off _ _ (Or.inr (by decide)))).trans h.c11, (ne _ _ (off _ _ (Or.inr (by decide)))).trans h.c12, World.cell?_setCell_same _ _ _ h.c13, (ne _ _ (off _ _ (Or.inr (by decide)))).trans h.c14, (ne _ _ (off _ _ (Or.inr (by decide)))).trans h.c15, fun i hi => (ne _ _ (off _ _ (Or.inl (h.bs.symm)))).trans (h.us i hi), fun i hi => (ne _ _ (off _ _ (Or.inl (h.bs.symm)))).trans (h.py i hi), fun i hi => (ne _ _ (off _ _ (Or.inl (h.bs.symm)))).trans (h.pd i hi), fun i hi => (ne _ _ (off _ _ (Or.inl (h.bs.symm)))).trans (h.pt i hi), fun i hi => (ne _ _ (off _ _ (Or.inl (h.bs.symm)))).trans (h.tn i hi), fun i hi => (ne _ _ (off _ _ (Or.inl (h.bu.symm)))).trans (h.wo i hi), fun i hi => (ne _ _ (off _ _ (Or.inl (h.bq.symm)))).trans (h.ri i hi), fun g j hg => by simpa using h.fz g j hg, by simpa using h.lb, by simpa using h.ls, by simpa using h.lu, by simpa using h.lq, h.bs, h.bu, h.bq, h.su, h.sq, h.uq, h.hn, h.hw⟩
theorem Holds.setAcc {w : World} {L : Lay} {S : AS} (h : Holds w L S) (x : Int) : Holds (w.setCell ⟨L.b, 14, none⟩ (.int .i64 x)) L { S with acc := x } := by
  have ne : ∀ (g j : Nat), ⟨g, j, none⟩ ≠ (⟨L.b, 14, none⟩ : Addr) → (w.setCell ⟨L.b, 14, none⟩ (.int .i64 x)).cell? ⟨g, j, none⟩ = w.cell? ⟨g, j, none⟩ := fun g j hh => World.cell?_setCell_other _ _ _ _ (fun e => hh e.symm)
  have off : ∀ (g j : Nat), (g ≠ L.b ∨ j ≠ 14) → ⟨g, j, none⟩ ≠ (⟨L.b, 14, none⟩ : Addr) := fun g j hh e => hh.elim (fun k => k (congrArg Addr.block e)) (fun k => k (congrArg Addr.off e))
  exact ⟨(ne _ _ (off _ _ (Or.inr (by decide)))).trans h.c0, (ne _ _ (off _ _ (Or.inr (by decide)))).trans h.c1, (ne _ _ (off _ _ (Or.inr (by decide)))).trans h.c2, (ne _ _ (off _ _ (Or.inr (by decide)))).trans h.c3, (ne _ _ (off _ _ (Or.inr (by decide)))).trans h.c5, (ne _ _ (off _ _ (Or.inr (by decide)))).trans h.c6, (ne _ _ (off _ _ (Or.inr (by decide)))).trans h.c7, (ne _ _ (off _ _ (Or.inr (by decide)))).trans h.c9, (ne _ _ (off _ _ (Or.inr (by decide)))).trans h.c11, (ne _ _ (off _ _ (Or.inr (by decide)))).trans h.c12, (ne _ _ (off _ _ (Or.inr (by decide)))).trans h.c13, World.cell?_setCell_same _ _ _ h.c14, (ne _ _ (off _ _ (Or.inr (by decide)))).trans h.c15, fun i hi => (ne _ _ (off _ _ (Or.inl (h.bs.symm)))).trans (h.us i hi), fun i hi => (ne _ _ (off _ _ (Or.inl (h.bs.symm)))).trans (h.py i hi), fun i hi => (ne _ _ (off _ _ (Or.inl (h.bs.symm)))).trans (h.pd i hi), fun i hi => (ne _ _ (off _ _ (Or.inl (h.bs.symm)))).trans (h.pt i hi), fun i hi => (ne _ _ (off _ _ (Or.inl (h.bs.symm)))).trans (h.tn i hi), fun i hi => (ne _ _ (off _ _ (Or.inl (h.bu.symm)))).trans (h.wo i hi), fun i hi => (ne _ _ (off _ _ (Or.inl (h.bq.symm)))).trans (h.ri i hi), fun g j hg => by simpa using h.fz g j hg, by simpa using h.lb, by simpa using h.ls, by simpa using h.lu, by simpa using h.lq, h.bs, h.bu, h.bq, h.su, h.sq, h.uq, h.hn, h.hw⟩
theorem Holds.setMiss {w : World} {L : Lay} {S : AS} (h : Holds w L S) (x : Int) : Holds (w.setCell ⟨L.b, 15, none⟩ (.int .i64 x)) L { S with miss := x } := by
  have ne : ∀ (g j : Nat), ⟨g, j, none⟩ ≠ (⟨L.b, 15, none⟩ : Addr) → (w.setCell ⟨L.b, 15, none⟩ (.int .i64 x)).cell? ⟨g, j, none⟩ = w.cell? ⟨g, j, none⟩ := fun g j hh => World.cell?_setCell_other _ _ _ _ (fun e => hh e.symm)
  have off : ∀ (g j : Nat), (g ≠ L.b ∨ j ≠ 15) → ⟨g, j, none⟩ ≠ (⟨L.b, 15, none⟩ : Addr) := fun g j hh e => hh.elim (fun k => k (congrArg Addr.block e)) (fun k => k (congrArg Addr.off e))
  exact ⟨(ne _ _ (off _ _ (Or.inr (by decide)))).trans h.c0, (ne _ _ (off _ _ (Or.inr (by decide)))).trans h.c1, (ne _ _ (off _ _ (Or.inr (by decide)))).trans h.c2, (ne _ _ (off _ _ (Or.inr (by decide)))).trans h.c3, (ne _ _ (off _ _ (Or.inr (by decide)))).trans h.c5, (ne _ _ (off _ _ (Or.inr (by decide)))).trans h.c6, (ne _ _ (off _ _ (Or.inr (by decide)))).trans h.c7, (ne _ _ (off _ _ (Or.inr (by decide)))).trans h.c9, (ne _ _ (off _ _ (Or.inr (by decide)))).trans h.c11, (ne _ _ (off _ _ (Or.inr (by decide)))).trans h.c12, (ne _ _ (off _ _ (Or.inr (by decide)))).trans h.c13, (ne _ _ (off _ _ (Or.inr (by decide)))).trans h.c14, World.cell?_setCell_same _ _ _ h.c15, fun i hi => (ne _ _ (off _ _ (Or.inl (h.bs.symm)))).trans (h.us i hi), fun i hi => (ne _ _ (off _ _ (Or.inl (h.bs.symm)))).trans (h.py i hi), fun i hi => (ne _ _ (off _ _ (Or.inl (h.bs.symm)))).trans (h.pd i hi), fun i hi => (ne _ _ (off _ _ (Or.inl (h.bs.symm)))).trans (h.pt i hi), fun i hi => (ne _ _ (off _ _ (Or.inl (h.bs.symm)))).trans (h.tn i hi), fun i hi => (ne _ _ (off _ _ (Or.inl (h.bu.symm)))).trans (h.wo i hi), fun i hi => (ne _ _ (off _ _ (Or.inl (h.bq.symm)))).trans (h.ri i hi), fun g j hg => by simpa using h.fz g j hg, by simpa using h.lb, by simpa using h.ls, by simpa using h.lu, by simpa using h.lq, h.bs, h.bu, h.bq, h.su, h.sq, h.uq, h.hn, h.hw⟩
theorem Holds.setUse {w : World} {L : Lay} {S : AS} (h : Holds w L S) (k : Nat) (x : Bool) : Holds (w.setCell ⟨L.s, k * 5, none⟩ (.int .u32 (bitI x))) L { S with use := upd S.use k x } := by
  have ne : ∀ (g j : Nat), ⟨g, j, none⟩ ≠ (⟨L.s, k * 5, none⟩ : Addr) → (w.setCell ⟨L.s, k * 5, none⟩ (.int .u32 (bitI x))).cell? ⟨g, j, none⟩ = w.cell? ⟨g, j, none⟩ := fun g j hh => World.cell?_setCell_other _ _ _ _ (fun e => hh e.symm)
  have off : ∀ (g j : Nat), (g ≠ L.s ∨ j ≠ k * 5) → ⟨g, j, none⟩ ≠ (⟨L.s, k * 5, none⟩ : Addr) := fun g j hh e => hh.elim (fun k => k (congrArg Addr.block e)) (fun k => k (congrArg Addr.off e))
  refine ⟨(ne _ _ (off _ _ (Or.inl (h.bs)))).trans h.c0, (ne _ _ (off _ _ (Or.inl (h.bs)))).trans h.c1, (ne _ _ (off _ _ (Or.inl (h.bs)))).trans h.c2, (ne _ _ (off _ _ (Or.inl (h.bs)))).trans h.c3, (ne _ _ (off _ _ (Or.inl (h.bs)))).trans h.c5, (ne _ _ (off _ _ (Or.inl (h.bs)))).trans h.c6, (ne _ _ (off _ _ (Or.inl (h.bs)))).trans h.c7, (ne _ _ (off _ _ (Or.inl (h.bs)))).trans h.c9, (ne _ _ (off _ _ (Or.inl (h.bs)))).trans h.c11, (ne _ _ (off _ _ (Or.inl (h.bs)))).trans h.c12, (ne _ _ (off _ _ (Or.inl (h.bs)))).trans h.c13, (ne _ _ (off _ _ (Or.inl (h.bs)))).trans h.c14, (ne _ _ (off _ _ (Or.inl (h.bs)))).trans h.c15, ?_, fun i hi => (ne _ _ (off _ _ (Or.inr (by omega)))).trans (h.py i hi), fun i hi => (ne _ _ (off _ _ (Or.inr (by omega)))).trans (h.pd i hi), fun i hi => (ne _ _ (off _ _ (Or.inr (by omega)))).trans (h.pt i hi), fun i hi => (ne _ _ (off _ _ (Or.inr (by omega)))).trans (h.tn i hi), fun i hi => (ne _ _ (off _ _ (Or.inl (h.su.symm)))).trans (h.wo i hi), fun i hi => (ne _ _ (off _ _ (Or.inl (h.sq.symm)))).trans (h.ri i hi), fun g j hg => by simpa using h.fz g j hg, by simpa using h.lb, by simpa using h.ls, by simpa using h.lu, by simpa using h.lq, h.bs, h.bu, h.bq, h.su, h.sq, h.uq, h.hn, h.hw⟩
  intro i hi
  by_cases hik : i = k
  · subst hik
    have := World.cell?_setCell_same _ _ (.int .u32 (bitI x)) (h.us i hi)
    simpa [upd] using this
  · rw [ne _ _ (off _ _ (Or.inr (by omega)))]
    simpa [upd, hik] using h.us i hi
theorem Holds.setNm {w : World} {L : Lay} {S : AS} (h : Holds w L S) (k : Nat) (x : ByteArray) : Holds (w.setCell ⟨L.s, k * 5 + 1, none⟩ (.string x)) L { S with pay := upd S.pay k ⟨x, (S.pay k).dt, (S.pay k).tl⟩ } := by
  have ne : ∀ (g j : Nat), ⟨g, j, none⟩ ≠ (⟨L.s, k * 5 + 1, none⟩ : Addr) → (w.setCell ⟨L.s, k * 5 + 1, none⟩ (.string x)).cell? ⟨g, j, none⟩ = w.cell? ⟨g, j, none⟩ := fun g j hh => World.cell?_setCell_other _ _ _ _ (fun e => hh e.symm)
  have off : ∀ (g j : Nat), (g ≠ L.s ∨ j ≠ k * 5 + 1) → ⟨g, j, none⟩ ≠ (⟨L.s, k * 5 + 1, none⟩ : Addr) := fun g j hh e => hh.elim (fun k => k (congrArg Addr.block e)) (fun k => k (congrArg Addr.off e))
  refine ⟨(ne _ _ (off _ _ (Or.inl (h.bs)))).trans h.c0, (ne _ _ (off _ _ (Or.inl (h.bs)))).trans h.c1, (ne _ _ (off _ _ (Or.inl (h.bs)))).trans h.c2, (ne _ _ (off _ _ (Or.inl (h.bs)))).trans h.c3, (ne _ _ (off _ _ (Or.inl (h.bs)))).trans h.c5, (ne _ _ (off _ _ (Or.inl (h.bs)))).trans h.c6, (ne _ _ (off _ _ (Or.inl (h.bs)))).trans h.c7, (ne _ _ (off _ _ (Or.inl (h.bs)))).trans h.c9, (ne _ _ (off _ _ (Or.inl (h.bs)))).trans h.c11, (ne _ _ (off _ _ (Or.inl (h.bs)))).trans h.c12, (ne _ _ (off _ _ (Or.inl (h.bs)))).trans h.c13, (ne _ _ (off _ _ (Or.inl (h.bs)))).trans h.c14, (ne _ _ (off _ _ (Or.inl (h.bs)))).trans h.c15, fun i hi => (ne _ _ (off _ _ (Or.inr (by omega)))).trans (h.us i hi), ?_, fun i hi => ((ne _ _ (off _ _ (Or.inr (by omega)))).trans (h.pd i hi)).trans (congrArg (fun y => some (Value.string y)) (upd_proj Ent.dt S.pay k ⟨x, (S.pay k).dt, (S.pay k).tl⟩ rfl i).symm), fun i hi => ((ne _ _ (off _ _ (Or.inr (by omega)))).trans (h.pt i hi)).trans (congrArg (fun y => some (Value.int .i64 y)) (upd_proj Ent.tl S.pay k ⟨x, (S.pay k).dt, (S.pay k).tl⟩ rfl i).symm), fun i hi => (ne _ _ (off _ _ (Or.inr (by omega)))).trans (h.tn i hi), fun i hi => (ne _ _ (off _ _ (Or.inl (h.su.symm)))).trans (h.wo i hi), fun i hi => (ne _ _ (off _ _ (Or.inl (h.sq.symm)))).trans (h.ri i hi), fun g j hg => by simpa using h.fz g j hg, by simpa using h.lb, by simpa using h.ls, by simpa using h.lu, by simpa using h.lq, h.bs, h.bu, h.bq, h.su, h.sq, h.uq, h.hn, h.hw⟩
  intro i hi
  by_cases hik : i = k
  · subst hik
    have := World.cell?_setCell_same _ _ (.string x) (h.py i hi)
    simpa [upd] using this
  · rw [ne _ _ (off _ _ (Or.inr (by omega)))]
    simpa [upd, hik] using h.py i hi
theorem Holds.setDt {w : World} {L : Lay} {S : AS} (h : Holds w L S) (k : Nat) (x : ByteArray) : Holds (w.setCell ⟨L.s, k * 5 + 2, none⟩ (.string x)) L { S with pay := upd S.pay k ⟨(S.pay k).nm, x, (S.pay k).tl⟩ } := by
  have ne : ∀ (g j : Nat), ⟨g, j, none⟩ ≠ (⟨L.s, k * 5 + 2, none⟩ : Addr) → (w.setCell ⟨L.s, k * 5 + 2, none⟩ (.string x)).cell? ⟨g, j, none⟩ = w.cell? ⟨g, j, none⟩ := fun g j hh => World.cell?_setCell_other _ _ _ _ (fun e => hh e.symm)
  have off : ∀ (g j : Nat), (g ≠ L.s ∨ j ≠ k * 5 + 2) → ⟨g, j, none⟩ ≠ (⟨L.s, k * 5 + 2, none⟩ : Addr) := fun g j hh e => hh.elim (fun k => k (congrArg Addr.block e)) (fun k => k (congrArg Addr.off e))
  refine ⟨(ne _ _ (off _ _ (Or.inl (h.bs)))).trans h.c0, (ne _ _ (off _ _ (Or.inl (h.bs)))).trans h.c1, (ne _ _ (off _ _ (Or.inl (h.bs)))).trans h.c2, (ne _ _ (off _ _ (Or.inl (h.bs)))).trans h.c3, (ne _ _ (off _ _ (Or.inl (h.bs)))).trans h.c5, (ne _ _ (off _ _ (Or.inl (h.bs)))).trans h.c6, (ne _ _ (off _ _ (Or.inl (h.bs)))).trans h.c7, (ne _ _ (off _ _ (Or.inl (h.bs)))).trans h.c9, (ne _ _ (off _ _ (Or.inl (h.bs)))).trans h.c11, (ne _ _ (off _ _ (Or.inl (h.bs)))).trans h.c12, (ne _ _ (off _ _ (Or.inl (h.bs)))).trans h.c13, (ne _ _ (off _ _ (Or.inl (h.bs)))).trans h.c14, (ne _ _ (off _ _ (Or.inl (h.bs)))).trans h.c15, fun i hi => (ne _ _ (off _ _ (Or.inr (by omega)))).trans (h.us i hi), fun i hi => ((ne _ _ (off _ _ (Or.inr (by omega)))).trans (h.py i hi)).trans (congrArg (fun y => some (Value.string y)) (upd_proj Ent.nm S.pay k ⟨(S.pay k).nm, x, (S.pay k).tl⟩ rfl i).symm), ?_, fun i hi => ((ne _ _ (off _ _ (Or.inr (by omega)))).trans (h.pt i hi)).trans (congrArg (fun y => some (Value.int .i64 y)) (upd_proj Ent.tl S.pay k ⟨(S.pay k).nm, x, (S.pay k).tl⟩ rfl i).symm), fun i hi => (ne _ _ (off _ _ (Or.inr (by omega)))).trans (h.tn i hi), fun i hi => (ne _ _ (off _ _ (Or.inl (h.su.symm)))).trans (h.wo i hi), fun i hi => (ne _ _ (off _ _ (Or.inl (h.sq.symm)))).trans (h.ri i hi), fun g j hg => by simpa using h.fz g j hg, by simpa using h.lb, by simpa using h.ls, by simpa using h.lu, by simpa using h.lq, h.bs, h.bu, h.bq, h.su, h.sq, h.uq, h.hn, h.hw⟩
  intro i hi
  by_cases hik : i = k
  · subst hik
    have := World.cell?_setCell_same _ _ (.string x) (h.pd i hi)
    simpa [upd] using this
  · rw [ne _ _ (off _ _ (Or.inr (by omega)))]
    simpa [upd, hik] using h.pd i hi
theorem Holds.setTl {w : World} {L : Lay} {S : AS} (h : Holds w L S) (k : Nat) (x : Int) : Holds (w.setCell ⟨L.s, k * 5 + 3, none⟩ (.int .i64 x)) L { S with pay := upd S.pay k ⟨(S.pay k).nm, (S.pay k).dt, x⟩ } := by
  have ne : ∀ (g j : Nat), ⟨g, j, none⟩ ≠ (⟨L.s, k * 5 + 3, none⟩ : Addr) → (w.setCell ⟨L.s, k * 5 + 3, none⟩ (.int .i64 x)).cell? ⟨g, j, none⟩ = w.cell? ⟨g, j, none⟩ := fun g j hh => World.cell?_setCell_other _ _ _ _ (fun e => hh e.symm)
  have off : ∀ (g j : Nat), (g ≠ L.s ∨ j ≠ k * 5 + 3) → ⟨g, j, none⟩ ≠ (⟨L.s, k * 5 + 3, none⟩ : Addr) := fun g j hh e => hh.elim (fun k => k (congrArg Addr.block e)) (fun k => k (congrArg Addr.off e))
  refine ⟨(ne _ _ (off _ _ (Or.inl (h.bs)))).trans h.c0, (ne _ _ (off _ _ (Or.inl (h.bs)))).trans h.c1, (ne _ _ (off _ _ (Or.inl (h.bs)))).trans h.c2, (ne _ _ (off _ _ (Or.inl (h.bs)))).trans h.c3, (ne _ _ (off _ _ (Or.inl (h.bs)))).trans h.c5, (ne _ _ (off _ _ (Or.inl (h.bs)))).trans h.c6, (ne _ _ (off _ _ (Or.inl (h.bs)))).trans h.c7, (ne _ _ (off _ _ (Or.inl (h.bs)))).trans h.c9, (ne _ _ (off _ _ (Or.inl (h.bs)))).trans h.c11, (ne _ _ (off _ _ (Or.inl (h.bs)))).trans h.c12, (ne _ _ (off _ _ (Or.inl (h.bs)))).trans h.c13, (ne _ _ (off _ _ (Or.inl (h.bs)))).trans h.c14, (ne _ _ (off _ _ (Or.inl (h.bs)))).trans h.c15, fun i hi => (ne _ _ (off _ _ (Or.inr (by omega)))).trans (h.us i hi), fun i hi => ((ne _ _ (off _ _ (Or.inr (by omega)))).trans (h.py i hi)).trans (congrArg (fun y => some (Value.string y)) (upd_proj Ent.nm S.pay k ⟨(S.pay k).nm, (S.pay k).dt, x⟩ rfl i).symm), fun i hi => ((ne _ _ (off _ _ (Or.inr (by omega)))).trans (h.pd i hi)).trans (congrArg (fun y => some (Value.string y)) (upd_proj Ent.dt S.pay k ⟨(S.pay k).nm, (S.pay k).dt, x⟩ rfl i).symm), ?_, fun i hi => (ne _ _ (off _ _ (Or.inr (by omega)))).trans (h.tn i hi), fun i hi => (ne _ _ (off _ _ (Or.inl (h.su.symm)))).trans (h.wo i hi), fun i hi => (ne _ _ (off _ _ (Or.inl (h.sq.symm)))).trans (h.ri i hi), fun g j hg => by simpa using h.fz g j hg, by simpa using h.lb, by simpa using h.ls, by simpa using h.lu, by simpa using h.lq, h.bs, h.bu, h.bq, h.su, h.sq, h.uq, h.hn, h.hw⟩
  intro i hi
  by_cases hik : i = k
  · subst hik
    have := World.cell?_setCell_same _ _ (.int .i64 x) (h.pt i hi)
    simpa [upd] using this
  · rw [ne _ _ (off _ _ (Or.inr (by omega)))]
    simpa [upd, hik] using h.pt i hi
theorem Holds.setPay {w : World} {L : Lay} {S : AS} (h : Holds w L S) (k : Nat) (x : Ent) : Holds (((w.setCell ⟨L.s, k * 5 + 1, none⟩ (.string x.nm)).setCell ⟨L.s, k * 5 + 2, none⟩ (.string x.dt)).setCell ⟨L.s, k * 5 + 3, none⟩ (.int .i64 x.tl)) L { S with pay := upd S.pay k x } := by
  have := ((h.setNm k x.nm).setDt k x.dt).setTl k x.tl
  have e : upd S.pay k x = upd (upd (upd S.pay k ⟨x.nm, (S.pay k).dt, (S.pay k).tl⟩) k ⟨(upd S.pay k ⟨x.nm, (S.pay k).dt, (S.pay k).tl⟩ k).nm, x.dt, (upd S.pay k ⟨x.nm, (S.pay k).dt, (S.pay k).tl⟩ k).tl⟩) k ⟨(upd (upd S.pay k ⟨x.nm, (S.pay k).dt, (S.pay k).tl⟩) k ⟨(upd S.pay k ⟨x.nm, (S.pay k).dt, (S.pay k).tl⟩ k).nm, x.dt, (upd S.pay k ⟨x.nm, (S.pay k).dt, (S.pay k).tl⟩ k).tl⟩ k).nm, (upd (upd S.pay k ⟨x.nm, (S.pay k).dt, (S.pay k).tl⟩) k ⟨(upd S.pay k ⟨x.nm, (S.pay k).dt, (S.pay k).tl⟩ k).nm, x.dt, (upd S.pay k ⟨x.nm, (S.pay k).dt, (S.pay k).tl⟩ k).tl⟩ k).dt, x.tl⟩ := by
    funext j
    simp only [upd_same]
    unfold upd
    by_cases hj : j = k <;> simp [hj]
  rw [e]
  exact this
theorem Holds.setTurn {w : World} {L : Lay} {S : AS} (h : Holds w L S) (k : Nat) (x : Int) : Holds (w.setCell ⟨L.s, k * 5 + 4, none⟩ (.int .i64 x)) L { S with turn := upd S.turn k x } := by
  have ne : ∀ (g j : Nat), ⟨g, j, none⟩ ≠ (⟨L.s, k * 5 + 4, none⟩ : Addr) → (w.setCell ⟨L.s, k * 5 + 4, none⟩ (.int .i64 x)).cell? ⟨g, j, none⟩ = w.cell? ⟨g, j, none⟩ := fun g j hh => World.cell?_setCell_other _ _ _ _ (fun e => hh e.symm)
  have off : ∀ (g j : Nat), (g ≠ L.s ∨ j ≠ k * 5 + 4) → ⟨g, j, none⟩ ≠ (⟨L.s, k * 5 + 4, none⟩ : Addr) := fun g j hh e => hh.elim (fun k => k (congrArg Addr.block e)) (fun k => k (congrArg Addr.off e))
  refine ⟨(ne _ _ (off _ _ (Or.inl (h.bs)))).trans h.c0, (ne _ _ (off _ _ (Or.inl (h.bs)))).trans h.c1, (ne _ _ (off _ _ (Or.inl (h.bs)))).trans h.c2, (ne _ _ (off _ _ (Or.inl (h.bs)))).trans h.c3, (ne _ _ (off _ _ (Or.inl (h.bs)))).trans h.c5, (ne _ _ (off _ _ (Or.inl (h.bs)))).trans h.c6, (ne _ _ (off _ _ (Or.inl (h.bs)))).trans h.c7, (ne _ _ (off _ _ (Or.inl (h.bs)))).trans h.c9, (ne _ _ (off _ _ (Or.inl (h.bs)))).trans h.c11, (ne _ _ (off _ _ (Or.inl (h.bs)))).trans h.c12, (ne _ _ (off _ _ (Or.inl (h.bs)))).trans h.c13, (ne _ _ (off _ _ (Or.inl (h.bs)))).trans h.c14, (ne _ _ (off _ _ (Or.inl (h.bs)))).trans h.c15, fun i hi => (ne _ _ (off _ _ (Or.inr (by omega)))).trans (h.us i hi), fun i hi => (ne _ _ (off _ _ (Or.inr (by omega)))).trans (h.py i hi), fun i hi => (ne _ _ (off _ _ (Or.inr (by omega)))).trans (h.pd i hi), fun i hi => (ne _ _ (off _ _ (Or.inr (by omega)))).trans (h.pt i hi), ?_, fun i hi => (ne _ _ (off _ _ (Or.inl (h.su.symm)))).trans (h.wo i hi), fun i hi => (ne _ _ (off _ _ (Or.inl (h.sq.symm)))).trans (h.ri i hi), fun g j hg => by simpa using h.fz g j hg, by simpa using h.lb, by simpa using h.ls, by simpa using h.lu, by simpa using h.lq, h.bs, h.bu, h.bq, h.su, h.sq, h.uq, h.hn, h.hw⟩
  intro i hi
  by_cases hik : i = k
  · subst hik
    have := World.cell?_setCell_same _ _ (.int .i64 x) (h.tn i hi)
    simpa [upd] using this
  · rw [ne _ _ (off _ _ (Or.inr (by omega)))]
    simpa [upd, hik] using h.tn i hi
theorem Holds.setWord {w : World} {L : Lay} {S : AS} (h : Holds w L S) (k : Nat) (x : Int) : Holds (w.setCell ⟨L.u, k, none⟩ (.int .u64 x)) L { S with word := upd S.word k x } := by
  have ne : ∀ (g j : Nat), ⟨g, j, none⟩ ≠ (⟨L.u, k, none⟩ : Addr) → (w.setCell ⟨L.u, k, none⟩ (.int .u64 x)).cell? ⟨g, j, none⟩ = w.cell? ⟨g, j, none⟩ := fun g j hh => World.cell?_setCell_other _ _ _ _ (fun e => hh e.symm)
  have off : ∀ (g j : Nat), (g ≠ L.u ∨ j ≠ k) → ⟨g, j, none⟩ ≠ (⟨L.u, k, none⟩ : Addr) := fun g j hh e => hh.elim (fun k => k (congrArg Addr.block e)) (fun k => k (congrArg Addr.off e))
  refine ⟨(ne _ _ (off _ _ (Or.inl (h.bu)))).trans h.c0, (ne _ _ (off _ _ (Or.inl (h.bu)))).trans h.c1, (ne _ _ (off _ _ (Or.inl (h.bu)))).trans h.c2, (ne _ _ (off _ _ (Or.inl (h.bu)))).trans h.c3, (ne _ _ (off _ _ (Or.inl (h.bu)))).trans h.c5, (ne _ _ (off _ _ (Or.inl (h.bu)))).trans h.c6, (ne _ _ (off _ _ (Or.inl (h.bu)))).trans h.c7, (ne _ _ (off _ _ (Or.inl (h.bu)))).trans h.c9, (ne _ _ (off _ _ (Or.inl (h.bu)))).trans h.c11, (ne _ _ (off _ _ (Or.inl (h.bu)))).trans h.c12, (ne _ _ (off _ _ (Or.inl (h.bu)))).trans h.c13, (ne _ _ (off _ _ (Or.inl (h.bu)))).trans h.c14, (ne _ _ (off _ _ (Or.inl (h.bu)))).trans h.c15, fun i hi => (ne _ _ (off _ _ (Or.inl (h.su)))).trans (h.us i hi), fun i hi => (ne _ _ (off _ _ (Or.inl (h.su)))).trans (h.py i hi), fun i hi => (ne _ _ (off _ _ (Or.inl (h.su)))).trans (h.pd i hi), fun i hi => (ne _ _ (off _ _ (Or.inl (h.su)))).trans (h.pt i hi), fun i hi => (ne _ _ (off _ _ (Or.inl (h.su)))).trans (h.tn i hi), ?_, fun i hi => (ne _ _ (off _ _ (Or.inl (h.uq.symm)))).trans (h.ri i hi), fun g j hg => by simpa using h.fz g j hg, by simpa using h.lb, by simpa using h.ls, by simpa using h.lu, by simpa using h.lq, h.bs, h.bu, h.bq, h.su, h.sq, h.uq, h.hn, h.hw⟩
  intro i hi
  by_cases hik : i = k
  · subst hik
    have := World.cell?_setCell_same _ _ (.int .u64 x) (h.wo i hi)
    simpa [upd] using this
  · rw [ne _ _ (off _ _ (Or.inr (by omega)))]
    simpa [upd, hik] using h.wo i hi
end Go.Proofs.YteekompojgbkhaaGreat
