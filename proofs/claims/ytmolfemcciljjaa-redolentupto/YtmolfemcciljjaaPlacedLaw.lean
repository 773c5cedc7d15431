import Derived.Test.YtmolfemcciljjaaWritesLaw
import Derived.Test.YtmolfemcciljjaaRegG
namespace Go.Proofs.Ytmolfemcciljjaa
open Go.ChangeShapes Go.WideShapes Go.ChangeAt Go.RowKit
set_option linter.unusedVariables false
set_option maxRecDepth 100000
theorem ownsRow_set {w : World} {B : Nat} {e : TypeId} {size g n cap : Nat} {xs : List Value} (h : w.ownsRow B e size (.slice (some ⟨g, 0, none⟩) n cap) n xs) (j : Nat) (x : Value) : (w.setCell ⟨g, j, none⟩ x).ownsRow B e size (.slice (some ⟨g, 0, none⟩) n cap) n (xs.set j x) := by
  obtain ⟨hl, h2⟩ := h
  rcases h2 with ⟨h', _⟩ | ⟨g', cap', cur, h', hb, hg, hnc, hm, hs, ht⟩
  · simp at h'
  · simp only [Value.slice.injEq, Option.some.injEq, Addr.mk.injEq, and_true] at h'
    obtain ⟨rfl, _, rfl⟩ := h'
    refine ⟨by rw [List.length_set]; exact hl, .inr ⟨g, cap, _, rfl, hb, setCellW x hg, hnc, hm, by simpa using hs, ?_⟩⟩
    rw [Array.toList_setIfInBounds, List.take_set, ht]
theorem cellsW_set : ∀ (ms : List W3) (k : Nat) (x : W3) (hk : k < ms.length), (((cellsW ms).set (k * 3) (.int .i64 x.1)).set (k * 3 + 1) (.string x.2.1)).set (k * 3 + 2) (.string x.2.2) = cellsW (ms.set k x)
  | m :: ms, 0, x, _ => by
    have e : ∀ y r, cellsW (y :: r) = .int .i64 y.1 :: .string y.2.1 :: .string y.2.2 :: cellsW r := fun _ _ => rfl
    simp [e]
  | m :: ms, k + 1, x, hk => by
    have e : ∀ y r, cellsW (y :: r) = .int .i64 y.1 :: .string y.2.1 :: .string y.2.2 :: cellsW r := fun _ _ => rfl
    have ih := cellsW_set ms k x (by simpa using hk)
    rw [e, List.set_cons_succ, e, ← ih, show (k + 1) * 3 = k * 3 + 1 + 1 + 1 from by omega]
    simp
/-- The world behind the storing of a write. -/
abbrev putW (W : World) (gr k : Nat) (x : W3) : World := ((W.setCell ⟨gr, k * 3, none⟩ (.int .i64 x.1)).setCell ⟨gr, k * 3 + 1, none⟩ (.string x.2.1)).setCell ⟨gr, k * 3 + 2, none⟩ (.string x.2.2)
theorem ownW.put {W : World} {B gr cap : Nat} {ms : List W3} {n : Nat} (h : ownW W B (.slice (some ⟨gr, 0, none⟩) n cap) ms) (hn : ms.length = n) (k : Nat) (hk : k < n) (x : W3) : ownW (putW W gr k x) B (.slice (some ⟨gr, 0, none⟩) n cap) (ms.set k x) := by
  unfold ownW at h ⊢
  subst hn
  rw [List.length_set, ← cellsW_set ms k x hk]
  exact ownsRow_set (ownsRow_set (ownsRow_set h _ _) _ _) _ _
theorem putW_heap (W : World) (gr k : Nat) (x : W3) (b : Nat) (hb : b ≠ gr) : (putW W gr k x).heap[b]? = W.heap[b]? := by
  unfold putW
  rw [Below.heap_setCell _ _ _ b hb, Below.heap_setCell _ _ _ b hb, Below.heap_setCell _ _ _ b hb]
/-- What came in, and its twin, whatever stands in the twin's list now. -/
structure Pw (w0 : World) (g : Nat) (s : Int) (v u : Value) (N : Nat) (W : World) (ms : List W3) : Prop where
  len : ms.length = N
  zn : w0.heap.size < W.heap.size
  a1 : W.cell? ⟨w0.heap.size, 1, none⟩ = some v
  hg : W.heap[g]? = some (.cells #[.int .u64 s, u] 25)
  own : ownW W (w0.heap.size + 1) u ms
  ne : some g ≠ u.ownBlock
  bel : Below w0.heap.size w0 W
theorem Pw.step {w0 : World} {g : Nat} {s : Int} {v u : Value} {N : Nat} {W W' : World} {ms : List W3} (h : Pw w0 g s v u N W ms) (hb : Below W.heap.size W W') : Pw w0 g s v u N W' ms :=
  ⟨h.len, Nat.lt_of_lt_of_le h.zn hb.size, (hb.cell (p := ⟨w0.heap.size, 1, none⟩) h.zn).trans h.a1, (hb.block g (Array.getElem?_eq_some_iff.1 h.hg).1).trans h.hg, h.own.same fun k hk _ => hb.block k hk, h.ne, h.bel.trans (hb.mono h.bel.size)⟩
theorem Pw.put {w0 : World} {g : Nat} {s : Int} {v : Value} {N gr cap : Nat} {W : World} {ms : List W3} (h : Pw w0 g s v (.slice (some ⟨gr, 0, none⟩) N cap) N W ms) (k : Nat) (hk : k < N) (x : W3) : Pw w0 g s v (.slice (some ⟨gr, 0, none⟩) N cap) N (putW W gr k x) (ms.set k x) := by
  have hlt := World.ownsRow.lt h.own gr rfl
  have hne : g ≠ gr := fun e => h.ne (by rw [e]; rfl)
  refine ⟨by rw [List.length_set]; exact h.len, by simpa using h.zn, ?_, (putW_heap W gr k x g hne).trans h.hg, h.own.put h.len k hk x, h.ne, ?_⟩
  · rw [← h.a1]
    show World.cell? _ _ = _
    unfold World.cell?
    simp only
    rw [putW_heap W gr k x w0.heap.size (by omega)]
  · exact ((h.bel.setCell (p := ⟨gr, k * 3, none⟩) (by simp only; omega) _).setCell (p := ⟨gr, k * 3 + 1, none⟩) (by simp only; omega) _).setCell (p := ⟨gr, k * 3 + 2, none⟩) (by simp only; omega) _
theorem Pw.b {w0 : World} {g : Nat} {s : Int} {v u : Value} {N : Nat} {W : World} {ms : List W3} (h : Pw w0 g s v u N W ms) : W.cell? ⟨g, 0, none⟩ = some (.int .u64 s) ∧ W.cell? ⟨g, 1, none⟩ = some u := ⟨(cellWH h.hg 0).trans rfl, (cellWH h.hg 1).trans rfl⟩
theorem ownW.lenEq {w : World} {B : Nat} {sp : Option Addr} {nn cp : Nat} {ms : List W3} (h : ownW w B (.slice sp nn cp) ms) : nn = ms.length := by
  rcases h.2 with ⟨e, h0⟩ | ⟨g, cap, cur, e, _⟩
  · simp only [Value.slice.injEq] at e; omega
  · simp only [Value.slice.injEq] at e; exact e.2.1
/-- A row that holds something: its block, and its cells. -/
theorem ownW.at {w : World} {B : Nat} {sp : Option Addr} {nn cp : Nat} {ms : List W3} (h : ownW w B (.slice sp nn cp) ms) (k : Nat) (hk : k < ms.length) : ∃ gr, sp = some ⟨gr, 0, none⟩ ∧ B ≤ gr ∧ w.cell? ⟨gr, k * 3, none⟩ = some (.int .i64 ms[k].1) ∧ w.cell? ⟨gr, k * 3 + 1, none⟩ = some (.string ms[k].2.1) ∧ w.cell? ⟨gr, k * 3 + 2, none⟩ = some (.string ms[k].2.2) ∧ ∀ j, w.frozen? ⟨gr, j, none⟩ = false := by
  have h' := h
  rcases h.2 with ⟨e, h0⟩ | ⟨g, cap, cur, e, hb, hg, _⟩
  · omega
  · simp only [Value.slice.injEq] at e
    obtain ⟨rfl, rfl, rfl⟩ := e
    have c := cellsW_get ms k hk
    exact ⟨g, rfl, hb, (World.ownsRow.cellAt h' _ (by omega)).trans c.1, (World.ownsRow.cellAt h' _ (by omega)).trans c.2.1, (World.ownsRow.cellAt h' _ (by omega)).trans c.2.2, fun j => frozW hg j⟩
theorem putW_cell (W : World) (gr k : Nat) (x : W3) (b j : Nat) (hb : b ≠ gr) : (putW W gr k x).cell? ⟨b, j, none⟩ = W.cell? ⟨b, j, none⟩ := by
  unfold World.cell?
  simp only
  rw [putW_heap W gr k x b hb]
end Go.Proofs.Ytmolfemcciljjaa
