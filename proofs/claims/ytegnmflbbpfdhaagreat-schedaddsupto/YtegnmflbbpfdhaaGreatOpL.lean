import Derived.Test.YtegnmflbbpfdhaaGreatRowG
import Derived.Test.YtegnmflbbpfdhaaGreatRows
import Derived.Deep.Slices
import Derived.SizedLaws
import Derived.ChangeOld
import Derived.OpenShut
namespace Go.Proofs.YtegnmflbbpfdhaaGreat
open Go.ChangeShapes Go.WideShapes Go.ChangeAt Go.RowKit
set_option linter.unusedVariables false
set_option maxRecDepth 100000
theorem list_of {α : Type} {p : Nat → α → Prop} : ∀ n, (∀ i, i < n → ∃ a, p i a) → ∃ xs : List α, xs.length = n ∧ ∀ i (h : i < xs.length), p i xs[i]
  | 0, _ => ⟨[], rfl, fun i h => by simp at h⟩
  | n + 1, h => by
    obtain ⟨xs, hl, hx⟩ := list_of n (fun i hi => h i (by omega))
    obtain ⟨a, ha⟩ := h n (by omega)
    refine ⟨xs ++ [a], by rw [List.length_append, hl]; rfl, fun i hi => ?_⟩
    rw [List.length_append, hl] at hi
    rcases Nat.lt_or_ge i xs.length with h' | h'
    · rw [List.getElem_append_left h']; exact hx i h'
    · have e : i = n := by simp at hi; omega
      subst e
      rw [List.getElem_append_right h']
      simpa [hl] using ha
theorem bulk_app {H : Type} : ∀ (a b : List (DataW H)), Rows.uptoBulkAll (a ++ b) = Rows.uptoBulkAll a + Rows.uptoBulkAll b
  | [], b => by simp [Rows.uptoBulkAll]
  | x :: a, b => by rw [List.cons_append, Rows.uptoBulkAll, Rows.uptoBulkAll, bulk_app a b]; omega
theorem bulk_range {α H : Type} (m : α → Nat) (D : Nat → DataW H) : ∀ xs : List α, (∀ i (h : i < xs.length), m xs[i] ≤ Rows.uptoBulk (D i)) → (xs.map m).sum ≤ Rows.uptoBulkAll ((List.range xs.length).map D) := by
  intro xs
  have key : ∀ n (ys : List α), ys.length = n → (∀ i (h : i < ys.length), m ys[i] ≤ Rows.uptoBulk (D i)) → (ys.map m).sum ≤ Rows.uptoBulkAll ((List.range ys.length).map D) := by
    intro n
    induction n with
    | zero =>
      intro ys hl _
      have : ys = [] := List.eq_nil_of_length_eq_zero hl
      subst this
      simp
    | succ n ih =>
      intro ys hl h
      have hne : ys ≠ [] := fun e => by rw [e] at hl; simp at hl
      have e : ys = ys.dropLast ++ [ys.getLast hne] := (List.dropLast_concat_getLast hne).symm
      have hd : ys.dropLast.length = n := by rw [List.length_dropLast]; omega
      have h1 := ih ys.dropLast hd (fun i hi => by
        have := h i (by rw [hd] at hi; omega)
        rw [List.getElem_dropLast]
        exact this)
      have h2 := h n (by omega)
      have e2 : ys[n]'(by omega) = ys.getLast hne := by rw [List.getLast_eq_getElem]; congr 1; omega
      rw [e2] at h2
      rw [hl, List.range_succ, List.map_append, bulk_app]
      rw [hd] at h1
      rw [e, List.map_append, List.sum_append]
      simp only [List.map_cons, List.map_nil, List.sum_cons, List.sum_nil, Rows.uptoBulkAll]
      omega
  exact key _ xs rfl
/-- A list read, whatever it is a list of. -/
theorem open_list {α H : Type} {enc : TypeId × Value → H} {W : World} (cs : α → List Value) (m : α → Nat) (ok : α → Prop) {t e : TypeId} {n : Nat} (ht : Tryz.prog.underlying t = some (.slice e)) (hc : Tryz.prog.cellsOf e = n) (hn : ∀ y, (cs y).length = n) (h0 : 0 < n)
    (each : ∀ (fuel : Nat) (c : List Value) (y : DataW H × List MemPlace), DataW.trod enc Tryz.prog W 0 (fun _ => true) true fuel e c = some y → ∃ a : α, c = cs a ∧ ok a ∧ m a ≤ Rows.uptoBulk y.1)
    {fuel : Nat} {c : List Value} {x : DataW H × List MemPlace} (hf : DataW.trod enc Tryz.prog W 0 (fun _ => true) true fuel t c = some x) :
    ∃ (v : Value) (xs : List α), c = [v] ∧ InG cs W W.heap.size v xs ∧ (∀ a ∈ xs, ok a) ∧ (xs.map m).sum + 1 ≤ Rows.uptoBulk x.1 := by
  rcases Deep.open_slice ht hf with ⟨hcs, rfl⟩ | ⟨a, len, cap, mm, fl, D, Pl, hcs, _, hl, hm, hmm, rfl, hx⟩
  · refine ⟨_, [], hcs, ⟨none, 0, rfl, by simp, fun _ => rfl, fun j u hj => by simp at hj⟩, (fun a ha => by cases ha), ?_⟩
    show 0 + 1 ≤ Rows.uptoBulk (DataW.nil : DataW H)
    rw [Rows.uptoBulk]
    exact Nat.le_refl _
  · simp only [if_true] at hmm
    subst hmm
    obtain ⟨xs, hxl, hxs⟩ := list_of (p := fun i (y : α) => W.cells? 0 (a.add (i * n)) n = some (cs y) ∧ ok y ∧ m y ≤ Rows.uptoBulk (D i)) len (fun i hi => by
      obtain ⟨c', h1, h2⟩ := hx i (by omega)
      obtain ⟨y, e1, e2, e3⟩ := each _ _ _ h2
      refine ⟨y, ?_, e2, e3⟩
      rw [← e1, ← hc]
      exact h1)
    subst hxl
    have cellAt : ∀ i (hi : i < xs.length) j, j < n → W.cell? ((a.add (i * n)).add j) = (cs xs[i])[j]? := fun i hi j hj => (World.cells?_some (hxs i hi).1).2.2 j hj
    refine ⟨_, xs, hcs, ⟨some a, _, rfl, hl, (fun h => by cases h), fun j u hj => ?_⟩, ?_, ?_⟩
    · have hjl : j < xs.length * n := by
        have := (List.getElem?_eq_some_iff.1 hj).1
        rw [flat_len cs n hn] at this
        exact this
      have hi : j / n < xs.length := by
        rw [Nat.div_lt_iff_lt_mul h0]
        exact hjl
      have hr : j % n < n := Nat.mod_lt _ h0
      have ej : j = j / n * n + j % n := by rw [Nat.mul_comm]; exact (Nat.div_add_mod j n).symm
      have hu : (cs xs[j / n])[j % n]? = some u := by
        rw [← flat_get cs n hn xs (j / n) hi (j % n) hr, ← ej]
        exact hj
      have h1 := (cellAt (j / n) hi (j % n) hr).trans hu
      obtain ⟨b, off, spot⟩ := a
      have hs : spot = none := by
        have hp : 0 < xs.length := Nat.lt_of_le_of_lt (Nat.zero_le _) hi
        have h2 := cellAt 0 hp 0 h0
        rw [List.getElem?_eq_getElem (by rw [hn]; exact h0)] at h2
        have hsp := World.cell?_spot h2
        simpa [Addr.add] using hsp
      subst hs
      rw [addr_add, addr_add, Nat.add_assoc, ← ej] at h1
      refine ⟨b, off, rfl, ?_, h1⟩
      rcases Nat.lt_or_ge b W.heap.size with h | h
      · exact h
      · unfold World.cell? at h1
        simp [Array.getElem?_eq_none h] at h1
    · intro y hy
      obtain ⟨i, hi, rfl⟩ := List.mem_iff_getElem.1 hy
      exact (hxs i hi).2.1
    · have := bulk_range m D xs (fun i hi => (hxs i hi).2.2)
      show (xs.map m).sum + 1 ≤ Rows.uptoBulk (DataW.slice _ _)
      rw [Rows.uptoBulk]
      omega
end Go.Proofs.YtegnmflbbpfdhaaGreat
