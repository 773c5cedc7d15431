import Derived.Test.YtdgkocgjihdbpaaOwnI
import Derived.WalkKit
import Derived.ProofKit
import Derived.OpenShut
import Derived.ShutString
import Derived.Deep.DeepHandedRow
import Derived.SizedLaws
import Derived.Deep.Slices
import Derived.ChangeOld
namespace Go.Proofs.Ytdgkocgjihdbpaa
open Go.ChangeShapes Go.WideShapes Go.ChangeAt Go.RowKit
set_option linter.unusedVariables false

theorem cellsI : Try.prog.cellsOf 3 = 1 := by kernel_rfl
theorem bytesI : Try.prog.bytesOf 3 = 8 := by kernel_rfl
/-- A slice of numbers read. -/
theorem open_ints {H : Type} {enc : TypeId × Value → H} {W : World} {fuel : Nat} {a : Option Addr} {len cap : Nat} {x : DataW H × List MemPlace} (hf : DataW.trod enc Try.prog W 0 (fun _ => true) true fuel 31 [.slice a len cap] = some x) :
    (x.1 = .nil ∧ len = 0 ∨ ∃ elems spare, x.1 = .slice elems spare ∧ elems.length = len) ∧
    (len ≤ 140737488355328 → ∃ vs, vs.length = len ∧ SeesI W W.heap.size (.slice a len cap) vs ∧ ∀ v ∈ vs, (Lit.int .i64 v).wf = true) := by
  rcases Deep.open_slice Try.underlying31 hf with ⟨hcs, rfl⟩ | ⟨x, l, c, m, n, D, Pl, hcs, _, hl, hm, hmm, rfl, hx⟩
  · simp only [List.cons.injEq, Value.slice.injEq, and_true] at hcs
    obtain ⟨rfl, rfl, rfl⟩ := hcs
    exact ⟨.inl ⟨rfl, rfl⟩, fun _ => ⟨[], rfl, ⟨none, 0, rfl, by simp, by simp, fun i hi => by simp at hi⟩, fun v hv => by simp at hv⟩⟩
  · simp only [List.cons.injEq, Value.slice.injEq, and_true] at hcs
    obtain ⟨rfl, rfl, rfl⟩ := hcs
    refine ⟨.inr ⟨_, _, rfl, by simp⟩, fun hle => ?_⟩
    simp only [if_true] at hmm
    subst hmm
    have each : ∀ i, i < len → ∃ v : Int, W.cell? (x.add i) = some (.int .i64 v) ∧ (Lit.int .i64 v).wf = true := by
      intro i hi
      obtain ⟨cs, h1, h2⟩ := hx i (by omega)
      rw [cellsI] at h1
      obtain ⟨v, q, _, hv⟩ := DataW.trod_int (k := .i64) (by kernel_rfl) h2
      subst q
      obtain ⟨_, _, hc⟩ := World.cells?_some h1
      have c0 := hc 0 (by omega)
      refine ⟨v, ?_, hv⟩
      have e : (x.add (i * 1)).add 0 = x.add i := by
        rw [Nat.mul_one]
        generalize x.add i = y
        unfold Addr.add
        rw [if_pos rfl]
      rw [e] at c0
      exact c0
    have hch : ∃ f : Nat → Int, ∀ i, i < len → W.cell? (x.add i) = some (.int .i64 (f i)) ∧ (Lit.int .i64 (f i)).wf = true := by
      refine ⟨fun i => if h : i < len then Classical.choose (each i h) else 0, fun i hi => ?_⟩
      simp only [dif_pos hi]
      exact Classical.choose_spec (each i hi)
    obtain ⟨f, hfs⟩ := hch
    refine ⟨(List.range len).map f, by simp, ⟨some x, _, by simp; rfl, by simpa using hl, by simpa using hle, fun i hi => ?_⟩, fun v hv => ?_⟩
    · have hi' : i < len := by simpa using hi
      obtain ⟨c0, _⟩ := hfs i hi'
      obtain ⟨b, off, spot⟩ := x
      have hs : spot = none := by
        have hsp := World.cell?_spot (hfs 0 (by omega)).1
        simpa [Addr.add] using hsp
      subst hs
      have ea : ∀ o k, (⟨b, o, none⟩ : Addr).add k = ⟨b, o + k, none⟩ := fun o k => by unfold Addr.add; split <;> simp_all
      rw [ea] at c0
      have hb : b < W.heap.size := by
        rcases Nat.lt_or_ge b W.heap.size with h | h
        · exact h
        · unfold World.cell? at c0
          simp [Array.getElem?_eq_none h] at c0
      refine ⟨b, off, rfl, hb, ?_⟩
      simp only [List.getElem_map, List.getElem_range]
      exact c0
    · obtain ⟨i, hi, rfl⟩ := List.mem_map.1 hv
      exact (hfs i (by simpa using hi)).2
end Go.Proofs.Ytdgkocgjihdbpaa
