import Derived.Test.YtfabgoanammaiaaVals4
import Derived.Deep.Slices
import Derived.SizedLaws
import Derived.ChangeOld
namespace Go.Proofs.Ytfabgoanammaiaa
open Go.ChangeShapes Go.WideShapes Go.ChangeAt Go.RowKit
set_option linter.unusedVariables false

theorem cellsV : Try.prog.cellsOf 45 = 3 := by kernel_rfl
theorem cellsK : Try.prog.cellsOf 43 = 1 := by kernel_rfl
theorem cellsI : Try.prog.cellsOf 2 = 1 := by kernel_rfl
theorem cellsS : Try.prog.cellsOf 9 = 1 := by kernel_rfl
theorem bytesV : Try.prog.bytesOf 45 = 32 := by kernel_rfl
theorem len3 {cs : List Value} (h : cs.length = 3) : ∃ c0 c1 c2, cs = [c0, c1, c2] := by
  match cs, h with
  | [c0, c1, c2], _ => exact ⟨c0, c1, c2, rfl⟩
theorem some_of_lt {A : Type} {xs : List A} {i n : Nat} (h : xs.length = n) (hi : i < n) : ∃ y, xs[i]? = some y := ⟨xs[i]'(by omega), List.getElem?_eq_getElem (by omega)⟩
set_option maxRecDepth 100000 in
/-- One value read: its three cells. -/
theorem open_one {H : Type} {enc : TypeId × Value → H} {W : World} {sp : Nat → Bool} {hd : Bool} {n : Nat} {cs : List Value} {y : DataW H × List MemPlace} (h : DataW.trod enc Try.prog W 0 sp hd n 45 cs = some y) :
    ∃ v : Int × Int × ByteArray, cs = cell3 v ∧ v.2.2.size ≤ maxLen ∧ (Lit.int .i64 v.1).wf = true ∧ (Lit.int .i64 v.2.1).wf = true := by
  obtain ⟨xs, m, _, rfl, hl, hlen, hf⟩ := DataW.trod_struct Try.underlying45 h
  rw [cellsV] at hl
  obtain ⟨c0, c1, c2, rfl⟩ := len3 hl
  have hlen3 : xs.length = 3 := hlen
  obtain ⟨y0, e0⟩ := some_of_lt (i := 0) hlen3 (by omega)
  obtain ⟨y1, e1⟩ := some_of_lt (i := 1) hlen3 (by omega)
  obtain ⟨y2, e2⟩ := some_of_lt (i := 2) hlen3 (by omega)
  have f0 := (hf 0 _ rfl).trans e0
  have f1 := (hf 1 _ rfl).trans e1
  have f2 := (hf 2 _ rfl).trans e2
  obtain ⟨a0, q0, _, w0⟩ := DataW.trod_int (k := .i64) (by kernel_rfl) f0
  obtain ⟨a1, q1, _, w1⟩ := DataW.trod_int (k := .i64) (by kernel_rfl) f1
  obtain ⟨a2, q2, _, w2⟩ := DataW.trod_string (by kernel_rfl) f2
  change List.take (Try.prog.cellsOf 43) (List.drop 0 [c0, c1, c2]) = _ at q0
  change List.take (Try.prog.cellsOf 2) (List.drop 1 [c0, c1, c2]) = _ at q1
  change List.take (Try.prog.cellsOf 9) (List.drop 2 [c0, c1, c2]) = _ at q2
  rw [cellsK] at q0
  rw [cellsI] at q1
  rw [cellsS] at q2
  simp at q0 q1 q2
  subst q0 q1 q2
  exact ⟨(a0, a1, a2), rfl, w2, w0, w1⟩
/-- A slice of values read. -/
theorem open_vals {H : Type} {enc : TypeId × Value → H} {W : World} {fuel : Nat} {a : Option Addr} {len cap : Nat} {x : DataW H × List MemPlace} (hf : DataW.trod enc Try.prog W 0 (fun _ => true) true fuel 22 [.slice a len cap] = some x) :
    (x.1 = .nil ∧ len = 0 ∨ ∃ elems spare, x.1 = .slice elems spare ∧ elems.length = len) ∧
    (len ≤ 140737488355328 → ∃ vs, vs.length = len ∧ SeesV W W.heap.size (.slice a len cap) vs ∧ ∀ v ∈ vs, v.2.2.size ≤ maxLen ∧ (Lit.int .i64 v.1).wf = true ∧ (Lit.int .i64 v.2.1).wf = true) := by
  rcases Deep.open_slice Try.underlying22 hf with ⟨hcs, rfl⟩ | ⟨x, l, c, m, n, D, Pl, hcs, _, hl, hm, hmm, rfl, hx⟩
  · simp only [List.cons.injEq, Value.slice.injEq, and_true] at hcs
    obtain ⟨rfl, rfl, rfl⟩ := hcs
    exact ⟨.inl ⟨rfl, rfl⟩, fun _ => ⟨[], rfl, ⟨none, 0, rfl, by simp, by simp, fun i hi => by simp at hi⟩, fun v hv => by simp at hv⟩⟩
  · simp only [List.cons.injEq, Value.slice.injEq, and_true] at hcs
    obtain ⟨rfl, rfl, rfl⟩ := hcs
    refine ⟨.inr ⟨_, _, rfl, by simp⟩, fun hle => ?_⟩
    simp only [if_true] at hmm
    subst hmm
    have each : ∀ i, i < len → ∃ v : Int × Int × ByteArray, (W.cell? (x.add (i * 3)) = some (.int .i64 v.1) ∧ W.cell? ((x.add (i * 3)).add 1) = some (.int .i64 v.2.1) ∧ W.cell? ((x.add (i * 3)).add 2) = some (.string v.2.2)) ∧ v.2.2.size ≤ maxLen ∧ (Lit.int .i64 v.1).wf = true ∧ (Lit.int .i64 v.2.1).wf = true := by
      intro i hi
      obtain ⟨cs, h1, h2⟩ := hx i (by omega)
      rw [cellsV] at h1
      obtain ⟨v, rfl, hv⟩ := open_one h2
      obtain ⟨_, _, hc⟩ := World.cells?_some h1
      have c0 := hc 0 (by omega)
      have c1 := hc 1 (by omega)
      have c2 := hc 2 (by omega)
      refine ⟨v, ⟨?_, c1, c2⟩, hv⟩
      have e : (x.add (i * 3)).add 0 = x.add (i * 3) := by
        generalize x.add (i * 3) = y
        unfold Addr.add
        rw [if_pos rfl]
      rw [e] at c0
      exact c0
    have hch : ∃ f : Nat → Int × Int × ByteArray, ∀ i, i < len → (W.cell? (x.add (i * 3)) = some (.int .i64 (f i).1) ∧ W.cell? ((x.add (i * 3)).add 1) = some (.int .i64 (f i).2.1) ∧ W.cell? ((x.add (i * 3)).add 2) = some (.string (f i).2.2)) ∧ (f i).2.2.size ≤ maxLen ∧ (Lit.int .i64 (f i).1).wf = true ∧ (Lit.int .i64 (f i).2.1).wf = true := by
      refine ⟨fun i => if h : i < len then Classical.choose (each i h) else (0, 0, ByteArray.empty), fun i hi => ?_⟩
      simp only [dif_pos hi]
      exact Classical.choose_spec (each i hi)
    obtain ⟨f, hfs⟩ := hch
    refine ⟨(List.range len).map f, by simp, ⟨some x, _, by simp; rfl, by simpa using hl, by simpa using hle, fun i hi => ?_⟩, fun v hv => ?_⟩
    · have hi' : i < len := by simpa using hi
      obtain ⟨⟨c0, c1, c2⟩, _⟩ := hfs i hi'
      obtain ⟨b, off, spot⟩ := x
      have hs : spot = none := by
        have hsp := World.cell?_spot (hfs 0 (by omega)).1.1
        simpa [Addr.add] using hsp
      subst hs
      have ea : ∀ o k, (⟨b, o, none⟩ : Addr).add k = ⟨b, o + k, none⟩ := fun o k => by unfold Addr.add; split <;> simp_all
      rw [ea] at c0 c1 c2
      rw [ea] at c1 c2
      have hb : b < W.heap.size := by
        rcases Nat.lt_or_ge b W.heap.size with h | h
        · exact h
        · unfold World.cell? at c0
          simp [Array.getElem?_eq_none h] at c0
      refine ⟨b, off, rfl, hb, ?_⟩
      simp only [List.getElem_map, List.getElem_range]
      exact ⟨c0, c1, c2⟩
    · obtain ⟨i, hi, rfl⟩ := List.mem_map.1 hv
      exact (hfs i (by simpa using hi)).2
end Go.Proofs.Ytfabgoanammaiaa
