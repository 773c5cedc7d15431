import Derived.Test.YtmolfemcciljjaaRedW2
import Derived.Deep.Slices
import Derived.SizedLaws
import Derived.ChangeOld
namespace Go.Proofs.Ytmolfemcciljjaa
open Go.ChangeShapes Go.WideShapes Go.ChangeAt Go.RowKit
set_option linter.unusedVariables false
set_option maxRecDepth 100000

theorem cellsWr : Try.prog.cellsOf 47 = 3 := by kernel_rfl
theorem cellsCo : Try.prog.cellsOf 25 = 2 := by kernel_rfl
theorem cellsIw : Try.prog.cellsOf 3 = 1 := by kernel_rfl
theorem cellsSw : Try.prog.cellsOf 9 = 1 := by kernel_rfl
theorem cellsUw : Try.prog.cellsOf 22 = 1 := by kernel_rfl
theorem cellsLw : Try.prog.cellsOf 23 = 1 := by kernel_rfl
theorem bytesW : Try.prog.bytesOf 47 = 40 := by kernel_rfl
theorem some_of_ltW {A : Type} {xs : List A} {i n : Nat} (h : xs.length = n) (hi : i < n) : ∃ y, xs[i]? = some y := ⟨xs[i]'(by omega), List.getElem?_eq_getElem (by omega)⟩
/-- One write read: its three cells. -/
theorem open_oneW {H : Type} {enc : TypeId × Value → H} {W : World} {sp : Nat → Bool} {hd : Bool} {n : Nat} {cs : List Value} {y : DataW H × List MemPlace} (h : DataW.trod enc Try.prog W 0 sp hd n 47 cs = some y) :
    ∃ v : W3, cs = cellW v ∧ (Lit.int .i64 v.1).wf = true := by
  obtain ⟨xs, m, _, rfl, hl, hlen, hf⟩ := DataW.trod_struct Try.underlying47 h
  rw [cellsWr] at hl
  obtain ⟨c0, c1, c2, rfl⟩ : ∃ c0 c1 c2, cs = [c0, c1, c2] := by
    match cs, hl with
    | [c0, c1, c2], _ => exact ⟨c0, c1, c2, rfl⟩
  have hlen3 : xs.length = 3 := hlen
  obtain ⟨y0, e0⟩ := some_of_ltW (i := 0) hlen3 (by omega)
  obtain ⟨y1, e1⟩ := some_of_ltW (i := 1) hlen3 (by omega)
  obtain ⟨y2, e2⟩ := some_of_ltW (i := 2) hlen3 (by omega)
  have f0 := (hf 0 _ rfl).trans e0
  have f1 := (hf 1 _ rfl).trans e1
  have f2 := (hf 2 _ rfl).trans e2
  obtain ⟨a0, q0, _, w0⟩ := DataW.trod_int (k := .i64) (by kernel_rfl) f0
  obtain ⟨a1, q1, _, w1⟩ := DataW.trod_string (by kernel_rfl) f1
  obtain ⟨a2, q2, _, w2⟩ := DataW.trod_string (by kernel_rfl) f2
  change List.take (Try.prog.cellsOf 3) (List.drop 0 [c0, c1, c2]) = _ at q0
  change List.take (Try.prog.cellsOf 9) (List.drop 1 [c0, c1, c2]) = _ at q1
  change List.take (Try.prog.cellsOf 9) (List.drop 2 [c0, c1, c2]) = _ at q2
  rw [cellsIw] at q0
  rw [cellsSw] at q1 q2
  simp at q0 q1 q2
  subst q0 q1 q2
  exact ⟨(a0, a1, a2), rfl, w0⟩
/-- A list of writes read. -/
theorem open_writes {H : Type} {enc : TypeId × Value → H} {W : World} {fuel : Nat} {c : Value} {x : DataW H × List MemPlace} (hf : DataW.trod enc Try.prog W 0 (fun _ => true) true fuel 23 [c] = some x) :
    ∃ (a : Option Addr) (len cap : Nat), c = .slice a len cap ∧ len ≤ cap ∧ (a = none → cap = 0) ∧ (∀ R, (∀ n ∈ x.1.weights Try.prog 23, n ≤ R) → len * 40 ≤ R) ∧
    (len ≤ 140737488355328 → ∃ vs, vs.length = len ∧ SeesW W W.heap.size (.slice a len cap) vs ∧ ∀ v ∈ vs, (Lit.int .i64 v.1).wf = true) := by
  rcases Deep.open_slice Try.underlying23 hf with ⟨hcs, rfl⟩ | ⟨x, l, cp, m, n, D, Pl, hcs, _, hl, hm, hmm, rfl, hx⟩
  · simp only [List.cons.injEq, and_true] at hcs
    subst hcs
    exact ⟨none, 0, 0, rfl, by omega, fun _ => rfl, fun R _ => by omega, fun _ => ⟨[], rfl, ⟨none, 0, rfl, by simp, by simp, fun i hi => by simp at hi⟩, fun v hv => by simp at hv⟩⟩
  · simp only [List.cons.injEq, and_true] at hcs
    subst hcs
    refine ⟨some x, l, cp, rfl, hl, (fun h => by cases h), fun R hR => ?_, fun hle => ?_⟩
    · have := hR _ (by simp only [DataW.weights, Try.underlying23]; exact List.mem_cons_self)
      rw [bytesW] at this
      simp only [List.length_map, List.length_range] at this
      omega
    simp only [if_true] at hmm
    subst hmm
    have each : ∀ i, i < l → ∃ v : W3, (W.cell? (x.add (i * 3)) = some (.int .i64 v.1) ∧ W.cell? ((x.add (i * 3)).add 1) = some (.string v.2.1) ∧ W.cell? ((x.add (i * 3)).add 2) = some (.string v.2.2)) ∧ (Lit.int .i64 v.1).wf = true := by
      intro i hi
      obtain ⟨cs, h1, h2⟩ := hx i (by omega)
      rw [cellsWr] at h1
      obtain ⟨v, rfl, hv⟩ := open_oneW h2
      obtain ⟨_, _, hc⟩ := World.cells?_some h1
      have c0 := hc 0 (by omega)
      have c1 := hc 1 (by omega)
      have c2 := hc 2 (by omega)
      refine ⟨v, ⟨?_, c1, c2⟩, hv⟩
      have e : (x.add (i * 3)).add 0 = x.add (i * 3) := by
        generalize x.add (i * 3) = y
        unfold Addr.add
        rw [if_pos rfl]
      rw [e] at c0
      exact c0
    have hch : ∃ f : Nat → W3, ∀ i, i < l → (W.cell? (x.add (i * 3)) = some (.int .i64 (f i).1) ∧ W.cell? ((x.add (i * 3)).add 1) = some (.string (f i).2.1) ∧ W.cell? ((x.add (i * 3)).add 2) = some (.string (f i).2.2)) ∧ (Lit.int .i64 (f i).1).wf = true := by
      refine ⟨fun i => if h : i < l then Classical.choose (each i h) else (0, ⟨#[]⟩, ⟨#[]⟩), fun i hi => ?_⟩
      simp only [dif_pos hi]
      exact Classical.choose_spec (each i hi)
    obtain ⟨f, hfs⟩ := hch
    refine ⟨(List.range l).map f, by simp, ⟨some x, _, by simp; rfl, by simpa using hl, by simpa using hle, fun i hi => ?_⟩, fun v hv => ?_⟩
    · have hi' : i < l := by simpa using hi
      obtain ⟨⟨c0, c1, c2⟩, _⟩ := hfs i hi'
      obtain ⟨b, off, spot⟩ := x
      have hs : spot = none := by
        have hsp := World.cell?_spot (hfs 0 (by omega)).1.1
        simpa [Addr.add] using hsp
      subst hs
      have ea : ∀ o k, (⟨b, o, none⟩ : Addr).add k = ⟨b, o + k, none⟩ := fun o k => by unfold Addr.add; split <;> simp_all
      rw [ea] at c0 c1 c2
      rw [ea] at c1 c2
      have hb : b < W.heap.size := by
        rcases Nat.lt_or_ge b W.heap.size with h | h
        · exact h
        · unfold World.cell? at c0
          simp [Array.getElem?_eq_none h] at c0
      refine ⟨b, off, rfl, hb, ?_⟩
      simp only [List.getElem_map, List.getElem_range]
      exact ⟨c0, c1, c2⟩
    · obtain ⟨i, hi, rfl⟩ := List.mem_map.1 hv
      exact (hfs i (by simpa using hi)).2
theorem tysCo : ∃ fs, Try.prog.underlying 25 = some (.struct fs) ∧ (fs.toList.map (·.type))[1]? = some 23 := ⟨_, Try.underlying25, rfl⟩
/-- A commit read. -/
theorem open_commit {H : Type} {enc : TypeId × Value → H} {W : World} {fuel : Nat} {cs : List Value} {x : DataW H × List MemPlace} (h : DataW.trod enc Try.prog W 0 (fun _ => true) true fuel 25 cs = some x) :
    ∃ (s : Int) (a : Option Addr) (len cap : Nat), cs = [.int .u64 s, .slice a len cap] ∧ (Lit.int .u64 s).wf = true ∧ len ≤ cap ∧ (a = none → cap = 0) ∧ (∀ R, (∀ n ∈ x.1.weights Try.prog 25, n ≤ R) → len * 40 ≤ R) ∧
    (len ≤ 140737488355328 → ∃ vs, vs.length = len ∧ SeesW W W.heap.size (.slice a len cap) vs ∧ ∀ v ∈ vs, (Lit.int .i64 v.1).wf = true) := by
  obtain ⟨xs, m, _, rfl, hl, hlen, hf⟩ := DataW.trod_struct Try.underlying25 h
  rw [cellsCo] at hl
  obtain ⟨c0, c1, rfl⟩ : ∃ c0 c1, cs = [c0, c1] := by
    match cs, hl with
    | [c0, c1], _ => exact ⟨c0, c1, rfl⟩
  have hlen2 : xs.length = 2 := hlen
  obtain ⟨y0, e0⟩ := some_of_ltW (i := 0) hlen2 (by omega)
  obtain ⟨y1, e1⟩ := some_of_ltW (i := 1) hlen2 (by omega)
  have f0 := (hf 0 _ rfl).trans e0
  have f1 := (hf 1 _ rfl).trans e1
  obtain ⟨a0, q0, _, w0⟩ := DataW.trod_int (k := .u64) (by kernel_rfl) f0
  change List.take (Try.prog.cellsOf 22) (List.drop 0 [c0, c1]) = _ at q0
  rw [cellsUw] at q0
  simp at q0
  subst q0
  change DataW.trod enc Try.prog W 0 (fun _ => true) true m 23 (List.take (Try.prog.cellsOf 23) (List.drop 1 [.int .u64 a0, c1])) = _ at f1
  rw [cellsLw] at f1
  obtain ⟨a, len, cap, rfl, hlc, hn, hw, hv⟩ := open_writes (c := c1) f1
  refine ⟨a0, a, len, cap, rfl, w0, hlc, hn, fun R hR => hw R (fun n hn => hR n ?_), hv⟩
  obtain ⟨fs, hu, ht⟩ := tysCo
  simp only [DataW.weights, hu]
  exact DataW.weights_mem_each ht (by simp [e1]) n hn
end Go.Proofs.Ytmolfemcciljjaa
