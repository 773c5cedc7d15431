import Derived.Test.YtjceellpmopnkaaDoorMd4
import Derived.Deep.Slices
import Derived.SizedLaws
import Derived.ChangeOld
namespace Go.Proofs.YtjceellpmopnkaaDoor
open Go.ChangeShapes Go.WideShapes Go.ChangeAt Go.RowKit
set_option linter.unusedVariables false
set_option maxRecDepth 100000
theorem cellsPn : Tryd.prog.cellsOf 36 = 8 := by kernel_rfl
theorem cellsMn : Tryd.prog.cellsOf 25 = 4 := by kernel_rfl
theorem cellsIm : Tryd.prog.cellsOf 3 = 1 := by kernel_rfl
theorem cellsUm : Tryd.prog.cellsOf 22 = 1 := by kernel_rfl
theorem cellsVm : Tryd.prog.cellsOf 34 = 1 := by kernel_rfl
theorem cellsLm : Tryd.prog.cellsOf 23 = 1 := by kernel_rfl
theorem bytesPn : Tryd.prog.bytesOf 36 = 56 := by kernel_rfl
theorem some_of_ltM {A : Type} {xs : List A} {i n : Nat} (h : xs.length = n) (hi : i < n) : ∃ y, xs[i]? = some y := ⟨xs[i]'(by omega), List.getElem?_eq_getElem (by omega)⟩
theorem wf_i64 {x : Int} (h : (Lit.int .i64 x).wf = true) : -9223372036854775808 ≤ x ∧ x ≤ 9223372036854775807 := by
  have h1 := (bounds_i64 h).1
  have h2 := (bounds_i64 h).2
  omega
theorem wf_u64 {x : Int} (h : (Lit.int .u64 x).wf = true) : 0 ≤ x ∧ x ≤ 18446744073709551615 := by
  have h1 := (bounds_u64 h).1
  have h2 := (bounds_u64 h).2
  omega
theorem wf_u32 {x : Int} (h : (Lit.int .u32 x).wf = true) : 0 ≤ x ∧ x ≤ 4294967295 := by
  have h1 := (bounds_u32 h).1
  have h2 := (bounds_u32 h).2
  omega
/-- One pair read: its eight cells. -/
theorem open_onePn {H : Type} {enc : TypeId × Value → H} {W : World} {sp : Nat → Bool} {hd : Bool} {n : Nat} {cs : List Value} {y : DataW H × List MemPlace} (h : DataW.trod enc Tryd.prog W 0 sp hd n 36 cs = some y) :
    ∃ v : PN, cs = cellP v ∧ v.wf := by
  obtain ⟨xs, m, _, rfl, hl, hlen, hf⟩ := DataW.trod_struct Tryd.underlying36 h
  rw [cellsPn] at hl
  obtain ⟨c0, c1, c2, c3, c4, c5, c6, c7, rfl⟩ : ∃ c0 c1 c2 c3 c4 c5 c6 c7, cs = [c0, c1, c2, c3, c4, c5, c6, c7] := by
    match cs, hl with
    | [c0, c1, c2, c3, c4, c5, c6, c7], _ => exact ⟨c0, c1, c2, c3, c4, c5, c6, c7, rfl⟩
  have hlen8 : xs.length = 8 := hlen
  obtain ⟨y0, e0⟩ := some_of_ltM (i := 0) hlen8 (by omega)
  obtain ⟨y1, e1⟩ := some_of_ltM (i := 1) hlen8 (by omega)
  obtain ⟨y2, e2⟩ := some_of_ltM (i := 2) hlen8 (by omega)
  obtain ⟨y3, e3⟩ := some_of_ltM (i := 3) hlen8 (by omega)
  obtain ⟨y4, e4⟩ := some_of_ltM (i := 4) hlen8 (by omega)
  obtain ⟨y5, e5⟩ := some_of_ltM (i := 5) hlen8 (by omega)
  obtain ⟨y6, e6⟩ := some_of_ltM (i := 6) hlen8 (by omega)
  obtain ⟨y7, e7⟩ := some_of_ltM (i := 7) hlen8 (by omega)
  obtain ⟨a0, q0, _, w0⟩ := DataW.trod_int (k := .i64) (by kernel_rfl) ((hf 0 _ rfl).trans e0)
  obtain ⟨a1, q1, _, w1⟩ := DataW.trod_int (k := .u64) (by kernel_rfl) ((hf 1 _ rfl).trans e1)
  obtain ⟨a2, q2, _, w2⟩ := DataW.trod_int (k := .u64) (by kernel_rfl) ((hf 2 _ rfl).trans e2)
  obtain ⟨a3, q3, _, w3⟩ := DataW.trod_int (k := .i64) (by kernel_rfl) ((hf 3 _ rfl).trans e3)
  obtain ⟨a4, q4, _, w4⟩ := DataW.trod_int (k := .i64) (by kernel_rfl) ((hf 4 _ rfl).trans e4)
  obtain ⟨a5, q5, _, w5⟩ := DataW.trod_int (k := .i64) (by kernel_rfl) ((hf 5 _ rfl).trans e5)
  obtain ⟨a6, q6, _, w6⟩ := DataW.trod_int (k := .u32) (by kernel_rfl) ((hf 6 _ rfl).trans e6)
  obtain ⟨a7, q7, _, w7⟩ := DataW.trod_int (k := .u32) (by kernel_rfl) ((hf 7 _ rfl).trans e7)
  change List.take (Tryd.prog.cellsOf 3) (List.drop 0 [c0, c1, c2, c3, c4, c5, c6, c7]) = _ at q0
  change List.take (Tryd.prog.cellsOf 22) (List.drop 1 [c0, c1, c2, c3, c4, c5, c6, c7]) = _ at q1
  change List.take (Tryd.prog.cellsOf 22) (List.drop 2 [c0, c1, c2, c3, c4, c5, c6, c7]) = _ at q2
  change List.take (Tryd.prog.cellsOf 3) (List.drop 3 [c0, c1, c2, c3, c4, c5, c6, c7]) = _ at q3
  change List.take (Tryd.prog.cellsOf 3) (List.drop 4 [c0, c1, c2, c3, c4, c5, c6, c7]) = _ at q4
  change List.take (Tryd.prog.cellsOf 3) (List.drop 5 [c0, c1, c2, c3, c4, c5, c6, c7]) = _ at q5
  change List.take (Tryd.prog.cellsOf 34) (List.drop 6 [c0, c1, c2, c3, c4, c5, c6, c7]) = _ at q6
  change List.take (Tryd.prog.cellsOf 34) (List.drop 7 [c0, c1, c2, c3, c4, c5, c6, c7]) = _ at q7
  rw [cellsIm] at q0 q3 q4 q5
  rw [cellsUm] at q1 q2
  rw [cellsVm] at q6 q7
  simp at q0 q1 q2 q3 q4 q5 q6 q7
  subst q0 q1 q2 q3 q4 q5 q6 q7
  exact ⟨⟨a0, a1, a2, a3, a4, a5, a6, a7⟩, rfl, ⟨(wf_i64 w0).1, (wf_i64 w0).2, (wf_u64 w1).1, (wf_u64 w1).2, (wf_u64 w2).1, (wf_u64 w2).2, (wf_i64 w3).1, (wf_i64 w3).2, (wf_i64 w4).1, (wf_i64 w4).2, (wf_i64 w5).1, (wf_i64 w5).2, (wf_u32 w6).1, (wf_u32 w6).2, (wf_u32 w7).1, (wf_u32 w7).2⟩⟩
/-- A list of pairs read. -/
theorem open_pairs {H : Type} {enc : TypeId × Value → H} {W : World} {fuel : Nat} {c : Value} {x : DataW H × List MemPlace} (hf : DataW.trod enc Tryd.prog W 0 (fun _ => true) true fuel 23 [c] = some x) :
    ∃ (a : Option Addr) (len cap : Nat), c = .slice a len cap ∧ (a = none → len = 0 ∧ cap = 0) ∧ (∀ R, (∀ n ∈ x.1.weights Tryd.prog 23, n ≤ R) → len * 56 ≤ R) ∧
    ∃ vs : List PN, vs.length = len ∧ SeesP W W.heap.size a vs ∧ (∀ ad, a = some ad → vs ≠ [] → ∃ b off, ad = ⟨b, off, none⟩) ∧ ∀ v ∈ vs, v.wf := by
  rcases Deep.open_slice Tryd.underlying23 hf with ⟨hcs, rfl⟩ | ⟨x, l, cp, m, n, D, Pl, hcs, _, hl, hm, hmm, rfl, hx⟩
  · simp only [List.cons.injEq, and_true] at hcs
    subst hcs
    exact ⟨none, 0, 0, rfl, fun _ => ⟨rfl, rfl⟩, fun R _ => by omega, [], rfl, (fun i hi => by simp at hi), (fun ad h => by cases h), (fun v hv => by simp at hv)⟩
  · simp only [List.cons.injEq, and_true] at hcs
    subst hcs
    refine ⟨some x, l, cp, rfl, (fun h => by cases h), fun R hR => ?_, ?_⟩
    · have := hR _ (by simp only [DataW.weights, Tryd.underlying23]; exact List.mem_cons_self)
      rw [bytesPn] at this
      simp only [List.length_map, List.length_range] at this
      omega
    simp only [if_true] at hmm
    subst hmm
    have each : ∀ i, i < l → ∃ v : PN, (∀ j (hj : j < 8), W.cell? ((x.add (i * 8)).add j) = (cellP v)[j]?) ∧ v.wf := by
      intro i hi
      obtain ⟨cs, h1, h2⟩ := hx i (by omega)
      rw [cellsPn] at h1
      obtain ⟨v, rfl, hv⟩ := open_onePn h2
      obtain ⟨_, _, hc⟩ := World.cells?_some h1
      refine ⟨v, fun j hj => ?_, hv⟩
      have := hc j hj
      rw [this]
    have hch : ∃ f : Nat → PN, ∀ i, i < l → (∀ j (hj : j < 8), W.cell? ((x.add (i * 8)).add j) = (cellP (f i))[j]?) ∧ (f i).wf := by
      refine ⟨fun i => if h : i < l then Classical.choose (each i h) else ⟨0, 0, 0, 0, 0, 0, 0, 0⟩, fun i hi => ?_⟩
      simp only [dif_pos hi]
      exact Classical.choose_spec (each i hi)
    obtain ⟨f, hfs⟩ := hch
    have hspot : 0 < l → ∃ b off, x = ⟨b, off, none⟩ := fun h0 => by
      obtain ⟨b, off, spot⟩ := x
      have hs : spot = none := by
        have hsp := World.cell?_spot (show W.cell? (((⟨b, off, spot⟩ : Addr).add (0 * 8)).add 0) = some (.int .i64 (f 0).id) from (hfs 0 h0).1 0 (by omega))
        simpa [Addr.add] using hsp
      exact ⟨b, off, by rw [hs]⟩
    refine ⟨(List.range l).map f, by simp, fun i hi => ?_, fun ad e hne => ?_, fun v hv => ?_⟩
    · have hi' : i < l := by simpa using hi
      obtain ⟨b, off, rfl⟩ := hspot (by omega)
      have hc := (hfs i hi').1
      have ea : ∀ o k, (⟨b, o, none⟩ : Addr).add k = ⟨b, o + k, none⟩ := fun o k => by unfold Addr.add; split <;> simp_all
      have hc' : ∀ j (hj : j < 8), W.cell? ⟨b, off + i * 8 + j, none⟩ = (cellP (f i))[j]? := fun j hj => by have := hc j hj; rwa [ea, ea] at this
      have c0 : W.cell? ⟨b, off + i * 8, none⟩ = some (.int .i64 (f i).id) := hc' 0 (by omega)
      have hb : b < W.heap.size := by
        rcases Nat.lt_or_ge b W.heap.size with h | h
        · exact h
        · unfold World.cell? at c0
          simp [Array.getElem?_eq_none h] at c0
      refine ⟨b, off, rfl, hb, ?_⟩
      simp only [List.getElem_map, List.getElem_range]
      exact ⟨c0, hc' 1 (by omega), hc' 2 (by omega), hc' 3 (by omega), hc' 4 (by omega), hc' 5 (by omega), hc' 6 (by omega), hc' 7 (by omega)⟩
    · cases e
      refine hspot ?_
      rcases Nat.eq_zero_or_pos l with h | h
      · subst h; simp at hne
      · exact h
    · obtain ⟨i, hi, rfl⟩ := List.mem_map.1 hv
      exact (hfs i (by simpa using hi)).2
theorem tysMn : ∃ fs, Tryd.prog.underlying 25 = some (.struct fs) ∧ (fs.toList.map (·.type))[3]? = some 23 := ⟨_, Tryd.underlying25, rfl⟩
/-- A manifest read. -/
theorem open_manifest {H : Type} {enc : TypeId × Value → H} {W : World} {fuel : Nat} {cs : List Value} {x : DataW H × List MemPlace} (h : DataW.trod enc Tryd.prog W 0 (fun _ => true) true fuel 25 cs = some x) :
    ∃ (g n u : Int) (a : Option Addr) (len cap : Nat), cs = [.int .i64 g, .int .i64 n, .int .u64 u, .slice a len cap] ∧ (0 ≤ u) ∧ (a = none → len = 0 ∧ cap = 0) ∧ (∀ R, (∀ n ∈ x.1.weights Tryd.prog 25, n ≤ R) → len * 56 ≤ R) ∧
    ∃ vs : List PN, vs.length = len ∧ SeesP W W.heap.size a vs ∧ (∀ ad, a = some ad → vs ≠ [] → ∃ b off, ad = ⟨b, off, none⟩) ∧ ∀ v ∈ vs, v.wf := by
  obtain ⟨xs, m, _, rfl, hl, hlen, hf⟩ := DataW.trod_struct Tryd.underlying25 h
  rw [cellsMn] at hl
  obtain ⟨c0, c1, c2, c3, rfl⟩ : ∃ c0 c1 c2 c3, cs = [c0, c1, c2, c3] := by
    match cs, hl with
    | [c0, c1, c2, c3], _ => exact ⟨c0, c1, c2, c3, rfl⟩
  have hlen4 : xs.length = 4 := hlen
  obtain ⟨y0, e0⟩ := some_of_ltM (i := 0) hlen4 (by omega)
  obtain ⟨y1, e1⟩ := some_of_ltM (i := 1) hlen4 (by omega)
  obtain ⟨y2, e2⟩ := some_of_ltM (i := 2) hlen4 (by omega)
  obtain ⟨y3, e3⟩ := some_of_ltM (i := 3) hlen4 (by omega)
  obtain ⟨a0, q0, _, w0⟩ := DataW.trod_int (k := .i64) (by kernel_rfl) ((hf 0 _ rfl).trans e0)
  obtain ⟨a1, q1, _, w1⟩ := DataW.trod_int (k := .i64) (by kernel_rfl) ((hf 1 _ rfl).trans e1)
  obtain ⟨a2, q2, _, w2⟩ := DataW.trod_int (k := .u64) (by kernel_rfl) ((hf 2 _ rfl).trans e2)
  have f3 := (hf 3 _ rfl).trans e3
  change List.take (Tryd.prog.cellsOf 3) (List.drop 0 [c0, c1, c2, c3]) = _ at q0
  change List.take (Tryd.prog.cellsOf 3) (List.drop 1 [c0, c1, c2, c3]) = _ at q1
  change List.take (Tryd.prog.cellsOf 22) (List.drop 2 [c0, c1, c2, c3]) = _ at q2
  rw [cellsIm] at q0 q1
  rw [cellsUm] at q2
  simp at q0 q1 q2
  subst q0 q1 q2
  change DataW.trod enc Tryd.prog W 0 (fun _ => true) true m 23 (List.take (Tryd.prog.cellsOf 23) (List.drop 3 [.int .i64 a0, .int .i64 a1, .int .u64 a2, c3])) = _ at f3
  rw [cellsLm] at f3
  obtain ⟨a, len, cap, rfl, hn, hw, hv⟩ := open_pairs (c := c3) f3
  refine ⟨a0, a1, a2, a, len, cap, rfl, (wf_u64 w2).1, hn, fun R hR => hw R (fun n hn => hR n ?_), hv⟩
  obtain ⟨fs, hu, ht⟩ := tysMn
  simp only [DataW.weights, hu]
  exact DataW.weights_mem_each ht (by simp [e3]) n hn
end Go.Proofs.YtjceellpmopnkaaDoor
