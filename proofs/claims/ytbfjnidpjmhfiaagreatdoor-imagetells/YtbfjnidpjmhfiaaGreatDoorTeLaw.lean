import Derived.Test.YtbfjnidpjmhfiaaGreatDoorMd6
import Derived.Test.YtbfjnidpjmhfiaaGreatDoorOpenD
import Derived.Deep.Slices
import Derived.SizedLaws
import Derived.ChangeOld
import Derived.Test.YtbfjnidpjmhfiaaGreatDoorTeB
import Derived.Test.YtbfjnidpjmhfiaaGreatDoorTeD
namespace Go.Proofs.YtbfjnidpjmhfiaaGreatDoor
open Go.ChangeShapes Go.WideShapes Go.ChangeAt Go.RowKit
set_option linter.unusedVariables false
set_option maxRecDepth 100000
theorem cellsPn : Tryz.prog.cellsOf 79 = 8 := by kernel_rfl
theorem cellsMn : Tryz.prog.cellsOf 29 = 4 := by kernel_rfl
theorem cellsIm : Tryz.prog.cellsOf 3 = 1 := by kernel_rfl
theorem cellsUm : Tryz.prog.cellsOf 22 = 1 := by kernel_rfl
theorem cellsVm : Tryz.prog.cellsOf 77 = 1 := by kernel_rfl
theorem cellsLm : Tryz.prog.cellsOf 27 = 1 := by kernel_rfl
theorem bytesPn : Tryz.prog.bytesOf 79 = 56 := by kernel_rfl
theorem some_of_ltM {A : Type} {xs : List A} {i n : Nat} (h : xs.length = n) (hi : i < n) : ∃ y, xs[i]? = some y := ⟨xs[i]'(by omega), List.getElem?_eq_getElem (by omega)⟩
theorem wf_i64 {x : Int} (h : (Lit.int .i64 x).wf = true) : -9223372036854775808 ≤ x ∧ x ≤ 9223372036854775807 := by
  have h1 := (bounds_i64 h).1
  have h2 := (bounds_i64 h).2
  omega
theorem wf_u32 {x : Int} (h : (Lit.int .u32 x).wf = true) : 0 ≤ x ∧ x ≤ 4294967295 := by
  have h1 := (bounds_u32 h).1
  have h2 := (bounds_u32 h).2
  omega
/-- One pair read: its eight cells. -/
theorem open_onePn {H : Type} {enc : TypeId × Value → H} {W : World} {sp : Nat → Bool} {hd : Bool} {n : Nat} {cs : List Value} {y : DataW H × List MemPlace} (h : DataW.trod enc Tryz.prog W 0 sp hd n 79 cs = some y) :
    ∃ v : PN, cs = cellP v ∧ v.wf := by
  obtain ⟨xs, m, _, rfl, hl, hlen, hf⟩ := DataW.trod_struct Tryz.underlying79 h
  rw [cellsPn] at hl
  obtain ⟨c0, c1, c2, c3, c4, c5, c6, c7, rfl⟩ : ∃ c0 c1 c2 c3 c4 c5 c6 c7, cs = [c0, c1, c2, c3, c4, c5, c6, c7] := by
    match cs, hl with
    | [c0, c1, c2, c3, c4, c5, c6, c7], _ => exact ⟨c0, c1, c2, c3, c4, c5, c6, c7, rfl⟩
  have hlen8 : xs.length = 8 := hlen
  obtain ⟨y0, e0⟩ := some_of_ltM (i := 0) hlen8 (by omega)
  obtain ⟨y1, e1⟩ := some_of_ltM (i := 1) hlen8 (by omega)
  obtain ⟨y2, e2⟩ := some_of_ltM (i := 2) hlen8 (by omega)
  obtain ⟨y3, e3⟩ := some_of_ltM (i := 3) hlen8 (by omega)
  obtain ⟨y4, e4⟩ := some_of_ltM (i := 4) hlen8 (by omega)
  obtain ⟨y5, e5⟩ := some_of_ltM (i := 5) hlen8 (by omega)
  obtain ⟨y6, e6⟩ := some_of_ltM (i := 6) hlen8 (by omega)
  obtain ⟨y7, e7⟩ := some_of_ltM (i := 7) hlen8 (by omega)
  obtain ⟨a0, q0, _, w0⟩ := DataW.trod_int (k := .i64) (by kernel_rfl) ((hf 0 _ rfl).trans e0)
  obtain ⟨a1, q1, _, w1⟩ := DataW.trod_int (k := .u64) (by kernel_rfl) ((hf 1 _ rfl).trans e1)
  obtain ⟨a2, q2, _, w2⟩ := DataW.trod_int (k := .u64) (by kernel_rfl) ((hf 2 _ rfl).trans e2)
  obtain ⟨a3, q3, _, w3⟩ := DataW.trod_int (k := .i64) (by kernel_rfl) ((hf 3 _ rfl).trans e3)
  obtain ⟨a4, q4, _, w4⟩ := DataW.trod_int (k := .i64) (by kernel_rfl) ((hf 4 _ rfl).trans e4)
  obtain ⟨a5, q5, _, w5⟩ := DataW.trod_int (k := .i64) (by kernel_rfl) ((hf 5 _ rfl).trans e5)
  obtain ⟨a6, q6, _, w6⟩ := DataW.trod_int (k := .u32) (by kernel_rfl) ((hf 6 _ rfl).trans e6)
  obtain ⟨a7, q7, _, w7⟩ := DataW.trod_int (k := .u32) (by kernel_rfl) ((hf 7 _ rfl).trans e7)
  change List.take (Tryz.prog.cellsOf 3) (List.drop 0 [c0, c1, c2, c3, c4, c5, c6, c7]) = _ at q0
  change List.take (Tryz.prog.cellsOf 22) (List.drop 1 [c0, c1, c2, c3, c4, c5, c6, c7]) = _ at q1
  change List.take (Tryz.prog.cellsOf 22) (List.drop 2 [c0, c1, c2, c3, c4, c5, c6, c7]) = _ at q2
  change List.take (Tryz.prog.cellsOf 3) (List.drop 3 [c0, c1, c2, c3, c4, c5, c6, c7]) = _ at q3
  change List.take (Tryz.prog.cellsOf 3) (List.drop 4 [c0, c1, c2, c3, c4, c5, c6, c7]) = _ at q4
  change List.take (Tryz.prog.cellsOf 3) (List.drop 5 [c0, c1, c2, c3, c4, c5, c6, c7]) = _ at q5
  change List.take (Tryz.prog.cellsOf 77) (List.drop 6 [c0, c1, c2, c3, c4, c5, c6, c7]) = _ at q6
  change List.take (Tryz.prog.cellsOf 77) (List.drop 7 [c0, c1, c2, c3, c4, c5, c6, c7]) = _ at q7
  rw [cellsIm] at q0 q3 q4 q5
  rw [cellsUm] at q1 q2
  rw [cellsVm] at q6 q7
  simp at q0 q1 q2 q3 q4 q5 q6 q7
  subst q0 q1 q2 q3 q4 q5 q6 q7
  exact ⟨⟨a0, a1, a2, a3, a4, a5, a6, a7⟩, rfl, ⟨(wf_i64 w0).1, (wf_i64 w0).2, (wf_u64 w1).1, (wf_u64 w1).2, (wf_u64 w2).1, (wf_u64 w2).2, (wf_i64 w3).1, (wf_i64 w3).2, (wf_i64 w4).1, (wf_i64 w4).2, (wf_i64 w5).1, (wf_i64 w5).2, (wf_u32 w6).1, (wf_u32 w6).2, (wf_u32 w7).1, (wf_u32 w7).2⟩⟩
/-- A list of pairs read. -/
theorem open_pairs {H : Type} {enc : TypeId × Value → H} {W : World} {fuel : Nat} {c : Value} {x : DataW H × List MemPlace} (hf : DataW.trod enc Tryz.prog W 0 (fun _ => true) true fuel 27 [c] = some x) :
    ∃ (a : Option Addr) (len cap : Nat), c = .slice a len cap ∧ (a = none → len = 0 ∧ cap = 0) ∧ (∀ R, (∀ n ∈ x.1.weights Tryz.prog 27, n ≤ R) → len * 56 ≤ R) ∧
    ∃ vs : List PN, vs.length = len ∧ SeesP W W.heap.size a vs ∧ (∀ ad, a = some ad → vs ≠ [] → ∃ b off, ad = ⟨b, off, none⟩) ∧ ∀ v ∈ vs, v.wf := by
  rcases Deep.open_slice Tryz.underlying27 hf with ⟨hcs, rfl⟩ | ⟨x, l, cp, m, n, D, Pl, hcs, _, hl, hm, hmm, rfl, hx⟩
  · simp only [List.cons.injEq, and_true] at hcs
    subst hcs
    exact ⟨none, 0, 0, rfl, fun _ => ⟨rfl, rfl⟩, fun R _ => by omega, [], rfl, (fun i hi => by simp at hi), (fun ad h => by cases h), (fun v hv => by simp at hv)⟩
  · simp only [List.cons.injEq, and_true] at hcs
    subst hcs
    refine ⟨some x, l, cp, rfl, (fun h => by cases h), fun R hR => ?_, ?_⟩
    · have := hR _ (by simp only [DataW.weights, Tryz.underlying27]; exact List.mem_cons_self)
      rw [bytesPn] at this
      simp only [List.length_map, List.length_range] at this
      omega
    simp only [if_true] at hmm
    subst hmm
    have each : ∀ i, i < l → ∃ v : PN, (∀ j (hj : j < 8), W.cell? ((x.add (i * 8)).add j) = (cellP v)[j]?) ∧ v.wf := by
      intro i hi
      obtain ⟨cs, h1, h2⟩ := hx i (by omega)
      rw [cellsPn] at h1
      obtain ⟨v, rfl, hv⟩ := open_onePn h2
      obtain ⟨_, _, hc⟩ := World.cells?_some h1
      refine ⟨v, fun j hj => ?_, hv⟩
      have := hc j hj
      rw [this]
    have hch : ∃ f : Nat → PN, ∀ i, i < l → (∀ j (hj : j < 8), W.cell? ((x.add (i * 8)).add j) = (cellP (f i))[j]?) ∧ (f i).wf := by
      refine ⟨fun i => if h : i < l then Classical.choose (each i h) else ⟨0, 0, 0, 0, 0, 0, 0, 0⟩, fun i hi => ?_⟩
      simp only [dif_pos hi]
      exact Classical.choose_spec (each i hi)
    obtain ⟨f, hfs⟩ := hch
    have hspot : 0 < l → ∃ b off, x = ⟨b, off, none⟩ := fun h0 => by
      obtain ⟨b, off, spot⟩ := x
      have hs : spot = none := by
        have hsp := World.cell?_spot (show W.cell? (((⟨b, off, spot⟩ : Addr).add (0 * 8)).add 0) = some (.int .i64 (f 0).id) from (hfs 0 h0).1 0 (by omega))
        simpa [Addr.add] using hsp
      exact ⟨b, off, by rw [hs]⟩
    refine ⟨(List.range l).map f, by simp, fun i hi => ?_, fun ad e hne => ?_, fun v hv => ?_⟩
    · have hi' : i < l := by simpa using hi
      obtain ⟨b, off, rfl⟩ := hspot (by omega)
      have hc := (hfs i hi').1
      have ea : ∀ o k, (⟨b, o, none⟩ : Addr).add k = ⟨b, o + k, none⟩ := fun o k => by unfold Addr.add; split <;> simp_all
      have hc' : ∀ j (hj : j < 8), W.cell? ⟨b, off + i * 8 + j, none⟩ = (cellP (f i))[j]? := fun j hj => by have := hc j hj; rwa [ea, ea] at this
      have c0 : W.cell? ⟨b, off + i * 8, none⟩ = some (.int .i64 (f i).id) := hc' 0 (by omega)
      have hb : b < W.heap.size := by
        rcases Nat.lt_or_ge b W.heap.size with h | h
        · exact h
        · unfold World.cell? at c0
          simp [Array.getElem?_eq_none h] at c0
      refine ⟨b, off, rfl, hb, ?_⟩
      simp only [List.getElem_map, List.getElem_range]
      exact ⟨c0, hc' 1 (by omega), hc' 2 (by omega), hc' 3 (by omega), hc' 4 (by omega), hc' 5 (by omega), hc' 6 (by omega), hc' 7 (by omega)⟩
    · cases e
      refine hspot ?_
      rcases Nat.eq_zero_or_pos l with h | h
      · subst h; simp at hne
      · exact h
    · obtain ⟨i, hi, rfl⟩ := List.mem_map.1 hv
      exact (hfs i (by simpa using hi)).2
theorem tysMn : ∃ fs, Tryz.prog.underlying 29 = some (.struct fs) ∧ (fs.toList.map (·.type))[3]? = some 27 := ⟨_, Tryz.underlying29, rfl⟩
/-- A manifest read. -/
theorem open_manifest {H : Type} {enc : TypeId × Value → H} {W : World} {fuel : Nat} {cs : List Value} {x : DataW H × List MemPlace} (h : DataW.trod enc Tryz.prog W 0 (fun _ => true) true fuel 29 cs = some x) :
    ∃ (g n u : Int) (a : Option Addr) (len cap : Nat), cs = [.int .i64 g, .int .i64 n, .int .u64 u, .slice a len cap] ∧ (0 ≤ u) ∧ (a = none → len = 0 ∧ cap = 0) ∧ (∀ R, (∀ n ∈ x.1.weights Tryz.prog 29, n ≤ R) → len * 56 ≤ R) ∧
    ∃ vs : List PN, vs.length = len ∧ SeesP W W.heap.size a vs ∧ (∀ ad, a = some ad → vs ≠ [] → ∃ b off, ad = ⟨b, off, none⟩) ∧ ∀ v ∈ vs, v.wf := by
  obtain ⟨xs, m, _, rfl, hl, hlen, hf⟩ := DataW.trod_struct Tryz.underlying29 h
  rw [cellsMn] at hl
  obtain ⟨c0, c1, c2, c3, rfl⟩ : ∃ c0 c1 c2 c3, cs = [c0, c1, c2, c3] := by
    match cs, hl with
    | [c0, c1, c2, c3], _ => exact ⟨c0, c1, c2, c3, rfl⟩
  have hlen4 : xs.length = 4 := hlen
  obtain ⟨y0, e0⟩ := some_of_ltM (i := 0) hlen4 (by omega)
  obtain ⟨y1, e1⟩ := some_of_ltM (i := 1) hlen4 (by omega)
  obtain ⟨y2, e2⟩ := some_of_ltM (i := 2) hlen4 (by omega)
  obtain ⟨y3, e3⟩ := some_of_ltM (i := 3) hlen4 (by omega)
  obtain ⟨a0, q0, _, w0⟩ := DataW.trod_int (k := .i64) (by kernel_rfl) ((hf 0 _ rfl).trans e0)
  obtain ⟨a1, q1, _, w1⟩ := DataW.trod_int (k := .i64) (by kernel_rfl) ((hf 1 _ rfl).trans e1)
  obtain ⟨a2, q2, _, w2⟩ := DataW.trod_int (k := .u64) (by kernel_rfl) ((hf 2 _ rfl).trans e2)
  have f3 := (hf 3 _ rfl).trans e3
  change List.take (Tryz.prog.cellsOf 3) (List.drop 0 [c0, c1, c2, c3]) = _ at q0
  change List.take (Tryz.prog.cellsOf 3) (List.drop 1 [c0, c1, c2, c3]) = _ at q1
  change List.take (Tryz.prog.cellsOf 22) (List.drop 2 [c0, c1, c2, c3]) = _ at q2
  rw [cellsIm] at q0 q1
  rw [cellsUm] at q2
  simp at q0 q1 q2
  subst q0 q1 q2
  change DataW.trod enc Tryz.prog W 0 (fun _ => true) true m 27 (List.take (Tryz.prog.cellsOf 27) (List.drop 3 [.int .i64 a0, .int .i64 a1, .int .u64 a2, c3])) = _ at f3
  rw [cellsLm] at f3
  obtain ⟨a, len, cap, rfl, hn, hw, hv⟩ := open_pairs (c := c3) f3
  refine ⟨a0, a1, a2, a, len, cap, rfl, (wf_u64 w2).1, hn, fun R hR => hw R (fun n hn => hR n ?_), hv⟩
  obtain ⟨fs, hu, ht⟩ := tysMn
  simp only [DataW.weights, hu]
  exact DataW.weights_mem_each ht (by simp [e3]) n hn
end Go.Proofs.YtbfjnidpjmhfiaaGreatDoor

namespace Go.Proofs.YtbfjnidpjmhfiaaGreatDoor
open Go.ChangeShapes Go.WideShapes Go.ChangeAt Go.RowKit
set_option linter.unusedVariables false
set_option maxRecDepth 100000
theorem tells_true (w : World) (id lo hi gen mg mn mu : Int) (da ao ma : Option Addr) (dc cap mc : Nat) (ds : List DT) (es : List ER) (ps : List PN) (n x : Nat) (hlo0 : 0 ≤ lo) (hmu0 : 0 ≤ mu)
    (hd : SeesT w w.heap.size da ds) (hdc : da = none → ds = [] ∧ dc = 0) (hda : ∀ ad, da = some ad → ds ≠ [] → ∃ b off, ad = ⟨b, off, none⟩) (hdl : ds.length * 40 ≤ 140737488355328) (hwd : ∀ p ∈ ds, p.wf)
    (he : SeesE w w.heap.size ao es) (hcap : ao = none → es = [] ∧ cap = 0) (hao : ∀ ad, ao = some ad → es ≠ [] → ∃ b off, ad = ⟨b, off, none⟩) (hl : es.length * 32 ≤ 140737488355328) (hwe : ∀ p ∈ es, p.wf)
    (hp : SeesP w w.heap.size ma ps) (hmc : ma = none → ps = [] ∧ mc = 0) (hma : ∀ ad, ma = some ad → ps ≠ [] → ∃ b off, ad = ⟨b, off, none⟩) (hpl : ps.length * 56 ≤ 140737488355328) (hwp : ∀ p ∈ ps, p.wf)
    (hn : n ≤ 18446744073709551615) (hx : x < 256) (hmust : mayA id lo hi ds ∧ mayD id gen es) (hT0 : HalfAt w) :
    Calls Tryz.prog 5 #[.agg #[.int .i64 id, .int .u64 lo, .int .u64 hi, .slice da ds.length dc, .int .i64 gen, .slice ao es.length cap], .agg #[.int .i64 mg, .int .i64 mn, .int .u64 mu, .slice ma ps.length mc], .int .u64 (n : Int), .int .u8 (x : Int), .bool true] w fun e w' => e = .returned (.bool true) ∧ Below w.heap.size w w' := by
  by_cases h : x = 0
  · exact tells_TeA w id lo hi gen mg mn mu da ao ma dc cap mc ds es ps n x hlo0 hmu0 hd hdc hda hdl hwd he hcap hao hl hwe hp hmc hma hpl hwp hn hx h hmust hT0
  · exact tells_TeB w id lo hi gen mg mn mu da ao ma dc cap mc ds es ps n x hlo0 hmu0 hd hdc hda hdl hwd he hcap hao hl hwe hp hmc hma hpl hwp hn hx h hmust hT0
theorem tells_false (w : World) (id lo hi gen mg mn mu : Int) (da ao ma : Option Addr) (dc cap mc : Nat) (ds : List DT) (es : List ER) (ps : List PN) (n x : Nat) (hlo0 : 0 ≤ lo) (hmu0 : 0 ≤ mu)
    (hd : SeesT w w.heap.size da ds) (hdc : da = none → ds = [] ∧ dc = 0) (hda : ∀ ad, da = some ad → ds ≠ [] → ∃ b off, ad = ⟨b, off, none⟩) (hdl : ds.length * 40 ≤ 140737488355328) (hwd : ∀ p ∈ ds, p.wf)
    (he : SeesE w w.heap.size ao es) (hcap : ao = none → es = [] ∧ cap = 0) (hao : ∀ ad, ao = some ad → es ≠ [] → ∃ b off, ad = ⟨b, off, none⟩) (hl : es.length * 32 ≤ 140737488355328) (hwe : ∀ p ∈ es, p.wf)
    (hp : SeesP w w.heap.size ma ps) (hmc : ma = none → ps = [] ∧ mc = 0) (hma : ∀ ad, ma = some ad → ps ≠ [] → ∃ b off, ad = ⟨b, off, none⟩) (hpl : ps.length * 56 ≤ 140737488355328) (hwp : ∀ p ∈ ps, p.wf)
    (hn : n ≤ 18446744073709551615) (hx : x < 256) (hT0 : HalfAt w) :
    Calls Tryz.prog 5 #[.agg #[.int .i64 id, .int .u64 lo, .int .u64 hi, .slice da ds.length dc, .int .i64 gen, .slice ao es.length cap], .agg #[.int .i64 mg, .int .i64 mn, .int .u64 mu, .slice ma ps.length mc], .int .u64 (n : Int), .int .u8 (x : Int), .bool false] w fun e w' => e = .returned (.bool true) ∧ Below w.heap.size w w' := by
  by_cases h : x = 0
  · exact tells_TeC w id lo hi gen mg mn mu da ao ma dc cap mc ds es ps n x hlo0 hmu0 hd hdc hda hdl hwd he hcap hao hl hwe hp hmc hma hpl hwp hn hx h hT0
  · exact tells_TeD w id lo hi gen mg mn mu da ao ma dc cap mc ds es ps n x hlo0 hmu0 hd hdc hda hdl hwd he hcap hao hl hwe hp hmc hma hpl hwp hn hx h hT0
theorem mayT_one : mayT 4 9 ⟨5, ⟨#[97]⟩, ⟨#[49]⟩⟩ := ⟨by decide, by decide, by decide, by decide, by decide⟩
theorem mayE_one : mayE ⟨5, 6, ⟨#[97]⟩⟩ := ⟨by decide, by decide, by decide, by decide, by decide⟩
theorem one_data : mayA 3 4 9 [⟨5, ⟨#[97]⟩, ⟨#[49]⟩⟩] := by
  refine ⟨by omega, by omega, by decide, fun k hk => ?_⟩
  obtain rfl : k = 0 := by simp at hk; omega
  exact ⟨mayT_one, fun j hj => absurd hj (by omega)⟩
theorem one_delta : mayD 3 2 [⟨5, 6, ⟨#[97]⟩⟩] := by
  refine ⟨by omega, by omega, by decide, fun k hk => ?_⟩
  obtain rfl : k = 0 := by simp at hk; omega
  exact ⟨mayE_one, fun j hj => absurd hj (by omega)⟩
theorem seesT_one1 {W : World} {g : Nat} {d : DT} (h : W.heap[g]? = some (.cells #[.int .u64 d.beg, .string d.key, .string d.data] 31 (0, 0))) : SeesT W W.heap.size (some ⟨g, 0, none⟩) [d] := fun i hi => by
  obtain rfl : i = 0 := by simp at hi; omega
  exact ⟨g, 0, rfl, (Array.getElem?_eq_some_iff.1 h).1, ⟨cells_at h 0, cells_at h 1, cells_at h 2⟩⟩
theorem seesE_one1 {W : World} {g : Nat} {d : ER} (h : W.heap[g]? = some (.cells #[.int .u64 d.beg, .int .u64 d.fin, .string d.key] 33 (0, 0))) : SeesE W W.heap.size (some ⟨g, 0, none⟩) [d] := fun i hi => by
  obtain rfl : i = 0 := by simp at hi; omega
  exact ⟨g, 0, rfl, (Array.getElem?_eq_some_iff.1 h).1, ⟨cells_at h 0, cells_at h 1, cells_at h 2⟩⟩
set_option maxHeartbeats 6400000 in
theorem tellsLaw_walk (w : World) (id lo hi gen mg mn mu : Int) (da ao ma : Option Addr) (dc cap mc : Nat) (ds : List DT) (es : List ER) (ps : List PN) (n x : Nat) (hlo0 : 0 ≤ lo) (hmu0 : 0 ≤ mu)
    (hd : SeesT w w.heap.size da ds) (hdc : da = none → ds = [] ∧ dc = 0) (hda : ∀ ad, da = some ad → ds ≠ [] → ∃ b off, ad = ⟨b, off, none⟩) (hdl : ds.length * 40 ≤ 140737488355328) (hwd : ∀ p ∈ ds, p.wf)
    (he : SeesE w w.heap.size ao es) (hcap : ao = none → es = [] ∧ cap = 0) (hao : ∀ ad, ao = some ad → es ≠ [] → ∃ b off, ad = ⟨b, off, none⟩) (hl : es.length * 32 ≤ 140737488355328) (hwe : ∀ p ∈ es, p.wf)
    (hp : SeesP w w.heap.size ma ps) (hmc : ma = none → ps = [] ∧ mc = 0) (hma : ∀ ad, ma = some ad → ps ≠ [] → ∃ b off, ad = ⟨b, off, none⟩) (hpl : ps.length * 56 ≤ 140737488355328) (hwp : ∀ p ∈ ps, p.wf)
    (hn : n ≤ 18446744073709551615) (hx : x < 256) (hT0 : HalfAt w) :
    Calls Tryz.prog 3 #[.agg #[.int .i64 id, .int .u64 lo, .int .u64 hi, .slice da ds.length dc, .int .i64 gen, .slice ao es.length cap], .agg #[.int .i64 mg, .int .i64 mn, .int .u64 mu, .slice ma ps.length mc], .int .u64 (n : Int), .int .u8 (x : Int)] w fun e w' => e = .returned (.bool true) ∧ Below w.heap.size w w' := by
  have HB : Hid (Below w.heap.size w (((((w.alloc (.cells #[.int .i64 id, .int .u64 lo, .int .u64 hi, .slice da ds.length dc, .int .i64 gen, .slice ao es.length cap] 26)).alloc (.cells #[.int .i64 mg, .int .i64 mn, .int .u64 mu, .slice ma ps.length mc] 29)).alloc (.cells #[.int .u64 5, .string ⟨#[97]⟩, .string ⟨#[49]⟩] 31)).alloc (.cells #[.int .u64 5, .int .u64 6, .string ⟨#[97]⟩] 33)).alloc (.cells #[.int .i64 3, .int .u64 4, .int .u64 9, .slice (some ⟨w.heap.size + 1 + 1, 0, none⟩) 1 1, .int .i64 2, .slice (some ⟨w.heap.size + 1 + 1 + 1, 0, none⟩) 1 1] 26))) := (((((Below.refl _ _).alloc (Nat.le_refl _) _).alloc (by simp) _).alloc (by first | (simp; done) | (simp; omega)) _).alloc (by first | (simp; done) | (simp; omega)) _).alloc (by first | (simp; done) | (simp; omega)) _
  have HP : Hid (Fp6 (((((w.alloc (.cells #[.int .i64 id, .int .u64 lo, .int .u64 hi, .slice da ds.length dc, .int .i64 gen, .slice ao es.length cap] 26)).alloc (.cells #[.int .i64 mg, .int .i64 mn, .int .u64 mu, .slice ma ps.length mc] 29)).alloc (.cells #[.int .u64 5, .string ⟨#[97]⟩, .string ⟨#[49]⟩] 31)).alloc (.cells #[.int .u64 5, .int .u64 6, .string ⟨#[97]⟩] 33)).alloc (.cells #[.int .i64 3, .int .u64 4, .int .u64 9, .slice (some ⟨w.heap.size + 1 + 1, 0, none⟩) 1 1, .int .i64 2, .slice (some ⟨w.heap.size + 1 + 1 + 1, 0, none⟩) 1 1] 26)) w.heap.size (.int .i64 id) (.int .u64 lo) (.int .u64 hi) (.slice da ds.length dc) (.int .i64 gen) (.slice ao es.length cap)) := (Below.heap_alloc _ _ _ (by first | (simp; done) | (simp; omega))).trans ((Below.heap_alloc _ _ _ (by first | (simp; done) | (simp; omega))).trans ((Below.heap_alloc _ _ _ (by first | (simp; done) | (simp; omega))).trans ((Below.heap_alloc _ _ _ (by simp)).trans (heap_alloc_new w _))))
  have HM : Hid (Mn4 (((((w.alloc (.cells #[.int .i64 id, .int .u64 lo, .int .u64 hi, .slice da ds.length dc, .int .i64 gen, .slice ao es.length cap] 26)).alloc (.cells #[.int .i64 mg, .int .i64 mn, .int .u64 mu, .slice ma ps.length mc] 29)).alloc (.cells #[.int .u64 5, .string ⟨#[97]⟩, .string ⟨#[49]⟩] 31)).alloc (.cells #[.int .u64 5, .int .u64 6, .string ⟨#[97]⟩] 33)).alloc (.cells #[.int .i64 3, .int .u64 4, .int .u64 9, .slice (some ⟨w.heap.size + 1 + 1, 0, none⟩) 1 1, .int .i64 2, .slice (some ⟨w.heap.size + 1 + 1 + 1, 0, none⟩) 1 1] 26)) (w.heap.size + 1) (.int .i64 mg) (.int .i64 mn) (.int .u64 mu) (.slice ma ps.length mc)) := by
    have := heap_alloc_new (w.alloc (.cells #[.int .i64 id, .int .u64 lo, .int .u64 hi, .slice da ds.length dc, .int .i64 gen, .slice ao es.length cap] 26)) (.cells #[.int .i64 mg, .int .i64 mn, .int .u64 mu, .slice ma ps.length mc] 29)
    rw [show (w.alloc (.cells #[.int .i64 id, .int .u64 lo, .int .u64 hi, .slice da ds.length dc, .int .i64 gen, .slice ao es.length cap] 26)).heap.size = w.heap.size + 1 from by simp] at this
    exact (Below.heap_alloc _ _ _ (by first | (simp; done) | (simp; omega))).trans ((Below.heap_alloc _ _ _ (by first | (simp; done) | (simp; omega))).trans ((Below.heap_alloc _ _ _ (by simp)).trans this))
  have HD : Hid (((((((w.alloc (.cells #[.int .i64 id, .int .u64 lo, .int .u64 hi, .slice da ds.length dc, .int .i64 gen, .slice ao es.length cap] 26)).alloc (.cells #[.int .i64 mg, .int .i64 mn, .int .u64 mu, .slice ma ps.length mc] 29)).alloc (.cells #[.int .u64 5, .string ⟨#[97]⟩, .string ⟨#[49]⟩] 31)).alloc (.cells #[.int .u64 5, .int .u64 6, .string ⟨#[97]⟩] 33)).alloc (.cells #[.int .i64 3, .int .u64 4, .int .u64 9, .slice (some ⟨w.heap.size + 1 + 1, 0, none⟩) 1 1, .int .i64 2, .slice (some ⟨w.heap.size + 1 + 1 + 1, 0, none⟩) 1 1] 26))).heap[w.heap.size + 1 + 1]? = some (.cells #[.int .u64 5, .string ⟨#[97]⟩, .string ⟨#[49]⟩] 31 (0, 0))) := by
    have := heap_alloc_new ((w.alloc (.cells #[.int .i64 id, .int .u64 lo, .int .u64 hi, .slice da ds.length dc, .int .i64 gen, .slice ao es.length cap] 26)).alloc (.cells #[.int .i64 mg, .int .i64 mn, .int .u64 mu, .slice ma ps.length mc] 29)) (.cells #[.int .u64 5, .string ⟨#[97]⟩, .string ⟨#[49]⟩] 31)
    rw [show ((w.alloc (.cells #[.int .i64 id, .int .u64 lo, .int .u64 hi, .slice da ds.length dc, .int .i64 gen, .slice ao es.length cap] 26)).alloc (.cells #[.int .i64 mg, .int .i64 mn, .int .u64 mu, .slice ma ps.length mc] 29)).heap.size = w.heap.size + 1 + 1 from by simp] at this
    exact (Below.heap_alloc _ _ _ (by first | (simp; done) | (simp; omega))).trans ((Below.heap_alloc _ _ _ (by simp)).trans this)
  have HE : Hid (((((((w.alloc (.cells #[.int .i64 id, .int .u64 lo, .int .u64 hi, .slice da ds.length dc, .int .i64 gen, .slice ao es.length cap] 26)).alloc (.cells #[.int .i64 mg, .int .i64 mn, .int .u64 mu, .slice ma ps.length mc] 29)).alloc (.cells #[.int .u64 5, .string ⟨#[97]⟩, .string ⟨#[49]⟩] 31)).alloc (.cells #[.int .u64 5, .int .u64 6, .string ⟨#[97]⟩] 33)).alloc (.cells #[.int .i64 3, .int .u64 4, .int .u64 9, .slice (some ⟨w.heap.size + 1 + 1, 0, none⟩) 1 1, .int .i64 2, .slice (some ⟨w.heap.size + 1 + 1 + 1, 0, none⟩) 1 1] 26))).heap[w.heap.size + 1 + 1 + 1]? = some (.cells #[.int .u64 5, .int .u64 6, .string ⟨#[97]⟩] 33 (0, 0))) := by
    have := heap_alloc_new (((w.alloc (.cells #[.int .i64 id, .int .u64 lo, .int .u64 hi, .slice da ds.length dc, .int .i64 gen, .slice ao es.length cap] 26)).alloc (.cells #[.int .i64 mg, .int .i64 mn, .int .u64 mu, .slice ma ps.length mc] 29)).alloc (.cells #[.int .u64 5, .string ⟨#[97]⟩, .string ⟨#[49]⟩] 31)) (.cells #[.int .u64 5, .int .u64 6, .string ⟨#[97]⟩] 33)
    rw [show (((w.alloc (.cells #[.int .i64 id, .int .u64 lo, .int .u64 hi, .slice da ds.length dc, .int .i64 gen, .slice ao es.length cap] 26)).alloc (.cells #[.int .i64 mg, .int .i64 mn, .int .u64 mu, .slice ma ps.length mc] 29)).alloc (.cells #[.int .u64 5, .string ⟨#[97]⟩, .string ⟨#[49]⟩] 31)).heap.size = w.heap.size + 1 + 1 + 1 from by simp] at this
    exact (Below.heap_alloc _ _ _ (by simp)).trans this
  have HT1 : Hid (∀ W, Below w.heap.size w W → W.heap[w.heap.size + 1 + 1]? = some (.cells #[.int .u64 5, .string ⟨#[97]⟩, .string ⟨#[49]⟩] 31 (0, 0)) → W.heap[w.heap.size + 1 + 1 + 1]? = some (.cells #[.int .u64 5, .int .u64 6, .string ⟨#[97]⟩] 33 (0, 0)) → Calls Tryz.prog 5 #[.agg #[.int .i64 3, .int .u64 4, .int .u64 9, .slice (some ⟨w.heap.size + 1 + 1, 0, none⟩) 1 1, .int .i64 2, .slice (some ⟨w.heap.size + 1 + 1 + 1, 0, none⟩) 1 1], .agg #[.int .i64 mg, .int .i64 mn, .int .u64 mu, .slice ma ps.length mc], .int .u64 (n : Int), .int .u8 (x : Int), .bool true] W fun e w' => e = .returned (.bool true) ∧ Below W.heap.size W w') := fun W hb h1 h2 => tells_true W 3 4 9 2 mg mn mu (some ⟨w.heap.size + 1 + 1, 0, none⟩) (some ⟨w.heap.size + 1 + 1 + 1, 0, none⟩) ma 1 1 mc [⟨5, ⟨#[97]⟩, ⟨#[49]⟩⟩] [⟨5, 6, ⟨#[97]⟩⟩] ps n x (by omega) hmu0 (seesT_one1 (d := ⟨5, ⟨#[97]⟩, ⟨#[49]⟩⟩) h1) (fun e => by cases e) (fun ad e _ => ⟨_, _, by injection e with e; exact e.symm⟩) (by decide) (fun p hp => by rw [List.mem_singleton.1 hp]; exact ⟨by decide, by decide⟩) (seesE_one1 (d := ⟨5, 6, ⟨#[97]⟩⟩) h2) (fun e => by cases e) (fun ad e _ => ⟨_, _, by injection e with e; exact e.symm⟩) (by decide) (fun p hp => by rw [List.mem_singleton.1 hp]; exact ⟨by decide, by decide, by decide, by decide⟩) (hp.moreT hb) hmc hma hpl hwp hn hx ⟨one_data, one_delta⟩ (hT0.later hb)
  have HT2 : Hid (∀ W, Below w.heap.size w W → Calls Tryz.prog 5 #[.agg #[.int .i64 id, .int .u64 lo, .int .u64 hi, .slice da ds.length dc, .int .i64 gen, .slice ao es.length cap], .agg #[.int .i64 mg, .int .i64 mn, .int .u64 mu, .slice ma ps.length mc], .int .u64 (n : Int), .int .u8 (x : Int), .bool false] W fun e w' => e = .returned (.bool true) ∧ Below W.heap.size W w') := fun W hb => tells_false W id lo hi gen mg mn mu da ao ma dc cap mc ds es ps n x hlo0 hmu0 (hd.more hb) hdc hda hdl hwd (he.more hb) hcap hao hl hwe (hp.moreT hb) hmc hma hpl hwp hn hx (hT0.later hb)
  clear hT0 hd hdc hda he hcap hao hp hmc hma hwd hwe hwp
  go_enter Tryz.func3, Tryz.ntmps3
  go_wp2_with fail
  generalize (((((w.alloc (.cells #[.int .i64 id, .int .u64 lo, .int .u64 hi, .slice da ds.length dc, .int .i64 gen, .slice ao es.length cap] 26)).alloc (.cells #[.int .i64 mg, .int .i64 mn, .int .u64 mu, .slice ma ps.length mc] 29)).alloc (.cells #[.int .u64 5, .string ⟨#[97]⟩, .string ⟨#[49]⟩] 31)).alloc (.cells #[.int .u64 5, .int .u64 6, .string ⟨#[97]⟩] 33)).alloc (.cells #[.int .i64 3, .int .u64 4, .int .u64 9, .slice (some ⟨w.heap.size + 1 + 1, 0, none⟩) 1 1, .int .i64 2, .slice (some ⟨w.heap.size + 1 + 1 + 1, 0, none⟩) 1 1] 26)) = Y at *
  refine (HT1.out Y HB.out HD.out HE.out).mono ?_
  rintro e w1 ⟨rfl, hb1⟩
  have HP1 : Hid (Fp6 w1 w.heap.size (.int .i64 id) (.int .u64 lo) (.int .u64 hi) (.slice da ds.length dc) (.int .i64 gen) (.slice ao es.length cap)) := HP.out.later hb1 HP.out.lt
  have HM1 : Hid (Mn4 w1 (w.heap.size + 1) (.int .i64 mg) (.int .i64 mn) (.int .u64 mu) (.slice ma ps.length mc)) := HM.out.later hb1 HM.out.lt
  have HB1 : Hid (Below w.heap.size w w1) := HB.out.trans (hb1.mono HB.out.size)
  clear hb1 HP HM HB HD HE
  have x0 : w1.cell? ⟨w.heap.size, 0, none⟩ = some (.int .i64 id) := HP1.out.cell 0
  have x1 : w1.cell? ⟨w.heap.size, 1, none⟩ = some (.int .u64 lo) := HP1.out.cell 1
  have x2 : w1.cell? ⟨w.heap.size, 2, none⟩ = some (.int .u64 hi) := HP1.out.cell 2
  have x3 : w1.cell? ⟨w.heap.size, 3, none⟩ = some (.slice da ds.length dc) := HP1.out.cell 3
  have x4 : w1.cell? ⟨w.heap.size, 4, none⟩ = some (.int .i64 gen) := HP1.out.cell 4
  have x5 : w1.cell? ⟨w.heap.size, 5, none⟩ = some (.slice ao es.length cap) := HP1.out.cell 5
  have m0 : w1.cell? ⟨w.heap.size + 1, 0, none⟩ = some (.int .i64 mg) := HM1.out.cell 0
  have m1 : w1.cell? ⟨w.heap.size + 1, 1, none⟩ = some (.int .i64 mn) := HM1.out.cell 1
  have m2 : w1.cell? ⟨w.heap.size + 1, 2, none⟩ = some (.int .u64 mu) := HM1.out.cell 2
  have m3 : w1.cell? ⟨w.heap.size + 1, 3, none⟩ = some (.slice ma ps.length mc) := HM1.out.cell 3
  go_wp2_with fail
  refine (HT2.out w1 HB1.out).mono ?_
  rintro e w2 ⟨rfl, hb2⟩
  have HB2 : Hid (Below w.heap.size w w2) := HB1.out.trans (hb2.mono HB1.out.size)
  clear hb2
  go_wp2
  go_ret
  exact ⟨rfl, HB2.out⟩
theorem tells_open (id lo hi : Int) (da : Option Addr) (dn dc : Nat) (gn : Int) (ao : Option Addr) (en ec : Nat) (ds : List DT) (es : List ER) (g n u : Int) (a : Option Addr) (len cap : Nat) (k x : Int) (W : World) (hx : FpIn W lo hi da dn dc ao en ec ds es) (room : (dn * 40 ≤ reachBytes ∧ ∀ v ∈ ds, v.room reachBytes) ∧ en * 32 ≤ reachBytes ∧ ∀ v ∈ es, v.room reachBytes)
    (hu : 0 ≤ u) (hn : a = none → len = 0 ∧ cap = 0) (vs : List PN) (hv : vs.length = len) (hs : SeesP W W.heap.size a vs) (hsp : ∀ ad, a = some ad → vs ≠ [] → ∃ b off, ad = ⟨b, off, none⟩) (hw : ∀ v ∈ vs, v.wf) (roomM : len * 56 ≤ reachBytes) (hk : (Lit.int .u64 k).wf = true) (hxx : (Lit.int .u8 x).wf = true) (hT : HalfAt W) :
    Calls Tryz.prog 3 #[.agg #[.int .i64 id, .int .u64 lo, .int .u64 hi, .slice da dn dc, .int .i64 gn, .slice ao en ec], .agg #[.int .i64 g, .int .i64 n, .int .u64 u, .slice a len cap], .int .u64 k, .int .u8 x] W fun e w' => e = .returned (.bool true) ∧ Below W.heap.size W w' := by
  obtain ⟨⟨r1, r2⟩, r3, r4⟩ := room
  unfold reachBytes at r1 r3 roomM
  obtain ⟨d1, d2, d3, d4, d5, k1, k2, k3, k4, k5, l1, l2⟩ := hx
  subst d2 k2 hv
  have b1 := bounds_u64 hk
  have b2 := bounds_u8 hxx
  obtain ⟨kn, rfl⟩ := Int.eq_ofNat_of_zero_le (show 0 ≤ k by omega)
  obtain ⟨xn, rfl⟩ := Int.eq_ofNat_of_zero_le (show 0 ≤ x by omega)
  exact tellsLaw_walk W id lo hi gn g n u da ao a dc ec cap ds es vs kn xn l1.1 hu d3 (fun e => ⟨List.length_eq_zero_iff.1 (d1 e).1, (d1 e).2⟩) d4 (by omega) d5 k3 (fun e => ⟨List.length_eq_zero_iff.1 (k1 e).1, (k1 e).2⟩) k4 (by omega) k5 hs (fun e => ⟨List.length_eq_zero_iff.1 (hn e).1, (hn e).2⟩) hsp (by omega) hw (by omega) (by omega) hT
end Go.Proofs.YtbfjnidpjmhfiaaGreatDoor
