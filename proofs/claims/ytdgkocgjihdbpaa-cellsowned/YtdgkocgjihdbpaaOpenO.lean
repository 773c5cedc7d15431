import Derived.Test.YtdgkocgjihdbpaaCells16
import Derived.OpenShut
import Derived.ShutString
import Derived.SizedLaws
import Derived.Deep.Slices
import Derived.ChangeOld
namespace Go.Proofs.Ytdgkocgjihdbpaa
open Go.ChangeShapes Go.WideShapes Go.ChangeAt Go.RowKit
set_option linter.unusedVariables false

/-- A call of a script. -/
structure OpV where
  kind : Int
  slot : Int
  cell : Int
  a : Int
  b : Int
  wa : Option Addr
  wc : Nat
  ws : List Int
  p : ByteArray
/-- The words ws lie at ao, in blocks below B. -/
def SeesU (w : World) (B : Nat) (ao : Option Addr) (ws : List Int) : Prop := ∀ i (hi : i < ws.length), ∃ b off, ao = some ⟨b, off, none⟩ ∧ b < B ∧ w.cell? ⟨b, off + i, none⟩ = some (.int .u64 ws[i])
theorem SeesU.later {w w' : World} {B : Nat} {ao : Option Addr} {ws : List Int} (h : SeesU w B ao ws) (hb : Below B w w') : SeesU w' B ao ws := fun i hi => by
  obtain ⟨b, off, e, hbB, c0⟩ := h i hi
  exact ⟨b, off, e, hbB, by rw [hb.cell hbB]; exact c0⟩
structure OpAt (w : World) (B b off : Nat) (o : OpV) : Prop where
  c0 : w.cell? ⟨b, off, none⟩ = some (.int .i64 o.kind)
  c1 : w.cell? ⟨b, off + 1, none⟩ = some (.int .i64 o.slot)
  c2 : w.cell? ⟨b, off + 2, none⟩ = some (.int .i64 o.cell)
  c3 : w.cell? ⟨b, off + 3, none⟩ = some (.int .u64 o.a)
  c4 : w.cell? ⟨b, off + 4, none⟩ = some (.int .u64 o.b)
  c5 : w.cell? ⟨b, off + 5, none⟩ = some (.slice o.wa o.ws.length o.wc)
  c6 : w.cell? ⟨b, off + 6, none⟩ = some (.string o.p)
  ws : SeesU w B o.wa o.ws
theorem OpAt.later {w w' : World} {B b off : Nat} {o : OpV} (h : OpAt w B b off o) (hb : Below B w w') (hB : b < B) : OpAt w' B b off o :=
  ⟨(hb.cell hB).trans h.c0, (hb.cell hB).trans h.c1, (hb.cell hB).trans h.c2, (hb.cell hB).trans h.c3, (hb.cell hB).trans h.c4, (hb.cell hB).trans h.c5, (hb.cell hB).trans h.c6, h.ws.later hb⟩
/-- The calls os lie at ao, in blocks below B. -/
def SeesO (w : World) (B : Nat) (ao : Option Addr) (os : List OpV) : Prop := ∀ i (hi : i < os.length), ∃ b off, ao = some ⟨b, off, none⟩ ∧ b < B ∧ OpAt w B b (off + i * 7) os[i]
theorem SeesO.later {w w' : World} {B : Nat} {ao : Option Addr} {os : List OpV} (h : SeesO w B ao os) (hb : Below B w w') : SeesO w' B ao os := fun i hi => by
  obtain ⟨b, off, e, hbB, c0⟩ := h i hi
  exact ⟨b, off, e, hbB, c0.later hb hbB⟩
/-- What is asked of a call's numbers: they fit, and its words are no longer than any list. -/
def OpV.fits (o : OpV) : Prop := (Lit.int .i64 o.kind).wf = true ∧ (Lit.int .i64 o.slot).wf = true ∧ (Lit.int .i64 o.cell).wf = true ∧ (Lit.int .u64 o.a).wf = true ∧ (Lit.int .u64 o.b).wf = true ∧ o.p.size ≤ maxLen ∧ (∀ x ∈ o.ws, (Lit.int .u64 x).wf = true) ∧ o.ws.length ≤ o.wc ∧ (o.wa = none → o.wc = 0)
theorem cellsOp : Try.prog.cellsOf 53 = 7 := by kernel_rfl
theorem cellsSc : Try.prog.cellsOf 24 = 3 := by kernel_rfl
theorem cellsI1 : Try.prog.cellsOf 3 = 1 := by kernel_rfl
theorem cellsU1 : Try.prog.cellsOf 50 = 1 := by kernel_rfl
theorem cellsS1 : Try.prog.cellsOf 9 = 1 := by kernel_rfl
theorem cellsL1 : Try.prog.cellsOf 51 = 1 := by kernel_rfl
theorem cellsLO : Try.prog.cellsOf 22 = 1 := by kernel_rfl
theorem some_of_ltO {A : Type} {xs : List A} {i n : Nat} (h : xs.length = n) (hi : i < n) : ∃ y, xs[i]? = some y := ⟨xs[i]'(by omega), List.getElem?_eq_getElem (by omega)⟩
theorem weights_mem_all {H : Type} {P : Program} {e : TypeId} : ∀ {ds : List (DataW H)} {d : DataW H}, d ∈ ds → ∀ n ∈ d.weights P e, n ∈ DataW.weightsAll P e ds
  | d0 :: ds, d, hd, n, hn => by
    simp only [DataW.weightsAll, List.mem_append]
    rcases List.mem_cons.1 hd with rfl | hd
    · exact Or.inl hn
    · exact Or.inr (weights_mem_all hd n hn)
theorem bytesU : Try.prog.bytesOf 50 = 8 := by kernel_rfl
theorem bytesOp : Try.prog.bytesOf 53 = 80 := by kernel_rfl
theorem tysOp : ∃ fs, Try.prog.underlying 53 = some (.struct fs) ∧ (fs.toList.map (·.type))[5]? = some 51 := ⟨_, Try.underlying53, rfl⟩
theorem tysSc : ∃ fs, Try.prog.underlying 24 = some (.struct fs) ∧ (fs.toList.map (·.type))[2]? = some 22 := ⟨_, Try.underlying24, rfl⟩
/-- Words read, at whatever depth. -/
theorem open_words {H : Type} {enc : TypeId × Value → H} {W : World} {fuel : Nat} {c : Value} {x : DataW H × List MemPlace} (hf : DataW.trod enc Try.prog W 0 (fun _ => true) true fuel 51 [c] = some x) :
    ∃ (a : Option Addr) (len cap : Nat), c = .slice a len cap ∧ len ≤ cap ∧ (a = none → cap = 0) ∧ (∀ R, (∀ n ∈ x.1.weights Try.prog 51, n ≤ R) → len * 8 ≤ R) ∧ ∃ ws : List Int, ws.length = len ∧ SeesU W W.heap.size a ws ∧ ∀ v ∈ ws, (Lit.int .u64 v).wf = true := by
  rcases Deep.open_slice1 Try.underlying51 cellsU1 hf with ⟨hcs, rfl⟩ | ⟨x, len, cap, m, n, V, D, Pl, hcs, _, hl, hm, hmm, rfl, hx⟩
  · simp only [List.cons.injEq, and_true] at hcs
    subst hcs
    exact ⟨none, 0, 0, rfl, by omega, fun _ => rfl, fun R _ => by omega, [], rfl, fun i hi => by simp at hi, fun v hv => by simp at hv⟩
  · simp only [List.cons.injEq, and_true] at hcs
    subst hcs
    refine ⟨some x, len, cap, rfl, hl, (fun h => by cases h), fun R hR => ?_, ?_⟩
    · have := hR _ (by simp only [DataW.weights, Try.underlying51]; exact List.mem_cons_self)
      rw [bytesU] at this
      simp only [List.length_map, List.length_range] at this
      omega
    simp only [if_true] at hmm
    subst hmm
    have each : ∀ i, i < len → ∃ v : Int, W.cell? (x.add i) = some (.int .u64 v) ∧ (Lit.int .u64 v).wf = true := by
      intro i hi
      obtain ⟨h1, h2⟩ := hx i (by omega)
      obtain ⟨v, q, _, hv⟩ := DataW.trod_int (k := .u64) (by kernel_rfl) h2
      simp only [List.cons.injEq, and_true] at q
      exact ⟨v, by rw [← q]; exact h1, hv⟩
    have hch : ∃ f : Nat → Int, ∀ i, i < len → W.cell? (x.add i) = some (.int .u64 (f i)) ∧ (Lit.int .u64 (f i)).wf = true := by
      refine ⟨fun i => if h : i < len then Classical.choose (each i h) else 0, fun i hi => ?_⟩
      simp only [dif_pos hi]
      exact Classical.choose_spec (each i hi)
    obtain ⟨f, hfs⟩ := hch
    refine ⟨(List.range len).map f, by simp, fun i hi => ?_, fun v hv => ?_⟩
    · have hi' : i < len := by simpa using hi
      obtain ⟨c0, _⟩ := hfs i hi'
      obtain ⟨b, off, spot⟩ := x
      have hs : spot = none := by
        have hsp := World.cell?_spot (hfs 0 (by omega)).1
        simpa [Addr.add] using hsp
      subst hs
      have ea : ∀ o k, (⟨b, o, none⟩ : Addr).add k = ⟨b, o + k, none⟩ := fun o k => by unfold Addr.add; split <;> simp_all
      rw [ea] at c0
      have hb : b < W.heap.size := by
        rcases Nat.lt_or_ge b W.heap.size with h | h
        · exact h
        · unfold World.cell? at c0
          simp [Array.getElem?_eq_none h] at c0
      refine ⟨b, off, rfl, hb, ?_⟩
      simp only [List.getElem_map, List.getElem_range]
      exact c0
    · obtain ⟨i, hi, rfl⟩ := List.mem_map.1 hv
      exact (hfs i (by simpa using hi)).2
def OpV.cells (o : OpV) : List Value := [.int .i64 o.kind, .int .i64 o.slot, .int .i64 o.cell, .int .u64 o.a, .int .u64 o.b, .slice o.wa o.ws.length o.wc, .string o.p]
set_option maxRecDepth 100000 in
/-- One call read. -/
theorem open_op {H : Type} {enc : TypeId × Value → H} {W : World} {n : Nat} {cs : List Value} {y : DataW H × List MemPlace} (h : DataW.trod enc Try.prog W 0 (fun _ => true) true n 53 cs = some y) :
    ∃ o : OpV, cs = o.cells ∧ SeesU W W.heap.size o.wa o.ws ∧ o.fits ∧ (∀ R, (∀ n ∈ y.1.weights Try.prog 53, n ≤ R) → o.ws.length * 8 ≤ R) := by
  obtain ⟨xs, m, _, rfl, hl, hlen, hf⟩ := DataW.trod_struct Try.underlying53 h
  rw [cellsOp] at hl
  obtain ⟨c0, c1, c2, c3, c4, c5, c6, rfl⟩ : ∃ c0 c1 c2 c3 c4 c5 c6, cs = [c0, c1, c2, c3, c4, c5, c6] := by
    match cs, hl with
    | [c0, c1, c2, c3, c4, c5, c6], _ => exact ⟨c0, c1, c2, c3, c4, c5, c6, rfl⟩
  have hlen7 : xs.length = 7 := hlen
  obtain ⟨y0, e0⟩ := some_of_ltO (i := 0) hlen7 (by omega)
  obtain ⟨y1, e1⟩ := some_of_ltO (i := 1) hlen7 (by omega)
  obtain ⟨y2, e2⟩ := some_of_ltO (i := 2) hlen7 (by omega)
  obtain ⟨y3, e3⟩ := some_of_ltO (i := 3) hlen7 (by omega)
  obtain ⟨y4, e4⟩ := some_of_ltO (i := 4) hlen7 (by omega)
  obtain ⟨y5, e5⟩ := some_of_ltO (i := 5) hlen7 (by omega)
  obtain ⟨y6, e6⟩ := some_of_ltO (i := 6) hlen7 (by omega)
  have f0 := (hf 0 _ rfl).trans e0
  have f1 := (hf 1 _ rfl).trans e1
  have f2 := (hf 2 _ rfl).trans e2
  have f3 := (hf 3 _ rfl).trans e3
  have f4 := (hf 4 _ rfl).trans e4
  have f5 := (hf 5 _ rfl).trans e5
  have f6 := (hf 6 _ rfl).trans e6
  obtain ⟨a0, q0, _, w0⟩ := DataW.trod_int (k := .i64) (by kernel_rfl) f0
  obtain ⟨a1, q1, _, w1⟩ := DataW.trod_int (k := .i64) (by kernel_rfl) f1
  obtain ⟨a2, q2, _, w2⟩ := DataW.trod_int (k := .i64) (by kernel_rfl) f2
  obtain ⟨a3, q3, _, w3⟩ := DataW.trod_int (k := .u64) (by kernel_rfl) f3
  obtain ⟨a4, q4, _, w4⟩ := DataW.trod_int (k := .u64) (by kernel_rfl) f4
  obtain ⟨a6, q6, _, w6⟩ := DataW.trod_string (by kernel_rfl) f6
  change List.take (Try.prog.cellsOf 3) (List.drop 0 [c0, c1, c2, c3, c4, c5, c6]) = _ at q0
  change List.take (Try.prog.cellsOf 3) (List.drop 1 [c0, c1, c2, c3, c4, c5, c6]) = _ at q1
  change List.take (Try.prog.cellsOf 3) (List.drop 2 [c0, c1, c2, c3, c4, c5, c6]) = _ at q2
  change List.take (Try.prog.cellsOf 50) (List.drop 3 [c0, c1, c2, c3, c4, c5, c6]) = _ at q3
  change List.take (Try.prog.cellsOf 50) (List.drop 4 [c0, c1, c2, c3, c4, c5, c6]) = _ at q4
  change List.take (Try.prog.cellsOf 9) (List.drop 6 [c0, c1, c2, c3, c4, c5, c6]) = _ at q6
  change DataW.trod enc Try.prog W 0 (fun _ => true) true m 51 (List.take (Try.prog.cellsOf 51) (List.drop 5 [c0, c1, c2, c3, c4, c5, c6])) = _ at f5
  rw [cellsL1] at f5
  rw [cellsI1] at q0 q1 q2
  rw [cellsU1] at q3 q4
  rw [cellsS1] at q6
  simp at q0 q1 q2 q3 q4 q6
  obtain ⟨wa, len, wc, hc5, hlc, hnil, hwt, ws, hlen5, hsee, hwf⟩ := open_words (c := c5) f5
  subst q0 q1 q2 q3 q4 q6 hc5 hlen5
  refine ⟨⟨a0, a1, a2, a3, a4, wa, wc, ws, a6⟩, rfl, hsee, ⟨w0, w1, w2, w3, w4, w6, hwf, hlc, hnil⟩, fun R hR => hwt R fun n hn => hR n ?_⟩
  obtain ⟨fs, hu, ht⟩ := tysOp
  simp only [DataW.weights, hu]
  exact DataW.weights_mem_each ht (by simp [e5]) n hn
/-- A list of calls read. -/
theorem open_ops {H : Type} {enc : TypeId × Value → H} {W : World} {fuel : Nat} {c : Value} {x : DataW H × List MemPlace} (hf : DataW.trod enc Try.prog W 0 (fun _ => true) true fuel 22 [c] = some x) :
    ∃ (a : Option Addr) (len cap : Nat), c = .slice a len cap ∧ len ≤ cap ∧ ∃ os : List OpV, os.length = len ∧ SeesO W W.heap.size a os ∧ (∀ o ∈ os, o.fits) ∧ (∀ R, (∀ n ∈ x.1.weights Try.prog 22, n ≤ R) → os.length * 80 ≤ R ∧ ∀ o ∈ os, o.ws.length * 8 ≤ R) := by
  rcases Deep.open_slice Try.underlying22 hf with ⟨hcs, rfl⟩ | ⟨x, len, cap, m, n, D, Pl, hcs, _, hl, hm, hmm, rfl, hx⟩
  · simp only [List.cons.injEq, and_true] at hcs
    subst hcs
    exact ⟨none, 0, 0, rfl, by omega, [], rfl, fun i hi => by simp at hi, fun v hv => by simp at hv, fun R _ => ⟨by simp, fun v hv => by simp at hv⟩⟩
  · simp only [List.cons.injEq, and_true] at hcs
    subst hcs
    refine ⟨some x, len, cap, rfl, hl, ?_⟩
    simp only [if_true] at hmm
    subst hmm
    have each : ∀ i, i < len → ∃ o : OpV, (∀ j, j < 7 → W.cell? ((x.add (i * 7)).add j) = o.cells[j]?) ∧ SeesU W W.heap.size o.wa o.ws ∧ o.fits ∧ (∀ R, (∀ n ∈ (D i).weights Try.prog 53, n ≤ R) → o.ws.length * 8 ≤ R) := by
      intro i hi
      obtain ⟨cs, h1, h2⟩ := hx i (by omega)
      rw [cellsOp] at h1
      obtain ⟨o, rfl, ho⟩ := open_op h2
      obtain ⟨_, _, hc⟩ := World.cells?_some h1
      exact ⟨o, fun j hj => hc j hj, ho⟩
    have hch : ∃ f : Nat → OpV, ∀ i, i < len → (∀ j, j < 7 → W.cell? ((x.add (i * 7)).add j) = (f i).cells[j]?) ∧ SeesU W W.heap.size (f i).wa (f i).ws ∧ (f i).fits ∧ (∀ R, (∀ n ∈ (D i).weights Try.prog 53, n ≤ R) → (f i).ws.length * 8 ≤ R) := by
      refine ⟨fun i => if h : i < len then Classical.choose (each i h) else ⟨0, 0, 0, 0, 0, none, 0, [], ByteArray.empty⟩, fun i hi => ?_⟩
      simp only [dif_pos hi]
      exact Classical.choose_spec (each i hi)
    obtain ⟨f, hfs⟩ := hch
    refine ⟨(List.range len).map f, by simp, fun i hi => ?_, fun v hv => ?_, fun R hR => ?_⟩
    · have hi' : i < len := by simpa using hi
      obtain ⟨hc, hs, _⟩ := hfs i hi'
      obtain ⟨b, off, spot⟩ := x
      have hsp : spot = none := by
        have hsp := World.cell?_spot ((hfs 0 (by omega)).1 0 (by omega))
        simpa [Addr.add] using hsp
      subst hsp
      have ea : ∀ o k, (⟨b, o, none⟩ : Addr).add k = ⟨b, o + k, none⟩ := fun o k => by unfold Addr.add; split <;> simp_all
      simp only [ea] at hc
      have hb : b < W.heap.size := by
        have c0 := hc 0 (by omega)
        rcases Nat.lt_or_ge b W.heap.size with h | h
        · exact h
        · unfold World.cell? at c0
          simp [Array.getElem?_eq_none h, OpV.cells] at c0
      refine ⟨b, off, rfl, hb, ?_⟩
      simp only [List.getElem_map, List.getElem_range]
      exact ⟨hc 0 (by omega), hc 1 (by omega), hc 2 (by omega), hc 3 (by omega), hc 4 (by omega), hc 5 (by omega), hc 6 (by omega), hs⟩
    · obtain ⟨i, hi, rfl⟩ := List.mem_map.1 hv
      exact (hfs i (by simpa using hi)).2.2.1
    · simp only [DataW.weights, Try.underlying22] at hR
      refine ⟨?_, fun o ho => ?_⟩
      · have := hR _ List.mem_cons_self
        rw [bytesOp] at this
        simp only [List.length_map, List.length_range] at this ⊢
        omega
      · obtain ⟨i, hi, rfl⟩ := List.mem_map.1 ho
        refine (hfs i (by simpa using hi)).2.2.2 R fun n hn => hR n ?_
        refine List.mem_cons_of_mem _ (List.mem_append_left _ (weights_mem_all (List.mem_map.2 ⟨i, hi, rfl⟩) n hn))
set_option maxRecDepth 100000 in
/-- A script read. -/
theorem open_script {H : Type} {enc : TypeId × Value → H} {W : World} {fuel : Nat} {cs : List Value} {x : DataW H × List MemPlace} (h : DataW.trod enc Try.prog W 0 (fun _ => true) true fuel 24 cs = some x) :
    ∃ (n wd : Int) (a : Option Addr) (cap : Nat) (os : List OpV), cs = [.int .i64 n, .int .i64 wd, .slice a os.length cap] ∧ (Lit.int .i64 n).wf = true ∧ (Lit.int .i64 wd).wf = true ∧ os.length ≤ cap ∧ SeesO W W.heap.size a os ∧ (∀ o ∈ os, o.fits) ∧ (∀ R, (∀ n ∈ x.1.weights Try.prog 24, n ≤ R) → os.length * 80 ≤ R ∧ ∀ o ∈ os, o.ws.length * 8 ≤ R) := by
  obtain ⟨xs, m, _, rfl, hl, hlen, hf⟩ := DataW.trod_struct Try.underlying24 h
  rw [cellsSc] at hl
  obtain ⟨c0, c1, c2, rfl⟩ : ∃ c0 c1 c2, cs = [c0, c1, c2] := by
    match cs, hl with
    | [c0, c1, c2], _ => exact ⟨c0, c1, c2, rfl⟩
  have hlen3 : xs.length = 3 := hlen
  obtain ⟨y0, e0⟩ := some_of_ltO (i := 0) hlen3 (by omega)
  obtain ⟨y1, e1⟩ := some_of_ltO (i := 1) hlen3 (by omega)
  obtain ⟨y2, e2⟩ := some_of_ltO (i := 2) hlen3 (by omega)
  have f0 := (hf 0 _ rfl).trans e0
  have f1 := (hf 1 _ rfl).trans e1
  have f2 := (hf 2 _ rfl).trans e2
  obtain ⟨a0, q0, _, w0⟩ := DataW.trod_int (k := .i64) (by kernel_rfl) f0
  obtain ⟨a1, q1, _, w1⟩ := DataW.trod_int (k := .i64) (by kernel_rfl) f1
  change List.take (Try.prog.cellsOf 3) (List.drop 0 [c0, c1, c2]) = _ at q0
  change List.take (Try.prog.cellsOf 3) (List.drop 1 [c0, c1, c2]) = _ at q1
  change DataW.trod enc Try.prog W 0 (fun _ => true) true m 22 (List.take (Try.prog.cellsOf 22) (List.drop 2 [c0, c1, c2])) = _ at f2
  rw [cellsLO] at f2
  rw [cellsI1] at q0 q1
  simp at q0 q1
  obtain ⟨a, len, cap, hc2, hlc, os, hlen2, hsee, hfit, hwt⟩ := open_ops (c := c2) f2
  subst q0 q1 hc2 hlen2
  refine ⟨a0, a1, a, cap, os, rfl, w0, w1, hlc, hsee, hfit, fun R hR => hwt R fun n hn => hR n ?_⟩
  obtain ⟨fs, hu, ht⟩ := tysSc
  simp only [DataW.weights, hu]
  exact DataW.weights_mem_each ht (by simp [e2]) n hn
end Go.Proofs.Ytdgkocgjihdbpaa
