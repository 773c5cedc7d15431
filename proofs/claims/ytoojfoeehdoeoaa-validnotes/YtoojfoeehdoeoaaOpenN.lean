import Derived.Test.YtoojfoeehdoeoaaNt13
import Derived.OpenShut
import Derived.ShutString
import Derived.SizedLaws
import Derived.Deep.Slices
import Derived.ChangeOld
namespace Go.Proofs.Ytoojfoeehdoeoaa
open Go.ChangeShapes Go.WideShapes Go.ChangeAt Go.RowKit
set_option linter.unusedVariables false

/-- A step of a script. -/
structure NoV where
  kind : Int
  sa : Option Addr
  sc : Nat
  us : List Int
  lo : ByteArray
  hi : ByteArray
structure NoAt (w : World) (B b off : Nat) (o : NoV) : Prop where
  c0 : w.cell? ⟨b, off, none⟩ = some (.int .i64 o.kind)
  c1 : w.cell? ⟨b, off + 1, none⟩ = some (.slice o.sa o.us.length o.sc)
  c2 : w.cell? ⟨b, off + 2, none⟩ = some (.string o.lo)
  c3 : w.cell? ⟨b, off + 3, none⟩ = some (.string o.hi)
  us : SeesN w B o.sa o.us
theorem NoAt.later {w w' : World} {B b off : Nat} {o : NoV} (h : NoAt w B b off o) (hb : Below B w w') (hB : b < B) : NoAt w' B b off o :=
  ⟨(hb.cell hB).trans h.c0, (hb.cell hB).trans h.c1, (hb.cell hB).trans h.c2, (hb.cell hB).trans h.c3, h.us.later hb⟩
/-- The steps os lie at ao, in blocks below B. -/
def SeesT (w : World) (B : Nat) (ao : Option Addr) (os : List NoV) : Prop := ∀ i (hi : i < os.length), ∃ b off, ao = some ⟨b, off, none⟩ ∧ b < B ∧ NoAt w B b (off + i * 4) os[i]
theorem SeesT.later {w w' : World} {B : Nat} {ao : Option Addr} {os : List NoV} (h : SeesT w B ao os) (hb : Below B w w') : SeesT w' B ao os := fun i hi => by
  obtain ⟨b, off, e, hbB, c0⟩ := h i hi
  exact ⟨b, off, e, hbB, c0.later hb hbB⟩
def NoV.fits (o : NoV) : Prop := (Lit.int .i64 o.kind).wf = true ∧ (∀ x ∈ o.us, (Lit.int .i64 x).wf = true) ∧ (o.sa = none → o.us = [] ∧ o.sc = 0)
def NoV.room (R : Nat) (o : NoV) : Prop := o.us.length * 8 ≤ R ∧ o.lo.size ≤ R ∧ o.hi.size ≤ R
theorem cellsNo : Try.prog.cellsOf 30 = 4 := by kernel_rfl
theorem cellsI1 : Try.prog.cellsOf 3 = 1 := by kernel_rfl
theorem cellsS1 : Try.prog.cellsOf 9 = 1 := by kernel_rfl
theorem cellsL1 : Try.prog.cellsOf 28 = 1 := by kernel_rfl
theorem some_of_ltO {A : Type} {xs : List A} {i n : Nat} (h : xs.length = n) (hi : i < n) : ∃ y, xs[i]? = some y := ⟨xs[i]'(by omega), List.getElem?_eq_getElem (by omega)⟩
theorem weights_mem_all {H : Type} {P : Program} {e : TypeId} : ∀ {ds : List (DataW H)} {d : DataW H}, d ∈ ds → ∀ n ∈ d.weights P e, n ∈ DataW.weightsAll P e ds
  | d0 :: ds, d, hd, n, hn => by
    simp only [DataW.weightsAll, List.mem_append]
    rcases List.mem_cons.1 hd with rfl | hd
    · exact Or.inl hn
    · exact Or.inr (weights_mem_all hd n hn)
theorem bytesI : Try.prog.bytesOf 3 = 8 := by kernel_rfl
theorem bytesNo : Try.prog.bytesOf 30 = 64 := by kernel_rfl
theorem tysNo : ∃ fs, Try.prog.underlying 30 = some (.struct fs) ∧ (fs.toList.map (·.type))[1]? = some 28 ∧ (fs.toList.map (·.type))[2]? = some 9 ∧ (fs.toList.map (·.type))[3]? = some 9 := ⟨_, Try.underlying30, rfl, rfl, rfl⟩
/-- Numbers read, at whatever depth. -/
theorem open_nums {H : Type} {enc : TypeId × Value → H} {W : World} {fuel : Nat} {c : Value} {x : DataW H × List MemPlace} (hf : DataW.trod enc Try.prog W 0 (fun _ => true) true fuel 28 [c] = some x) :
    ∃ (a : Option Addr) (len cap : Nat), c = .slice a len cap ∧ len ≤ cap ∧ (a = none → cap = 0) ∧ (∀ R, (∀ n ∈ x.1.weights Try.prog 28, n ≤ R) → len * 8 ≤ R) ∧ ∃ ws : List Int, ws.length = len ∧ SeesN W W.heap.size a ws ∧ ∀ v ∈ ws, (Lit.int .i64 v).wf = true := by
  rcases Deep.open_slice1 Try.underlying28 cellsI1 hf with ⟨hcs, rfl⟩ | ⟨x, len, cap, m, n, V, D, Pl, hcs, _, hl, hm, hmm, rfl, hx⟩
  · simp only [List.cons.injEq, and_true] at hcs
    subst hcs
    exact ⟨none, 0, 0, rfl, by omega, fun _ => rfl, fun R _ => by omega, [], rfl, fun i hi => by simp at hi, fun v hv => by simp at hv⟩
  · simp only [List.cons.injEq, and_true] at hcs
    subst hcs
    refine ⟨some x, len, cap, rfl, hl, (fun h => by cases h), fun R hR => ?_, ?_⟩
    · have := hR _ (by simp only [DataW.weights, Try.underlying28]; exact List.mem_cons_self)
      rw [bytesI] at this
      simp only [List.length_map, List.length_range] at this
      omega
    simp only [if_true] at hmm
    subst hmm
    have each : ∀ i, i < len → ∃ v : Int, W.cell? (x.add i) = some (.int .i64 v) ∧ (Lit.int .i64 v).wf = true := by
      intro i hi
      obtain ⟨h1, h2⟩ := hx i (by omega)
      obtain ⟨v, q, _, hv⟩ := DataW.trod_int (k := .i64) (by kernel_rfl) h2
      simp only [List.cons.injEq, and_true] at q
      exact ⟨v, by rw [← q]; exact h1, hv⟩
    have hch : ∃ f : Nat → Int, ∀ i, i < len → W.cell? (x.add i) = some (.int .i64 (f i)) ∧ (Lit.int .i64 (f i)).wf = true := by
      refine ⟨fun i => if h : i < len then Classical.choose (each i h) else 0, fun i hi => ?_⟩
      simp only [dif_pos hi]
      exact Classical.choose_spec (each i hi)
    obtain ⟨f, hfs⟩ := hch
    refine ⟨(List.range len).map f, by simp, fun i hi => ?_, fun v hv => ?_⟩
    · have hi' : i < len := by simpa using hi
      obtain ⟨c0, _⟩ := hfs i hi'
      obtain ⟨b, off, spot⟩ := x
      have hs : spot = none := by
        have hsp := World.cell?_spot (hfs 0 (by omega)).1
        simpa [Addr.add] using hsp
      subst hs
      have ea : ∀ o k, (⟨b, o, none⟩ : Addr).add k = ⟨b, o + k, none⟩ := fun o k => by unfold Addr.add; split <;> simp_all
      rw [ea] at c0
      have hb : b < W.heap.size := by
        rcases Nat.lt_or_ge b W.heap.size with h | h
        · exact h
        · unfold World.cell? at c0
          simp [Array.getElem?_eq_none h] at c0
      refine ⟨b, off, rfl, hb, ?_⟩
      simp only [List.getElem_map, List.getElem_range]
      exact c0
    · obtain ⟨i, hi, rfl⟩ := List.mem_map.1 hv
      exact (hfs i (by simpa using hi)).2
def NoV.cells (o : NoV) : List Value := [.int .i64 o.kind, .slice o.sa o.us.length o.sc, .string o.lo, .string o.hi]
set_option maxRecDepth 100000 in
/-- One step read. -/
theorem open_note {H : Type} {enc : TypeId × Value → H} {W : World} {n : Nat} {cs : List Value} {y : DataW H × List MemPlace} (h : DataW.trod enc Try.prog W 0 (fun _ => true) true n 30 cs = some y) :
    ∃ o : NoV, cs = o.cells ∧ SeesN W W.heap.size o.sa o.us ∧ o.fits ∧ (∀ R, (∀ n ∈ y.1.weights Try.prog 30, n ≤ R) → o.room R) := by
  obtain ⟨xs, m, _, rfl, hl, hlen, hf⟩ := DataW.trod_struct Try.underlying30 h
  rw [cellsNo] at hl
  obtain ⟨c0, c1, c2, c3, rfl⟩ : ∃ c0 c1 c2 c3, cs = [c0, c1, c2, c3] := by
    match cs, hl with
    | [c0, c1, c2, c3], _ => exact ⟨c0, c1, c2, c3, rfl⟩
  have hlen4 : xs.length = 4 := hlen
  obtain ⟨y0, e0⟩ := some_of_ltO (i := 0) hlen4 (by omega)
  obtain ⟨y1, e1⟩ := some_of_ltO (i := 1) hlen4 (by omega)
  obtain ⟨y2, e2⟩ := some_of_ltO (i := 2) hlen4 (by omega)
  obtain ⟨y3, e3⟩ := some_of_ltO (i := 3) hlen4 (by omega)
  have f0 := (hf 0 _ rfl).trans e0
  have f1 := (hf 1 _ rfl).trans e1
  have f2 := (hf 2 _ rfl).trans e2
  have f3 := (hf 3 _ rfl).trans e3
  obtain ⟨a0, q0, _, w0⟩ := DataW.trod_int (k := .i64) (by kernel_rfl) f0
  obtain ⟨a2, q2, rfl, w2⟩ := DataW.trod_string (by kernel_rfl) f2
  obtain ⟨a3, q3, rfl, w3⟩ := DataW.trod_string (by kernel_rfl) f3
  change List.take (Try.prog.cellsOf 3) (List.drop 0 [c0, c1, c2, c3]) = _ at q0
  change List.take (Try.prog.cellsOf 9) (List.drop 2 [c0, c1, c2, c3]) = _ at q2
  change List.take (Try.prog.cellsOf 9) (List.drop 3 [c0, c1, c2, c3]) = _ at q3
  change DataW.trod enc Try.prog W 0 (fun _ => true) true m 28 (List.take (Try.prog.cellsOf 28) (List.drop 1 [c0, c1, c2, c3])) = _ at f1
  rw [cellsL1] at f1
  rw [cellsI1] at q0
  rw [cellsS1] at q2 q3
  simp at q0 q2 q3
  obtain ⟨wa, len, wc, hc1, hlc, hnil, hwt, ws, hlen1, hsee, hwf⟩ := open_nums (c := c1) f1
  subst q0 q2 q3 hc1 hlen1
  obtain ⟨fs, hu, ht1, ht2, ht3⟩ := tysNo
  refine ⟨⟨a0, wa, wc, ws, a2, a3⟩, rfl, hsee, ⟨w0, hwf, fun e => ⟨List.eq_nil_of_length_eq_zero (by have h1 := hnil e; show ws.length = 0; omega), hnil e⟩⟩, fun R hR => ⟨hwt R fun n hn => hR n ?_, ?_, ?_⟩⟩
  · simp only [DataW.weights, hu]
    exact DataW.weights_mem_each ht1 (by simp [e1]) n hn
  · have := hR a2.data.toList.length (by
      simp only [DataW.weights, hu]
      have hx : (List.map (fun x => x.fst) xs)[2]? = some (.lit (.string a2.data.toList)) := by simp [e2]
      exact DataW.weights_mem_each ht2 hx _ (by simp [DataW.weights]))
    rwa [Array.length_toList] at this
  · have := hR a3.data.toList.length (by
      simp only [DataW.weights, hu]
      have hx : (List.map (fun x => x.fst) xs)[3]? = some (.lit (.string a3.data.toList)) := by simp [e3]
      exact DataW.weights_mem_each ht3 hx _ (by simp [DataW.weights]))
    rwa [Array.length_toList] at this
/-- A list of steps read. -/
theorem open_ops {H : Type} {enc : TypeId × Value → H} {W : World} {fuel : Nat} {c : Value} {x : DataW H × List MemPlace} (hf : DataW.trod enc Try.prog W 0 (fun _ => true) true fuel 22 [c] = some x) :
    ∃ (a : Option Addr) (len cap : Nat), c = .slice a len cap ∧ len ≤ cap ∧ ∃ os : List NoV, os.length = len ∧ SeesT W W.heap.size a os ∧ (∀ o ∈ os, o.fits) ∧ (∀ R, (∀ n ∈ x.1.weights Try.prog 22, n ≤ R) → os.length * 64 ≤ R ∧ ∀ o ∈ os, o.room R) := by
  rcases Deep.open_slice Try.underlying22 hf with ⟨hcs, rfl⟩ | ⟨x, len, cap, m, n, D, Pl, hcs, _, hl, hm, hmm, rfl, hx⟩
  · simp only [List.cons.injEq, and_true] at hcs
    subst hcs
    exact ⟨none, 0, 0, rfl, by omega, [], rfl, fun i hi => by simp at hi, fun v hv => by simp at hv, fun R _ => ⟨by simp, fun v hv => by simp at hv⟩⟩
  · simp only [List.cons.injEq, and_true] at hcs
    subst hcs
    refine ⟨some x, len, cap, rfl, hl, ?_⟩
    simp only [if_true] at hmm
    subst hmm
    have each : ∀ i, i < len → ∃ o : NoV, (∀ j, j < 4 → W.cell? ((x.add (i * 4)).add j) = o.cells[j]?) ∧ SeesN W W.heap.size o.sa o.us ∧ o.fits ∧ (∀ R, (∀ n ∈ (D i).weights Try.prog 30, n ≤ R) → o.room R) := by
      intro i hi
      obtain ⟨cs, h1, h2⟩ := hx i (by omega)
      rw [cellsNo] at h1
      obtain ⟨o, rfl, ho⟩ := open_note h2
      obtain ⟨_, _, hc⟩ := World.cells?_some h1
      exact ⟨o, fun j hj => hc j hj, ho⟩
    have hch : ∃ f : Nat → NoV, ∀ i, i < len → (∀ j, j < 4 → W.cell? ((x.add (i * 4)).add j) = (f i).cells[j]?) ∧ SeesN W W.heap.size (f i).sa (f i).us ∧ (f i).fits ∧ (∀ R, (∀ n ∈ (D i).weights Try.prog 30, n ≤ R) → (f i).room R) := by
      refine ⟨fun i => if h : i < len then Classical.choose (each i h) else ⟨0, none, 0, [], ByteArray.empty, ByteArray.empty⟩, fun i hi => ?_⟩
      simp only [dif_pos hi]
      exact Classical.choose_spec (each i hi)
    obtain ⟨f, hfs⟩ := hch
    refine ⟨(List.range len).map f, by simp, fun i hi => ?_, fun v hv => ?_, fun R hR => ?_⟩
    · have hi' : i < len := by simpa using hi
      obtain ⟨hc, hs, _⟩ := hfs i hi'
      obtain ⟨b, off, spot⟩ := x
      have hsp : spot = none := by
        have hsp := World.cell?_spot ((hfs 0 (by omega)).1 0 (by omega))
        simpa [Addr.add] using hsp
      subst hsp
      have ea : ∀ o k, (⟨b, o, none⟩ : Addr).add k = ⟨b, o + k, none⟩ := fun o k => by unfold Addr.add; split <;> simp_all
      simp only [ea] at hc
      have hb : b < W.heap.size := by
        have c0 := hc 0 (by omega)
        rcases Nat.lt_or_ge b W.heap.size with h | h
        · exact h
        · unfold World.cell? at c0
          simp [Array.getElem?_eq_none h, NoV.cells] at c0
      refine ⟨b, off, rfl, hb, ?_⟩
      simp only [List.getElem_map, List.getElem_range]
      exact ⟨hc 0 (by omega), hc 1 (by omega), hc 2 (by omega), hc 3 (by omega), hs⟩
    · obtain ⟨i, hi, rfl⟩ := List.mem_map.1 hv
      exact (hfs i (by simpa using hi)).2.2.1
    · simp only [DataW.weights, Try.underlying22] at hR
      refine ⟨?_, fun o ho => ?_⟩
      · have := hR _ List.mem_cons_self
        rw [bytesNo] at this
        simp only [List.length_map, List.length_range] at this ⊢
        omega
      · obtain ⟨i, hi, rfl⟩ := List.mem_map.1 ho
        refine (hfs i (by simpa using hi)).2.2.2 R fun n hn => hR n ?_
        refine List.mem_cons_of_mem _ (List.mem_append_left _ (weights_mem_all (List.mem_map.2 ⟨i, hi, rfl⟩) n hn))
end Go.Proofs.Ytoojfoeehdoeoaa
