import Derived.Test.YtgopplgknplkiaaGreatDoorDe23
import Derived.Deep.Slices
import Derived.SizedLaws
import Derived.ChangeOld
namespace Go.Proofs.YtgopplgknplkiaaGreatDoor
open Go.ChangeShapes Go.WideShapes Go.ChangeAt Go.RowKit
set_option linter.unusedVariables false
set_option maxRecDepth 100000
theorem cellsEr : Tryz.prog.cellsOf 46 = 3 := by kernel_rfl
theorem cellsDt : Tryz.prog.cellsOf 56 = 3 := by kernel_rfl
theorem cellsFp : Tryz.prog.cellsOf 26 = 6 := by kernel_rfl
theorem cellsId : Tryz.prog.cellsOf 3 = 1 := by kernel_rfl
theorem cellsUd : Tryz.prog.cellsOf 22 = 1 := by kernel_rfl
theorem cellsSd : Tryz.prog.cellsOf 9 = 1 := by kernel_rfl
theorem cellsLe : Tryz.prog.cellsOf 24 = 1 := by kernel_rfl
theorem cellsLd : Tryz.prog.cellsOf 23 = 1 := by kernel_rfl
theorem bytesEr : Tryz.prog.bytesOf 46 = 32 := by kernel_rfl
theorem bytesDt : Tryz.prog.bytesOf 56 = 40 := by kernel_rfl
theorem some_of_ltD {A : Type} {xs : List A} {i n : Nat} (h : xs.length = n) (hi : i < n) : ∃ y, xs[i]? = some y := ⟨xs[i]'(by omega), List.getElem?_eq_getElem (by omega)⟩
theorem weights_mem_allD {H : Type} {P : Program} {e : TypeId} : ∀ {ds : List (DataW H)} {d : DataW H}, d ∈ ds → ∀ n ∈ d.weights P e, n ∈ DataW.weightsAll P e ds
  | d0 :: ds, d, hd, n, hn => by
    simp only [DataW.weightsAll, List.mem_append]
    rcases List.mem_cons.1 hd with rfl | hd
    · exact Or.inl hn
    · exact Or.inr (weights_mem_allD hd n hn)
theorem wf_u64 {x : Int} (h : (Lit.int .u64 x).wf = true) : 0 ≤ x ∧ x ≤ 18446744073709551615 := by
  have h1 := (bounds_u64 h).1
  have h2 := (bounds_u64 h).2
  omega
theorem tysDt : ∃ fs, Tryz.prog.underlying 56 = some (.struct fs) ∧ (fs.toList.map (·.type))[2]? = some 9 ∧ (fs.toList.map (·.type))[1]? = some 9 := ⟨_, Tryz.underlying56, rfl, rfl⟩
theorem tysEr : ∃ fs, Tryz.prog.underlying 46 = some (.struct fs) ∧ (fs.toList.map (·.type))[2]? = some 9 := ⟨_, Tryz.underlying46, rfl⟩
/-- How great the texts are. -/
def DT.room (R : Nat) (d : DT) : Prop := d.key.size ≤ R ∧ d.data.size ≤ R
def ER.room (R : Nat) (d : ER) : Prop := d.key.size ≤ R
def DT.wf (d : DT) : Prop := 0 ≤ d.beg ∧ d.beg ≤ 18446744073709551615
/-- One erasure read: its three cells. -/
theorem open_oneEr {H : Type} {enc : TypeId × Value → H} {W : World} {sp : Nat → Bool} {hd : Bool} {n : Nat} {cs : List Value} {y : DataW H × List MemPlace} (h : DataW.trod enc Tryz.prog W 0 sp hd n 46 cs = some y) :
    ∃ v : ER, cs = cellE v ∧ v.wf ∧ (∀ R, (∀ n ∈ y.1.weights Tryz.prog 46, n ≤ R) → v.room R) := by
  obtain ⟨xs, m, _, rfl, hl, hlen, hf⟩ := DataW.trod_struct Tryz.underlying46 h
  rw [cellsEr] at hl
  obtain ⟨c0, c1, c2, rfl⟩ : ∃ c0 c1 c2, cs = [c0, c1, c2] := by
    match cs, hl with
    | [c0, c1, c2], _ => exact ⟨c0, c1, c2, rfl⟩
  have hlen3 : xs.length = 3 := hlen
  obtain ⟨y0, e0⟩ := some_of_ltD (i := 0) hlen3 (by omega)
  obtain ⟨y1, e1⟩ := some_of_ltD (i := 1) hlen3 (by omega)
  obtain ⟨y2, e2⟩ := some_of_ltD (i := 2) hlen3 (by omega)
  obtain ⟨a0, q0, _, w0⟩ := DataW.trod_int (k := .u64) (by kernel_rfl) ((hf 0 _ rfl).trans e0)
  obtain ⟨a1, q1, _, w1⟩ := DataW.trod_int (k := .u64) (by kernel_rfl) ((hf 1 _ rfl).trans e1)
  obtain ⟨a2, q2, rfl, w2⟩ := DataW.trod_string (by kernel_rfl) ((hf 2 _ rfl).trans e2)
  change List.take (Tryz.prog.cellsOf 22) (List.drop 0 [c0, c1, c2]) = _ at q0
  change List.take (Tryz.prog.cellsOf 22) (List.drop 1 [c0, c1, c2]) = _ at q1
  change List.take (Tryz.prog.cellsOf 9) (List.drop 2 [c0, c1, c2]) = _ at q2
  rw [cellsUd] at q0 q1
  rw [cellsSd] at q2
  simp at q0 q1 q2
  subst q0 q1 q2
  obtain ⟨fs, hu, ht2⟩ := tysEr
  refine ⟨⟨a0, a1, a2⟩, rfl, ⟨(wf_u64 w0).1, (wf_u64 w0).2, (wf_u64 w1).1, (wf_u64 w1).2⟩, fun R hR => ?_⟩
  have := hR a2.data.toList.length (by
    simp only [DataW.weights, hu]
    have hx : (List.map (fun x => x.fst) xs)[2]? = some (.lit (.string a2.data.toList)) := by simp [e2]
    exact DataW.weights_mem_each ht2 hx _ (by simp [DataW.weights]))
  rwa [Array.length_toList] at this
/-- One datum read. -/
theorem open_oneDt {H : Type} {enc : TypeId × Value → H} {W : World} {sp : Nat → Bool} {hd : Bool} {n : Nat} {cs : List Value} {y : DataW H × List MemPlace} (h : DataW.trod enc Tryz.prog W 0 sp hd n 56 cs = some y) :
    ∃ v : DT, cs = cellT v ∧ v.wf ∧ (∀ R, (∀ n ∈ y.1.weights Tryz.prog 56, n ≤ R) → v.room R) := by
  obtain ⟨xs, m, _, rfl, hl, hlen, hf⟩ := DataW.trod_struct Tryz.underlying56 h
  rw [cellsDt] at hl
  obtain ⟨c0, c1, c2, rfl⟩ : ∃ c0 c1 c2, cs = [c0, c1, c2] := by
    match cs, hl with
    | [c0, c1, c2], _ => exact ⟨c0, c1, c2, rfl⟩
  have hlen3 : xs.length = 3 := hlen
  obtain ⟨y0, e0⟩ := some_of_ltD (i := 0) hlen3 (by omega)
  obtain ⟨y1, e1⟩ := some_of_ltD (i := 1) hlen3 (by omega)
  obtain ⟨y2, e2⟩ := some_of_ltD (i := 2) hlen3 (by omega)
  obtain ⟨a0, q0, _, w0⟩ := DataW.trod_int (k := .u64) (by kernel_rfl) ((hf 0 _ rfl).trans e0)
  obtain ⟨a1, q1, rfl, w1⟩ := DataW.trod_string (by kernel_rfl) ((hf 1 _ rfl).trans e1)
  obtain ⟨a2, q2, rfl, w2⟩ := DataW.trod_string (by kernel_rfl) ((hf 2 _ rfl).trans e2)
  change List.take (Tryz.prog.cellsOf 22) (List.drop 0 [c0, c1, c2]) = _ at q0
  change List.take (Tryz.prog.cellsOf 9) (List.drop 1 [c0, c1, c2]) = _ at q1
  change List.take (Tryz.prog.cellsOf 9) (List.drop 2 [c0, c1, c2]) = _ at q2
  rw [cellsUd] at q0
  rw [cellsSd] at q1 q2
  simp at q0 q1 q2
  subst q0 q1 q2
  obtain ⟨fs, hu, ht2, ht1⟩ := tysDt
  refine ⟨⟨a0, a1, a2⟩, rfl, ⟨(wf_u64 w0).1, (wf_u64 w0).2⟩, fun R hR => ⟨?_, ?_⟩⟩
  · have := hR a1.data.toList.length (by
      simp only [DataW.weights, hu]
      have hx : (List.map (fun x => x.fst) xs)[1]? = some (.lit (.string a1.data.toList)) := by simp [e1]
      exact DataW.weights_mem_each ht1 hx _ (by simp [DataW.weights]))
    rwa [Array.length_toList] at this
  · have := hR a2.data.toList.length (by
      simp only [DataW.weights, hu]
      have hx : (List.map (fun x => x.fst) xs)[2]? = some (.lit (.string a2.data.toList)) := by simp [e2]
      exact DataW.weights_mem_each ht2 hx _ (by simp [DataW.weights]))
    rwa [Array.length_toList] at this
/-- A list of them read. -/
theorem open_ers {H : Type} {enc : TypeId × Value → H} {W : World} {fuel : Nat} {c : Value} {x : DataW H × List MemPlace} (hf : DataW.trod enc Tryz.prog W 0 (fun _ => true) true fuel 24 [c] = some x) :
    ∃ (a : Option Addr) (len cap : Nat) (vs : List ER), c = .slice a len cap ∧ (a = none → len = 0 ∧ cap = 0) ∧ vs.length = len ∧ SeesE W W.heap.size a vs ∧ (∀ ad, a = some ad → vs ≠ [] → ∃ b off, ad = ⟨b, off, none⟩) ∧ (∀ v ∈ vs, v.wf) ∧ (∀ R, (∀ n ∈ x.1.weights Tryz.prog 24, n ≤ R) → len * 32 ≤ R ∧ ∀ v ∈ vs, v.room R) := by
  rcases Deep.open_slice Tryz.underlying24 hf with ⟨hcs, rfl⟩ | ⟨x, l, cp, m, n, D, Pl, hcs, _, hl, hm, hmm, rfl, hx⟩
  · simp only [List.cons.injEq, and_true] at hcs
    subst hcs
    exact ⟨none, 0, 0, [], rfl, fun _ => ⟨rfl, rfl⟩, rfl, (fun i hi => by simp at hi), (fun ad h => by cases h), (fun v hv => by simp at hv), fun R _ => ⟨by omega, fun v hv => by simp at hv⟩⟩
  · simp only [List.cons.injEq, and_true] at hcs
    subst hcs
    simp only [if_true] at hmm
    subst hmm
    have each : ∀ i, i < l → ∃ v : ER, (∀ j (hj : j < 3), W.cell? ((x.add (i * 3)).add j) = (cellE v)[j]?) ∧ v.wf ∧ (∀ R, (∀ n ∈ (D i).weights Tryz.prog 46, n ≤ R) → v.room R) := by
      intro i hi
      obtain ⟨cs, h1, h2⟩ := hx i (by omega)
      rw [cellsEr] at h1
      obtain ⟨v, rfl, hv⟩ := open_oneEr h2
      obtain ⟨_, _, hc⟩ := World.cells?_some h1
      refine ⟨v, fun j hj => ?_, hv⟩
      have := hc j hj
      rw [this]
    have hch : ∃ f : Nat → ER, ∀ i, i < l → (∀ j (hj : j < 3), W.cell? ((x.add (i * 3)).add j) = (cellE (f i))[j]?) ∧ (f i).wf ∧ (∀ R, (∀ n ∈ (D i).weights Tryz.prog 46, n ≤ R) → (f i).room R) := by
      refine ⟨fun i => if h : i < l then Classical.choose (each i h) else ⟨0, 0, ByteArray.empty⟩, fun i hi => ?_⟩
      simp only [dif_pos hi]
      exact Classical.choose_spec (each i hi)
    obtain ⟨f, hfs⟩ := hch
    have hspot : 0 < l → ∃ b off, x = ⟨b, off, none⟩ := fun h0 => by
      obtain ⟨b, off, spot⟩ := x
      have hs : spot = none := by
        have hsp := World.cell?_spot (show W.cell? (((⟨b, off, spot⟩ : Addr).add (0 * 3)).add 0) = some (.int .u64 (f 0).beg) from (hfs 0 h0).1 0 (by omega))
        simpa [Addr.add] using hsp
      exact ⟨b, off, by rw [hs]⟩
    refine ⟨some x, l, _, (List.range l).map f, rfl, (fun h => by cases h), by simp, fun i hi => ?_, fun ad e hne => ?_, fun v hv => ?_, fun R hR => ?_⟩
    · have hi' : i < l := by simpa using hi
      obtain ⟨b, off, rfl⟩ := hspot (by omega)
      have hc := (hfs i hi').1
      have ea : ∀ o k, (⟨b, o, none⟩ : Addr).add k = ⟨b, o + k, none⟩ := fun o k => by unfold Addr.add; split <;> simp_all
      have hc' : ∀ j (hj : j < 3), W.cell? ⟨b, off + i * 3 + j, none⟩ = (cellE (f i))[j]? := fun j hj => by have := hc j hj; rwa [ea, ea] at this
      have c0 : W.cell? ⟨b, off + i * 3, none⟩ = some (.int .u64 (f i).beg) := hc' 0 (by omega)
      have hb : b < W.heap.size := by
        rcases Nat.lt_or_ge b W.heap.size with h | h
        · exact h
        · unfold World.cell? at c0
          simp [Array.getElem?_eq_none h] at c0
      refine ⟨b, off, rfl, hb, ?_⟩
      simp only [List.getElem_map, List.getElem_range]
      exact ⟨c0, hc' 1 (by omega), hc' 2 (by omega)⟩
    · cases e
      refine hspot ?_
      rcases Nat.eq_zero_or_pos l with h | h
      · subst h; simp at hne
      · exact h
    · obtain ⟨i, hi, rfl⟩ := List.mem_map.1 hv
      exact (hfs i (by simpa using hi)).2.1
    · simp only [DataW.weights, Tryz.underlying24] at hR
      refine ⟨?_, fun o ho => ?_⟩
      · have := hR _ List.mem_cons_self
        rw [bytesEr] at this
        simp only [List.length_map, List.length_range] at this
        omega
      · obtain ⟨i, hi, rfl⟩ := List.mem_map.1 ho
        refine (hfs i (by simpa using hi)).2.2 R fun n hn => hR n ?_
        refine List.mem_cons_of_mem _ (List.mem_append_left _ (weights_mem_allD (List.mem_map.2 ⟨i, hi, rfl⟩) n hn))
/-- A list of them read. -/
theorem open_dts {H : Type} {enc : TypeId × Value → H} {W : World} {fuel : Nat} {c : Value} {x : DataW H × List MemPlace} (hf : DataW.trod enc Tryz.prog W 0 (fun _ => true) true fuel 23 [c] = some x) :
    ∃ (a : Option Addr) (len cap : Nat) (vs : List DT), c = .slice a len cap ∧ (a = none → len = 0 ∧ cap = 0) ∧ vs.length = len ∧ SeesT W W.heap.size a vs ∧ (∀ ad, a = some ad → vs ≠ [] → ∃ b off, ad = ⟨b, off, none⟩) ∧ (∀ v ∈ vs, v.wf) ∧ (∀ R, (∀ n ∈ x.1.weights Tryz.prog 23, n ≤ R) → len * 40 ≤ R ∧ ∀ v ∈ vs, v.room R) := by
  rcases Deep.open_slice Tryz.underlying23 hf with ⟨hcs, rfl⟩ | ⟨x, l, cp, m, n, D, Pl, hcs, _, hl, hm, hmm, rfl, hx⟩
  · simp only [List.cons.injEq, and_true] at hcs
    subst hcs
    exact ⟨none, 0, 0, [], rfl, fun _ => ⟨rfl, rfl⟩, rfl, (fun i hi => by simp at hi), (fun ad h => by cases h), (fun v hv => by simp at hv), fun R _ => ⟨by omega, fun v hv => by simp at hv⟩⟩
  · simp only [List.cons.injEq, and_true] at hcs
    subst hcs
    simp only [if_true] at hmm
    subst hmm
    have each : ∀ i, i < l → ∃ v : DT, (∀ j (hj : j < 3), W.cell? ((x.add (i * 3)).add j) = (cellT v)[j]?) ∧ v.wf ∧ (∀ R, (∀ n ∈ (D i).weights Tryz.prog 56, n ≤ R) → v.room R) := by
      intro i hi
      obtain ⟨cs, h1, h2⟩ := hx i (by omega)
      rw [cellsDt] at h1
      obtain ⟨v, rfl, hv⟩ := open_oneDt h2
      obtain ⟨_, _, hc⟩ := World.cells?_some h1
      refine ⟨v, fun j hj => ?_, hv⟩
      have := hc j hj
      rw [this]
    have hch : ∃ f : Nat → DT, ∀ i, i < l → (∀ j (hj : j < 3), W.cell? ((x.add (i * 3)).add j) = (cellT (f i))[j]?) ∧ (f i).wf ∧ (∀ R, (∀ n ∈ (D i).weights Tryz.prog 56, n ≤ R) → (f i).room R) := by
      refine ⟨fun i => if h : i < l then Classical.choose (each i h) else ⟨0, ByteArray.empty, ByteArray.empty⟩, fun i hi => ?_⟩
      simp only [dif_pos hi]
      exact Classical.choose_spec (each i hi)
    obtain ⟨f, hfs⟩ := hch
    have hspot : 0 < l → ∃ b off, x = ⟨b, off, none⟩ := fun h0 => by
      obtain ⟨b, off, spot⟩ := x
      have hs : spot = none := by
        have hsp := World.cell?_spot (show W.cell? (((⟨b, off, spot⟩ : Addr).add (0 * 3)).add 0) = some (.int .u64 (f 0).beg) from (hfs 0 h0).1 0 (by omega))
        simpa [Addr.add] using hsp
      exact ⟨b, off, by rw [hs]⟩
    refine ⟨some x, l, _, (List.range l).map f, rfl, (fun h => by cases h), by simp, fun i hi => ?_, fun ad e hne => ?_, fun v hv => ?_, fun R hR => ?_⟩
    · have hi' : i < l := by simpa using hi
      obtain ⟨b, off, rfl⟩ := hspot (by omega)
      have hc := (hfs i hi').1
      have ea : ∀ o k, (⟨b, o, none⟩ : Addr).add k = ⟨b, o + k, none⟩ := fun o k => by unfold Addr.add; split <;> simp_all
      have hc' : ∀ j (hj : j < 3), W.cell? ⟨b, off + i * 3 + j, none⟩ = (cellT (f i))[j]? := fun j hj => by have := hc j hj; rwa [ea, ea] at this
      have c0 : W.cell? ⟨b, off + i * 3, none⟩ = some (.int .u64 (f i).beg) := hc' 0 (by omega)
      have hb : b < W.heap.size := by
        rcases Nat.lt_or_ge b W.heap.size with h | h
        · exact h
        · unfold World.cell? at c0
          simp [Array.getElem?_eq_none h] at c0
      refine ⟨b, off, rfl, hb, ?_⟩
      simp only [List.getElem_map, List.getElem_range]
      exact ⟨c0, hc' 1 (by omega), hc' 2 (by omega)⟩
    · cases e
      refine hspot ?_
      rcases Nat.eq_zero_or_pos l with h | h
      · subst h; simp at hne
      · exact h
    · obtain ⟨i, hi, rfl⟩ := List.mem_map.1 hv
      exact (hfs i (by simpa using hi)).2.1
    · simp only [DataW.weights, Tryz.underlying23] at hR
      refine ⟨?_, fun o ho => ?_⟩
      · have := hR _ List.mem_cons_self
        rw [bytesDt] at this
        simp only [List.length_map, List.length_range] at this
        omega
      · obtain ⟨i, hi, rfl⟩ := List.mem_map.1 ho
        refine (hfs i (by simpa using hi)).2.2 R fun n hn => hR n ?_
        refine List.mem_cons_of_mem _ (List.mem_append_left _ (weights_mem_allD (List.mem_map.2 ⟨i, hi, rfl⟩) n hn))
theorem tysFp : ∃ fs, Tryz.prog.underlying 26 = some (.struct fs) ∧ (fs.toList.map (·.type))[3]? = some 23 ∧ (fs.toList.map (·.type))[5]? = some 24 := ⟨_, Tryz.underlying26, rfl, rfl⟩
/-- What is known of a pair that came in. -/
structure FpIn (W : World) (lo hi : Int) (da : Option Addr) (dn dc : Nat) (ao : Option Addr) (en ec : Nat) (ds : List DT) (es : List ER) : Prop where
  dnil : da = none → dn = 0 ∧ dc = 0
  dlen : ds.length = dn
  dsee : SeesT W W.heap.size da ds
  dat : ∀ ad, da = some ad → ds ≠ [] → ∃ b off, ad = ⟨b, off, none⟩
  dwf : ∀ v ∈ ds, v.wf
  enil : ao = none → en = 0 ∧ ec = 0
  elen : es.length = en
  esee : SeesE W W.heap.size ao es
  eat : ∀ ad, ao = some ad → es ≠ [] → ∃ b off, ad = ⟨b, off, none⟩
  ewf : ∀ v ∈ es, v.wf
  lo0 : 0 ≤ lo ∧ lo ≤ 18446744073709551615
  hi0 : 0 ≤ hi ∧ hi ≤ 18446744073709551615
/-- A pair read. -/
theorem open_fp {H : Type} {enc : TypeId × Value → H} {W : World} {fuel : Nat} {cs : List Value} {x : DataW H × List MemPlace} (h : DataW.trod enc Tryz.prog W 0 (fun _ => true) true fuel 26 cs = some x) :
    ∃ (id lo hi : Int) (da : Option Addr) (dn dc : Nat) (gn : Int) (ao : Option Addr) (en ec : Nat) (ds : List DT) (es : List ER), cs = [.int .i64 id, .int .u64 lo, .int .u64 hi, .slice da dn dc, .int .i64 gn, .slice ao en ec] ∧ FpIn W lo hi da dn dc ao en ec ds es ∧ (∀ R, (∀ n ∈ x.1.weights Tryz.prog 26, n ≤ R) → (dn * 40 ≤ R ∧ ∀ v ∈ ds, v.room R) ∧ en * 32 ≤ R ∧ ∀ v ∈ es, v.room R) := by
  obtain ⟨xs, m, _, rfl, hl, hlen, hf⟩ := DataW.trod_struct Tryz.underlying26 h
  rw [cellsFp] at hl
  obtain ⟨c0, c1, c2, c3, c4, c5, rfl⟩ : ∃ c0 c1 c2 c3 c4 c5, cs = [c0, c1, c2, c3, c4, c5] := by
    match cs, hl with
    | [c0, c1, c2, c3, c4, c5], _ => exact ⟨c0, c1, c2, c3, c4, c5, rfl⟩
  have hlen6 : xs.length = 6 := hlen
  obtain ⟨y0, e0⟩ := some_of_ltD (i := 0) hlen6 (by omega)
  obtain ⟨y1, e1⟩ := some_of_ltD (i := 1) hlen6 (by omega)
  obtain ⟨y2, e2⟩ := some_of_ltD (i := 2) hlen6 (by omega)
  obtain ⟨y3, e3⟩ := some_of_ltD (i := 3) hlen6 (by omega)
  obtain ⟨y4, e4⟩ := some_of_ltD (i := 4) hlen6 (by omega)
  obtain ⟨y5, e5⟩ := some_of_ltD (i := 5) hlen6 (by omega)
  obtain ⟨a0, q0, _, w0⟩ := DataW.trod_int (k := .i64) (by kernel_rfl) ((hf 0 _ rfl).trans e0)
  obtain ⟨a1, q1, _, w1⟩ := DataW.trod_int (k := .u64) (by kernel_rfl) ((hf 1 _ rfl).trans e1)
  obtain ⟨a2, q2, _, w2⟩ := DataW.trod_int (k := .u64) (by kernel_rfl) ((hf 2 _ rfl).trans e2)
  obtain ⟨a4, q4, _, w4⟩ := DataW.trod_int (k := .i64) (by kernel_rfl) ((hf 4 _ rfl).trans e4)
  have f3 := (hf 3 _ rfl).trans e3
  have f5 := (hf 5 _ rfl).trans e5
  change List.take (Tryz.prog.cellsOf 3) (List.drop 0 [c0, c1, c2, c3, c4, c5]) = _ at q0
  change List.take (Tryz.prog.cellsOf 22) (List.drop 1 [c0, c1, c2, c3, c4, c5]) = _ at q1
  change List.take (Tryz.prog.cellsOf 22) (List.drop 2 [c0, c1, c2, c3, c4, c5]) = _ at q2
  change List.take (Tryz.prog.cellsOf 3) (List.drop 4 [c0, c1, c2, c3, c4, c5]) = _ at q4
  rw [cellsId] at q0 q4
  rw [cellsUd] at q1 q2
  simp at q0 q1 q2 q4
  subst q0 q1 q2 q4
  change DataW.trod enc Tryz.prog W 0 (fun _ => true) true m 23 (List.take (Tryz.prog.cellsOf 23) (List.drop 3 [.int .i64 a0, .int .u64 a1, .int .u64 a2, c3, .int .i64 a4, c5])) = _ at f3
  change DataW.trod enc Tryz.prog W 0 (fun _ => true) true m 24 (List.take (Tryz.prog.cellsOf 24) (List.drop 5 [.int .i64 a0, .int .u64 a1, .int .u64 a2, c3, .int .i64 a4, c5])) = _ at f5
  rw [cellsLd] at f3
  rw [cellsLe] at f5
  obtain ⟨da, dn, dc, ds, rfl, d1, d2, d3, d4, d5, d6⟩ := open_dts (c := c3) f3
  obtain ⟨ao, en, ec, es, rfl, k1, k2, k3, k4, k5, k6⟩ := open_ers (c := c5) f5
  obtain ⟨fs, hu, ht3, ht5⟩ := tysFp
  refine ⟨a0, a1, a2, da, dn, dc, a4, ao, en, ec, ds, es, rfl, ⟨d1, d2, d3, d4, d5, k1, k2, k3, k4, k5, wf_u64 w1, wf_u64 w2⟩, fun R hR => ⟨d6 R (fun n hn => hR n ?_), k6 R (fun n hn => hR n ?_)⟩⟩
  · simp only [DataW.weights, hu]
    exact DataW.weights_mem_each ht3 (by simp [e3]) n hn
  · simp only [DataW.weights, hu]
    exact DataW.weights_mem_each ht5 (by simp [e5]) n hn
end Go.Proofs.YtgopplgknplkiaaGreatDoor

namespace Go.Proofs.YtgopplgknplkiaaGreatDoor
open Go.ChangeShapes Go.WideShapes Go.ChangeAt Go.RowKit
set_option linter.unusedVariables false
theorem delta_open (id lo hi : Int) (da : Option Addr) (dn dc : Nat) (gn : Int) (ao : Option Addr) (en ec : Nat) (ds : List DT) (es : List ER) (b : ByteArray) (W : World) (hx : FpIn W lo hi da dn dc ao en ec ds es) (room : (dn * 40 ≤ reachBytes ∧ ∀ v ∈ ds, v.room reachBytes) ∧ en * 32 ≤ reachBytes ∧ ∀ v ∈ es, v.room reachBytes) (hb : b.size ≤ 140737488351232) (hT : HalfAt W) :
    Calls Tryz.prog 3 #[.agg #[.int .i64 id, .int .u64 lo, .int .u64 hi, .slice da dn dc, .int .i64 gn, .slice ao en ec], .string b] W fun e w' => e = .returned (.bool true) ∧ Below W.heap.size W w' := by
  obtain ⟨⟨r1, r2⟩, r3, r4⟩ := room
  unfold reachBytes at r1 r2 r3
  obtain ⟨d1, d2, d3, d4, d5, k1, k2, k3, k4, k5, l1, l2⟩ := hx
  subst d2 k2
  exact delta_walk W id lo hi gn da ao dc ec ds es b d3 (fun e => ⟨List.length_eq_zero_iff.1 (d1 e).1, (d1 e).2⟩) d4 (by omega) k3 (fun e => ⟨List.length_eq_zero_iff.1 (k1 e).1, (k1 e).2⟩) k4 k5 (fun d hd => by have := (r2 d hd).2; omega) (by omega) (by omega) hT
end Go.Proofs.YtgopplgknplkiaaGreatDoor
