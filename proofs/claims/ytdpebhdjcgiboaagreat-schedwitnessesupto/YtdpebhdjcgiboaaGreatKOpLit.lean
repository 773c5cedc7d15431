import Derived.Test.YtdpebhdjcgiboaaGreatKSdD
import Derived.Test.YtdpebhdjcgiboaaGreatRows
import Derived.Deep.Slices
import Derived.SizedLaws
import Derived.ChangeOld
import Derived.OpenShut
import Derived.Test.YtdpebhdjcgiboaaGreatKSh3
namespace Go.Proofs.YtdpebhdjcgiboaaGreat
open Go.ChangeShapes Go.WideShapes Go.ChangeAt Go.RowKit
set_option linter.unusedVariables false
set_option maxRecDepth 100000
theorem list_of {α : Type} {p : Nat → α → Prop} : ∀ n, (∀ i, i < n → ∃ a, p i a) → ∃ xs : List α, xs.length = n ∧ ∀ i (h : i < xs.length), p i xs[i]
  | 0, _ => ⟨[], rfl, fun i h => by simp at h⟩
  | n + 1, h => by
    obtain ⟨xs, hl, hx⟩ := list_of n (fun i hi => h i (by omega))
    obtain ⟨a, ha⟩ := h n (by omega)
    refine ⟨xs ++ [a], by rw [List.length_append, hl]; rfl, fun i hi => ?_⟩
    rw [List.length_append, hl] at hi
    rcases Nat.lt_or_ge i xs.length with h' | h'
    · rw [List.getElem_append_left h']; exact hx i h'
    · have e : i = n := by simp at hi; omega
      subst e
      rw [List.getElem_append_right h']
      simpa [hl] using ha
theorem bulk_app {H : Type} : ∀ (a b : List (DataW H)), Rows.uptoBulkAll (a ++ b) = Rows.uptoBulkAll a + Rows.uptoBulkAll b
  | [], b => by simp [Rows.uptoBulkAll]
  | x :: a, b => by rw [List.cons_append, Rows.uptoBulkAll, Rows.uptoBulkAll, bulk_app a b]; omega
theorem bulk_range {α H : Type} (m : α → Nat) (D : Nat → DataW H) : ∀ xs : List α, (∀ i (h : i < xs.length), m xs[i] ≤ Rows.uptoBulk (D i)) → (xs.map m).sum ≤ Rows.uptoBulkAll ((List.range xs.length).map D) := by
  intro xs
  have key : ∀ n (ys : List α), ys.length = n → (∀ i (h : i < ys.length), m ys[i] ≤ Rows.uptoBulk (D i)) → (ys.map m).sum ≤ Rows.uptoBulkAll ((List.range ys.length).map D) := by
    intro n
    induction n with
    | zero =>
      intro ys hl _
      have : ys = [] := List.eq_nil_of_length_eq_zero hl
      subst this
      simp
    | succ n ih =>
      intro ys hl h
      have hne : ys ≠ [] := fun e => by rw [e] at hl; simp at hl
      have e : ys = ys.dropLast ++ [ys.getLast hne] := (List.dropLast_concat_getLast hne).symm
      have hd : ys.dropLast.length = n := by rw [List.length_dropLast]; omega
      have h1 := ih ys.dropLast hd (fun i hi => by
        have := h i (by rw [hd] at hi; omega)
        rw [List.getElem_dropLast]
        exact this)
      have h2 := h n (by omega)
      have e2 : ys[n]'(by omega) = ys.getLast hne := by rw [List.getLast_eq_getElem]; congr 1; omega
      rw [e2] at h2
      rw [hl, List.range_succ, List.map_append, bulk_app]
      rw [hd] at h1
      rw [e, List.map_append, List.sum_append]
      simp only [List.map_cons, List.map_nil, List.sum_cons, List.sum_nil, Rows.uptoBulkAll]
      omega
  exact key _ xs rfl
/-- A list read, whatever it is a list of. -/
theorem open_list {α H : Type} {enc : TypeId × Value → H} {W : World} (cs : α → List Value) (m : α → Nat) (ok : α → Prop) {t e : TypeId} {n : Nat} (ht : Tryz.prog.underlying t = some (.slice e)) (hc : Tryz.prog.cellsOf e = n) (hn : ∀ y, (cs y).length = n) (h0 : 0 < n)
    (each : ∀ (fuel : Nat) (c : List Value) (y : DataW H × List MemPlace), DataW.trod enc Tryz.prog W 0 (fun _ => true) true fuel e c = some y → ∃ a : α, c = cs a ∧ ok a ∧ m a ≤ Rows.uptoBulk y.1)
    {fuel : Nat} {c : List Value} {x : DataW H × List MemPlace} (hf : DataW.trod enc Tryz.prog W 0 (fun _ => true) true fuel t c = some x) :
    ∃ (v : Value) (xs : List α), c = [v] ∧ InG cs W W.heap.size v xs ∧ (∀ a ∈ xs, ok a) ∧ (xs.map m).sum + 1 ≤ Rows.uptoBulk x.1 := by
  rcases Deep.open_slice ht hf with ⟨hcs, rfl⟩ | ⟨a, len, cap, mm, fl, D, Pl, hcs, _, hl, hm, hmm, rfl, hx⟩
  · refine ⟨_, [], hcs, ⟨none, 0, rfl, by simp, fun _ => rfl, fun j u hj => by simp at hj⟩, (fun a ha => by cases ha), ?_⟩
    show 0 + 1 ≤ Rows.uptoBulk (DataW.nil : DataW H)
    rw [Rows.uptoBulk]
    exact Nat.le_refl _
  · simp only [if_true] at hmm
    subst hmm
    obtain ⟨xs, hxl, hxs⟩ := list_of (p := fun i (y : α) => W.cells? 0 (a.add (i * n)) n = some (cs y) ∧ ok y ∧ m y ≤ Rows.uptoBulk (D i)) len (fun i hi => by
      obtain ⟨c', h1, h2⟩ := hx i (by omega)
      obtain ⟨y, e1, e2, e3⟩ := each _ _ _ h2
      refine ⟨y, ?_, e2, e3⟩
      rw [← e1, ← hc]
      exact h1)
    subst hxl
    have cellAt : ∀ i (hi : i < xs.length) j, j < n → W.cell? ((a.add (i * n)).add j) = (cs xs[i])[j]? := fun i hi j hj => (World.cells?_some (hxs i hi).1).2.2 j hj
    refine ⟨_, xs, hcs, ⟨some a, _, rfl, hl, (fun h => by cases h), fun j u hj => ?_⟩, ?_, ?_⟩
    · have hjl : j < xs.length * n := by
        have := (List.getElem?_eq_some_iff.1 hj).1
        rw [flat_len cs n hn] at this
        exact this
      have hi : j / n < xs.length := by
        rw [Nat.div_lt_iff_lt_mul h0]
        exact hjl
      have hr : j % n < n := Nat.mod_lt _ h0
      have ej : j = j / n * n + j % n := by rw [Nat.mul_comm]; exact (Nat.div_add_mod j n).symm
      have hu : (cs xs[j / n])[j % n]? = some u := by
        rw [← flat_get cs n hn xs (j / n) hi (j % n) hr, ← ej]
        exact hj
      have h1 := (cellAt (j / n) hi (j % n) hr).trans hu
      obtain ⟨b, off, spot⟩ := a
      have hs : spot = none := by
        have hp : 0 < xs.length := Nat.lt_of_le_of_lt (Nat.zero_le _) hi
        have h2 := cellAt 0 hp 0 h0
        rw [List.getElem?_eq_getElem (by rw [hn]; exact h0)] at h2
        have hsp := World.cell?_spot h2
        simpa [Addr.add] using hsp
      subst hs
      rw [addr_add, addr_add, Nat.add_assoc, ← ej] at h1
      refine ⟨b, off, rfl, ?_, h1⟩
      rcases Nat.lt_or_ge b W.heap.size with h | h
      · exact h
      · unfold World.cell? at h1
        simp [Array.getElem?_eq_none h] at h1
    · intro y hy
      obtain ⟨i, hi, rfl⟩ := List.mem_iff_getElem.1 hy
      exact (hxs i hi).2.1
    · have := bulk_range m D xs (fun i hi => (hxs i hi).2.2)
      show (xs.map m).sum + 1 ≤ Rows.uptoBulk (DataW.slice _ _)
      rw [Rows.uptoBulk]
      omega
end Go.Proofs.YtdpebhdjcgiboaaGreat

namespace Go.Proofs.YtdpebhdjcgiboaaGreat
open Go.ChangeShapes Go.WideShapes Go.ChangeAt Go.RowKit Go.MuLone Go.RwLone
set_option linter.unusedVariables false
set_option maxRecDepth 100000
theorem oCu64 : Tryz.prog.cellsOf 55 = 1 := by kernel_rfl
theorem oCint : Tryz.prog.cellsOf 3 = 1 := by kernel_rfl
theorem oClu : Tryz.prog.cellsOf 46 = 1 := by kernel_rfl
theorem oCval : Tryz.prog.cellsOf 104 = 2 := by kernel_rfl
theorem oCins : Tryz.prog.cellsOf 106 = 8 := by kernel_rfl
theorem oCli : Tryz.prog.cellsOf 102 = 1 := by kernel_rfl
theorem oCll : Tryz.prog.cellsOf 47 = 1 := by kernel_rfl
theorem oClit : Tryz.prog.cellsOf 49 = 2 := by kernel_rfl
theorem o_ones {α : Type} (xs : List α) : (xs.map (fun _ => 1)).sum = xs.length := by
  induction xs with
  | nil => rfl
  | cons a r ih => simp only [List.map_cons, List.sum_cons, List.length_cons, ih]; omega
theorem o_one {H : Type} (d : DataW H) : 1 ≤ Rows.uptoBulk d := by
  unfold Rows.uptoBulk
  split <;> omega
theorem o_mem {α : Type} (f : α → Nat) : ∀ (xs : List α) (x : α), x ∈ xs → f x ≤ (xs.map f).sum
  | a :: r, x, h => by
    simp only [List.map_cons, List.sum_cons]
    rcases List.mem_cons.1 h with rfl | h
    · omega
    · have := o_mem f r x h
      omega
theorem o_len {α : Type} (f : α → Nat) (h : ∀ x, 1 ≤ f x) : ∀ (xs : List α), xs.length ≤ (xs.map f).sum
  | [] => Nat.le_refl _
  | a :: r => by
    have := o_len f h r
    have := h a
    simp only [List.map_cons, List.sum_cons, List.length_cons]
    omega
theorem o_two {cs : List Value} (h : cs.length = 2) : ∃ c0 c1, cs = [c0, c1] := by
  match cs, h with
  | [c0, c1], _ => exact ⟨c0, c1, rfl⟩
theorem o_eight {cs : List Value} (h : cs.length = 8) : ∃ c0 c1 c2 c3 c4 c5 c6 c7, cs = [c0, c1, c2, c3, c4, c5, c6, c7] := by
  match cs, h with
  | [c0, c1, c2, c3, c4, c5, c6, c7], _ => exact ⟨c0, c1, c2, c3, c4, c5, c6, c7, rfl⟩
theorem o_some {A : Type} {xs : List A} {i n : Nat} (h : xs.length = n) (hi : i < n) : ∃ y, xs[i]? = some y := ⟨xs[i]'(by omega), List.getElem?_eq_getElem (by omega)⟩
theorem o_twoOf {A : Type} {xs : List A} {y0 y1 : A} (h : xs.length = 2) (h0 : xs[0]? = some y0) (h1 : xs[1]? = some y1) : xs = [y0, y1] := by
  match xs, h with
  | [a, b], _ => simp at h0 h1; rw [h0, h1]
section
variable {H : Type} {enc : TypeId × Value → H} {W : World}
theorem o_u64 (fuel : Nat) (c : List Value) (y : DataW H × List MemPlace) (h : DataW.trod enc Tryz.prog W 0 (fun _ => true) true fuel 55 c = some y) : ∃ a : Int, c = wdC a ∧ (0 ≤ a ∧ a < 18446744073709551616) ∧ 1 ≤ Rows.uptoBulk y.1 := by
  obtain ⟨s, e1, rfl, hw⟩ := DataW.trod_int (k := .u64) (by kernel_rfl) h
  refine ⟨s, e1, ⟨(bounds_u64 hw).1, ?_⟩, o_one _⟩
  have := (bounds_u64 hw).2
  omega
theorem o_val {fuel : Nat} {c : List Value} {y : DataW H × List MemPlace} (h : DataW.trod enc Tryz.prog W 0 (fun _ => true) true fuel 104 c = some y) : ∃ r i : Int, c = [.int .i64 r, .int .u64 i] ∧ (0 ≤ i ∧ i < 18446744073709551616) := by
  obtain ⟨xs, m, _, rfl, hl, hlen, hf⟩ := DataW.trod_struct Tryz.underlying104 h
  rw [oCval] at hl
  obtain ⟨c0, c1, rfl⟩ := o_two hl
  have hlen2 : xs.length = 2 := hlen
  obtain ⟨y0, e0⟩ := o_some (i := 0) hlen2 (by omega)
  obtain ⟨y1, e1⟩ := o_some (i := 1) hlen2 (by omega)
  have f0 := (hf 0 _ rfl).trans e0
  have f1 := (hf 1 _ rfl).trans e1
  obtain ⟨a0, q0, r0, w0⟩ := DataW.trod_int (k := .i64) (by kernel_rfl) f0
  obtain ⟨a1, q1, r1, w1⟩ := DataW.trod_int (k := .u64) (by kernel_rfl) f1
  change List.take (Tryz.prog.cellsOf 3) (List.drop 0 [c0, c1]) = _ at q0
  change List.take (Tryz.prog.cellsOf 55) (List.drop 1 [c0, c1]) = _ at q1
  rw [oCint] at q0
  rw [oCu64] at q1
  simp at q0 q1
  subst q0 q1
  exact ⟨a0, a1, rfl, (bounds_u64 w1).1, by have := (bounds_u64 w1).2; omega⟩
theorem o_ins (fuel : Nat) (c : List Value) (y : DataW H × List MemPlace) (h : DataW.trod enc Tryz.prog W 0 (fun _ => true) true fuel 106 c = some y) : ∃ a : I8, c = iC a ∧ immOk a ∧ 1 ≤ Rows.uptoBulk y.1 := by
  obtain ⟨xs, m, _, rfl, hl, hlen, hf⟩ := DataW.trod_struct Tryz.underlying106 h
  rw [oCins] at hl
  obtain ⟨c0, c1, c2, c3, c4, c5, c6, c7, rfl⟩ := o_eight hl
  have hlen6 : xs.length = 6 := hlen
  obtain ⟨y0, e0⟩ := o_some (i := 0) hlen6 (by omega)
  obtain ⟨y1, e1⟩ := o_some (i := 1) hlen6 (by omega)
  obtain ⟨y2, e2⟩ := o_some (i := 2) hlen6 (by omega)
  obtain ⟨y3, e3⟩ := o_some (i := 3) hlen6 (by omega)
  obtain ⟨y4, e4⟩ := o_some (i := 4) hlen6 (by omega)
  obtain ⟨y5, e5⟩ := o_some (i := 5) hlen6 (by omega)
  have f0 := (hf 0 _ rfl).trans e0
  have f1 := (hf 1 _ rfl).trans e1
  have f2 := (hf 2 _ rfl).trans e2
  have f3 := (hf 3 _ rfl).trans e3
  have f4 := (hf 4 _ rfl).trans e4
  have f5 := (hf 5 _ rfl).trans e5
  obtain ⟨a0, q0, r0, w0⟩ := DataW.trod_int (k := .i64) (by kernel_rfl) f0
  obtain ⟨a1, q1, r1, w1⟩ := DataW.trod_int (k := .i64) (by kernel_rfl) f1
  obtain ⟨a2, q2, r2, w2⟩ := DataW.trod_int (k := .i64) (by kernel_rfl) f2
  obtain ⟨a3, a4, q3, i3⟩ := o_val f3
  obtain ⟨a5, a6, q4, i4⟩ := o_val f4
  obtain ⟨a7, q5, r5, w5⟩ := DataW.trod_int (k := .i64) (by kernel_rfl) f5
  change List.take (Tryz.prog.cellsOf 3) (List.drop 0 [c0, c1, c2, c3, c4, c5, c6, c7]) = _ at q0
  change List.take (Tryz.prog.cellsOf 3) (List.drop 1 [c0, c1, c2, c3, c4, c5, c6, c7]) = _ at q1
  change List.take (Tryz.prog.cellsOf 3) (List.drop 2 [c0, c1, c2, c3, c4, c5, c6, c7]) = _ at q2
  change List.take (Tryz.prog.cellsOf 104) (List.drop 3 [c0, c1, c2, c3, c4, c5, c6, c7]) = _ at q3
  change List.take (Tryz.prog.cellsOf 104) (List.drop 5 [c0, c1, c2, c3, c4, c5, c6, c7]) = _ at q4
  change List.take (Tryz.prog.cellsOf 3) (List.drop 7 [c0, c1, c2, c3, c4, c5, c6, c7]) = _ at q5
  rw [oCint] at q0 q1 q2 q5
  rw [oCval] at q3 q4
  simp at q0 q1 q2 q3 q4 q5
  obtain ⟨g3, g4⟩ := q3
  obtain ⟨g5, g6⟩ := q4
  subst q0 q1 q2 q5 g3 g4 g5 g6
  exact ⟨⟨a0, a1, a2, a3, a4, a5, a6, a7⟩, rfl, ⟨i3, i4⟩, o_one _⟩
theorem o_inss (fuel : Nat) (c : List Value) (y : DataW H × List MemPlace) (h : DataW.trod enc Tryz.prog W 0 (fun _ => true) true fuel 102 c = some y) : ∃ a : Value × List I8, c = slP a ∧ (InG iC W W.heap.size a.1 a.2 ∧ ∀ x ∈ a.2, immOk x) ∧ a.2.length + 1 ≤ Rows.uptoBulk y.1 := by
  obtain ⟨v, xs, e1, e2, e3, e4⟩ := open_list (W := W) iC (fun _ => 1) immOk Tryz.underlying102 oCins (fun _ => rfl) (by omega) (fun f c y h => o_ins f c y h) h
  rw [o_ones] at e4
  exact ⟨(v, xs), e1, ⟨e2, e3⟩, e4⟩
/-- A litmus program read. -/
theorem open_lit {fuel : Nat} {c : List Value} {x : DataW H × List MemPlace} (h : DataW.trod enc Tryz.prog W 0 (fun _ => true) true fuel 49 c = some x) (hb : Rows.uptoBulk x.1 ≤ 1048576) :
    ∃ (ca : Option Addr) (cc : Nat) (ta : Option Addr) (tc : Nat) (tv : Nat → Value) (cs : List Int) (ts : List (List I8)), c = [.slice ca cs.length cc, .slice ta ts.length tc] ∧ LitG W W.heap.size ca cc ta tc tv cs ts ∧ csOk cs ∧ (∀ l ∈ ts, ∀ x ∈ l, immOk x) ∧ cs.length ≤ 1048576 ∧ ts.length ≤ 1048576 ∧ ∀ i (hi : i < ts.length), ts[i].length ≤ 1048576 := by
  obtain ⟨xs, m, _, rfl, hl, hlen, hf⟩ := DataW.trod_struct Tryz.underlying49 h
  rw [oClit] at hl
  obtain ⟨c0, c1, rfl⟩ := o_two hl
  have hlen2 : xs.length = 2 := hlen
  obtain ⟨y0, e0⟩ := o_some (i := 0) hlen2 (by omega)
  obtain ⟨y1, e1⟩ := o_some (i := 1) hlen2 (by omega)
  have f0 := (hf 0 _ rfl).trans e0
  have f1 := (hf 1 _ rfl).trans e1
  obtain ⟨vc, cs, q0, i0, k0, b0⟩ := open_list (W := W) wdC (fun _ => 1) (fun x => 0 ≤ x ∧ x < 18446744073709551616) Tryz.underlying46 oCu64 (fun _ => rfl) (by omega) (fun f c y h => o_u64 f c y h) f0
  obtain ⟨vt, qs, q1, i1, k1, b1⟩ := open_list (W := W) slP (fun q => q.2.length + 1) (fun q => InG iC W W.heap.size q.1 q.2 ∧ ∀ x ∈ q.2, immOk x) Tryz.underlying47 oCli (fun _ => rfl) (by omega) (fun f c y h => o_inss f c y h) f1
  change List.take (Tryz.prog.cellsOf 46) (List.drop 0 [c0, c1]) = _ at q0
  change List.take (Tryz.prog.cellsOf 47) (List.drop 1 [c0, c1]) = _ at q1
  rw [oClu] at q0
  rw [oCll] at q1
  simp at q0 q1
  subst q0 q1
  have hb2 : Rows.uptoBulk y0.1 + Rows.uptoBulk y1.1 ≤ 1048576 := by
    rw [o_twoOf hlen2 e0 e1] at hb
    simp only [List.map_cons, List.map_nil, Rows.uptoBulk, Rows.uptoBulkAll] at hb
    omega
  rw [o_ones] at b0
  have hl2 := o_len (fun q : Value × List I8 => q.2.length + 1) (fun q => by omega) qs
  have hl3 : ∀ q ∈ qs, q.2.length ≤ 1048576 := fun q hq => by
    have := o_mem (fun q : Value × List I8 => q.2.length + 1) qs q hq
    omega
  obtain ⟨ca, cc, ec⟩ := i0.form
  obtain ⟨ta, tc, et⟩ := i1.form
  subst ec et
  have h3 : ∀ i (hi : i < (qs.map Prod.snd).length), (qs.map Prod.snd)[i].length ≤ 1048576 := fun i hi => by
    rw [List.getElem_map]
    exact hl3 _ (List.getElem_mem _)
  obtain ⟨tv, hlit⟩ := LitG.of qs i0 i1 (fun p hp => (k1 p hp).1) rfl (by omega) (by rw [List.length_map]; omega) (fun i hi => by have := h3 i hi; omega)
  refine ⟨ca, cc, ta, tc, tv, cs, qs.map Prod.snd, by rw [List.length_map], hlit, k0, ?_, by omega, by rw [List.length_map]; omega, h3⟩
  intro l hl x hx
  obtain ⟨q, hq, rfl⟩ := List.mem_map.1 hl
  exact (k1 q hq).2 x hx
end
end Go.Proofs.YtdpebhdjcgiboaaGreat
