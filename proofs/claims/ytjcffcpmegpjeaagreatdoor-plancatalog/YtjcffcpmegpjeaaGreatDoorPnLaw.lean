import Derived.Test.YtjcffcpmegpjeaaGreatDoorPnF4
import Derived.Deep.Slices
import Derived.SizedLaws
import Derived.ChangeOld
namespace Go.Proofs.YtjcffcpmegpjeaaGreatDoor
open Go.ChangeShapes Go.WideShapes Go.ChangeAt Go.RowKit
set_option linter.unusedVariables false
set_option maxRecDepth 100000
/-- A row's pair is read as the row. -/
theorem PROK_row {nm : ByteArray} {num : Int} {cs : List CD} {ks : List Int} {vs : List VL} (hE : RPE nm num cs ks vs = 0) (hv : ∀ v ∈ vs, VOK v) : PROK nm num cs ks (RPK nm num cs ks vs) (RPD nm num cs ks vs) ∧ (rrL (RPD nm num cs ks vs) 0).1 = vs ∧ (RPD nm num cs ks vs).size ≤ 512 ∧ vs.length ≤ 16 := by
  by_cases ht : isTb nm num cs ks = true
  · have h1 : rpE num cs ks vs = 0 := by unfold RPE at hE; rw [if_pos ht] at hE; exact hE
    have hD : RPD nm num cs ks vs = datT vs := by unfold RPD rpD; rw [if_pos ht, if_pos h1]
    have hl : vs.length = cs.length := by
      by_cases h : vs.length = cs.length
      · exact h
      · unfold rpE at h1; rw [if_pos h] at h1; exact absurd h1 (by decide)
    have hr : rowE vs cs = 0 := by
      by_cases h : rowE vs cs = 0
      · exact h
      · unfold rpE at h1; rw [if_neg (by simp [hl]), if_pos h] at h1; exact absurd h1 h
    have hb : ¬ (160 < (keyT num ks vs).size ∨ 512 < (datT vs).size) := by
      intro h
      unfold rpE at h1; rw [if_neg (by simp [hl]), if_neg (by simp [hr]), if_pos h] at h1; exact absurd h1 (by decide)
    have hf := rowE_faults vs cs hl hr
    have hc := (isTb_few ht).2.2
    have hR : rrL (datT vs) 0 = (vs, (rowAll vs).length, 0) := rrL_row vs hf (by omega) (fun v h => (hv v h).2)
    have hZ : (rrL (RPD nm num cs ks vs) 0).1 = vs := by rw [hD, hR]
    exact ⟨⟨by rw [hD, hR], by rw [hZ]; exact hE, by rw [hZ], by rw [hZ]⟩, hZ, by rw [hD]; omega, by omega⟩
  · unfold RPE at hE; rw [if_neg ht] at hE; exact absurd hE (by decide)
set_option maxHeartbeats 4000000 in
theorem pairs_law (nm : ByteArray) (num : Int) (cv kv : Value) (k d : ByteArray) (cs : List CD) (ks : List Int) (B : Nat) (w : World) (hB : B ≤ w.heap.size) (hs : SeesC w B cv cs) (hu : SeesG (Value.int .i64) w B kv ks)
    (hl : cs.length ≤ 140737488355328) (hkl : ks.length ≤ 140737488355328) (hnum : -9223372036854775808 ≤ num ∧ num ≤ 9223372036854775807) (hd : d.size ≤ 1125899906842624) (hg : ErrTy w) :
    Calls Tryz.prog 4 #[.agg #[.string nm, .int .i64 num, cv, kv], pairV k d] w fun e w' => e = .returned (.bool true) ∧ Below w.heap.size w w' := by
  have HN : Hid _ := TPS.new w nm num cv kv k d
  obtain ⟨ca, cc, rfl⟩ := hs.form
  obtain ⟨ka, kc, rfl⟩ := hu.form
  have HP : Hid (∀ W : World, TPS w W nm num (.slice ca cs.length cc) (.slice ka ks.length kc) k d → _) := fun W (h : TPS w W nm num (.slice ca cs.length cc) (.slice ka ks.length kc) k d) => PairRowT nm num _ _ k d cs ks B W (by have := h.size; omega) (hs.later (h.below.mono hB)) (hu.later (h.below.mono hB)) hl hkl hnum hd (hg.later h.below hg.pos)
  have HR : Hid (∀ W : World, TPS w W nm num (.slice ca cs.length cc) (.slice ka ks.length kc) k d → _) := fun W (h : TPS w W nm num (.slice ca cs.length cc) (.slice ka ks.length kc) k d) => PairRowR nm num _ _ k d cs ks B W (by have := h.size; omega) (hs.later (h.below.mono hB)) (hu.later (h.below.mono hB)) hl hkl hnum hd
  have HL : Hid (PROK nm num cs ks k d → (rrL d 0).1.length ≤ 140737488355328) := fun h => by have := rrL_few d; have := h.1; omega
  clear hs hu hg hl hkl
  obtain ⟨t1, t2, t3, t4, t5, t6⟩ := HN.out.cells
  unfold pairV at HP HR ⊢
  go_enter Tryz.func4, Tryz.ntmps4
  go_wp2_with fail
  refine (HP.out _ HN.out).mono ?_
  generalize (w.alloc (.cells #[.string nm, .int .i64 num, .slice ca cs.length cc, .slice ka ks.length kc] 25)).alloc (.cells #[.string k, .string d] 28) = W at *
  rintro e w3 ⟨⟨h0, h1⟩, hb3⟩
  have HN3 : Hid (TPS w w3 nm num (.slice ca cs.length cc) (.slice ka ks.length kc) k d) := HN.out.later hb3 HN.out.size
  clear hb3 HP HN t1 t2 t3 t4 t5 t6
  obtain ⟨t1, t2, t3, t4, t5, t6⟩ := HN3.out.cells
  by_cases hok : PROK nm num cs ks k d
  · obtain ⟨v, rfl, hown⟩ := h0 hok
    obtain ⟨va, vn, vc, rfl⟩ := hown.form
    have HO : Hid (ownV w3 W.heap.size (.slice va vn vc) (rrL d 0).1) := hown
    have HY : Hid (PROK nm num cs ks k d) := hok
    clear hown hok h0 h1
    go_wp2_with fail
    refine (HR.out _ HN3.out).mono ?_
    rintro e w4 ⟨⟨h0, -⟩, hb4⟩
    have HN4 : Hid (TPS w w4 nm num (.slice ca cs.length cc) (.slice ka ks.length kc) k d) := HN3.out.later hb4 HN3.out.size
    have HO4 : Hid (ownV w4 W.heap.size (.slice va vn vc) (rrL d 0).1) := HO.out.same (fun k hk _ => hb4.block k hk)
    obtain ⟨u, rfl, hown⟩ := h0 HY.out
    obtain ⟨ua, un, uc, rfl⟩ := hown.form
    have HSM : Hid (∀ _ : Unit, _) := fun _ => sameV _ _ (rrL d 0).1 _ _ w4 (HO4.out.seesAll (HL.out HY.out)) (hown.seesAll (HL.out HY.out)) (HL.out HY.out)
    clear hown h0 hb4 HO HO4 HN3 HR t1 t2 t3 t4 t5 t6
    go_wp2_with fail
    refine (HSM.out ()).mono ?_
    rintro e w5 ⟨rfl, hb5⟩
    have HB5 : Hid (Below w.heap.size w w5) := HN4.out.below.trans (hb5.mono HN4.out.below.size)
    clear hb5
    go_wp2_with fail
    refine (numT 0 w5).mono ?_
    rintro e w6 ⟨rfl, rfl⟩
    go_wp2
    go_ret
    exact ⟨rfl, HB5.out⟩
  · have he := h1 hok
    subst he
    have HY : Hid (¬ PROK nm num cs ks k d) := hok
    clear hok h0 h1
    go_wp2_with fail
    refine (HR.out _ HN3.out).mono ?_
    rintro e w4 ⟨⟨-, h1⟩, hb4⟩
    have HN4 : Hid (TPS w w4 nm num (.slice ca cs.length cc) (.slice ka ks.length kc) k d) := HN3.out.later hb4 HN3.out.size
    have he := h1 HY.out
    subst he
    clear h1 hb4 HN3 HR t1 t2 t3 t4 t5 t6
    go_wp2_with fail
    refine (sameV _ _ [] _ _ w4 (sees_nil w4 0) (sees_nil w4 0) (by simp)).mono ?_
    rintro e w5 ⟨rfl, hb5⟩
    have HB5 : Hid (Below w.heap.size w w5) := HN4.out.below.trans (hb5.mono HN4.out.below.size)
    clear hb5
    go_wp2_with fail
    refine (numT 169 w5).mono ?_
    rintro e w6 ⟨rfl, rfl⟩
    go_wp2
    go_ret
    exact ⟨rfl, HB5.out⟩
/-- What is kept of a row's law: the table handed over, and the pair that the program made. -/
structure RLS (w W : World) (nm : ByteArray) (num : Int) (cv kv : Value) (g : Nat) (k d : ByteArray) : Prop where
  tbs : TBS w W nm num cv kv
  pair : W.heap[g]? = some (.cells #[.string k, .string d] 28)
theorem RLS.later {w W W' : World} {nm : ByteArray} {num : Int} {cv kv : Value} {g : Nat} {k d : ByteArray} (h : RLS w W nm num cv kv g k d) (hb : Below W.heap.size W W') : RLS w W' nm num cv kv g k d :=
  ⟨h.tbs.later hb h.tbs.size, (hb.block _ ((Array.getElem?_eq_some_iff.1 h.pair).1)).trans h.pair⟩
theorem RLS.cells {w W : World} {nm : ByteArray} {num : Int} {cv kv : Value} {g : Nat} {k d : ByteArray} (h : RLS w W nm num cv kv g k d) : W.cell? ⟨w.heap.size, 0, none⟩ = some (.string nm) ∧ W.cell? ⟨w.heap.size, 1, none⟩ = some (.int .i64 num) ∧ W.cell? ⟨w.heap.size, 2, none⟩ = some cv ∧ W.cell? ⟨w.heap.size, 3, none⟩ = some kv ∧ W.cell? ⟨g, 0, none⟩ = some (.string k) ∧ W.cell? ⟨g, 1, none⟩ = some (.string d) := by
  obtain ⟨t0, t1, t2, t3⟩ := h.tbs.cells
  have h2 := h.pair
  refine ⟨t0, t1, t2, t3, ?_, ?_⟩
  · unfold World.cell?
    rw [h2]
    rfl
  · unfold World.cell?
    rw [h2]
    rfl
set_option maxHeartbeats 8000000 in
theorem rows_law (nm : ByteArray) (num : Int) (cv kv rv : Value) (cs : List CD) (ks : List Int) (vs : List VL) (B : Nat) (w : World) (hB : B ≤ w.heap.size) (hs : SeesC w B cv cs) (hu : SeesG (Value.int .i64) w B kv ks) (hr : SeesV w B rv vs) (hvs : ∀ v ∈ vs, VOK v)
    (hl : cs.length ≤ 140737488355328) (hkl : ks.length ≤ 140737488355328) (hnum : -9223372036854775808 ≤ num ∧ num ≤ 9223372036854775807) (hg : ErrTy w) :
    Calls Tryz.prog 3 #[.agg #[.string nm, .int .i64 num, cv, kv], rv] w fun e w' => e = .returned (.bool true) ∧ Below w.heap.size w w' := by
  have HN : Hid _ := TBS.new w nm num cv kv
  obtain ⟨ca, cc, rfl⟩ := hs.form
  obtain ⟨ka, kc, rfl⟩ := hu.form
  obtain ⟨ra, rc, rfl⟩ := hr.form
  have HP : Hid (∀ W : World, TBS w W nm num (.slice ca cs.length cc) (.slice ka ks.length kc) → _) := fun W (h : TBS w W nm num (.slice ca cs.length cc) (.slice ka ks.length kc)) => RowPairT nm num _ _ _ cs ks vs B W (by have := h.size; omega) (hs.later (h.below.mono hB)) (hu.later (h.below.mono hB)) (hr.later (h.below.mono hB)) hvs hl hkl hnum (hg.later h.below hg.pos)
  have HR : Hid (∀ W : World, TBS w W nm num (.slice ca cs.length cc) (.slice ka ks.length kc) → _) := fun W (h : TBS w W nm num (.slice ca cs.length cc) (.slice ka ks.length kc)) => RowPairR nm num _ _ _ cs ks vs B W (by have := h.size; omega) (hs.later (h.below.mono hB)) (hu.later (h.below.mono hB)) (hr.later (h.below.mono hB)) hvs hl hkl hnum
  have HQ : Hid (RPE nm num cs ks vs = 0 → (vs.length ≤ 140737488355328 ∧ ∀ W : World, TBS w W nm num (.slice ca cs.length cc) (.slice ka ks.length kc) → Calls Tryz.prog 10 #[.agg #[.string nm, .int .i64 num, .slice ca cs.length cc, .slice ka ks.length kc], pairV (RPK nm num cs ks vs) (RPD nm num cs ks vs)] W fun e w' => (∃ v, e = .returned (.tuple #[v, .int .i64 0]) ∧ ownV w' W.heap.size v vs) ∧ Below W.heap.size W w')) := by
    intro hE
    obtain ⟨q1, q2, q3, q4⟩ := PROK_row hE hvs
    refine ⟨by omega, fun W h => ?_⟩
    refine (PairRowT nm num _ _ _ _ cs ks B W (by have := h.size; omega) (hs.later (h.below.mono hB)) (hu.later (h.below.mono hB)) hl hkl hnum (by omega) (hg.later h.below hg.pos)).mono ?_
    rintro e w' ⟨⟨h0, -⟩, hb⟩
    obtain ⟨v, rfl, ho⟩ := h0 q1
    rw [q2] at ho
    exact ⟨⟨v, rfl, ho⟩, hb⟩
  have HSR : Hid (SeesV w B (.slice ra vs.length rc) vs) := hr
  clear hs hu hr hg hl hkl hvs
  generalize RPE nm num cs ks vs = E at *
  generalize RPK nm num cs ks vs = K at *
  generalize RPD nm num cs ks vs = D at *
  obtain ⟨t0, t1, t2, t3⟩ := HN.out.cells
  unfold pairV at HP HR HQ
  go_enter Tryz.func3, Tryz.ntmps3
  go_wp2_with fail
  refine (HP.out _ HN.out).mono ?_
  generalize w.alloc (.cells #[.string nm, .int .i64 num, .slice ca cs.length cc, .slice ka ks.length kc] 25) = W at *
  rintro e w3 ⟨rfl, hb3⟩
  have HN3 : Hid (TBS w w3 nm num (.slice ca cs.length cc) (.slice ka ks.length kc)) := HN.out.later hb3 HN.out.size
  clear hb3 HP HN t0 t1 t2 t3
  have HB3 : Hid (Below w3.heap.size w3 (w3.alloc (.cells #[.string K, .string D] 28))) := (Below.refl _ _).alloc (Nat.le_refl _) _
  have HN4 : Hid (RLS w (w3.alloc (.cells #[.string K, .string D] 28)) nm num (.slice ca cs.length cc) (.slice ka ks.length kc) w3.heap.size K D) := ⟨HN3.out.later HB3.out HN3.out.size, heap_new _ _⟩
  obtain ⟨t0, t1, t2, t3, t4, t5⟩ := HN4.out.cells
  go_wp2_with fail
  refine (HR.out _ HN4.out.tbs).mono ?_
  generalize w3.alloc (.cells #[.string K, .string D] 28) = w4 at *
  rintro e w5 ⟨rfl, hb5⟩
  have HN5 : Hid (RLS w w5 nm num (.slice ca cs.length cc) (.slice ka ks.length kc) w3.heap.size K D) := HN4.out.later hb5
  clear hb5 HR HN3 HN4 t0 t1 t2 t3 t4 t5
  have HB5 : Hid (Below w5.heap.size w5 (w5.alloc (.cells #[.string K, .string D] 28))) := (Below.refl _ _).alloc (Nat.le_refl _) _
  have HN6 : Hid (RLS w (w5.alloc (.cells #[.string K, .string D] 28)) nm num (.slice ca cs.length cc) (.slice ka ks.length kc) w3.heap.size K D) := HN5.out.later HB5.out
  have u0 : (w5.alloc (.cells #[.string K, .string D] 28)).cell? ⟨w5.heap.size, 0, none⟩ = some (.string K) := by simp
  have u1 : (w5.alloc (.cells #[.string K, .string D] 28)).cell? ⟨w5.heap.size, 1, none⟩ = some (.string D) := by simp
  obtain ⟨t0, t1, t2, t3, t4, t5⟩ := HN6.out.cells
  go_wp2_with fail
  refine (numT E _).mono ?_
  generalize w5.alloc (.cells #[.string K, .string D] 28) = w6 at *
  rintro e w7 ⟨rfl, rfl⟩
  by_cases hE : E = 0
  · subst hE
    obtain ⟨hlen, HQ2⟩ := HQ.out rfl
    have HQQ : Hid _ := HQ2
    clear HQ HQ2
    go_wp2_with fail
    refine (HQQ.out _ HN6.out.tbs).mono ?_
    rintro e w8 ⟨⟨v, rfl, ho⟩, hb8⟩
    obtain ⟨va, vn, vc, rfl⟩ := ho.form
    have HB8 : Hid (Below w.heap.size w w8) := HN6.out.tbs.below.trans (hb8.mono HN6.out.tbs.below.size)
    have HSM : Hid (∀ _ : Unit, _) := fun _ => sameV _ _ vs _ _ w8 (ho.seesAll hlen) (HSR.out.later (HB8.out.mono hB)) hlen
    clear ho hb8 t0 t1 t2 t3 t4 t5 u0 u1
    go_wp2_with fail
    refine (HSM.out ()).mono ?_
    rintro e w9 ⟨rfl, hb9⟩
    have HB9 : Hid (Below w.heap.size w w9) := HB8.out.trans (hb9.mono HB8.out.size)
    clear hb9
    go_wp2_with fail
    refine (numT 0 w9).mono ?_
    rintro e w10 ⟨rfl, rfl⟩
    go_wp2
    go_ret
    exact ⟨rfl, HB9.out⟩
  · have hEb : (E != 0) = true := by simp [hE]
    clear HQ hE
    go_wp2
    go_ret
    exact ⟨rfl, HN6.out.tbs.below⟩
end Go.Proofs.YtjcffcpmegpjeaaGreatDoor

namespace Go.Proofs.YtjcffcpmegpjeaaGreatDoor
open Go.ChangeShapes Go.WideShapes Go.ChangeAt Go.RowKit
set_option linter.unusedVariables false
set_option maxRecDepth 100000
theorem cellsVq : Tryz.prog.cellsOf 59 = 3 := by kernel_rfl
theorem cellsKq : Tryz.prog.cellsOf 57 = 1 := by kernel_rfl
theorem cellsIq : Tryz.prog.cellsOf 2 = 1 := by kernel_rfl
theorem cellsSq : Tryz.prog.cellsOf 9 = 1 := by kernel_rfl
theorem bytesVq : Tryz.prog.bytesOf 59 = 32 := by kernel_rfl
theorem len3q {cs : List Value} (h : cs.length = 3) : ∃ c0 c1 c2, cs = [c0, c1, c2] := by
  match cs, h with
  | [c0, c1, c2], _ => exact ⟨c0, c1, c2, rfl⟩
theorem some_of_ltq {A : Type} {xs : List A} {i n : Nat} (h : xs.length = n) (hi : i < n) : ∃ y, xs[i]? = some y := ⟨xs[i]'(by omega), List.getElem?_eq_getElem (by omega)⟩
set_option maxRecDepth 100000 in
/-- One value read: its three cells. -/
theorem open_oneq {H : Type} {enc : TypeId × Value → H} {W : World} {sp : Nat → Bool} {hd : Bool} {n : Nat} {cs : List Value} {y : DataW H × List MemPlace} (h : DataW.trod enc Tryz.prog W 0 sp hd n 59 cs = some y) :
    ∃ v : Int × Int × ByteArray, cs = cell3 v ∧ v.2.2.size ≤ maxLen ∧ (Lit.int .i64 v.1).wf = true ∧ (Lit.int .i64 v.2.1).wf = true := by
  obtain ⟨xs, m, _, rfl, hl, hlen, hf⟩ := DataW.trod_struct Tryz.underlying59 h
  rw [cellsVq] at hl
  obtain ⟨c0, c1, c2, rfl⟩ := len3q hl
  have hlen3 : xs.length = 3 := hlen
  obtain ⟨y0, e0⟩ := some_of_ltq (i := 0) hlen3 (by omega)
  obtain ⟨y1, e1⟩ := some_of_ltq (i := 1) hlen3 (by omega)
  obtain ⟨y2, e2⟩ := some_of_ltq (i := 2) hlen3 (by omega)
  have f0 := (hf 0 _ rfl).trans e0
  have f1 := (hf 1 _ rfl).trans e1
  have f2 := (hf 2 _ rfl).trans e2
  obtain ⟨a0, q0, _, w0⟩ := DataW.trod_int (k := .i64) (by kernel_rfl) f0
  obtain ⟨a1, q1, _, w1⟩ := DataW.trod_int (k := .i64) (by kernel_rfl) f1
  obtain ⟨a2, q2, _, w2⟩ := DataW.trod_string (by kernel_rfl) f2
  change List.take (Tryz.prog.cellsOf 57) (List.drop 0 [c0, c1, c2]) = _ at q0
  change List.take (Tryz.prog.cellsOf 2) (List.drop 1 [c0, c1, c2]) = _ at q1
  change List.take (Tryz.prog.cellsOf 9) (List.drop 2 [c0, c1, c2]) = _ at q2
  rw [cellsKq] at q0
  rw [cellsIq] at q1
  rw [cellsSq] at q2
  simp at q0 q1 q2
  subst q0 q1 q2
  exact ⟨(a0, a1, a2), rfl, w2, w0, w1⟩
/-- A slice of values read. -/
theorem open_vals {H : Type} {enc : TypeId × Value → H} {W : World} {fuel : Nat} {a : Option Addr} {len cap : Nat} {x : DataW H × List MemPlace} (hf : DataW.trod enc Tryz.prog W 0 (fun _ => true) true fuel 26 [.slice a len cap] = some x) :
    (x.1 = .nil ∧ len = 0 ∨ ∃ elems spare, x.1 = .slice elems spare ∧ elems.length = len) ∧
    (len ≤ 140737488355328 → ∃ vs, vs.length = len ∧ SeesV W W.heap.size (.slice a len cap) vs ∧ ∀ v ∈ vs, v.2.2.size ≤ maxLen ∧ (Lit.int .i64 v.1).wf = true ∧ (Lit.int .i64 v.2.1).wf = true) := by
  rcases Deep.open_slice Tryz.underlying26 hf with ⟨hcs, rfl⟩ | ⟨x, l, c, m, n, D, Pl, hcs, _, hl, hm, hmm, rfl, hx⟩
  · simp only [List.cons.injEq, Value.slice.injEq, and_true] at hcs
    obtain ⟨rfl, rfl, rfl⟩ := hcs
    exact ⟨.inl ⟨rfl, rfl⟩, fun _ => ⟨[], rfl, ⟨none, 0, rfl, by simp, by simp, fun i hi => by simp at hi⟩, fun v hv => by simp at hv⟩⟩
  · simp only [List.cons.injEq, Value.slice.injEq, and_true] at hcs
    obtain ⟨rfl, rfl, rfl⟩ := hcs
    refine ⟨.inr ⟨_, _, rfl, by simp⟩, fun hle => ?_⟩
    simp only [if_true] at hmm
    subst hmm
    have each : ∀ i, i < len → ∃ v : Int × Int × ByteArray, (W.cell? (x.add (i * 3)) = some (.int .i64 v.1) ∧ W.cell? ((x.add (i * 3)).add 1) = some (.int .i64 v.2.1) ∧ W.cell? ((x.add (i * 3)).add 2) = some (.string v.2.2)) ∧ v.2.2.size ≤ maxLen ∧ (Lit.int .i64 v.1).wf = true ∧ (Lit.int .i64 v.2.1).wf = true := by
      intro i hi
      obtain ⟨cs, h1, h2⟩ := hx i (by omega)
      rw [cellsVq] at h1
      obtain ⟨v, rfl, hv⟩ := open_oneq h2
      obtain ⟨_, _, hc⟩ := World.cells?_some h1
      have c0 := hc 0 (by omega)
      have c1 := hc 1 (by omega)
      have c2 := hc 2 (by omega)
      refine ⟨v, ⟨?_, c1, c2⟩, hv⟩
      have e : (x.add (i * 3)).add 0 = x.add (i * 3) := by
        generalize x.add (i * 3) = y
        unfold Addr.add
        rw [if_pos rfl]
      rw [e] at c0
      exact c0
    have hch : ∃ f : Nat → Int × Int × ByteArray, ∀ i, i < len → (W.cell? (x.add (i * 3)) = some (.int .i64 (f i).1) ∧ W.cell? ((x.add (i * 3)).add 1) = some (.int .i64 (f i).2.1) ∧ W.cell? ((x.add (i * 3)).add 2) = some (.string (f i).2.2)) ∧ (f i).2.2.size ≤ maxLen ∧ (Lit.int .i64 (f i).1).wf = true ∧ (Lit.int .i64 (f i).2.1).wf = true := by
      refine ⟨fun i => if h : i < len then Classical.choose (each i h) else (0, 0, ByteArray.empty), fun i hi => ?_⟩
      simp only [dif_pos hi]
      exact Classical.choose_spec (each i hi)
    obtain ⟨f, hfs⟩ := hch
    refine ⟨(List.range len).map f, by simp, ⟨some x, _, by simp; rfl, by simpa using hl, by simpa using hle, fun i hi => ?_⟩, fun v hv => ?_⟩
    · have hi' : i < len := by simpa using hi
      obtain ⟨⟨c0, c1, c2⟩, _⟩ := hfs i hi'
      obtain ⟨b, off, spot⟩ := x
      have hs : spot = none := by
        have hsp := World.cell?_spot (hfs 0 (by omega)).1.1
        simpa [Addr.add] using hsp
      subst hs
      have ea : ∀ o k, (⟨b, o, none⟩ : Addr).add k = ⟨b, o + k, none⟩ := fun o k => by unfold Addr.add; split <;> simp_all
      rw [ea] at c0 c1 c2
      rw [ea] at c1 c2
      have hb : b < W.heap.size := by
        rcases Nat.lt_or_ge b W.heap.size with h | h
        · exact h
        · unfold World.cell? at c0
          simp [Array.getElem?_eq_none h] at c0
      refine ⟨b, off, rfl, hb, ?_⟩
      simp only [List.getElem_map, List.getElem_range]
      exact ⟨c0, c1, c2⟩
    · obtain ⟨i, hi, rfl⟩ := List.mem_map.1 hv
      exact (hfs i (by simpa using hi)).2

theorem cellsCd : Tryz.prog.cellsOf 61 = 3 := by kernel_rfl
theorem bytesCd : Tryz.prog.bytesOf 61 = 32 := by kernel_rfl
theorem cellsBq : Tryz.prog.cellsOf 4 = 1 := by kernel_rfl
theorem cellsTb : Tryz.prog.cellsOf 25 = 4 := by kernel_rfl
theorem cellsPr : Tryz.prog.cellsOf 28 = 2 := by kernel_rfl
theorem cellsNq : Tryz.prog.cellsOf 3 = 1 := by kernel_rfl
theorem bytesNq : Tryz.prog.bytesOf 3 = 8 := by kernel_rfl
theorem cellsLc : Tryz.prog.cellsOf 22 = 1 := by kernel_rfl
theorem cellsLn : Tryz.prog.cellsOf 23 = 1 := by kernel_rfl
/-- One column read: its three cells. -/
theorem open_col {H : Type} {enc : TypeId × Value → H} {W : World} {sp : Nat → Bool} {hd : Bool} {n : Nat} {cs : List Value} {y : DataW H × List MemPlace} (h : DataW.trod enc Tryz.prog W 0 sp hd n 61 cs = some y) :
    ∃ v : CD, cs = [.string v.1, .int .i64 v.2.1, .bool v.2.2] := by
  obtain ⟨xs, m, _, rfl, hl, hlen, hf⟩ := DataW.trod_struct Tryz.underlying61 h
  rw [cellsCd] at hl
  obtain ⟨c0, c1, c2, rfl⟩ := len3q hl
  have hlen3 : xs.length = 3 := hlen
  obtain ⟨y0, e0⟩ := some_of_ltq (i := 0) hlen3 (by omega)
  obtain ⟨y1, e1⟩ := some_of_ltq (i := 1) hlen3 (by omega)
  obtain ⟨y2, e2⟩ := some_of_ltq (i := 2) hlen3 (by omega)
  obtain ⟨a0, q0, _, w0⟩ := DataW.trod_string (by kernel_rfl) ((hf 0 _ rfl).trans e0)
  obtain ⟨a1, q1, _, w1⟩ := DataW.trod_int (k := .i64) (by kernel_rfl) ((hf 1 _ rfl).trans e1)
  obtain ⟨a2, q2, _⟩ := DataW.trod_bool (by kernel_rfl) ((hf 2 _ rfl).trans e2)
  change List.take (Tryz.prog.cellsOf 9) (List.drop 0 [c0, c1, c2]) = _ at q0
  change List.take (Tryz.prog.cellsOf 57) (List.drop 1 [c0, c1, c2]) = _ at q1
  change List.take (Tryz.prog.cellsOf 4) (List.drop 2 [c0, c1, c2]) = _ at q2
  rw [cellsSq] at q0
  rw [cellsKq] at q1
  rw [cellsBq] at q2
  simp at q0 q1 q2
  subst q0 q1 q2
  exact ⟨(a0, a1, a2), rfl⟩
/-- A list of columns read. -/
theorem open_cols {H : Type} {enc : TypeId × Value → H} {W : World} {fuel : Nat} {c : Value} {x : DataW H × List MemPlace} (hf : DataW.trod enc Tryz.prog W 0 (fun _ => true) true fuel 22 [c] = some x) :
    ∃ (a : Option Addr) (len cap : Nat) (cs : List CD), c = .slice a len cap ∧ cs.length = len ∧ SeesC W W.heap.size c cs ∧ (∀ R, (∀ n ∈ x.1.weights Tryz.prog 22, n ≤ R) → len * 32 ≤ R) := by
  rcases Deep.open_slice Tryz.underlying22 hf with ⟨hcs, rfl⟩ | ⟨x, l, cp, m, n, D, Pl, hcs, _, hl, hm, hmm, rfl, hx⟩
  · simp only [List.cons.injEq, and_true] at hcs
    subst hcs
    exact ⟨none, 0, 0, [], rfl, rfl, ⟨none, 0, rfl, by simp, fun i hi => by simp at hi⟩, fun R _ => by omega⟩
  · simp only [List.cons.injEq, and_true] at hcs
    subst hcs
    simp only [if_true] at hmm
    subst hmm
    have each : ∀ i, i < l → ∃ v : CD, ∀ j (hj : j < 3), W.cell? ((x.add (i * 3)).add j) = ([.string v.1, .int .i64 v.2.1, .bool v.2.2] : List Value)[j]? := by
      intro i hi
      obtain ⟨cs, h1, h2⟩ := hx i (by omega)
      rw [cellsCd] at h1
      obtain ⟨v, rfl⟩ := open_col h2
      obtain ⟨_, _, hc⟩ := World.cells?_some h1
      refine ⟨v, fun j hj => ?_⟩
      have := hc j hj
      rw [this]
    have hch : ∃ f : Nat → CD, ∀ i, i < l → ∀ j (hj : j < 3), W.cell? ((x.add (i * 3)).add j) = ([.string (f i).1, .int .i64 (f i).2.1, .bool (f i).2.2] : List Value)[j]? := by
      refine ⟨fun i => if h : i < l then Classical.choose (each i h) else (ByteArray.empty, 0, false), fun i hi => ?_⟩
      simp only [dif_pos hi]
      exact Classical.choose_spec (each i hi)
    obtain ⟨f, hfs⟩ := hch
    have hspot : 0 < l → ∃ b off, x = ⟨b, off, none⟩ := fun h0 => by
      obtain ⟨b, off, spot⟩ := x
      have hs : spot = none := by
        have hsp := World.cell?_spot (show W.cell? (((⟨b, off, spot⟩ : Addr).add (0 * 3)).add 0) = some (.string (f 0).1) from hfs 0 h0 0 (by omega))
        simpa [Addr.add] using hsp
      exact ⟨b, off, by rw [hs]⟩
    refine ⟨some x, l, _, (List.range l).map f, rfl, by simp, ⟨some x, _, by simp; rfl, by simpa using hl, fun i hi => ?_⟩, fun R hR => ?_⟩
    · have hi' : i < l := by simpa using hi
      obtain ⟨b, off, rfl⟩ := hspot (by omega)
      have hc := hfs i hi'
      have ea : ∀ o k, (⟨b, o, none⟩ : Addr).add k = ⟨b, o + k, none⟩ := fun o k => by unfold Addr.add; split <;> simp_all
      have hc' : ∀ j (hj : j < 3), W.cell? ⟨b, off + i * 3 + j, none⟩ = ([.string (f i).1, .int .i64 (f i).2.1, .bool (f i).2.2] : List Value)[j]? := fun j hj => by have := hc j hj; rwa [ea, ea] at this
      have c0 : W.cell? ⟨b, off + i * 3, none⟩ = some (.string (f i).1) := hc' 0 (by omega)
      have hb : b < W.heap.size := by
        rcases Nat.lt_or_ge b W.heap.size with h | h
        · exact h
        · unfold World.cell? at c0
          simp [Array.getElem?_eq_none h] at c0
      refine ⟨b, off, rfl, hb, ?_⟩
      simp only [List.getElem_map, List.getElem_range]
      exact ⟨c0, hc' 1 (by omega), hc' 2 (by omega)⟩
    · simp only [DataW.weights, Tryz.underlying22] at hR
      have := hR _ List.mem_cons_self
      rw [bytesCd] at this
      simp only [List.length_map, List.length_range] at this
      omega
/-- A list of numbers read. -/
theorem open_ints {H : Type} {enc : TypeId × Value → H} {W : World} {fuel : Nat} {c : Value} {x : DataW H × List MemPlace} (hf : DataW.trod enc Tryz.prog W 0 (fun _ => true) true fuel 23 [c] = some x) :
    ∃ (a : Option Addr) (len cap : Nat) (ks : List Int), c = .slice a len cap ∧ ks.length = len ∧ SeesG (Value.int .i64) W W.heap.size c ks ∧ (∀ R, (∀ n ∈ x.1.weights Tryz.prog 23, n ≤ R) → len * 8 ≤ R) := by
  rcases Deep.open_slice1 Tryz.underlying23 cellsNq hf with ⟨hcs, rfl⟩ | ⟨x, len, cap, m, n, V, D, Pl, hcs, _, hl, hm, hmm, rfl, hx⟩
  · simp only [List.cons.injEq, and_true] at hcs
    subst hcs
    exact ⟨none, 0, 0, [], rfl, rfl, ⟨none, 0, rfl, by simp, fun i hi => by simp at hi⟩, fun R _ => by omega⟩
  · simp only [List.cons.injEq, and_true] at hcs
    subst hcs
    simp only [if_true] at hmm
    subst hmm
    have each : ∀ i, i < len → ∃ v : Int, W.cell? (x.add i) = some (.int .i64 v) := by
      intro i hi
      obtain ⟨h1, h2⟩ := hx i (by omega)
      obtain ⟨v, q, _, hv⟩ := DataW.trod_int (k := .i64) (by kernel_rfl) h2
      simp only [List.cons.injEq, and_true] at q
      exact ⟨v, by rw [← q]; exact h1⟩
    have hch : ∃ f : Nat → Int, ∀ i, i < len → W.cell? (x.add i) = some (.int .i64 (f i)) := by
      refine ⟨fun i => if h : i < len then Classical.choose (each i h) else 0, fun i hi => ?_⟩
      simp only [dif_pos hi]
      exact Classical.choose_spec (each i hi)
    obtain ⟨f, hfs⟩ := hch
    refine ⟨some x, len, _, (List.range len).map f, rfl, by simp, ⟨some x, _, by simp; rfl, by simpa using hl, fun i hi => ?_⟩, fun R hR => ?_⟩
    · have hi' : i < len := by simpa using hi
      have c0 := hfs i hi'
      obtain ⟨b, off, spot⟩ := x
      have hs : spot = none := by
        have hsp := World.cell?_spot (hfs 0 (by omega))
        simpa [Addr.add] using hsp
      subst hs
      have ea : ∀ o k, (⟨b, o, none⟩ : Addr).add k = ⟨b, o + k, none⟩ := fun o k => by unfold Addr.add; split <;> simp_all
      rw [ea] at c0
      have hb : b < W.heap.size := by
        rcases Nat.lt_or_ge b W.heap.size with h | h
        · exact h
        · unfold World.cell? at c0
          simp [Array.getElem?_eq_none h] at c0
      refine ⟨b, off, rfl, hb, ?_⟩
      simp only [List.getElem_map, List.getElem_range]
      exact c0
    · have := hR _ (by simp only [DataW.weights, Tryz.underlying23]; exact List.mem_cons_self)
      rw [bytesNq] at this
      simp only [List.length_map, List.length_range] at this
      omega
theorem tysTb : ∃ fs, Tryz.prog.underlying 25 = some (.struct fs) ∧ (fs.toList.map (·.type))[2]? = some 22 ∧ (fs.toList.map (·.type))[3]? = some 23 := ⟨_, Tryz.underlying25, rfl, rfl⟩
/-- What is known of a table that came in. -/
structure TbIn (W : World) (num : Int) (cv kv : Value) (cs : List CD) (ks : List Int) : Prop where
  see : SeesC W W.heap.size cv cs
  key : SeesG (Value.int .i64) W W.heap.size kv ks
  num0 : -9223372036854775808 ≤ num ∧ num ≤ 9223372036854775807
/-- A table read. -/
theorem open_table {H : Type} {enc : TypeId × Value → H} {W : World} {fuel : Nat} {cs : List Value} {x : DataW H × List MemPlace} (h : DataW.trod enc Tryz.prog W 0 (fun _ => true) true fuel 25 cs = some x) :
    ∃ (nm : ByteArray) (num : Int) (ca : Option Addr) (cn cc : Nat) (ka : Option Addr) (kn kc : Nat) (cl : List CD) (kl : List Int), cs = [.string nm, .int .i64 num, .slice ca cn cc, .slice ka kn kc] ∧ (TbIn W num (.slice ca cn cc) (.slice ka kn kc) cl kl ∧ cl.length = cn ∧ kl.length = kn) ∧ (∀ R, (∀ n ∈ x.1.weights Tryz.prog 25, n ≤ R) → cn * 32 ≤ R ∧ kn * 8 ≤ R) := by
  obtain ⟨xs, m, _, rfl, hl, hlen, hf⟩ := DataW.trod_struct Tryz.underlying25 h
  rw [cellsTb] at hl
  obtain ⟨c0, c1, c2, c3, rfl⟩ : ∃ c0 c1 c2 c3, cs = [c0, c1, c2, c3] := by
    match cs, hl with
    | [c0, c1, c2, c3], _ => exact ⟨c0, c1, c2, c3, rfl⟩
  have hlen4 : xs.length = 4 := hlen
  obtain ⟨y0, e0⟩ := some_of_ltq (i := 0) hlen4 (by omega)
  obtain ⟨y1, e1⟩ := some_of_ltq (i := 1) hlen4 (by omega)
  obtain ⟨y2, e2⟩ := some_of_ltq (i := 2) hlen4 (by omega)
  obtain ⟨y3, e3⟩ := some_of_ltq (i := 3) hlen4 (by omega)
  obtain ⟨a0, q0, _, w0⟩ := DataW.trod_string (by kernel_rfl) ((hf 0 _ rfl).trans e0)
  obtain ⟨a1, q1, _, w1⟩ := DataW.trod_int (k := .i64) (by kernel_rfl) ((hf 1 _ rfl).trans e1)
  have f2 := (hf 2 _ rfl).trans e2
  have f3 := (hf 3 _ rfl).trans e3
  change List.take (Tryz.prog.cellsOf 9) (List.drop 0 [c0, c1, c2, c3]) = _ at q0
  change List.take (Tryz.prog.cellsOf 2) (List.drop 1 [c0, c1, c2, c3]) = _ at q1
  rw [cellsSq] at q0
  rw [cellsIq] at q1
  simp at q0 q1
  subst q0 q1
  change DataW.trod enc Tryz.prog W 0 (fun _ => true) true m 22 (List.take (Tryz.prog.cellsOf 22) (List.drop 2 [.string a0, .int .i64 a1, c2, c3])) = _ at f2
  change DataW.trod enc Tryz.prog W 0 (fun _ => true) true m 23 (List.take (Tryz.prog.cellsOf 23) (List.drop 3 [.string a0, .int .i64 a1, c2, c3])) = _ at f3
  rw [cellsLc] at f2
  rw [cellsLn] at f3
  obtain ⟨ca, cn, cc, cl, rfl, d1, d2, d3⟩ := open_cols (c := c2) f2
  obtain ⟨ka, kn, kc, kl, rfl, k1, k2, k3⟩ := open_ints (c := c3) f3
  obtain ⟨fs, hu, ht2, ht3⟩ := tysTb
  refine ⟨a0, a1, ca, cn, cc, ka, kn, kc, cl, kl, rfl, ⟨⟨d2, k2, by have h1 := bounds_i64 w1; omega⟩, d1, k1⟩, fun R hR => ⟨d3 R (fun n hn => hR n ?_), k3 R (fun n hn => hR n ?_)⟩⟩
  · simp only [DataW.weights, hu]
    exact DataW.weights_mem_each ht2 (by simp [e2]) n hn
  · simp only [DataW.weights, hu]
    exact DataW.weights_mem_each ht3 (by simp [e3]) n hn
theorem tysPr : ∃ fs, Tryz.prog.underlying 28 = some (.struct fs) ∧ (fs.toList.map (·.type))[1]? = some 9 := ⟨_, Tryz.underlying28, rfl⟩
/-- A pair read. -/
theorem open_pair {H : Type} {enc : TypeId × Value → H} {W : World} {fuel : Nat} {cs : List Value} {x : DataW H × List MemPlace} (h : DataW.trod enc Tryz.prog W 0 (fun _ => true) true fuel 28 cs = some x) :
    ∃ (pk pd : ByteArray), cs = [.string pk, .string pd] ∧ (∀ R, (∀ n ∈ x.1.weights Tryz.prog 28, n ≤ R) → pd.size ≤ R) := by
  obtain ⟨xs, m, _, rfl, hl, hlen, hf⟩ := DataW.trod_struct Tryz.underlying28 h
  rw [cellsPr] at hl
  obtain ⟨c0, c1, rfl⟩ : ∃ c0 c1, cs = [c0, c1] := by
    match cs, hl with
    | [c0, c1], _ => exact ⟨c0, c1, rfl⟩
  have hlen2 : xs.length = 2 := hlen
  obtain ⟨y0, e0⟩ := some_of_ltq (i := 0) hlen2 (by omega)
  obtain ⟨y1, e1⟩ := some_of_ltq (i := 1) hlen2 (by omega)
  obtain ⟨a0, q0, _, w0⟩ := DataW.trod_string (by kernel_rfl) ((hf 0 _ rfl).trans e0)
  obtain ⟨a1, q1, rfl, w1⟩ := DataW.trod_string (by kernel_rfl) ((hf 1 _ rfl).trans e1)
  change List.take (Tryz.prog.cellsOf 9) (List.drop 0 [c0, c1]) = _ at q0
  change List.take (Tryz.prog.cellsOf 9) (List.drop 1 [c0, c1]) = _ at q1
  rw [cellsSq] at q0 q1
  simp at q0 q1
  subst q0 q1
  obtain ⟨fs, hu, ht1⟩ := tysPr
  refine ⟨a0, a1, rfl, fun R hR => ?_⟩
  have := hR a1.data.toList.length (by
    simp only [DataW.weights, hu]
    have hx : (List.map (fun x => x.fst) xs)[1]? = some (.lit (.string a1.data.toList)) := by simp [e1]
    exact DataW.weights_mem_each ht1 hx _ (by simp [DataW.weights]))
  rwa [Array.length_toList] at this
end Go.Proofs.YtjcffcpmegpjeaaGreatDoor

namespace Go.Proofs.YtjcffcpmegpjeaaGreatDoor
open Go.ChangeShapes Go.WideShapes Go.ChangeAt Go.RowKit
set_option linter.unusedVariables false
set_option maxRecDepth 100000
theorem pairs_open (nm : ByteArray) (num : Int) (ca : Option Addr) (cn cc : Nat) (ka : Option Addr) (kn kc : Nat) (cl : List CD) (kl : List Int) (pk pd : ByteArray) (W : World)
    (hx : TbIn W num (.slice ca cn cc) (.slice ka kn kc) cl kl ∧ cl.length = cn ∧ kl.length = kn) (room : cn * 32 ≤ reachBytes ∧ kn * 8 ≤ reachBytes) (hd : pd.size ≤ reachBytes) (hg : ErrTy W) :
    Calls Tryz.prog 4 #[.agg #[.string nm, .int .i64 num, .slice ca cn cc, .slice ka kn kc], .agg #[.string pk, .string pd]] W fun e w' => e = .returned (.bool true) ∧ Below W.heap.size W w' := by
  unfold reachBytes at room hd
  exact pairs_law nm num _ _ pk pd cl kl W.heap.size W (Nat.le_refl _) hx.1.see hx.1.key (by omega) (by omega) hx.1.num0 (by omega) hg
theorem rows_open (nm : ByteArray) (num : Int) (ca : Option Addr) (cn cc : Nat) (ka : Option Addr) (kn kc : Nat) (cl : List CD) (kl : List Int) (a : Option Addr) (vs : List VL) (cap : Nat) (W : World)
    (hx : TbIn W num (.slice ca cn cc) (.slice ka kn kc) cl kl ∧ cl.length = cn ∧ kl.length = kn) (room : cn * 32 ≤ reachBytes ∧ kn * 8 ≤ reachBytes)
    (sees : SeesV W W.heap.size (.slice a vs.length cap) vs) (each : ∀ v ∈ vs, v.2.2.size ≤ maxLen ∧ (Lit.int .i64 v.1).wf = true ∧ (Lit.int .i64 v.2.1).wf = true) (hg : ErrTy W) :
    Calls Tryz.prog 3 #[.agg #[.string nm, .int .i64 num, .slice ca cn cc, .slice ka kn kc], .slice a vs.length cap] W fun e w' => e = .returned (.bool true) ∧ Below W.heap.size W w' := by
  unfold reachBytes at room
  exact rows_law nm num _ _ _ cl kl vs W.heap.size W (Nat.le_refl _) hx.1.see hx.1.key sees (fun v hv => by
    obtain ⟨e1, e2, e3⟩ := each v hv
    have h3 := bounds_i64 e3
    unfold maxLen at e1
    exact ⟨by omega, by omega, by omega⟩) (by omega) (by omega) hx.1.num0 hg
end Go.Proofs.YtjcffcpmegpjeaaGreatDoor
