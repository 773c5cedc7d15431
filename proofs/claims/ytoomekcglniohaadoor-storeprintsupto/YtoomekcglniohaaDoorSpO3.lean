import Derived.Test.YtoomekcglniohaaDoorSpO2
namespace Go.Proofs.YtoomekcglniohaaDoor
open Go.ChangeShapes Go.WideShapes Go.ChangeAt Go.RowKit
set_option linter.unusedVariables false
set_option maxRecDepth 100000
theorem len_six {cs : List Value} (h : cs.length = 6) : ∃ c0 c1 c2 c3 c4 c5, cs = [c0, c1, c2, c3, c4, c5] := by
  match cs, h with
  | [c0, c1, c2, c3, c4, c5], _ => exact ⟨c0, c1, c2, c3, c4, c5, rfl⟩
theorem six_of {A : Type} {xs : List A} {y0 y1 y2 y3 y4 y5 : A} (h : xs.length = 6) (h0 : xs[0]? = some y0) (h1 : xs[1]? = some y1) (h2 : xs[2]? = some y2) (h3 : xs[3]? = some y3) (h4 : xs[4]? = some y4) (h5 : xs[5]? = some y5) : xs = [y0, y1, y2, y3, y4, y5] := by
  match xs, h with
  | [a, b, c, d, e, f], _ => simp at h0 h1 h2 h3 h4 h5; rw [h0, h1, h2, h3, h4, h5]
theorem len_eleven {cs : List Value} (h : cs.length = 11) : ∃ c0 c1 c2 c3 c4 c5 c6 c7 c8 c9 c10, cs = [c0, c1, c2, c3, c4, c5, c6, c7, c8, c9, c10] := by
  match cs, h with
  | [c0, c1, c2, c3, c4, c5, c6, c7, c8, c9, c10], _ => exact ⟨c0, c1, c2, c3, c4, c5, c6, c7, c8, c9, c10, rfl⟩
section
variable {H : Type} {enc : TypeId × Value → H} {W : World}
/-- A result read. -/
theorem open_res {fuel : Nat} {c : List Value} {y : DataW H × List MemPlace} (h : DataW.trod enc Tryd.prog W 0 (fun _ => true) true fuel 29 c = some y) :
    ∃ (rc cn st fi : Int) (vn vr : Value) (ns : List ByteArray) (qs : List (Value × List VL)), c = [.int .i64 rc, vn, vr, .int .i64 cn, .int .u64 st, .int .i64 fi] ∧ I64 cn ∧ (0 ≤ st ∧ st ≤ 18446744073709551615) ∧ InG cS W W.heap.size vn ns ∧ InG cL W W.heap.size vr qs ∧ (∀ q ∈ qs, InG cV W W.heap.size q.1 q.2 ∧ ∀ v ∈ q.2, I64 v.2.1) ∧ (ns.map mS).sum + (qs.map fun q => mL q.2).sum + 7 ≤ Rows.uptoBulk y.1 := by
  obtain ⟨xs, m, _, rfl, hl, hlen, hf⟩ := DataW.trod_struct Tryd.underlying29 h
  rw [cellsRes] at hl
  obtain ⟨c0, c1, c2, c3, c4, c5, rfl⟩ := len_six hl
  have hlen6 : xs.length = 6 := hlen
  obtain ⟨y0, e0⟩ := some_lt (i := 0) hlen6 (by omega)
  obtain ⟨y1, e1⟩ := some_lt (i := 1) hlen6 (by omega)
  obtain ⟨y2, e2⟩ := some_lt (i := 2) hlen6 (by omega)
  obtain ⟨y3, e3⟩ := some_lt (i := 3) hlen6 (by omega)
  obtain ⟨y4, e4⟩ := some_lt (i := 4) hlen6 (by omega)
  obtain ⟨y5, e5⟩ := some_lt (i := 5) hlen6 (by omega)
  have f0 := (hf 0 _ rfl).trans e0
  have f1 := (hf 1 _ rfl).trans e1
  have f2 := (hf 2 _ rfl).trans e2
  have f3 := (hf 3 _ rfl).trans e3
  have f4 := (hf 4 _ rfl).trans e4
  have f5 := (hf 5 _ rfl).trans e5
  obtain ⟨a0, q0, r0, w0⟩ := DataW.trod_int (k := .i64) (by kernel_rfl) f0
  obtain ⟨vn, ns, q1, i1, _, b1⟩ := open_list (W := W) cS mS (fun _ => True) Tryd.underlying25 cellsStr (fun _ => rfl) (by omega) (fun f c y h => each_str f c y h) f1
  obtain ⟨vr, qs, q2, i2, k2, b2⟩ := open_list (W := W) cL (fun q => mL q.2) (fun q => InG cV W W.heap.size q.1 q.2 ∧ ∀ v ∈ q.2, I64 v.2.1) Tryd.underlying26 cellsLv (fun _ => rfl) (by omega) (fun f c y h => each_row f c y h) f2
  obtain ⟨a3, q3, r3, w3⟩ := DataW.trod_int (k := .i64) (by kernel_rfl) f3
  obtain ⟨a4, q4, r4, w4⟩ := DataW.trod_int (k := .u64) (by kernel_rfl) f4
  obtain ⟨a5, q5, r5, w5⟩ := DataW.trod_int (k := .i64) (by kernel_rfl) f5
  change List.take (Tryd.prog.cellsOf 24) (List.drop 0 [c0, c1, c2, c3, c4, c5]) = _ at q0
  change List.take (Tryd.prog.cellsOf 25) (List.drop 1 [c0, c1, c2, c3, c4, c5]) = _ at q1
  change List.take (Tryd.prog.cellsOf 26) (List.drop 2 [c0, c1, c2, c3, c4, c5]) = _ at q2
  change List.take (Tryd.prog.cellsOf 3) (List.drop 3 [c0, c1, c2, c3, c4, c5]) = _ at q3
  change List.take (Tryd.prog.cellsOf 27) (List.drop 4 [c0, c1, c2, c3, c4, c5]) = _ at q4
  change List.take (Tryd.prog.cellsOf 3) (List.drop 5 [c0, c1, c2, c3, c4, c5]) = _ at q5
  rw [cellsErr] at q0
  rw [cellsLs] at q1
  rw [cellsLl] at q2
  rw [cellsInt] at q3 q5
  rw [cellsU64] at q4
  simp at q0 q1 q2 q3 q4 q5
  subst q0 q1 q2 q3 q4 q5
  refine ⟨a0, a3, a4, a5, _, _, ns, qs, rfl, bounds_i64 w3, bounds_u64 w4, i1, i2, k2, ?_⟩
  rw [six_of hlen6 e0 e1 e2 e3 e4 e5, r0, r3, r4, r5]
  simp only [List.map_cons, List.map_nil, Rows.uptoBulk, Rows.uptoBulkAll]
  omega
/-- A reply read. -/
theorem each_rep (fuel : Nat) (c : List Value) (y : DataW H × List MemPlace) (h : DataW.trod enc Tryd.prog W 0 (fun _ => true) true fuel 32 c = some y) :
    ∃ p : RPV, c = cR p ∧ (RpSee W W.heap.size p ∧ RB p.1) ∧ mR p.1 ≤ Rows.uptoBulk y.1 := by
  obtain ⟨xs, m, _, rfl, hl, hlen, hf⟩ := DataW.trod_struct Tryd.underlying32 h
  rw [cellsRep] at hl
  obtain ⟨c0, c1, c2, c3, c4, c5, c6, c7, c8, c9, c10, rfl⟩ := len_eleven hl
  have hlen6 : xs.length = 6 := hlen
  obtain ⟨y0, e0⟩ := some_lt (i := 0) hlen6 (by omega)
  obtain ⟨y1, e1⟩ := some_lt (i := 1) hlen6 (by omega)
  obtain ⟨y2, e2⟩ := some_lt (i := 2) hlen6 (by omega)
  obtain ⟨y3, e3⟩ := some_lt (i := 3) hlen6 (by omega)
  obtain ⟨y4, e4⟩ := some_lt (i := 4) hlen6 (by omega)
  obtain ⟨y5, e5⟩ := some_lt (i := 5) hlen6 (by omega)
  have f0 := (hf 0 _ rfl).trans e0
  have f1 := (hf 1 _ rfl).trans e1
  have f2 := (hf 2 _ rfl).trans e2
  have f3 := (hf 3 _ rfl).trans e3
  have f4 := (hf 4 _ rfl).trans e4
  have f5 := (hf 5 _ rfl).trans e5
  obtain ⟨a0, q0, r0, w0⟩ := DataW.trod_int (k := .i64) (by kernel_rfl) f0
  obtain ⟨a1, q1, r1, w1⟩ := DataW.trod_int (k := .i64) (by kernel_rfl) f1
  obtain ⟨a2, q2, r2, w2⟩ := DataW.trod_int (k := .i64) (by kernel_rfl) f2
  obtain ⟨a3, q3, r3, w3⟩ := DataW.trod_int (k := .i64) (by kernel_rfl) f3
  obtain ⟨rc, cn, st, fi, vn, vr, ns, qs, q4, hcn, hst, i1, i2, k2, b4⟩ := open_res f4
  obtain ⟨vm, ms, q5, i5, k5, b5⟩ := open_list (W := W) cI mI I64 Tryd.underlying30 cellsInt (fun _ => rfl) (by omega) (fun f c y h => each_int f c y h) f5
  change List.take (Tryd.prog.cellsOf 3) (List.drop 0 [c0, c1, c2, c3, c4, c5, c6, c7, c8, c9, c10]) = _ at q0
  change List.take (Tryd.prog.cellsOf 3) (List.drop 1 [c0, c1, c2, c3, c4, c5, c6, c7, c8, c9, c10]) = _ at q1
  change List.take (Tryd.prog.cellsOf 3) (List.drop 2 [c0, c1, c2, c3, c4, c5, c6, c7, c8, c9, c10]) = _ at q2
  change List.take (Tryd.prog.cellsOf 24) (List.drop 3 [c0, c1, c2, c3, c4, c5, c6, c7, c8, c9, c10]) = _ at q3
  change List.take (Tryd.prog.cellsOf 29) (List.drop 4 [c0, c1, c2, c3, c4, c5, c6, c7, c8, c9, c10]) = _ at q4
  change List.take (Tryd.prog.cellsOf 30) (List.drop 10 [c0, c1, c2, c3, c4, c5, c6, c7, c8, c9, c10]) = _ at q5
  rw [cellsInt] at q0 q1 q2
  rw [cellsErr] at q3
  rw [cellsRes] at q4
  rw [cellsLi] at q5
  simp at q0 q1 q2 q3 q4 q5
  obtain ⟨g0, g1, g2, g3, g4, g5⟩ := q4
  subst q0 q1 q2 q3 q5 g0 g1 g2 g3 g4 g5
  refine ⟨(⟨a0, a1, a2, a3, rc, ns, qs.map (·.2), cn, st, fi, ms⟩, _, _, _), rfl, ⟨⟨i1, ⟨qs, rfl, i2, fun q hq => (k2 q hq).1⟩, i5⟩, ⟨bounds_i64 w0, bounds_i64 w2, bounds_i64 w3, hcn, hst, k5, fun row hrow => ?_⟩⟩, ?_⟩
  · obtain ⟨q, hq, rfl⟩ := List.mem_map.1 hrow
    exact (k2 q hq).2
  · rw [six_of hlen6 e0 e1 e2 e3 e4 e5, r0, r1, r2, r3]
    simp only [List.map_cons, List.map_nil, Rows.uptoBulk, Rows.uptoBulkAll]
    unfold mR
    simp only [List.map_map]
    have e : (qs.map (mL ∘ fun x => x.2)).sum = (qs.map fun q => mL q.2).sum := rfl
    rw [e]
    omega
/-- The law at a list of replies that was read. -/
theorem prints_open {fuel : Nat} {v : Value} {x : DataW H × List MemPlace} (hf : DataW.trod enc Tryd.prog W 0 (fun _ => true) true fuel 22 [v] = some x) (hk : Rows.uptoBulk x.1 ≤ 1048576) (hg : GW W) :
    Calls Tryd.prog 3 #[v] W fun e w' => e = .returned (.bool true) ∧ Below W.heap.size W w' := by
  obtain ⟨u, ps, e1, e2, e3, e4⟩ := open_list (W := W) cR (fun p => mR p.1) (fun p => RpSee W W.heap.size p ∧ RB p.1) Tryd.underlying22 cellsRep (fun _ => rfl) (by omega) (fun f c y h => each_rep f c y h) hf
  obtain rfl : v = u := by simpa using e1
  have hone : ∀ p ∈ ps, ROK p.1 := fun p hp => (e3 p hp).2.ok (by have := sum_mem (fun p : RPV => mR p.1) ps p hp; omega)
  have hl : ps.length ≤ 1048576 := by
    have := sum_len (fun p : RPV => mR p.1) ps (fun p _ => by show 1 ≤ mR p.1; unfold mR; omega)
    omega
  have hp : (printL (ps.map (·.1))).length ≤ 70368744177664 := by
    have := print_len (ps.map (·.1)) (fun r hr => by obtain ⟨p, hp, rfl⟩ := List.mem_map.1 hr; exact hone p hp)
    rw [List.map_map] at this
    have e : (ps.map (mR ∘ fun x => x.1)).sum = (ps.map fun p => mR p.1).sum := rfl
    rw [e] at this
    omega
  exact prints_walk v ps W e2 (fun p hp => (e3 p hp).1) hl hone hp hg
end
end Go.Proofs.YtoomekcglniohaaDoor
