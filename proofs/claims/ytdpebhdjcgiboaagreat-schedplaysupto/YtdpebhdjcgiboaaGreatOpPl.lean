import Derived.Test.YtdpebhdjcgiboaaGreatOpLit
import Derived.Test.YtdpebhdjcgiboaaGreatSmg
namespace Go.Proofs.YtdpebhdjcgiboaaGreat
open Go.ChangeShapes Go.WideShapes Go.ChangeAt Go.RowKit Go.MuLone Go.RwLone
set_option linter.unusedVariables false
set_option maxRecDepth 100000
theorem oCpk : Tryz.prog.cellsOf 110 = 3 := by kernel_rfl
theorem oClp : Tryz.prog.cellsOf 26 = 1 := by kernel_rfl
theorem oCln : Tryz.prog.cellsOf 91 = 1 := by kernel_rfl
theorem oCop : Tryz.prog.cellsOf 93 = 6 := by kernel_rfl
theorem o_three {cs : List Value} (h : cs.length = 3) : ∃ c0 c1 c2, cs = [c0, c1, c2] := by
  match cs, h with
  | [c0, c1, c2], _ => exact ⟨c0, c1, c2, rfl⟩
theorem o_six {cs : List Value} (h : cs.length = 6) : ∃ c0 c1 c2 c3 c4 c5, cs = [c0, c1, c2, c3, c4, c5] := by
  match cs, h with
  | [c0, c1, c2, c3, c4, c5], _ => exact ⟨c0, c1, c2, c3, c4, c5, rfl⟩
theorem o_sixOf {A : Type} {xs : List A} {y0 y1 y2 y3 y4 y5 : A} (h : xs.length = 6) (h0 : xs[0]? = some y0) (h1 : xs[1]? = some y1) (h2 : xs[2]? = some y2) (h3 : xs[3]? = some y3) (h4 : xs[4]? = some y4) (h5 : xs[5]? = some y5) : xs = [y0, y1, y2, y3, y4, y5] := by
  match xs, h with
  | [a, b, c, d, e, f], _ => simp at h0 h1 h2 h3 h4 h5; rw [h0, h1, h2, h3, h4, h5]
section
variable {H : Type} {enc : TypeId × Value → H} {W : World}
theorem o_int (fuel : Nat) (c : List Value) (y : DataW H × List MemPlace) (h : DataW.trod enc Tryz.prog W 0 (fun _ => true) true fuel 3 c = some y) : ∃ a : Int, c = inZ a ∧ True ∧ 1 ≤ Rows.uptoBulk y.1 := by
  obtain ⟨s, e1, rfl, hw⟩ := DataW.trod_int (k := .i64) (by kernel_rfl) h
  exact ⟨s, e1, trivial, o_one _⟩
theorem o_pick (fuel : Nat) (c : List Value) (y : DataW H × List MemPlace) (h : DataW.trod enc Tryz.prog W 0 (fun _ => true) true fuel 110 c = some y) : ∃ a : Int × Int × Int, c = pkC a ∧ a.2.2 ≤ 9223372036854775807 ∧ 1 ≤ Rows.uptoBulk y.1 := by
  obtain ⟨xs, m, _, rfl, hl, hlen, hf⟩ := DataW.trod_struct Tryz.underlying110 h
  rw [oCpk] at hl
  obtain ⟨c0, c1, c2, rfl⟩ := o_three hl
  have hlen3 : xs.length = 3 := hlen
  obtain ⟨y0, e0⟩ := o_some (i := 0) hlen3 (by omega)
  obtain ⟨y1, e1⟩ := o_some (i := 1) hlen3 (by omega)
  obtain ⟨y2, e2⟩ := o_some (i := 2) hlen3 (by omega)
  obtain ⟨a0, q0, r0, w0⟩ := DataW.trod_int (k := .i64) (by kernel_rfl) ((hf 0 _ rfl).trans e0)
  obtain ⟨a1, q1, r1, w1⟩ := DataW.trod_int (k := .i64) (by kernel_rfl) ((hf 1 _ rfl).trans e1)
  obtain ⟨a2, q2, r2, w2⟩ := DataW.trod_int (k := .i64) (by kernel_rfl) ((hf 2 _ rfl).trans e2)
  change List.take (Tryz.prog.cellsOf 3) (List.drop 0 [c0, c1, c2]) = _ at q0
  change List.take (Tryz.prog.cellsOf 3) (List.drop 1 [c0, c1, c2]) = _ at q1
  change List.take (Tryz.prog.cellsOf 3) (List.drop 2 [c0, c1, c2]) = _ at q2
  rw [oCint] at q0 q1 q2
  simp at q0 q1 q2
  subst q0 q1 q2
  exact ⟨(a0, a1, a2), rfl, (bounds_i64 w2).2, o_one _⟩
theorem o_op (fuel : Nat) (c : List Value) (y : DataW H × List MemPlace) (h : DataW.trod enc Tryz.prog W 0 (fun _ => true) true fuel 93 c = some y) : ∃ o : Opx, c = opL o ∧ (InG pkC W W.heap.size o.pv o.vs ∧ InG inZ W W.heap.size o.mv o.ks ∧ o.nn ≤ 9223372036854775807 ∧ ∀ p ∈ o.vs, p.2.2 ≤ 9223372036854775807) ∧ o.vs.length + o.ks.length + 1 ≤ Rows.uptoBulk y.1 := by
  obtain ⟨xs, m, _, rfl, hl, hlen, hf⟩ := DataW.trod_struct Tryz.underlying93 h
  rw [oCop] at hl
  obtain ⟨c0, c1, c2, c3, c4, c5, rfl⟩ := o_six hl
  have hlen6 : xs.length = 6 := hlen
  obtain ⟨y0, e0⟩ := o_some (i := 0) hlen6 (by omega)
  obtain ⟨y1, e1⟩ := o_some (i := 1) hlen6 (by omega)
  obtain ⟨y2, e2⟩ := o_some (i := 2) hlen6 (by omega)
  obtain ⟨y3, e3⟩ := o_some (i := 3) hlen6 (by omega)
  obtain ⟨y4, e4⟩ := o_some (i := 4) hlen6 (by omega)
  obtain ⟨y5, e5⟩ := o_some (i := 5) hlen6 (by omega)
  obtain ⟨a0, q0, r0, w0⟩ := DataW.trod_int (k := .i64) (by kernel_rfl) ((hf 0 _ rfl).trans e0)
  obtain ⟨a1, q1, r1, w1⟩ := DataW.trod_int (k := .i64) (by kernel_rfl) ((hf 1 _ rfl).trans e1)
  obtain ⟨a2, q2, r2, w2⟩ := DataW.trod_int (k := .i64) (by kernel_rfl) ((hf 2 _ rfl).trans e2)
  obtain ⟨a3, q3, r3, w3⟩ := DataW.trod_int (k := .i64) (by kernel_rfl) ((hf 3 _ rfl).trans e3)
  obtain ⟨v4, vs, q4, i4, b4, s4⟩ := open_list (W := W) pkC (fun _ => 1) (fun p => p.2.2 ≤ 9223372036854775807) Tryz.underlying26 oCpk (fun _ => rfl) (by omega) (fun f c y h => o_pick f c y h) ((hf 4 _ rfl).trans e4)
  obtain ⟨v5, ks, q5, i5, b5, s5⟩ := open_list (W := W) inZ (fun _ => 1) (fun _ => True) Tryz.underlying91 oCint (fun _ => rfl) (by omega) (fun f c y h => o_int f c y h) ((hf 5 _ rfl).trans e5)
  change List.take (Tryz.prog.cellsOf 3) (List.drop 0 [c0, c1, c2, c3, c4, c5]) = _ at q0
  change List.take (Tryz.prog.cellsOf 3) (List.drop 1 [c0, c1, c2, c3, c4, c5]) = _ at q1
  change List.take (Tryz.prog.cellsOf 3) (List.drop 2 [c0, c1, c2, c3, c4, c5]) = _ at q2
  change List.take (Tryz.prog.cellsOf 3) (List.drop 3 [c0, c1, c2, c3, c4, c5]) = _ at q3
  change List.take (Tryz.prog.cellsOf 26) (List.drop 4 [c0, c1, c2, c3, c4, c5]) = _ at q4
  change List.take (Tryz.prog.cellsOf 91) (List.drop 5 [c0, c1, c2, c3, c4, c5]) = _ at q5
  rw [oCint] at q0 q1 q2 q3
  rw [oClp] at q4
  rw [oCln] at q5
  simp at q0 q1 q2 q3 q4 q5
  subst q0 q1 q2 q3 q4 q5
  rw [o_ones] at s4 s5
  refine ⟨⟨a0, a1, a2, a3, c4, vs, c5, ks⟩, rfl, ⟨i4, i5, (bounds_i64 w3).2, b4⟩, ?_⟩
  rw [o_sixOf hlen6 e0 e1 e2 e3 e4 e5]
  simp only [List.map_cons, List.map_nil, Rows.uptoBulk, Rows.uptoBulkAll]
  omega
theorem open_ops {fuel : Nat} {a : Option Addr} {len cap : Nat} {x : DataW H × List MemPlace} (hf : DataW.trod enc Tryz.prog W 0 (fun _ => true) true fuel 69 [.slice a len cap] = some x) (hb : Rows.uptoBulk x.1 ≤ 1048576) :
    ∃ us, len = us.length ∧ InG opL W W.heap.size (.slice a us.length cap) us ∧ us.length ≤ 1048576 ∧ ∀ o ∈ us, OpOk W W.heap.size o := by
  obtain ⟨v, us, e1, e2, e3, e4⟩ := open_list (W := W) opL (fun o => o.vs.length + o.ks.length + 1) (fun o => InG pkC W W.heap.size o.pv o.vs ∧ InG inZ W W.heap.size o.mv o.ks ∧ o.nn ≤ 9223372036854775807 ∧ ∀ p ∈ o.vs, p.2.2 ≤ 9223372036854775807) Tryz.underlying69 oCop (fun _ => rfl) (by omega) (fun f c y h => o_op f c y h) hf
  have ev : v = .slice a len cap := by injection e1 with e1 _; exact e1.symm
  subst ev
  obtain ⟨a', cap', e5⟩ := e2.form
  injection e5 with e5 e6 e7
  subst e6
  have hl := o_len (fun o : Opx => o.vs.length + o.ks.length + 1) (fun q => by omega) us
  refine ⟨us, rfl, e2, by omega, fun o ho => ?_⟩
  have := o_mem (fun o : Opx => o.vs.length + o.ks.length + 1) us o ho
  obtain ⟨h1, h2, h3, h4⟩ := e3 o ho
  exact ⟨h1, h2, by omega, by omega, h3, h4⟩
theorem plays_open {f1 f2 : Nat} {c1 : Array Value} {a : Option Addr} {len cap : Nat} {x1 x2 : DataW H × List MemPlace} (h1 : DataW.trod enc Tryz.prog W 0 (fun _ => true) true f1 49 c1.toList = some x1) (h2 : DataW.trod enc Tryz.prog W 0 (fun _ => true) true f2 69 [.slice a len cap] = some x2) (b1 : Rows.uptoBulk x1.1 ≤ 1048576) (b2 : Rows.uptoBulk x2.1 ≤ 1048576) (x : Int) :
    Calls Tryz.prog 7 #[.int .i64 x, .agg c1, .slice a len cap] W fun e w' => e = .returned (.bool true) ∧ Below W.heap.size W w' := by
  obtain ⟨ca, cc, ta, tc, tv, cs, ts, e0, g0, p0, q0, r0, s0, t0⟩ := open_lit h1 b1
  obtain ⟨us, rfl, u1, u2, u3⟩ := open_ops h2 b2
  obtain rfl : c1 = litC ca cs.length cc ta ts.length tc := by cases c1; simp_all
  exact plays_walk W W.heap.size ca cc ta tc tv cs ts g0 p0 q0 r0 s0 t0 x a cap us u1 u2 u3 (Nat.le_refl _)
end
end Go.Proofs.YtdpebhdjcgiboaaGreat
