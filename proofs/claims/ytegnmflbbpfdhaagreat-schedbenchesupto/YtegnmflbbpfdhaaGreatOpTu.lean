import Derived.Test.YtegnmflbbpfdhaaGreatOpLit
import Derived.Test.YtegnmflbbpfdhaaGreatSk6
namespace Go.Proofs.YtegnmflbbpfdhaaGreat
open Go.ChangeShapes Go.WideShapes Go.ChangeAt Go.RowKit Go.MuLone Go.RwLone
set_option linter.unusedVariables false
set_option maxRecDepth 100000
theorem oCbo : Tryz.prog.cellsOf 4 = 1 := by kernel_rfl
theorem oCst : Tryz.prog.cellsOf 9 = 1 := by kernel_rfl
theorem oCtu : Tryz.prog.cellsOf 57 = 3 := by kernel_rfl
theorem o_three {cs : List Value} (h : cs.length = 3) : ∃ c0 c1 c2, cs = [c0, c1, c2] := by
  match cs, h with
  | [c0, c1, c2], _ => exact ⟨c0, c1, c2, rfl⟩
theorem o_threeOf {A : Type} {xs : List A} {y0 y1 y2 : A} (h : xs.length = 3) (h0 : xs[0]? = some y0) (h1 : xs[1]? = some y1) (h2 : xs[2]? = some y2) : xs = [y0, y1, y2] := by
  match xs, h with
  | [a, b, c], _ => simp at h0 h1 h2; rw [h0, h1, h2]
section
variable {H : Type} {enc : TypeId × Value → H} {W : World}
theorem o_turn (fuel : Nat) (c : List Value) (y : DataW H × List MemPlace) (h : DataW.trod enc Tryz.prog W 0 (fun _ => true) true fuel 57 c = some y) : ∃ a : Tu, c = tuC a ∧ True ∧ a.2.2.size + 1 ≤ Rows.uptoBulk y.1 := by
  obtain ⟨xs, m, _, rfl, hl, hlen, hf⟩ := DataW.trod_struct Tryz.underlying57 h
  rw [oCtu] at hl
  obtain ⟨c0, c1, c2, rfl⟩ := o_three hl
  have hlen3 : xs.length = 3 := hlen
  obtain ⟨y0, e0⟩ := o_some (i := 0) hlen3 (by omega)
  obtain ⟨y1, e1⟩ := o_some (i := 1) hlen3 (by omega)
  obtain ⟨y2, e2⟩ := o_some (i := 2) hlen3 (by omega)
  have f0 := (hf 0 _ rfl).trans e0
  have f1 := (hf 1 _ rfl).trans e1
  have f2 := (hf 2 _ rfl).trans e2
  obtain ⟨a0, q0, r0⟩ := DataW.trod_bool (by kernel_rfl) f0
  obtain ⟨a1, q1, r1⟩ := DataW.trod_bool (by kernel_rfl) f1
  obtain ⟨a2, q2, r2, _⟩ := DataW.trod_string (by kernel_rfl) f2
  change List.take (Tryz.prog.cellsOf 4) (List.drop 0 [c0, c1, c2]) = _ at q0
  change List.take (Tryz.prog.cellsOf 4) (List.drop 1 [c0, c1, c2]) = _ at q1
  change List.take (Tryz.prog.cellsOf 9) (List.drop 2 [c0, c1, c2]) = _ at q2
  rw [oCbo] at q0 q1
  rw [oCst] at q2
  simp at q0 q1 q2
  subst q0 q1 q2
  refine ⟨(a0, a1, a2), rfl, trivial, ?_⟩
  rw [o_threeOf hlen3 e0 e1 e2, r0, r1, r2]
  simp only [List.map_cons, List.map_nil, Rows.uptoBulk, Rows.uptoBulkAll]
  have : a2.data.toList.length = a2.size := Array.length_toList
  omega
theorem open_turns {fuel : Nat} {a : Option Addr} {len cap : Nat} {x : DataW H × List MemPlace} (hf : DataW.trod enc Tryz.prog W 0 (fun _ => true) true fuel 44 [.slice a len cap] = some x) (hb : Rows.uptoBulk x.1 ≤ 1048576) :
    ∃ us, len = us.length ∧ InG tuC W W.heap.size (.slice a us.length cap) us ∧ us.length ≤ 1048576 ∧ ∀ t ∈ us, t.2.2.size ≤ 1048576 := by
  obtain ⟨v, us, e1, e2, e3, e4⟩ := open_list (W := W) tuC (fun t => t.2.2.size + 1) (fun _ => True) Tryz.underlying44 oCtu (fun _ => rfl) (by omega) (fun f c y h => o_turn f c y h) hf
  have ev : v = .slice a len cap := by injection e1 with e1 _; exact e1.symm
  subst ev
  obtain ⟨a', cap', e5⟩ := e2.form
  injection e5 with e5 e6 e7
  subst e6
  have hl := o_len (fun t : Tu => t.2.2.size + 1) (fun q => by omega) us
  refine ⟨us, rfl, e2, by omega, fun t ht => ?_⟩
  have := o_mem (fun t : Tu => t.2.2.size + 1) us t ht
  omega
theorem benches_open {f0 f1 f2 : Nat} {c0 c1 : Array Value} {a : Option Addr} {len cap : Nat} {x0 x1 x2 : DataW H × List MemPlace} (h0 : DataW.trod enc Tryz.prog W 0 (fun _ => true) true f0 27 c0.toList = some x0) (h1 : DataW.trod enc Tryz.prog W 0 (fun _ => true) true f1 27 c1.toList = some x1) (h2 : DataW.trod enc Tryz.prog W 0 (fun _ => true) true f2 44 [.slice a len cap] = some x2) (b0 : Rows.uptoBulk x0.1 ≤ 1048576) (b1 : Rows.uptoBulk x1.1 ≤ 1048576) (b2 : Rows.uptoBulk x2.1 ≤ 1048576) :
    Calls Tryz.prog 5 #[.agg c0, .agg c1, .slice a len cap] W fun e w' => e = .returned (.bool true) ∧ Below W.heap.size W w' := by
  obtain ⟨ca, cc, ta, tc, tv, cs, ts, e0, g0, p0, q0, r0, s0, t0⟩ := open_lit h0 b0
  obtain ⟨da, dc, ea, ec, ev, ds, es, e1, g1, p1, q1, r1, s1, t1⟩ := open_lit h1 b1
  obtain ⟨us, rfl, u1, u2, u3⟩ := open_turns h2 b2
  obtain rfl : c0 = litC ca cs.length cc ta ts.length tc := by cases c0; simp_all
  obtain rfl : c1 = litC da ds.length dc ea es.length ec := by cases c1; simp_all
  exact benches_walk W W.heap.size ca cc ta tc tv cs ts g0 p0 q0 r0 s0 t0 da dc ea ec ev ds es g1 p1 q1 r1 s1 t1 a cap us u1 u2 u3 (Nat.le_refl _)
end
end Go.Proofs.YtegnmflbbpfdhaaGreat
