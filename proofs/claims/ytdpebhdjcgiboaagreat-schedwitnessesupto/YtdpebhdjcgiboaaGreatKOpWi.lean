import Derived.Test.YtdpebhdjcgiboaaGreatKOpLit
import Derived.Test.YtdpebhdjcgiboaaGreatKSqL
namespace Go.Proofs.YtdpebhdjcgiboaaGreat
open Go.ChangeShapes Go.WideShapes Go.ChangeAt Go.RowKit Go.MuLone Go.RwLone
set_option linter.unusedVariables false
set_option maxRecDepth 100000
theorem oCout : Tryz.prog.cellsOf 51 = 2 := by kernel_rfl
section
variable {H : Type} {enc : TypeId × Value → H} {W : World}
/-- An outcome read. -/
theorem open_out {fuel : Nat} {c : List Value} {x : DataW H × List MemPlace} (h : DataW.trod enc Tryz.prog W 0 (fun _ => true) true fuel 51 c = some x) (hb : Rows.uptoBulk x.1 ≤ 1048576) :
    ∃ (a1 : Option Addr) (d1 : Nat) (a2 : Option Addr) (d2 : Nat) (X Y : List Int), c = [.slice a1 X.length d1, .slice a2 Y.length d2] ∧ InG wdC W W.heap.size (.slice a1 X.length d1) X ∧ InG wdC W W.heap.size (.slice a2 Y.length d2) Y ∧ X.length ≤ 1048576 ∧ Y.length ≤ 1048576 := by
  obtain ⟨xs, m, _, rfl, hl, hlen, hf⟩ := DataW.trod_struct Tryz.underlying51 h
  rw [oCout] at hl
  obtain ⟨c0, c1, rfl⟩ := o_two hl
  have hlen2 : xs.length = 2 := hlen
  obtain ⟨y0, e0⟩ := o_some (i := 0) hlen2 (by omega)
  obtain ⟨y1, e1⟩ := o_some (i := 1) hlen2 (by omega)
  have f0 := (hf 0 _ rfl).trans e0
  have f1 := (hf 1 _ rfl).trans e1
  obtain ⟨v0, X, q0, i0, k0, b0⟩ := open_list (W := W) wdC (fun _ => 1) (fun x => 0 ≤ x ∧ x < 18446744073709551616) Tryz.underlying46 oCu64 (fun _ => rfl) (by omega) (fun f c y h => o_u64 f c y h) f0
  obtain ⟨v1, Y, q1, i1, k1, b1⟩ := open_list (W := W) wdC (fun _ => 1) (fun x => 0 ≤ x ∧ x < 18446744073709551616) Tryz.underlying46 oCu64 (fun _ => rfl) (by omega) (fun f c y h => o_u64 f c y h) f1
  change List.take (Tryz.prog.cellsOf 46) (List.drop 0 [c0, c1]) = _ at q0
  change List.take (Tryz.prog.cellsOf 46) (List.drop 1 [c0, c1]) = _ at q1
  rw [oClu] at q0 q1
  simp at q0 q1
  subst q0 q1
  have hb2 : Rows.uptoBulk y0.1 + Rows.uptoBulk y1.1 ≤ 1048576 := by
    rw [o_twoOf hlen2 e0 e1] at hb
    simp only [List.map_cons, List.map_nil, Rows.uptoBulk, Rows.uptoBulkAll] at hb
    omega
  rw [o_ones] at b0 b1
  obtain ⟨a1, d1, ec⟩ := i0.form
  obtain ⟨a2, d2, et⟩ := i1.form
  subst ec et
  exact ⟨a1, d1, a2, d2, X, Y, rfl, i0, i1, by omega, by omega⟩
theorem witnesses_open {f0 f1 : Nat} {c0 c1 : Array Value} {x0 x1 : DataW H × List MemPlace} (h0 : DataW.trod enc Tryz.prog W 0 (fun _ => true) true f0 49 c0.toList = some x0) (h1 : DataW.trod enc Tryz.prog W 0 (fun _ => true) true f1 51 c1.toList = some x1) (b0 : Rows.uptoBulk x0.1 ≤ 1048576) (b1 : Rows.uptoBulk x1.1 ≤ 1048576) :
    Calls Tryz.prog 5 #[.agg c0, .agg c1] W fun e w' => e = .returned (.bool true) ∧ Below W.heap.size W w' := by
  obtain ⟨ca, cc, ta, tc, tv, cs, ts, e0, g0, p0, q0, r0, s0, t0⟩ := open_lit h0 b0
  obtain ⟨a1, d1, a2, d2, X, Y, e1, i1, i2, lx, ly⟩ := open_out h1 b1
  obtain rfl : c0 = litC ca cs.length cc ta ts.length tc := by cases c0; simp_all
  obtain rfl : c1 = #[.slice a1 X.length d1, .slice a2 Y.length d2] := by cases c1; simp_all
  exact witnesses_walk W W.heap.size ca cc ta tc tv cs ts g0 (Nat.le_refl _) p0 q0 r0 s0 t0 a1 d1 a2 d2 X Y i1 i2 lx ly
end
end Go.Proofs.YtdpebhdjcgiboaaGreat
