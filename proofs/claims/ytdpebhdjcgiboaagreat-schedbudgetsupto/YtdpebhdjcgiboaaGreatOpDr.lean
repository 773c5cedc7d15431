import Derived.Test.YtdpebhdjcgiboaaGreatOpLit
import Derived.Test.YtdpebhdjcgiboaaGreatSn7
namespace Go.Proofs.YtdpebhdjcgiboaaGreat
open Go.ChangeShapes Go.WideShapes Go.ChangeAt Go.RowKit Go.MuLone Go.RwLone
set_option linter.unusedVariables false
set_option maxRecDepth 100000
theorem oCjb : Tryz.prog.cellsOf 101 = 3 := by kernel_rfl
theorem o_trip {cs : List Value} (h : cs.length = 3) : ∃ c0 c1 c2, cs = [c0, c1, c2] := by
  match cs, h with
  | [c0, c1, c2], _ => exact ⟨c0, c1, c2, rfl⟩
section
variable {H : Type} {enc : TypeId × Value → H} {W : World}
theorem o_job (fuel : Nat) (c : List Value) (y : DataW H × List MemPlace) (h : DataW.trod enc Tryz.prog W 0 (fun _ => true) true fuel 101 c = some y) : ∃ a : Int × Int × Int, c = pkC a ∧ (-9223372036854775808 ≤ a.2.1 ∧ a.2.1 ≤ 9223372036854775807) ∧ 1 ≤ Rows.uptoBulk y.1 := by
  obtain ⟨xs, m, _, rfl, hl, hlen, hf⟩ := DataW.trod_struct Tryz.underlying101 h
  rw [oCjb] at hl
  obtain ⟨c0, c1, c2, rfl⟩ := o_trip hl
  have hlen3 : xs.length = 3 := hlen
  obtain ⟨y0, e0⟩ := o_some (i := 0) hlen3 (by omega)
  obtain ⟨y1, e1⟩ := o_some (i := 1) hlen3 (by omega)
  obtain ⟨y2, e2⟩ := o_some (i := 2) hlen3 (by omega)
  obtain ⟨a0, q0, r0, w0⟩ := DataW.trod_int (k := .i64) (by kernel_rfl) ((hf 0 _ rfl).trans e0)
  obtain ⟨a1, q1, r1, w1⟩ := DataW.trod_int (k := .i64) (by kernel_rfl) ((hf 1 _ rfl).trans e1)
  obtain ⟨a2, q2, r2, w2⟩ := DataW.trod_int (k := .i64) (by kernel_rfl) ((hf 2 _ rfl).trans e2)
  change List.take (Tryz.prog.cellsOf 3) (List.drop 0 [c0, c1, c2]) = _ at q0
  change List.take (Tryz.prog.cellsOf 3) (List.drop 1 [c0, c1, c2]) = _ at q1
  change List.take (Tryz.prog.cellsOf 3) (List.drop 2 [c0, c1, c2]) = _ at q2
  rw [oCint] at q0 q1 q2
  simp at q0 q1 q2
  subst q0 q1 q2
  exact ⟨(a0, a1, a2), rfl, bounds_i64 w1, o_one _⟩
theorem open_jobs {fuel : Nat} {a : Option Addr} {len cap : Nat} {x : DataW H × List MemPlace} (hf : DataW.trod enc Tryz.prog W 0 (fun _ => true) true fuel 22 [.slice a len cap] = some x) (hb : Rows.uptoBulk x.1 ≤ 1048576) :
    ∃ us : List (Int × Int × Int), len = us.length ∧ InG pkC W W.heap.size (.slice a us.length cap) us ∧ us.length ≤ 1048576 ∧ ∀ o ∈ us, -9223372036854775808 ≤ o.2.1 ∧ o.2.1 ≤ 9223372036854775807 := by
  obtain ⟨v, us, e1, e2, e3, e4⟩ := open_list (W := W) pkC (fun _ => 1) (fun o => -9223372036854775808 ≤ o.2.1 ∧ o.2.1 ≤ 9223372036854775807) Tryz.underlying22 oCjb (fun _ => rfl) (by omega) (fun f c y h => o_job f c y h) hf
  have ev : v = .slice a len cap := by injection e1 with e1 _; exact e1.symm
  subst ev
  obtain ⟨a', cap', e5⟩ := e2.form
  injection e5 with e5 e6 e7
  subst e6
  rw [o_ones] at e4
  exact ⟨us, rfl, e2, by omega, e3⟩
theorem drains_open {f1 : Nat} {a : Option Addr} {len cap : Nat} {x1 : DataW H × List MemPlace} (h1 : DataW.trod enc Tryz.prog W 0 (fun _ => true) true f1 22 [.slice a len cap] = some x1) (b1 : Rows.uptoBulk x1.1 ≤ 1048576) (x : Int) (s : ByteArray) (hs : s.size ≤ 1048576) :
    Calls Tryz.prog 4 #[.int .i64 x, .slice a len cap, .string s] W fun e w' => e = .returned (.bool true) ∧ Below W.heap.size W w' := by
  obtain ⟨us, rfl, u1, u2, u3⟩ := open_jobs h1 b1
  exact drains_walk W a cap us u1 u3 u2 x s hs
end
end Go.Proofs.YtdpebhdjcgiboaaGreat
