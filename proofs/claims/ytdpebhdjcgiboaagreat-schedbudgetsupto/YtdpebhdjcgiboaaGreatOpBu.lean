import Derived.Test.YtdpebhdjcgiboaaGreatOpDr
import Derived.Test.YtdpebhdjcgiboaaGreatSn8
namespace Go.Proofs.YtdpebhdjcgiboaaGreat
open Go.ChangeShapes Go.WideShapes Go.ChangeAt Go.RowKit Go.MuLone Go.RwLone
set_option linter.unusedVariables false
set_option maxRecDepth 100000
section
variable {H : Type} {enc : TypeId × Value → H} {W : World}
theorem budgets_open {f1 : Nat} {a : Option Addr} {len cap : Nat} {x1 : DataW H × List MemPlace} (h1 : DataW.trod enc Tryz.prog W 0 (fun _ => true) true f1 22 [.slice a len cap] = some x1) (b1 : Rows.uptoBulk x1.1 ≤ 1048576) (x : Int) (s : ByteArray) (hs : s.size ≤ 1048576) (b : Int) (hb : -9223372036854775808 ≤ b ∧ b ≤ 9223372036854775807) :
    Calls Tryz.prog 3 #[.int .i64 x, .slice a len cap, .string s, .int .i64 b] W fun e w' => e = .returned (.bool true) ∧ Below W.heap.size W w' := by
  obtain ⟨us, rfl, u1, u2, u3⟩ := open_jobs h1 b1
  exact budgets_walk W a cap us u1 u3 u2 x s hs b hb
end
end Go.Proofs.YtdpebhdjcgiboaaGreat
