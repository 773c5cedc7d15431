import Derived.Test.YtjcffcpmegpjeaaGreatDoorPnT6
import Derived.WalkKit
import Derived.LaidEql
import Derived.Stop.Asserts
import Derived.RowKitTokens
namespace Go.Proofs.YtjcffcpmegpjeaaGreatDoor
open Go.ChangeShapes Go.WideShapes Go.ChangeAt Go.RowKit Go.Extern.Stop Go.Stop Go.Extern
set_option linter.unusedVariables false
set_option maxRecDepth 100000
/-- An error that holds a number. -/
def errV (c : Int) : Value := .iface 90 (.agg #[.int .i64 c])
theorem as_nil (t : Value) (w : World) : Calls Tryz.prog 77 #[.nilIface, t] w fun e w' => e = .returned (.bool false) ∧ w' = w := by
  go_enter Tryz.func77, Tryz.ntmps77
  go_wp2
  go_ret
  exact ⟨rfl, rfl⟩
theorem rfValP (t : Addr) (w : World) : (ReflectliteValue.unpack (.iface 121 (.pointer (some t)))).run Tryz.prog w
    = .ok (.agg #[.pointer (some ⟨1, 121, none⟩), .pointer (some ⟨w.heap.size, 0, none⟩), .int .u64 150]) (w.alloc (.cells #[.pointer (some t)] 121)) := by kernel_rfl
theorem rfTypP (a : Addr) (w : World) : (ReflectliteValue.methodAny (ReflectliteValue.valueError "reflectlite.Value.Type" 0) (fun t _ _ _ => ReflectliteType.toType t) #[.agg #[.pointer (some ⟨1, 121, none⟩), .pointer (some a), .int .u64 150]]).run Tryz.prog w
    = .ok (.iface 180 (.agg #[.pointer (some ⟨1, 121, none⟩)])) w := by kernel_rfl
theorem rfMKind (h : Value) (w : World) : (Go.method 337 180 (.agg #[h]) "Kind").run Tryz.prog w = .ok (176, h) w := by kernel_rfl
theorem rfKindP (w : World) : ((ReflectliteType.abiMethod fun t => Functor.map (fun a : Nat => Value.int IntKind.u8 (a : Int)) (Rtype.kind t)) #[.pointer (some ⟨1, 121, none⟩)]).run Tryz.prog w = .ok (.int .u8 22) w := by kernel_rfl
theorem rfKindF (w : World) : ((ReflectliteType.abiMethod fun t => Functor.map (fun a : Nat => Value.int IntKind.u8 (a : Int)) (Rtype.kind t)) #[.pointer (some ⟨1, 90, none⟩)]).run Tryz.prog w = .ok (.int .u8 25) w := by kernel_rfl
theorem rlm (z : Sem Value) (f : TypeId → Addr → Nat → Nat → Sem Value) (v : Value) :
    ReflectliteValue.method z f #[v] = (do match ← ReflectliteValue.parts v with | none => z | some (t, a, fl) => f t a fl (fl % 32)) := rfl
theorem rfPartsP (a : Addr) (w : World) : (ReflectliteValue.parts (.agg #[.pointer (some ⟨1, 121, none⟩), .pointer (some a), .int .u64 150])).run Tryz.prog w = .ok (some (121, a, 150)) w := by kernel_rfl
theorem rfIsNil (a p : Addr) (W : World) (ha : W.cell? a = some (.pointer (some p))) :
    (ReflectliteValue.method (ReflectliteValue.valueError "reflectlite.Value.IsNil" 0) ReflectliteValue.isNil #[.agg #[.pointer (some ⟨1, 121, none⟩), .pointer (some a), .int .u64 150]]).run Tryz.prog W = .ok (.bool false) W := by
  rw [rlm]
  simp only [Sem.run_bind, rfPartsP, Result.andThen]
  simp [ReflectliteValue.isNil, loadVar, isAgg, underlying, Tryz.underlying121, ha, Result.andThen]
theorem rfMElem (h : Value) (w : World) : (Go.method 337 180 (.agg #[h]) "Elem").run Tryz.prog w = .ok (186, .agg #[h]) w := by kernel_rfl
theorem rfMImpl (h : Value) (w : World) : (Go.method 337 180 (.agg #[h]) "Implements").run Tryz.prog w = .ok (187, .agg #[h]) w := by kernel_rfl
theorem rfMAss (h : Value) (w : World) : (Go.method 337 180 (.agg #[h]) "AssignableTo").run Tryz.prog w = .ok (184, .agg #[h]) w := by kernel_rfl
theorem rfElem (w : World) : (ReflectliteType.method ReflectliteType.elem #[.agg #[.pointer (some ⟨1, 121, none⟩)]]).run Tryz.prog w = .ok (.iface 180 (.agg #[.pointer (some ⟨1, 90, none⟩)])) w := by kernel_rfl
theorem rfImpl (w : World) : (ReflectliteType.relation "Implements" ReflectliteType.implements_ #[.agg #[.pointer (some ⟨1, 90, none⟩)], .iface 180 (.agg #[.pointer (some ⟨1, 53, none⟩)])]).run Tryz.prog w = .ok (.bool true) w := by kernel_rfl
theorem rfTypeOf (v : Value) (w : World) : (ReflectliteType.typeOf #[.iface 90 v]).run Tryz.prog w = .ok (.iface 180 (.agg #[.pointer (some ⟨1, 90, none⟩)])) w := by kernel_rfl
theorem rfAss (w : World) : (ReflectliteType.relation "AssignableTo" ReflectliteType.assignableTo #[.agg #[.pointer (some ⟨1, 90, none⟩)], .iface 180 (.agg #[.pointer (some ⟨1, 90, none⟩)])]).run Tryz.prog w = .ok (.bool true) w := by kernel_rfl
theorem rfValF (c : Int) (w : World) : (ReflectliteValue.unpack (.iface 90 (.agg #[.int .i64 c]))).run Tryz.prog w
    = .ok (.agg #[.pointer (some ⟨1, 90, none⟩), .pointer (some ⟨w.heap.size, 0, none⟩), .int .u64 153]) (w.alloc (.cells #[.int .i64 c] 90)) := by kernel_rfl
theorem rfElemOf (w : World) : (Rtype.elem? 121).run Tryz.prog w = .ok (some 90) w := by kernel_rfl
theorem rfMk (p : Addr) (w : World) : (ReflectliteValue.mk 90 p ReflectliteValue.flagAddr).run Tryz.prog w = .ok (.agg #[.pointer (some ⟨1, 90, none⟩), .pointer (some p), .int .u64 409]) w := by kernel_rfl
theorem rfElemV (a p : Addr) (W : World) (ha : W.cell? a = some (.pointer (some p))) :
    (ReflectliteValue.method (ReflectliteValue.valueError "reflectlite.Value.Elem" 0) ReflectliteValue.elem #[.agg #[.pointer (some ⟨1, 121, none⟩), .pointer (some a), .int .u64 150]]).run Tryz.prog W
      = .ok (.agg #[.pointer (some ⟨1, 90, none⟩), .pointer (some p), .int .u64 409]) W := by
  rw [rlm]
  simp only [Sem.run_bind, rfPartsP, Result.andThen]
  simp [ReflectliteValue.elem, loadVar, isAgg, underlying, Tryz.underlying121, ha, Result.andThen, rfElemOf, rfMk]
theorem rfPartsA (a : Addr) (w : World) : (ReflectliteValue.parts (.agg #[.pointer (some ⟨1, 90, none⟩), .pointer (some a), .int .u64 409])).run Tryz.prog w = .ok (some (90, a, 409)) w := by kernel_rfl
theorem rfPartsF (a : Addr) (w : World) : (ReflectliteValue.parts (.agg #[.pointer (some ⟨1, 90, none⟩), .pointer (some a), .int .u64 153])).run Tryz.prog w = .ok (some (90, a, 153)) w := by kernel_rfl
theorem rfDirect (w : World) : (Rtype.directlyAssignable 90 90).run Tryz.prog w = .ok true w := by kernel_rfl
theorem rfSize (w : World) : (sizeOf 90).run Tryz.prog w = .ok 1 w := by kernel_rfl
theorem rfLoad (g : Nat) (c : Int) (W : World) (hb : W.cell? ⟨g, 0, none⟩ = some (.int .i64 c)) : (loadVar 90 ⟨g, 0, none⟩).run Tryz.prog W = .ok (.agg #[.int .i64 c]) W := by
  simp [loadVar, isAgg, underlying, Tryz.underlying90, Result.andThen, loadCells, loadCellsFrom, hb, Addr.add]
theorem rfStore (g : Nat) (c : Int) (old : Value) (W : World) (ht : W.cell? ⟨g, 0, none⟩ = some old) (hf : W.frozen? ⟨g, 0, none⟩ = false) : (storeVar 90 ⟨g, 0, none⟩ (.agg #[.int .i64 c])).run Tryz.prog W = .ok () (W.setCell ⟨g, 0, none⟩ (.int .i64 c)) := by
  simp [storeVar, Value.cells, storeCells, Addr.add, Result.andThen]
  rw [run_store Tryz.prog W ⟨g, 0, none⟩ _ _ (by rfl)]
  simp [ht, hf]
theorem rfSet0 (ta b : Addr) (W : World) :
    (ReflectliteValue.set #[.agg #[.pointer (some ⟨1, 90, none⟩), .pointer (some ta), .int .u64 409], .agg #[.pointer (some ⟨1, 90, none⟩), .pointer (some b), .int .u64 153]]).run Tryz.prog W
      = (loadVar 90 b >>= fun val => storeVar 90 ta val >>= fun _ => pure (Value.tuple #[])).run Tryz.prog W := by kernel_rfl
theorem rfSet (ta b : Nat) (c : Int) (old : Value) (W : World) (hb : W.cell? ⟨b, 0, none⟩ = some (.int .i64 c)) (ht : W.cell? ⟨ta, 0, none⟩ = some old) (hf : W.frozen? ⟨ta, 0, none⟩ = false) :
    (ReflectliteValue.set #[.agg #[.pointer (some ⟨1, 90, none⟩), .pointer (some ⟨ta, 0, none⟩), .int .u64 409], .agg #[.pointer (some ⟨1, 90, none⟩), .pointer (some ⟨b, 0, none⟩), .int .u64 153]]).run Tryz.prog W
      = .ok (.tuple #[]) (W.setCell ⟨ta, 0, none⟩ (.int .i64 c)) := by
  rw [rfSet0]
  simp only [Sem.run_bind, rfLoad b c W hb, Result.andThen, rfStore ta c old W ht hf]
  rfl
end Go.Proofs.YtjcffcpmegpjeaaGreatDoor

namespace Go.Proofs.YtjcffcpmegpjeaaGreatDoor
open Go.ChangeShapes Go.WideShapes Go.ChangeAt Go.RowKit Go.Extern.Stop Go.Stop Go.Extern
set_option linter.unusedVariables false
set_option maxRecDepth 100000
/-- The library's own variable holds the handle of the type error. -/
def ErrTy (w : World) : Prop := w.cell? ⟨0, 0, none⟩ = some (.iface 180 (.agg #[.pointer (some ⟨1, 53, none⟩)]))
def asW1 (w : World) (t : Nat) : World := w.alloc (.cells #[.pointer (some ⟨t, 0, none⟩)] 121)
def asW2 (w : World) (t : Nat) : World := (asW1 w t).alloc (.cells #[.pointer (some ⟨1, 121, none⟩), .pointer (some ⟨w.heap.size, 0, none⟩), .int .u64 150] 155)
def asW3 (w : World) (t : Nat) : World := (asW2 w t).alloc (.cells #[.pointer (some ⟨1, 121, none⟩), .pointer (some ⟨w.heap.size, 0, none⟩), .int .u64 150] 155)
def asW4 (w : World) (t : Nat) (c : Int) : World := (asW3 w t).alloc (.cells #[.int .i64 c] 90)
theorem asB1 (w : World) (t : Nat) : Below w.heap.size w (asW1 w t) := (Below.refl _ _).alloc (Nat.le_refl _) _
theorem asB2 (w : World) (t : Nat) : Below w.heap.size w (asW2 w t) := (asB1 w t).alloc (asB1 w t).size _
theorem asB3 (w : World) (t : Nat) : Below w.heap.size w (asW3 w t) := (asB2 w t).alloc (asB2 w t).size _
theorem asB4 (w : World) (t : Nat) (c : Int) : Below w.heap.size w (asW4 w t c) := (asB3 w t).alloc (asB3 w t).size _
theorem szAl (w : World) (o : Obj) : (w.alloc o).heap.size = w.heap.size + 1 := by show (w.heap.push o).size = _; simp
theorem frozB {w w' : World} {B g : Nat} (h : Below B w w') (hg : g < B) : w'.frozen? ⟨g, 0, none⟩ = w.frozen? ⟨g, 0, none⟩ := by unfold World.frozen?; rw [h.block g hg]
set_option maxHeartbeats 8000000 in
theorem as_hit (c : Int) (t : Nat) (old : Value) (w : World) (hg : ErrTy w) (ht0 : w.cell? ⟨t, 0, none⟩ = some old) (hf0 : w.frozen? ⟨t, 0, none⟩ = false) :
    Calls Tryz.prog 77 #[.iface 90 (.agg #[.int .i64 c]), .iface 121 (.pointer (some ⟨t, 0, none⟩))] w fun ev w' => ev = .returned (.bool true) ∧ w' = (asW4 w t c).setCell ⟨t, 0, none⟩ (.int .i64 c) := by
  have h6 := @run_callFunc_extern Tryz.prog 102 _ (fun args => ReflectliteValue.unpack (args.getD 0 (.tuple #[]))) Tryz.func102 (by kernel_rfl) (by kernel_rfl) (by kernel_rfl) (by kernel_rfl)
  have h7 := @run_callFunc_extern Tryz.prog 103 _ (ReflectliteValue.methodAny (ReflectliteValue.valueError "reflectlite.Value.Type" 0) (fun t _ _ _ => ReflectliteType.toType t)) Tryz.func103 (by kernel_rfl) (by kernel_rfl) (by kernel_rfl) (by kernel_rfl)
  have h8 := @run_callFunc_extern Tryz.prog 104 _ (ReflectliteValue.method (ReflectliteValue.valueError "reflectlite.Value.IsNil" 0) ReflectliteValue.isNil) Tryz.func104 (by kernel_rfl) (by kernel_rfl) (by kernel_rfl) (by kernel_rfl)
  have h27 := @run_callFunc_extern Tryz.prog 176 _ (ReflectliteType.abiMethod fun t => do pure (.int .u8 (← Rtype.kind t))) Tryz.func176 (by kernel_rfl) (by kernel_rfl) (by kernel_rfl) (by kernel_rfl)
  have h37 := @run_callFunc_extern Tryz.prog 186 _ (ReflectliteType.method ReflectliteType.elem) Tryz.func186 (by kernel_rfl) (by kernel_rfl) (by kernel_rfl) (by kernel_rfl)
  have h38 := @run_callFunc_extern Tryz.prog 187 _ (ReflectliteType.relation "Implements" ReflectliteType.implements_) Tryz.func187 (by kernel_rfl) (by kernel_rfl) (by kernel_rfl) (by kernel_rfl)
  have h10 := @run_callFunc_extern Tryz.prog 116 _ ReflectliteType.typeOf Tryz.func116 (by kernel_rfl) (by kernel_rfl) (by kernel_rfl) (by kernel_rfl)
  have h35 := @run_callFunc_extern Tryz.prog 184 _ (ReflectliteType.relation "AssignableTo" ReflectliteType.assignableTo) Tryz.func184 (by kernel_rfl) (by kernel_rfl) (by kernel_rfl) (by kernel_rfl)
  have h11 := @run_callFunc_extern Tryz.prog 117 _ (ReflectliteValue.method (ReflectliteValue.valueError "reflectlite.Value.Elem" 0) ReflectliteValue.elem) Tryz.func117 (by kernel_rfl) (by kernel_rfl) (by kernel_rfl) (by kernel_rfl)
  have h12 := @run_callFunc_extern Tryz.prog 118 _ ReflectliteValue.set Tryz.func118 (by kernel_rfl) (by kernel_rfl) (by kernel_rfl) (by kernel_rfl)
  have tO := rfTypeOf
  have mA := rfMAss
  have a25 := rfAss
  have v25 := rfValF
  have f6 := rfValP
  have f7 := rfTypP
  have mK := rfMKind
  have mE := rfMElem
  have mI := rfMImpl
  have k27 := rfKindP
  have k25 := rfKindF
  have e27 := rfElem
  have i25 := rfImpl
  have htl : t < w.heap.size := World.block_lt_of_cell? _ _ ht0
  have hlt : 0 < w.heap.size := by omega
  have s1 : (asW1 w t).heap.size = w.heap.size + 1 := szAl _ _
  have s2 : (asW2 w t).heap.size = w.heap.size + 2 := by unfold asW2; rw [szAl, s1]
  have s3 : (asW3 w t).heap.size = w.heap.size + 3 := by unfold asW3; rw [szAl, s2]
  have n8 := rfIsNil ⟨w.heap.size, 0, none⟩ ⟨t, 0, none⟩ (asW2 w t) (by unfold asW2; rw [World.cell?_alloc_lt _ _ ⟨w.heap.size, 0, none⟩ (by simp only; omega)]; unfold asW1; simp)
  have hg2 : (asW2 w t).cell? ⟨0, 0, none⟩ = some (.iface 180 (.agg #[.pointer (some ⟨1, 53, none⟩)])) := by rw [(asB2 w t).cell (p := ⟨0, 0, none⟩) hlt]; exact hg
  have el := rfElemV ⟨w.heap.size, 0, none⟩ ⟨t, 0, none⟩ (asW3 w t) (by unfold asW3; rw [World.cell?_alloc_lt _ _ ⟨w.heap.size, 0, none⟩ (by simp only; omega)]; unfold asW2; rw [World.cell?_alloc_lt _ _ ⟨w.heap.size, 0, none⟩ (by simp only; omega)]; unfold asW1; simp)
  have st := rfSet t (w.heap.size + 3) c old (asW4 w t c) (by unfold asW4; rw [World.cell?_alloc_at _ _ _ _ (by omega)]; rfl) (by rw [(asB4 w t c).cell (p := ⟨t, 0, none⟩) htl]; exact ht0) (by rw [frozB (asB4 w t c) htl]; exact hf0)
  unfold asW4 asW3 asW2 asW1 at *
  go_enter Tryz.func77, Tryz.ntmps77
  go_wp2
  refine wp_loop_rounds 1 ?_
  rw [rounds_succ]
  go_wp2
  go_ret
  exact ⟨rfl, rfl⟩
end Go.Proofs.YtjcffcpmegpjeaaGreatDoor

namespace Go.Proofs.YtjcffcpmegpjeaaGreatDoor
open Go.ChangeShapes Go.WideShapes Go.ChangeAt Go.RowKit
set_option linter.unusedVariables false
set_option maxRecDepth 100000
theorem ErrTy.later {w w' : World} {B : Nat} (h : ErrTy w) (hb : Below B w w') (hB : 0 < B) : ErrTy w' := by
  unfold ErrTy
  rw [hb.cell (p := ⟨0, 0, none⟩) hB]
  exact h
theorem ErrTy.pos {w : World} (h : ErrTy w) : 0 < w.heap.size := World.block_lt_of_cell? _ _ h
theorem code_nil (w : World) : Calls Tryz.prog 44 #[.nilIface] w fun e w' => e = .returned (.int .i64 0) ∧ Below w.heap.size w w' := by
  have HB : Hid (Below w.heap.size w (w.alloc (.cells #[.int .i64 0] 90))) := (Below.refl _ _).alloc (Nat.le_refl _) _
  go_enter Tryz.func44, Tryz.ntmps44
  go_wp2_with fail
  refine (as_nil _ _).mono ?_
  rintro e w1 ⟨rfl, rfl⟩
  go_wp2
  go_ret
  exact ⟨rfl, HB.out⟩
theorem code_err (c : Int) (w : World) (hg : ErrTy w) : Calls Tryz.prog 44 #[.iface 90 (.agg #[.int .i64 c])] w fun e w' => e = .returned (.int .i64 c) ∧ Below w.heap.size w w' := by
  have HB : Hid (Below w.heap.size w (w.alloc (.cells #[.int .i64 0] 90))) := (Below.refl _ _).alloc (Nat.le_refl _) _
  have hs : (w.alloc (.cells #[.int .i64 0] 90)).heap.size = w.heap.size + 1 := szAl _ _
  have HC : Hid (∀ _ : Unit, _) := fun _ => as_hit c w.heap.size (.int .i64 0) (w.alloc (.cells #[.int .i64 0] 90)) (hg.later HB.out hg.pos) (by simp) (by simp)
  have HB4 : Hid (Below w.heap.size w ((asW4 (w.alloc (.cells #[.int .i64 0] 90)) w.heap.size c).setCell ⟨w.heap.size, 0, none⟩ (.int .i64 c))) := (HB.out.trans ((asB4 (w.alloc (.cells #[.int .i64 0] 90)) w.heap.size c).mono (by omega))).setCell (Nat.le_refl _) _
  have hc4 : ((asW4 (w.alloc (.cells #[.int .i64 0] 90)) w.heap.size c).setCell ⟨w.heap.size, 0, none⟩ (.int .i64 c)).cell? ⟨w.heap.size, 0, none⟩ = some (.int .i64 c) := by
    have h1 : (asW4 (w.alloc (.cells #[.int .i64 0] 90)) w.heap.size c).cell? ⟨w.heap.size, 0, none⟩ = some (.int .i64 0) := by
      rw [(asB4 (w.alloc (.cells #[.int .i64 0] 90)) w.heap.size c).cell (p := ⟨w.heap.size, 0, none⟩) (by simp only; omega)]
      simp
    exact World.cell?_setCell_same' _ _ _ (by rw [h1]; rfl)
  generalize (asW4 (w.alloc (.cells #[.int .i64 0] 90)) w.heap.size c).setCell ⟨w.heap.size, 0, none⟩ (.int .i64 c) = wZ at *
  clear hs
  go_enter Tryz.func44, Tryz.ntmps44
  go_wp2_with fail
  refine (HC.out ()).mono ?_
  rintro e w1 ⟨rfl, rfl⟩
  go_wp2
  go_ret
  exact ⟨rfl, HB4.out⟩
end Go.Proofs.YtjcffcpmegpjeaaGreatDoor
