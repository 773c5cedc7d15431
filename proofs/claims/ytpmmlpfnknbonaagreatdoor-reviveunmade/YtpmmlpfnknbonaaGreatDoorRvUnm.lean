import Derived.Test.YtpmmlpfnknbonaaGreatDoorRows
import Derived.WalkKit
import Derived.ProofKit
import Derived.OpenShut
import Derived.ShutString
import Derived.WalkLawsBesides
import Derived.Outline
import Derived.WalkSpells
import Derived.BigRegion
import Derived.Below
import Derived.Lib.Strings
import Derived.Laws.Strings
import Derived.Laws.NewBlocks
namespace Go.Proofs.YtpmmlpfnknbonaaGreatDoor
open Go.ChangeShapes Go.WideShapes Go.ChangeAt Go.RowKit
set_option linter.unusedVariables false
set_option maxRecDepth 100000
theorem sizeV (w : World) (o : Obj) : (w.alloc o).heap.size = w.heap.size + 1 := by show (w.heap.push o).size = _; simp
theorem okV {w W W' : World} (h : Below w.heap.size w W) (k : Below W.heap.size W W') : Below w.heap.size w W' := h.trans (k.mono h.size)
theorem belV (w : World) (a : Obj) : Below w.heap.size w (w.alloc a) := (Below.refl _ _).alloc (Nat.le_refl _) _
/-- No device: nil, or a block whose first cell is nil. -/
def NoV (p : Option Addr) (w : World) : Prop := p = none ∨ ∃ g, p = some ⟨g, 0, none⟩ ∧ g < w.heap.size ∧ w.cell? ⟨g, 0, none⟩ = some (.pointer none)
theorem NoV.step {p : Option Addr} {w w' : World} (h : NoV p w) (hb : Below w.heap.size w w') : NoV p w' := by
  rcases h with h | ⟨g, h1, h2, h3⟩
  · exact .inl h
  · exact .inr ⟨g, h1, Nat.lt_of_lt_of_le h2 hb.size, (hb.cell (p := ⟨g, 0, none⟩) h2).trans h3⟩
theorem missV_nq (g : Nat) (w : World) : (binOp .neq 23 (.pointer none) (.pointer (some ⟨g, 0, none⟩))).run Tryz.prog w = .ok (.bool true) w := by kernel_rfl
theorem missDV (p : Option Addr) (w : World) (h : NoV p w) : Calls Tryz.prog 47 #[.pointer p] w fun e w' => e = .returned (.bool true) ∧ w' = w := by
  rcases h with rfl | ⟨g, rfl, hg, hc⟩
  · go_enter Tryz.func47, Tryz.ntmps47
    go_wp2
    go_ret
    exact ⟨rfl, rfl⟩
  · go_enter Tryz.func47, Tryz.ntmps47
    have hnq := missV_nq g
    go_wp2
    go_ret
    exact ⟨rfl, rfl⟩
theorem readV (p : Option Addr) (s : ByteArray) (w : World) (h : NoV p w) : Calls Tryz.prog 26 #[.pointer p, .string s] w fun e w' => e = .returned (.tuple #[.string ⟨#[]⟩, .int .i64 1]) ∧ w' = w := by
  have H : Hid (NoV p w) := h
  clear h
  go_enter Tryz.func26, Tryz.ntmps26
  go_wp2_with fail
  refine (missDV _ _ H.out).mono ?_
  rintro e w1 ⟨rfl, rfl⟩
  go_wp2
  go_ret2
  exact ⟨rfl, rfl⟩
theorem missV (p : Option Addr) (w : World) (h : NoV p w) : Calls Tryz.prog 30 #[.pointer p] w fun e w' => e = .returned (.bool true) ∧ w' = w := by
  have H : Hid (NoV p w) := h
  clear h
  go_enter Tryz.func30, Tryz.ntmps30
  go_wp2_with fail
  refine (readV _ _ _ H.out).mono ?_
  rintro e w1 ⟨rfl, rfl⟩
  go_wp2
  go_ret
  exact ⟨rfl, rfl⟩
theorem mayWorkV (p : Option Addr) (n : Int) (w : World) (h : NoV p w) : Calls Tryz.prog 16 #[.pointer p, .int .i64 n] w fun e w' => e = .returned (.int .i64 1) ∧ w' = w := by
  have H : Hid (NoV p w) := h
  clear h
  go_enter Tryz.func16, Tryz.ntmps16
  go_wp2_with fail
  refine (missV _ _ H.out).mono ?_
  rintro e w1 ⟨rfl, rfl⟩
  go_wp2
  go_ret
  exact ⟨rfl, rfl⟩
theorem asOfV (p : Option Addr) (n t : Int) (w : World) (h : NoV p w) : Calls Tryz.prog 7 #[.pointer p, .int .i64 n, .int .u64 t] w fun e w' => e = .returned (.tuple #[.slice none 0 0, .int .i64 1]) ∧ w' = w := by
  have H : Hid (NoV p w) := h
  clear h
  go_enter Tryz.func7, Tryz.ntmps7
  go_wp2_with fail
  refine (mayWorkV _ _ _ H.out).mono ?_
  rintro e w1 ⟨rfl, rfl⟩
  go_wp2
  go_ret2
  exact ⟨rfl, rfl⟩
theorem scrubV (p : Option Addr) (n : Int) (w : World) (h : NoV p w) : Calls Tryz.prog 8 #[.pointer p, .int .i64 n] w fun e w' => e = .returned (.tuple #[.slice none 0 0, .int .i64 1]) ∧ w' = w := by
  have H : Hid (NoV p w) := h
  clear h
  go_enter Tryz.func8, Tryz.ntmps8
  go_wp2_with fail
  refine (mayWorkV _ _ _ H.out).mono ?_
  rintro e w1 ⟨rfl, rfl⟩
  go_wp2
  go_ret2
  exact ⟨rfl, rfl⟩
theorem results_row_tmpV {P : Program} {fn : Func} {p : Tmp} {ty : TypeId} {q : Tmp} (h : fn.results = #[.cell p ty, .tmp q]) (tmps : Array Value) (w : World) (g : Nat) (t : TypeId) (cs : Array Value) (fr : Nat × Nat) (d : TypeDesc)
    (hp : tmps.getD p undef = .pointer (some ⟨g, 0, none⟩)) (hg : w.heap[g]? = some (.cells cs t fr))
    (hu : P.underlying ty = some d) (hd : (match d with | .struct _ | .array _ _ => true | _ => false) = true) (hi : (P.info? ty).map (·.size) = some cs.size) :
    (results fn tmps).run P w = .ok (.tuple #[.agg cs, tmps.getD q undef]) w := by
  have hp' : tmps[p]?.getD undef = .pointer (some ⟨g, 0, none⟩) := by simpa using hp
  simp [results, h, hp', asAddr, run_loadVar_row w g t ty cs fr d hg hu hd hi]
theorem infoStateV : (Tryz.prog.info? 32).map (·.size) = some 6 := by kernel_rfl
abbrev stV (w : World) : World := w.alloc (.cells #[.slice none 0 0, .int .u64 0, .int .u64 0, .int .u64 0, .int .i64 0, .int .i64 0] 32)
set_option maxHeartbeats 800000 in
theorem recoverV (p : Option Addr) (n : Int) (w : World) (h : NoV p w) : Calls Tryz.prog 6 #[.pointer p, .int .i64 n] w fun e w' => e = .returned (.tuple #[.agg #[.slice none 0 0, .int .u64 0, .int .u64 0, .int .u64 0, .int .i64 0, .int .i64 0], .int .i64 1]) ∧ Below w.heap.size w w' := by
  have H : Hid (NoV p (stV w)) := h.step (belV _ _)
  have HG : Hid ((stV w).heap[w.heap.size]? = some (.cells #[.slice none 0 0, .int .u64 0, .int .u64 0, .int .u64 0, .int .i64 0, .int .i64 0] 32 (0, 0))) := heap_alloc_new w _
  have HB : Hid (Below w.heap.size w (stV w)) := belV w _
  clear h
  go_enter Tryz.func6, Tryz.ntmps6
  go_wp2_with fail
  refine (mayWorkV _ _ _ H.out).mono ?_
  rintro e w1 ⟨rfl, rfl⟩
  go_wp2
  exact bodyPost_ret (results_row_tmpV rfl _ _ w.heap.size _ _ (0, 0) _ (by rfl) HG.out Tryz.underlying32 rfl infoStateV) rfl ⟨rfl, HB.out⟩
theorem sAny_nq (m : Nat) (w : World) : (binOp .eql 52 (.map (some m)) (.map none)).run Tryz.prog w = .ok (.bool false) w := by kernel_rfl
theorem sptr_nq (g : Nat) (w : World) : (binOp .eql 28 (.pointer (some ⟨g, 0, none⟩)) (.pointer none)).run Tryz.prog w = .ok (.bool false) w := by kernel_rfl
/-- A standby that was made. -/
def IsSb (g : Nat) (w : World) : Prop := g < w.heap.size ∧ ∃ m, w.cell? ⟨g, 0, none⟩ = some (.map (some m))
theorem IsSb.step {g : Nat} {w w' : World} (h : IsSb g w) (hb : Below w.heap.size w w') : IsSb g w' := by
  obtain ⟨h1, m, h2⟩ := h
  exact ⟨Nat.lt_of_lt_of_le h1 hb.size, m, (hb.cell (p := ⟨g, 0, none⟩) h1).trans h2⟩
theorem newSb (w : World) : Calls Tryz.prog 5 #[] w fun e w' => ∃ g, e = .returned (.pointer (some ⟨g, 0, none⟩)) ∧ IsSb g w' ∧ Below w.heap.size w w' := by
  have hmm := @run_makeMap Tryz.prog
  have HB : Hid (∀ a b, Below w.heap.size w ((w.alloc a).alloc b)) := fun a b => okV (belV w a) (belV _ b)
  go_enter Tryz.func5, Tryz.ntmps5
  go_wp2
  go_ret
  exact ⟨w.heap.size + 1, rfl, ⟨by simp only [sizeV]; omega, w.heap.size, by simp [go_sem]⟩, HB.out _ _⟩
theorem smissV (g : Nat) (w : World) (h : IsSb g w) : Calls Tryz.prog 29 #[.pointer (some ⟨g, 0, none⟩)] w fun e w' => e = .returned (.bool false) ∧ w' = w := by
  obtain ⟨h1, m, h2⟩ := h
  have q1 := sAny_nq m
  have q2 := sptr_nq g
  go_enter Tryz.func29, Tryz.ntmps29
  go_wp2
  go_ret
  exact ⟨rfl, rfl⟩
theorem catchV (g : Nat) (p : Option Addr) (w : World) (h : NoV p w) (hs : IsSb g w) : Calls Tryz.prog 9 #[.pointer (some ⟨g, 0, none⟩), .pointer p] w fun e w' => e = .returned (.tuple #[.int .i64 0, .int .i64 1]) ∧ w' = w := by
  have H : Hid (NoV p w) := h
  have HS : Hid (IsSb g w) := hs
  clear h hs
  go_enter Tryz.func9, Tryz.ntmps9
  go_wp2_with fail
  refine (smissV _ _ HS.out).mono ?_
  rintro e w1 ⟨rfl, rfl⟩
  go_wp2_with fail
  refine (missV _ _ H.out).mono ?_
  rintro e w2 ⟨rfl, rfl⟩
  go_wp2
  go_ret2
  exact ⟨rfl, rfl⟩
theorem numV (x : Int) (w : World) : Calls Tryz.prog 10 #[.int .i64 x] w fun e w' => e = .returned (.int .i64 x) ∧ w' = w := by
  go_enter Tryz.func10, Tryz.ntmps10
  go_wp2
  go_ret
  exact ⟨rfl, rfl⟩
abbrev devV (w : World) : World := w.alloc (.cells #[.pointer none, .int .i64 0, .map none, .map none, .slice none 0 0, .int .i64 0, .bool false, .int .i64 0] 27)
theorem devV_no (w : World) : NoV (some ⟨w.heap.size, 0, none⟩) (devV w) := .inr ⟨_, rfl, by simp only [sizeV]; omega, by simp [go_sem]⟩
set_option maxHeartbeats 1600000 in
theorem unmade_walk (n t : Int) (w : World) : Calls Tryz.prog 3 #[.int .i64 n, .int .u64 t] w fun e w' => e = .returned (.bool true) ∧ Below w.heap.size w w' := by
  have HD : Hid (NoV (some ⟨w.heap.size, 0, none⟩) (w.alloc (.cells #[.pointer none, .int .i64 0, .map none, .map none, .slice none 0 0, .int .i64 0, .bool false, .int .i64 0] 27))) := devV_no w
  have HB : Hid (Below w.heap.size w (w.alloc (.cells #[.pointer none, .int .i64 0, .map none, .map none, .slice none 0 0, .int .i64 0, .bool false, .int .i64 0] 27))) := belV w _
  go_enter Tryz.func3, Tryz.ntmps3
  go_wp2_with fail
  generalize hd : w.alloc (.cells #[.pointer none, .int .i64 0, .map none, .map none, .slice none 0 0, .int .i64 0, .bool false, .int .i64 0] 27) = W0 at *
  generalize hp : (some ⟨w.heap.size, 0, none⟩ : Option Addr) = pd at *
  clear hd hp
  refine (newSb _).mono ?_
  rintro e w1 ⟨g, rfl, hs, hb⟩
  have HD1 : Hid (NoV pd w1) := HD.out.step hb
  have HB1 : Hid (Below w.heap.size w w1) := okV HB.out hb
  have HS1 : Hid (IsSb g w1) := hs
  clear hs hb HD HB
  go_wp2_with fail
  refine (recoverV _ _ _ HD1.out).mono ?_
  rintro e w2 ⟨rfl, hb⟩
  have hb3 := okV hb (belV w2 (.cells #[.slice none 0 0, .int .u64 0, .int .u64 0, .int .u64 0, .int .i64 0, .int .i64 0] 32))
  have HD2 : Hid (NoV pd (stV w2)) := HD1.out.step hb3
  have HB2 : Hid (Below w.heap.size w (stV w2)) := okV HB1.out hb3
  have HS2 : Hid (IsSb g (stV w2)) := HS1.out.step hb3
  have c0 : (stV w2).cell? ⟨w2.heap.size, 0, none⟩ = some (.slice none 0 0) := by simp [go_sem]
  clear hb hb3 HD1 HB1 HS1
  go_wp2_with fail
  refine (asOfV _ _ _ _ HD2.out).mono ?_
  rintro e w3 ⟨rfl, rfl⟩
  go_wp2_with fail
  refine (scrubV _ _ _ HD2.out).mono ?_
  rintro e w4 ⟨rfl, rfl⟩
  go_wp2_with fail
  refine (catchV _ _ _ HD2.out HS2.out).mono ?_
  rintro e w5 ⟨rfl, rfl⟩
  go_wp2_with (go_at_call 10; refine (numV _ _).mono ?_; rintro e w9 ⟨rfl, rfl⟩)
  go_ret
  exact ⟨rfl, HB2.out⟩
end Go.Proofs.YtpmmlpfnknbonaaGreatDoor
