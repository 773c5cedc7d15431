import Derived.Test.YtljdjaapocmppaaGreatDoorOpenR
namespace Go.Proofs.YtljdjaapocmppaaGreatDoor
open Go.ChangeShapes Go.WideShapes Go.ChangeAt Go.RowKit
set_option linter.unusedVariables false
set_option maxRecDepth 100000
/-- No device, or no log: nil, or a block whose first cell is nil. -/
def NoD (p : Option Addr) (w : World) : Prop := p = none ∨ ∃ g, p = some ⟨g, 0, none⟩ ∧ g < w.heap.size ∧ w.cell? ⟨g, 0, none⟩ = some (.pointer none)
theorem NoD.nil (w : World) : NoD none w := .inl rfl
theorem NoD.step {p : Option Addr} {w w' : World} (h : NoD p w) (hb : Below w.heap.size w w') : NoD p w' := by
  rcases h with h | ⟨g, h1, h2, h3⟩
  · exact .inl h
  · exact .inr ⟨g, h1, Nat.lt_of_lt_of_le h2 hb.size, (hb.cell (p := ⟨g, 0, none⟩) h2).trans h3⟩
theorem NoD.alloc {p : Option Addr} {w : World} (h : NoD p w) (o : Obj) : NoD p (w.alloc o) := h.step ((Below.refl _ _).alloc (Nat.le_refl _) _)
theorem bel1 (w : World) (a : Obj) : Below w.heap.size w (w.alloc a) := (Below.refl _ _).alloc (Nat.le_refl _) _
theorem bel2 (w : World) (a b : Obj) : Below w.heap.size w ((w.alloc a).alloc b) := (bel1 w a).alloc (by rw [sizeA]; omega) _
theorem bel3 (w : World) (a b c : Obj) : Below w.heap.size w (((w.alloc a).alloc b).alloc c) := (bel2 w a b).alloc (by rw [sizeA, sizeA]; omega) _
theorem bel4 (w : World) (a b c d : Obj) : Below w.heap.size w ((((w.alloc a).alloc b).alloc c).alloc d) := (bel3 w a b c).alloc (by rw [sizeA, sizeA, sizeA]; omega) _
theorem run_loadVar_cellR {P : Program} (w : World) (a : Addr) (v : Value) (ty : TypeId) (d : TypeDesc) (hu : P.underlying ty = some d) (hd : (match d with | .struct _ | .array _ _ => true | _ => false) = false) (h : w.cell? a = some v) : (loadVar ty a).run P w = .ok v w := by
  have hagg : (isAgg ty).run P w = .ok false w := by
    unfold isAgg
    rw [Sem.run_bind, run_underlying hu w]
    cases d <;> simp_all
  unfold loadVar
  rw [Sem.run_bind, hagg]
  simp [h]
theorem missD_nq (g : Nat) (w : World) : (binOp .neq 27 (.pointer none) (.pointer (some ⟨g, 0, none⟩))).run Tryz.prog w = .ok (.bool true) w := by kernel_rfl
theorem missD (p : Option Addr) (w : World) (h : NoD p w) : Calls Tryz.prog 30 #[.pointer p] w fun e w' => e = .returned (.bool true) ∧ w' = w := by
  rcases h with rfl | ⟨g, rfl, hg, hc⟩
  · go_enter Tryz.func30, Tryz.ntmps30
    go_wp2
    go_ret
    exact ⟨rfl, rfl⟩
  · go_enter Tryz.func30, Tryz.ntmps30
    have hnq := missD_nq g
    go_wp2
    go_ret
    exact ⟨rfl, rfl⟩
theorem missL_nq (g : Nat) (w : World) : (binOp .neq 32 (.pointer none) (.pointer (some ⟨g, 0, none⟩))).run Tryz.prog w = .ok (.bool true) w := by kernel_rfl
theorem missL (p : Option Addr) (w : World) (h : NoD p w) : Calls Tryz.prog 74 #[.pointer p] w fun e w' => e = .returned (.bool true) ∧ w' = w := by
  rcases h with rfl | ⟨g, rfl, hg, hc⟩
  · go_enter Tryz.func74, Tryz.ntmps74
    go_wp2
    go_ret
    exact ⟨rfl, rfl⟩
  · go_enter Tryz.func74, Tryz.ntmps74
    have hnq := missL_nq g
    go_wp2
    go_ret
    exact ⟨rfl, rfl⟩
theorem doN (p : Option Addr) (f : Value) (w : World) (h : NoD p w) : Calls Tryz.prog 50 #[.pointer p, f] w fun e w' => e = .returned (.int .i64 1) ∧ w' = w := by
  have H : Hid (NoD p w) := h
  clear h
  go_enter Tryz.func50, Tryz.ntmps50
  go_wp2_with fail
  refine (missD _ _ H.out).mono ?_
  rintro e w1 ⟨rfl, rfl⟩
  go_wp2
  go_ret
  exact ⟨rfl, rfl⟩
theorem faceN (p : Option Addr) (f : Value) (w : World) (h : NoD p w) : Calls Tryz.prog 32 #[.pointer p, f] w fun e w' => e = .returned (.int .i64 1) ∧ w' = w := by
  have H : Hid (NoD p w) := h
  clear h
  go_enter Tryz.func32, Tryz.ntmps32
  go_wp2_with fail
  refine (missL _ _ H.out).mono ?_
  rintro e w1 ⟨rfl, rfl⟩
  go_wp2
  go_ret
  exact ⟨rfl, rfl⟩
theorem createN (p : Option Addr) (s : ByteArray) (w : World) (h : NoD p w) : Calls Tryz.prog 11 #[.pointer p, .string s] w fun e w' => e = .returned (.int .i64 1) ∧ Below w.heap.size w w' := by
  have H : Hid (NoD p w) := h
  clear h
  go_enter Tryz.func11, Tryz.ntmps11
  go_wp2_with fail
  refine (doN _ _ _ ((H.out.alloc _).alloc _)).mono ?_
  rintro e w1 ⟨rfl, rfl⟩
  go_wp2
  go_ret
  exact ⟨rfl, bel2 _ _ _⟩
theorem appendN (p : Option Addr) (s t : ByteArray) (w : World) (h : NoD p w) : Calls Tryz.prog 12 #[.pointer p, .string s, .string t] w fun e w' => e = .returned (.int .i64 1) ∧ Below w.heap.size w w' := by
  have H : Hid (NoD p w) := h
  clear h
  go_enter Tryz.func12, Tryz.ntmps12
  go_wp2_with fail
  refine (doN _ _ _ (((H.out.alloc _).alloc _).alloc _)).mono ?_
  rintro e w1 ⟨rfl, rfl⟩
  go_wp2
  go_ret
  exact ⟨rfl, bel3 _ _ _ _⟩
theorem syncN (p : Option Addr) (s : ByteArray) (w : World) (h : NoD p w) : Calls Tryz.prog 13 #[.pointer p, .string s] w fun e w' => e = .returned (.int .i64 1) ∧ Below w.heap.size w w' := by
  have H : Hid (NoD p w) := h
  clear h
  go_enter Tryz.func13, Tryz.ntmps13
  go_wp2_with fail
  refine (doN _ _ _ ((H.out.alloc _).alloc _)).mono ?_
  rintro e w1 ⟨rfl, rfl⟩
  go_wp2
  go_ret
  exact ⟨rfl, bel2 _ _ _⟩
theorem renameN (p : Option Addr) (s t : ByteArray) (w : World) (h : NoD p w) : Calls Tryz.prog 14 #[.pointer p, .string s, .string t] w fun e w' => e = .returned (.int .i64 1) ∧ Below w.heap.size w w' := by
  have H : Hid (NoD p w) := h
  clear h
  go_enter Tryz.func14, Tryz.ntmps14
  go_wp2_with fail
  refine (doN _ _ _ (((H.out.alloc _).alloc _).alloc _)).mono ?_
  rintro e w1 ⟨rfl, rfl⟩
  go_wp2
  go_ret
  exact ⟨rfl, bel3 _ _ _ _⟩
theorem removeN (p : Option Addr) (s : ByteArray) (w : World) (h : NoD p w) : Calls Tryz.prog 15 #[.pointer p, .string s] w fun e w' => e = .returned (.int .i64 1) ∧ Below w.heap.size w w' := by
  have H : Hid (NoD p w) := h
  clear h
  go_enter Tryz.func15, Tryz.ntmps15
  go_wp2_with fail
  refine (doN _ _ _ ((H.out.alloc _).alloc _)).mono ?_
  rintro e w1 ⟨rfl, rfl⟩
  go_wp2
  go_ret
  exact ⟨rfl, bel2 _ _ _⟩
theorem syncDirN (p : Option Addr) (w : World) (h : NoD p w) : Calls Tryz.prog 16 #[.pointer p] w fun e w' => e = .returned (.int .i64 1) ∧ Below w.heap.size w w' := by
  have H : Hid (NoD p w) := h
  clear h
  go_enter Tryz.func16, Tryz.ntmps16
  go_wp2_with fail
  refine (doN _ _ _ (H.out.alloc _)).mono ?_
  rintro e w1 ⟨rfl, rfl⟩
  go_wp2
  go_ret
  exact ⟨rfl, bel1 _ _⟩
theorem cutN (p : Option Addr) (i : Int) (w : World) (h : NoD p w) : Calls Tryz.prog 17 #[.pointer p, .int .i64 i] w fun e w' => e = .returned (.int .i64 1) ∧ Below w.heap.size w w' := by
  have H : Hid (NoD p w) := h
  clear h
  go_enter Tryz.func17, Tryz.ntmps17
  go_wp2_with fail
  refine (missD _ _ H.out).mono ?_
  rintro e w1 ⟨rfl, rfl⟩
  go_wp2
  go_ret
  exact ⟨rfl, Below.refl _ _⟩
theorem crashN (p : Option Addr) (i : Int) (v : Value) (w : World) (h : NoD p w) : Calls Tryz.prog 18 #[.pointer p, .int .i64 i, v] w fun e w' => e = .returned (.int .i64 1) ∧ Below w.heap.size w w' := by
  have H : Hid (NoD p w) := h
  clear h
  go_enter Tryz.func18, Tryz.ntmps18
  go_wp2_with fail
  refine (missD _ _ H.out).mono ?_
  rintro e w1 ⟨rfl, rfl⟩
  go_wp2
  go_ret
  exact ⟨rfl, Below.refl _ _⟩
theorem rotN (p : Option Addr) (s : ByteArray) (i x : Int) (w : World) (h : NoD p w) : Calls Tryz.prog 20 #[.pointer p, .string s, .int .i64 i, .int .u8 x] w fun e w' => e = .returned (.int .i64 1) ∧ Below w.heap.size w w' := by
  have H : Hid (NoD p w) := h
  clear h
  go_enter Tryz.func20, Tryz.ntmps20
  go_wp2_with fail
  refine (missD _ _ H.out).mono ?_
  rintro e w1 ⟨rfl, rfl⟩
  go_wp2
  go_ret
  exact ⟨rfl, Below.refl _ _⟩
theorem readN (p : Option Addr) (s : ByteArray) (w : World) (h : NoD p w) : Calls Tryz.prog 5 #[.pointer p, .string s] w fun e w' => e = .returned (.tuple #[.string ⟨#[]⟩, .int .i64 1]) ∧ Below w.heap.size w w' := by
  have H : Hid (NoD p w) := h
  clear h
  go_enter Tryz.func5, Tryz.ntmps5
  go_wp2_with fail
  refine (missD _ _ H.out).mono ?_
  rintro e w1 ⟨rfl, rfl⟩
  go_wp2
  go_ret2
  exact ⟨rfl, Below.refl _ _⟩
theorem flushN (p : Option Addr) (w : World) (h : NoD p w) : Calls Tryz.prog 9 #[.pointer p] w fun e w' => e = .returned (.int .i64 1) ∧ Below w.heap.size w w' := by
  have H : Hid (NoD p w) := h
  clear h
  go_enter Tryz.func9, Tryz.ntmps9
  go_wp2_with fail
  refine (faceN _ _ _ H.out).mono ?_
  rintro e w1 ⟨rfl, rfl⟩
  go_wp2
  go_ret
  exact ⟨rfl, Below.refl _ _⟩
theorem markN (p : Option Addr) (s : Int) (w : World) (h : NoD p w) : Calls Tryz.prog 10 #[.pointer p, .int .u64 s] w fun e w' => e = .returned (.int .i64 1) ∧ Below w.heap.size w w' := by
  have H : Hid (NoD p w) := h
  clear h
  go_enter Tryz.func10, Tryz.ntmps10
  go_wp2_with fail
  refine (faceN _ _ _ ((H.out.alloc _).alloc _)).mono ?_
  rintro e w1 ⟨rfl, rfl⟩
  go_wp2
  go_ret
  exact ⟨rfl, bel2 _ _ _⟩
theorem lsyncN (p : Option Addr) (w : World) (h : NoD p w) : Calls Tryz.prog 7 #[.pointer p] w fun e w' => e = .returned (.tuple #[.slice none 0 0, .int .i64 1]) ∧ Below w.heap.size w w' := by
  have H : Hid (NoD p w) := h
  clear h
  go_enter Tryz.func7, Tryz.ntmps7
  go_wp2_with fail
  refine (faceN _ _ _ (H.out.alloc _)).mono ?_
  rintro e w1 ⟨rfl, rfl⟩
  go_wp2
  go_ret2
  exact ⟨rfl, bel1 _ _⟩
theorem trimN (p : Option Addr) (s : Int) (w : World) (h : NoD p w) : Calls Tryz.prog 8 #[.pointer p, .int .u64 s] w fun e w' => e = .returned (.tuple #[.int .i64 0, .int .i64 1]) ∧ Below w.heap.size w w' := by
  have H : Hid (NoD p w) := h
  clear h
  go_enter Tryz.func8, Tryz.ntmps8
  go_wp2_with fail
  refine (faceN _ _ _ (((H.out.alloc _).alloc _).alloc _)).mono ?_
  rintro e w1 ⟨rfl, rfl⟩
  go_wp2
  go_ret2
  exact ⟨rfl, bel3 _ _ _ _⟩
theorem nextN (p : Option Addr) (w : World) (h : NoD p w) : Calls Tryz.prog 65 #[.pointer p] w fun e w' => e = .returned (.int .u64 0) ∧ Below w.heap.size w w' := by
  have H : Hid (NoD p w) := h
  clear h
  go_enter Tryz.func65, Tryz.ntmps65
  go_wp2_with fail
  refine (missL _ _ H.out).mono ?_
  rintro e w1 ⟨rfl, rfl⟩
  go_wp2
  go_ret
  exact ⟨rfl, Below.refl _ _⟩
theorem durableN (p : Option Addr) (w : World) (h : NoD p w) : Calls Tryz.prog 66 #[.pointer p] w fun e w' => e = .returned (.int .u64 0) ∧ Below w.heap.size w w' := by
  have H : Hid (NoD p w) := h
  clear h
  go_enter Tryz.func66, Tryz.ntmps66
  go_wp2_with fail
  refine (missL _ _ H.out).mono ?_
  rintro e w1 ⟨rfl, rfl⟩
  go_wp2
  go_ret
  exact ⟨rfl, Below.refl _ _⟩
theorem listN (p : Option Addr) (w : World) (h : NoD p w) : Calls Tryz.prog 26 #[.pointer p] w fun e w' => e = .returned (.slice none 0 0) ∧ Below w.heap.size w w' := by
  have H : Hid (NoD p w) := h
  clear h
  go_enter Tryz.func26, Tryz.ntmps26
  go_wp2_with fail
  refine (missD _ _ H.out).mono ?_
  rintro e w1 ⟨rfl, rfl⟩
  go_wp2
  go_ret
  exact ⟨rfl, Below.refl _ _⟩
theorem roomN (p : Option Addr) (w : World) (h : NoD p w) : Calls Tryz.prog 27 #[.pointer p] w fun e w' => e = .returned (.tuple #[.int .i64 0, .int .i64 0]) ∧ Below w.heap.size w w' := by
  have H : Hid (NoD p w) := h
  clear h
  go_enter Tryz.func27, Tryz.ntmps27
  go_wp2_with fail
  refine (missD _ _ H.out).mono ?_
  rintro e w1 ⟨rfl, rfl⟩
  go_wp2
  go_ret2
  exact ⟨rfl, Below.refl _ _⟩
theorem changesN (p : Option Addr) (w : World) (h : NoD p w) : Calls Tryz.prog 28 #[.pointer p] w fun e w' => e = .returned (.int .i64 0) ∧ Below w.heap.size w w' := by
  have H : Hid (NoD p w) := h
  clear h
  go_enter Tryz.func28, Tryz.ntmps28
  go_wp2_with fail
  refine (missD _ _ H.out).mono ?_
  rintro e w1 ⟨rfl, rfl⟩
  go_wp2
  go_ret
  exact ⟨rfl, Below.refl _ _⟩
theorem copyN (p : Option Addr) (w : World) (h : NoD p w) : Calls Tryz.prog 29 #[.pointer p] w fun e w' => e = .returned (.pointer none) ∧ Below w.heap.size w w' := by
  have H : Hid (NoD p w) := h
  clear h
  go_enter Tryz.func29, Tryz.ntmps29
  go_wp2_with fail
  refine (missD _ _ H.out).mono ?_
  rintro e w1 ⟨rfl, rfl⟩
  go_wp2
  go_ret
  exact ⟨rfl, Below.refl _ _⟩
theorem results_ct {P : Program} {fn : Func} {p r : Tmp} {ty : TypeId} (h : fn.results = #[.cell p ty, .tmp r]) (tmps : Array Value) (w : World) (a : Addr) (x : Value) (d : TypeDesc)
    (hp : tmps.getD p undef = .pointer (some a)) (hx : w.cell? a = some x)
    (hu : P.underlying ty = some d) (hd : (match d with | .struct _ | .array _ _ => true | _ => false) = false) :
    (results fn tmps).run P w = .ok (.tuple #[x, tmps.getD r undef]) w := by
  have hp' : tmps[p]?.getD undef = .pointer (some a) := by simpa using hp
  simp [results, h, hp', asAddr, run_loadVar_cellR w a x ty d hu hd hx]
theorem lappendN (p : Option Addr) (s : Int) (v : Value) (w : World) (h : NoD p w) : Calls Tryz.prog 6 #[.pointer p, .agg #[.int .u64 s, v]] w fun e w' => e = .returned (.tuple #[.int .u64 0, .int .i64 1]) ∧ Below w.heap.size w w' := by
  have H : Hid (NoD p w) := h
  clear h
  go_enter Tryz.func6, Tryz.ntmps6
  go_wp2_with fail
  refine (faceN _ _ _ (((H.out.alloc _).alloc _).alloc _)).mono ?_
  rintro e w1 ⟨rfl, rfl⟩
  go_wp2
  refine bodyPost_ret (results_ct (p := 4) (r := 5) rfl _ _ ⟨w.heap.size + 1 + 1, 0, none⟩ (.int .u64 0) _ (by rfl) ?_ Tryz.underlying23 rfl) rfl ⟨rfl, ?_⟩
  · simp [go_sem]
  · first | exact bel3 _ _ _ _ | exact (bel3 _ _ _ _).setCell (by simp only; omega) _
end Go.Proofs.YtljdjaapocmppaaGreatDoor
