import Derived.Test.YtdgkocgjihdbpaaGreatCellNil1
import Derived.Test.YtdgkocgjihdbpaaGreatFifoLaw
namespace Go.Proofs.YtdgkocgjihdbpaaGreat
open Go.ChangeShapes Go.WideShapes Go.ChangeAt Go.RowKit
set_option linter.unusedVariables false
set_option maxRecDepth 100000
set_option maxHeartbeats 1600000
/-- A slice of words that holds xs. -/
def SeenU (w : World) (v : Value) (xs : List Int) : Prop := ∃ sp cap, v = .slice sp xs.length cap ∧ ∀ i (hi : i < xs.length), ∃ g, sp = some ⟨g, 0, none⟩ ∧ g < w.heap.size ∧ w.cell? ⟨g, i, none⟩ = some (.int .u64 xs[i])
theorem SeenU.later {w w' : World} {v : Value} {xs : List Int} (h : SeenU w v xs) (hb : Below w.heap.size w w') : SeenU w' v xs := by
  obtain ⟨sp, cap, e, h⟩ := h
  refine ⟨sp, cap, e, fun i hi => ?_⟩
  obtain ⟨g, e1, e2, e3⟩ := h i hi
  exact ⟨g, e1, Nat.lt_of_lt_of_le e2 hb.size, (hb.cell (p := ⟨g, i, none⟩) e2).trans e3⟩
/-- The same, its cells in a block from B on. -/
def SeenB (w : World) (B : Nat) (v : Value) (xs : List Int) : Prop := ∃ sp cap, v = .slice sp xs.length cap ∧ ∀ i (hi : i < xs.length), ∃ g, sp = some ⟨g, 0, none⟩ ∧ B ≤ g ∧ g < w.heap.size ∧ w.cell? ⟨g, i, none⟩ = some (.int .u64 xs[i])
theorem SeenB.later {w w' : World} {B : Nat} {v : Value} {xs : List Int} (h : SeenB w B v xs) (hb : Below w.heap.size w w') : SeenB w' B v xs := by
  obtain ⟨sp, cap, e, h⟩ := h
  refine ⟨sp, cap, e, fun i hi => ?_⟩
  obtain ⟨g, e1, e0, e2, e3⟩ := h i hi
  exact ⟨g, e1, e0, Nat.lt_of_lt_of_le e2 hb.size, (hb.cell (p := ⟨g, i, none⟩) e2).trans e3⟩
theorem SeenB.set {w : World} {B : Nat} {v : Value} {xs : List Int} (h : SeenB w B v xs) {a : Addr} (ha : a.block < B) (u : Value) : SeenB (w.setCell a u) B v xs := by
  obtain ⟨sp, cap, e, h⟩ := h
  refine ⟨sp, cap, e, fun i hi => ?_⟩
  obtain ⟨g, e1, e0, e2, e3⟩ := h i hi
  exact ⟨g, e1, e0, by simpa using e2, (World.cell?_setCell_other _ _ _ _ (fun e => by have := congrArg Addr.block e; simp at this; omega)).trans e3⟩
theorem SeenB.mono {w : World} {B n : Nat} {v : Value} {xs : List Int} (h : SeenB w B v xs) (hn : n ≤ B) : SeenB w n v xs := by
  obtain ⟨sp, cap, e, h⟩ := h
  refine ⟨sp, cap, e, fun i hi => ?_⟩
  obtain ⟨g, e1, e0, e2, e3⟩ := h i hi
  exact ⟨g, e1, Nat.le_trans hn e0, e2, e3⟩
theorem SeenB.seen {w : World} {B : Nat} {v : Value} {xs : List Int} (h : SeenB w B v xs) : SeenU w v xs := by
  obtain ⟨sp, cap, e, h⟩ := h
  refine ⟨sp, cap, e, fun i hi => ?_⟩
  obtain ⟨g, e1, e0, e2, e3⟩ := h i hi
  exact ⟨g, e1, e2, e3⟩
theorem seenU_nil (w : World) (B : Nat) : SeenB w B (.slice none 0 0) [] := ⟨none, 0, rfl, fun i hi => by simp at hi⟩
theorem seenU_one (w : World) (x : Int) : SeenB (w.alloc (.cells #[.int .u64 x] 55)) w.heap.size (.slice (some ⟨w.heap.size, 0, none⟩) 1 1) [x] := by
  refine ⟨_, 1, rfl, fun i hi => ⟨w.heap.size, rfl, Nat.le_refl _, by simp, ?_⟩⟩
  have : i = 0 := by simpa using hi
  subst this
  exact cell?_new w _ _
theorem seenU_two (w : World) (x y : Int) : SeenB (w.alloc (.cells #[.int .u64 x, .int .u64 y] 55)) w.heap.size (.slice (some ⟨w.heap.size, 0, none⟩) 2 2) [x, y] := by
  refine ⟨_, 2, rfl, fun i hi => ⟨w.heap.size, rfl, Nat.le_refl _, by simp, ?_⟩⟩
  have hg := heap_alloc_new w (.cells #[.int .u64 x, .int .u64 y] 55)
  have hi2 : i < 2 := by simpa using hi
  match i, hi2 with
  | 0, _ => exact (cell?_heap hg 0).trans rfl
  | 1, _ => exact (cell?_heap hg 1).trans rfl
theorem one_any (x : Int) (w : World) : Calls Tryz.prog 14 #[.int .u64 x] w fun e w' => ∃ v, e = .returned v ∧ SeenB w' w.heap.size v [x] ∧ Below w.heap.size w w' := by
  go_enter Tryz.func14, Tryz.ntmps14
  go_wp2
  go_ret
  exact ⟨_, rfl, seenU_one w x, (Below.refl _ _).alloc (Nat.le_refl _) _⟩
theorem bit_no (w : World) : Calls Tryz.prog 20 #[.bool false] w fun e w' => ∃ v, e = .returned v ∧ SeenB w' w.heap.size v [0] ∧ Below w.heap.size w w' := by
  go_enter Tryz.func20, Tryz.ntmps20
  go_wp2
  go_ret
  exact ⟨_, rfl, seenU_one w 0, (Below.refl _ _).alloc (Nat.le_refl _) _⟩
theorem ints_none (w : World) : Calls Tryz.prog 37 #[.slice none 0 0] w fun e w' => e = .returned (.slice none 0 0) ∧ w' = w := by
  go_enter Tryz.func37, Tryz.ntmps37
  go_wp2_with fail
  go_loopw [3, 4] (fun c i wr => c = .slice none 0 0 ∧ i = .int .i64 0 ∧ wr = w) (fun _ _ _ => 0)
  case atStart => exact ⟨rfl, rfl, rfl⟩
  case round =>
    obtain ⟨rfl, rfl, rfl⟩ := hrel
    go_wp2
    go_ret
    exact ⟨rfl, rfl⟩
/-- While a call of an arena that is not there is asked: the call at g, the answer's cells at g + 1. -/
structure NS (p : Option Addr) (w0 : World) (g : Nat) (k : Int) (o : OpV) (W : World) : Prop where
  ms : MissP p W
  low : Below w0.heap.size w0 W
  c0 : W.cell? ⟨g, 0, none⟩ = some (.int .i64 k)
  c1 : W.cell? ⟨g, 1, none⟩ = some (.int .i64 o.slot)
  c2 : W.cell? ⟨g, 2, none⟩ = some (.int .i64 o.cell)
  c3 : W.cell? ⟨g, 3, none⟩ = some (.int .u64 o.a)
  c4 : W.cell? ⟨g, 4, none⟩ = some (.int .u64 o.b)
  c5 : W.cell? ⟨g, 5, none⟩ = some (.slice o.wa o.ws.length o.wc)
  c6 : W.cell? ⟨g, 6, none⟩ = some (.string o.p)
  r0 : W.cell? ⟨g + 1, 0, none⟩ = some (.int .i64 0)
  r1 : W.cell? ⟨g + 1, 1, none⟩ = some (.slice none 0 0)
  r2 : W.cell? ⟨g + 1, 2, none⟩ = some (.string ⟨#[]⟩)
  z : ∀ j, W.frozen? ⟨g + 1, j, none⟩ = false
  hr : W.heap[g + 1]? = some (.cells #[.int .i64 0, .slice none 0 0, .string ⟨#[]⟩] 53 (0, 0))
  hg : w0.heap.size ≤ g
  lt : g + 1 < W.heap.size
theorem NS.grow {p : Option Addr} {w0 : World} {g : Nat} {k : Int} {o : OpV} {W W' : World} (h : NS p w0 g k o W) (hb : Below W.heap.size W W') : NS p w0 g k o W' := by
  have hl := h.lt
  have a0 : ∀ j, W'.cell? ⟨g, j, none⟩ = W.cell? ⟨g, j, none⟩ := fun j => hb.cell (p := ⟨g, j, none⟩) (by show g < _; omega)
  have a1 : ∀ j, W'.cell? ⟨g + 1, j, none⟩ = W.cell? ⟨g + 1, j, none⟩ := fun j => hb.cell (p := ⟨g + 1, j, none⟩) hl
  exact ⟨h.ms.later hb, h.low.trans (hb.mono h.low.size), (a0 _).trans h.c0, (a0 _).trans h.c1, (a0 _).trans h.c2, (a0 _).trans h.c3, (a0 _).trans h.c4, (a0 _).trans h.c5, (a0 _).trans h.c6, (a1 _).trans h.r0, (a1 _).trans h.r1, (a1 _).trans h.r2, fun j => (hb.frozen (p := ⟨g + 1, j, none⟩) hl).trans (h.z j), (hb.block (g + 1) hl).trans h.hr, h.hg, Nat.lt_of_lt_of_le hl hb.size⟩
theorem NS.drew {p : Option Addr} {w0 : World} {g : Nat} {k : Int} {o : OpV} {W : World} (h : NS p w0 g k o W) : NS p w0 g k o W.drew := h.grow (Below.refl _ _).drew
abbrev nsW (w : World) (k : Int) (o : OpV) : World := (w.alloc (.cells #[.int .i64 k, .int .i64 o.slot, .int .i64 o.cell, .int .u64 o.a, .int .u64 o.b, .slice o.wa o.ws.length o.wc, .string o.p] 57)).alloc (.cells #[.int .i64 0, .slice none 0 0, .string ⟨#[]⟩] 53)
theorem NS.start {p : Option Addr} (w : World) (k : Int) (o : OpV) (h : MissP p w) : NS p w w.heap.size k o (nsW w k o) := by
  have e1 := (Below.heap_alloc (w.alloc (.cells #[.int .i64 k, .int .i64 o.slot, .int .i64 o.cell, .int .u64 o.a, .int .u64 o.b, .slice o.wa o.ws.length o.wc, .string o.p] 57)) (.cells #[.int .i64 0, .slice none 0 0, .string ⟨#[]⟩] 53) w.heap.size (by simp)).trans (heap_alloc_new w _)
  have e2 := heap_alloc_new (w.alloc (.cells #[.int .i64 k, .int .i64 o.slot, .int .i64 o.cell, .int .u64 o.a, .int .u64 o.b, .slice o.wa o.ws.length o.wc, .string o.p] 57)) (.cells #[.int .i64 0, .slice none 0 0, .string ⟨#[]⟩] 53)
  rw [World.size_alloc] at e2
  exact ⟨(h.alloc _).alloc _, ((Below.refl _ _).alloc (Nat.le_refl _) _).alloc (by simp) _, (cell?_heap e1 0).trans rfl, (cell?_heap e1 1).trans rfl, (cell?_heap e1 2).trans rfl, (cell?_heap e1 3).trans rfl, (cell?_heap e1 4).trans rfl, (cell?_heap e1 5).trans rfl, (cell?_heap e1 6).trans rfl, (cell?_heap e2 0).trans rfl, (cell?_heap e2 1).trans rfl, (cell?_heap e2 2).trans rfl, fun j => frozen?_heap e2 j, e2, Nat.le_refl _, by simp⟩

theorem infoAns : (Tryz.prog.info? 53).map (·.size) = some 3 := by kernel_rfl
/-- The answer laid into its cells. -/
abbrev ansW (W : World) (g : Nat) (a b c : Value) : World := ((W.setCell ⟨g + 1, 0, none⟩ a).setCell ⟨g + 1, 1, none⟩ b).setCell ⟨g + 1, 2, none⟩ c
theorem ret_ans {fn : Func} {q : Tmp} (hf : fn.results = #[.cell q 53]) {p : Option Addr} {w0 : World} {g : Nat} {k : Int} {o : OpV} {W : World} (h : NS p w0 g k o W) (tmps : Array Value) (a b c : Value) (hp : tmps.getD q undef = .pointer (some ⟨g + 1, 0, none⟩)) : (results fn tmps).run Tryz.prog (ansW W g a b c) = .ok (.agg #[a, b, c]) (ansW W g a b c) := by
  refine results_cell_row hf tmps _ (g + 1) 53 _ (0, 0) _ hp (setCell_heap _ (setCell_heap _ (setCell_heap _ h.hr))) Tryz.underlying53 rfl infoAns
theorem ret_ans0 {fn : Func} {q : Tmp} (hf : fn.results = #[.cell q 53]) {p : Option Addr} {w0 : World} {g : Nat} {k : Int} {o : OpV} {W : World} (h : NS p w0 g k o W) (tmps : Array Value) (hp : tmps.getD q undef = .pointer (some ⟨g + 1, 0, none⟩)) : (results fn tmps).run Tryz.prog W = .ok (.agg #[.int .i64 0, .slice none 0 0, .string ⟨#[]⟩]) W :=
  results_cell_row hf tmps _ (g + 1) 53 _ (0, 0) _ hp h.hr Tryz.underlying53 rfl infoAns
theorem NS.ans {p : Option Addr} {w0 : World} {g : Nat} {k : Int} {o : OpV} {W : World} (h : NS p w0 g k o W) (a b c : Value) : Below w0.heap.size w0 (ansW W g a b c) := by
  have := h.hg
  exact ((h.low.setCell (p := ⟨g + 1, 0, none⟩) (by show _ ≤ g + 1; omega) _).setCell (p := ⟨g + 1, 1, none⟩) (by show _ ≤ g + 1; omega) _).setCell (p := ⟨g + 1, 2, none⟩) (by show _ ≤ g + 1; omega) _

theorem SeenB.ans {W : World} {B g : Nat} {v : Value} {xs : List Int} (h : SeenB W B v xs) (hg : g + 1 < B) {n : Nat} (hn : n ≤ g) (a b c : Value) : SeenB (ansW W g a b c) n v xs :=
  (((h.set (a := ⟨g + 1, 0, none⟩) hg a).set (a := ⟨g + 1, 1, none⟩) hg b).set (a := ⟨g + 1, 2, none⟩) hg c).mono (by omega)

theorem ask2 (p : Option Addr) (o : OpV) (w : World) (h : MissP p w) : Calls Tryz.prog 7 #[.pointer p, .agg #[.int .i64 2, .int .i64 o.slot, .int .i64 o.cell, .int .u64 o.a, .int .u64 o.b, .slice o.wa o.ws.length o.wc, .string o.p]] w fun e w' => ∃ v, e = .returned (.agg #[.int .i64 1, v, .string ⟨#[]⟩]) ∧ SeenB w' w.heap.size v [] ∧ Below w.heap.size w w' := by
  have H : Hid (NS p w w.heap.size 2 o ((w.alloc (.cells #[.int .i64 2, .int .i64 o.slot, .int .i64 o.cell, .int .u64 o.a, .int .u64 o.b, .slice o.wa o.ws.length o.wc, .string o.p] 57)).alloc (.cells #[.int .i64 0, .slice none 0 0, .string ⟨#[]⟩] 53))) := NS.start w 2 o h
  clear h
  go_enter Tryz.func7, Tryz.ntmps7
  go_wp2_with fail
  generalize hg : w.heap.size = g at *
  generalize hW : (w.alloc (.cells #[.int .i64 2, .int .i64 o.slot, .int .i64 o.cell, .int .u64 o.a, .int .u64 o.b, .slice o.wa o.ws.length o.wc, .string o.p] 57)).alloc (.cells #[.int .i64 0, .slice none 0 0, .string ⟨#[]⟩] 53) = W at *
  clear hW
  refine (nFree p _ _ H.out.ms).mono ?_
  rintro e w9 ⟨rfl, rfl⟩
  go_wp2_with fail
  refine (num_any _ _).mono ?_
  rintro e w9 ⟨rfl, rfl⟩
  have q0 := H.out.r0
  have q1 := H.out.r1
  have q2 := H.out.r2
  have z0 := H.out.z 0
  have z1 := H.out.z 1
  have z2 := H.out.z 2
  go_wp2_with fail
  exact bodyPost_ret (ret_ans rfl H.out _ _ _ _ rfl) rfl ⟨_, rfl, seenU_nil _ _, hg ▸ H.out.ans _ _ _⟩

theorem ask3 (p : Option Addr) (o : OpV) (w : World) (h : MissP p w) : Calls Tryz.prog 7 #[.pointer p, .agg #[.int .i64 3, .int .i64 o.slot, .int .i64 o.cell, .int .u64 o.a, .int .u64 o.b, .slice o.wa o.ws.length o.wc, .string o.p]] w fun e w' => ∃ v, e = .returned (.agg #[.int .i64 1, v, .string ⟨#[]⟩]) ∧ SeenB w' w.heap.size v [] ∧ Below w.heap.size w w' := by
  have H : Hid (NS p w w.heap.size 3 o ((w.alloc (.cells #[.int .i64 3, .int .i64 o.slot, .int .i64 o.cell, .int .u64 o.a, .int .u64 o.b, .slice o.wa o.ws.length o.wc, .string o.p] 57)).alloc (.cells #[.int .i64 0, .slice none 0 0, .string ⟨#[]⟩] 53))) := NS.start w 3 o h
  clear h
  go_enter Tryz.func7, Tryz.ntmps7
  go_wp2_with fail
  generalize hg : w.heap.size = g at *
  generalize hW : (w.alloc (.cells #[.int .i64 3, .int .i64 o.slot, .int .i64 o.cell, .int .u64 o.a, .int .u64 o.b, .slice o.wa o.ws.length o.wc, .string o.p] 57)).alloc (.cells #[.int .i64 0, .slice none 0 0, .string ⟨#[]⟩] 53) = W at *
  clear hW
  refine (nPayload p _ _ H.out.ms).mono ?_
  rintro e w9 ⟨rfl, rfl⟩
  go_wp2_with fail
  refine (num_any _ _).mono ?_
  rintro e w9 ⟨rfl, rfl⟩
  have q0 := H.out.r0
  have q1 := H.out.r1
  have q2 := H.out.r2
  have z0 := H.out.z 0
  have z1 := H.out.z 1
  have z2 := H.out.z 2
  go_wp2_with fail
  exact bodyPost_ret (ret_ans rfl H.out _ _ _ _ rfl) rfl ⟨_, rfl, seenU_nil _ _, hg ▸ H.out.ans _ _ _⟩

theorem ask4 (p : Option Addr) (o : OpV) (w : World) (h : MissP p w) : Calls Tryz.prog 7 #[.pointer p, .agg #[.int .i64 4, .int .i64 o.slot, .int .i64 o.cell, .int .u64 o.a, .int .u64 o.b, .slice o.wa o.ws.length o.wc, .string o.p]] w fun e w' => ∃ v, e = .returned (.agg #[.int .i64 1, v, .string ⟨#[]⟩]) ∧ SeenB w' w.heap.size v [0] ∧ Below w.heap.size w w' := by
  have H : Hid (NS p w w.heap.size 4 o ((w.alloc (.cells #[.int .i64 4, .int .i64 o.slot, .int .i64 o.cell, .int .u64 o.a, .int .u64 o.b, .slice o.wa o.ws.length o.wc, .string o.p] 57)).alloc (.cells #[.int .i64 0, .slice none 0 0, .string ⟨#[]⟩] 53))) := NS.start w 4 o h
  clear h
  go_enter Tryz.func7, Tryz.ntmps7
  go_wp2_with fail
  generalize hg : w.heap.size = g at *
  generalize hW : (w.alloc (.cells #[.int .i64 4, .int .i64 o.slot, .int .i64 o.cell, .int .u64 o.a, .int .u64 o.b, .slice o.wa o.ws.length o.wc, .string o.p] 57)).alloc (.cells #[.int .i64 0, .slice none 0 0, .string ⟨#[]⟩] 53) = W at *
  clear hW
  refine (nLoad p _ _ _ H.out.ms).mono ?_
  rintro e w9 ⟨rfl, hb⟩
  have H9 : Hid (NS p w g _ o w9) := H.out.grow hb
  clear H hb
  have H := H9
  clear H9
  go_wp2_with fail
  refine (num_any _ _).mono ?_
  rintro e w9 ⟨rfl, rfl⟩
  go_wp2_with fail
  have hl := H.out.lt
  refine (one_any _ _).mono ?_
  rintro e w9 ⟨v, rfl, hv, hb⟩
  have H9 : Hid (NS p w g _ o w9) := H.out.grow hb
  have HV : Hid (∃ B, g + 1 < B ∧ SeenB w9 B v [0]) := ⟨_, hl, hv⟩
  clear H hv hb hl
  have H := H9
  clear H9
  have ev : ∃ sp cap, v = .slice sp 1 cap := by
    obtain ⟨B, _, sp, cap, e, _⟩ := HV.out
    exact ⟨sp, cap, e⟩
  obtain ⟨sp, cap, rfl⟩ := ev
  have q0 := H.out.r0
  have q1 := H.out.r1
  have q2 := H.out.r2
  have z0 := H.out.z 0
  have z1 := H.out.z 1
  have z2 := H.out.z 2
  go_wp2_with fail
  exact bodyPost_ret (ret_ans rfl H.out _ _ _ _ rfl) rfl ⟨_, rfl, (by obtain ⟨B, h1, h2⟩ := HV.out; exact h2.ans h1 (H.out.hg) _ _ _), hg ▸ H.out.ans _ _ _⟩

theorem ask5 (p : Option Addr) (o : OpV) (w : World) (h : MissP p w) : Calls Tryz.prog 7 #[.pointer p, .agg #[.int .i64 5, .int .i64 o.slot, .int .i64 o.cell, .int .u64 o.a, .int .u64 o.b, .slice o.wa o.ws.length o.wc, .string o.p]] w fun e w' => ∃ v, e = .returned (.agg #[.int .i64 1, v, .string ⟨#[]⟩]) ∧ SeenB w' w.heap.size v [] ∧ Below w.heap.size w w' := by
  have H : Hid (NS p w w.heap.size 5 o ((w.alloc (.cells #[.int .i64 5, .int .i64 o.slot, .int .i64 o.cell, .int .u64 o.a, .int .u64 o.b, .slice o.wa o.ws.length o.wc, .string o.p] 57)).alloc (.cells #[.int .i64 0, .slice none 0 0, .string ⟨#[]⟩] 53))) := NS.start w 5 o h
  clear h
  go_enter Tryz.func7, Tryz.ntmps7
  go_wp2_with fail
  generalize hg : w.heap.size = g at *
  generalize hW : (w.alloc (.cells #[.int .i64 5, .int .i64 o.slot, .int .i64 o.cell, .int .u64 o.a, .int .u64 o.b, .slice o.wa o.ws.length o.wc, .string o.p] 57)).alloc (.cells #[.int .i64 0, .slice none 0 0, .string ⟨#[]⟩] 53) = W at *
  clear hW
  refine (nStore p _ _ _ _ H.out.ms).mono ?_
  rintro e w9 ⟨rfl, hb⟩
  have H9 : Hid (NS p w g _ o w9) := H.out.grow hb
  clear H hb
  have H := H9
  clear H9
  go_wp2_with fail
  refine (num_any _ _).mono ?_
  rintro e w9 ⟨rfl, rfl⟩
  have q0 := H.out.r0
  have q1 := H.out.r1
  have q2 := H.out.r2
  have z0 := H.out.z 0
  have z1 := H.out.z 1
  have z2 := H.out.z 2
  go_wp2_with fail
  exact bodyPost_ret (ret_ans rfl H.out _ _ _ _ rfl) rfl ⟨_, rfl, seenU_nil _ _, hg ▸ H.out.ans _ _ _⟩

theorem ask6 (p : Option Addr) (o : OpV) (w : World) (h : MissP p w) : Calls Tryz.prog 7 #[.pointer p, .agg #[.int .i64 6, .int .i64 o.slot, .int .i64 o.cell, .int .u64 o.a, .int .u64 o.b, .slice o.wa o.ws.length o.wc, .string o.p]] w fun e w' => ∃ v, e = .returned (.agg #[.int .i64 1, v, .string ⟨#[]⟩]) ∧ SeenB w' w.heap.size v [0] ∧ Below w.heap.size w w' := by
  have H : Hid (NS p w w.heap.size 6 o ((w.alloc (.cells #[.int .i64 6, .int .i64 o.slot, .int .i64 o.cell, .int .u64 o.a, .int .u64 o.b, .slice o.wa o.ws.length o.wc, .string o.p] 57)).alloc (.cells #[.int .i64 0, .slice none 0 0, .string ⟨#[]⟩] 53))) := NS.start w 6 o h
  clear h
  go_enter Tryz.func7, Tryz.ntmps7
  go_wp2_with fail
  generalize hg : w.heap.size = g at *
  generalize hW : (w.alloc (.cells #[.int .i64 6, .int .i64 o.slot, .int .i64 o.cell, .int .u64 o.a, .int .u64 o.b, .slice o.wa o.ws.length o.wc, .string o.p] 57)).alloc (.cells #[.int .i64 0, .slice none 0 0, .string ⟨#[]⟩] 53) = W at *
  clear hW
  refine (nCAS p _ _ _ _ _ H.out.ms).mono ?_
  rintro e w9 ⟨rfl, hb⟩
  have H9 : Hid (NS p w g _ o w9) := H.out.grow hb
  clear H hb
  have H := H9
  clear H9
  go_wp2_with fail
  refine (num_any _ _).mono ?_
  rintro e w9 ⟨rfl, rfl⟩
  go_wp2_with fail
  have hl := H.out.lt
  refine (bit_no _).mono ?_
  rintro e w9 ⟨v, rfl, hv, hb⟩
  have H9 : Hid (NS p w g _ o w9) := H.out.grow hb
  have HV : Hid (∃ B, g + 1 < B ∧ SeenB w9 B v [0]) := ⟨_, hl, hv⟩
  clear H hv hb hl
  have H := H9
  clear H9
  have ev : ∃ sp cap, v = .slice sp 1 cap := by
    obtain ⟨B, _, sp, cap, e, _⟩ := HV.out
    exact ⟨sp, cap, e⟩
  obtain ⟨sp, cap, rfl⟩ := ev
  have q0 := H.out.r0
  have q1 := H.out.r1
  have q2 := H.out.r2
  have z0 := H.out.z 0
  have z1 := H.out.z 1
  have z2 := H.out.z 2
  go_wp2_with fail
  exact bodyPost_ret (ret_ans rfl H.out _ _ _ _ rfl) rfl ⟨_, rfl, (by obtain ⟨B, h1, h2⟩ := HV.out; exact h2.ans h1 (H.out.hg) _ _ _), hg ▸ H.out.ans _ _ _⟩

theorem ask7 (p : Option Addr) (o : OpV) (w : World) (h : MissP p w) : Calls Tryz.prog 7 #[.pointer p, .agg #[.int .i64 7, .int .i64 o.slot, .int .i64 o.cell, .int .u64 o.a, .int .u64 o.b, .slice o.wa o.ws.length o.wc, .string o.p]] w fun e w' => ∃ v, e = .returned (.agg #[.int .i64 1, v, .string ⟨#[]⟩]) ∧ SeenB w' w.heap.size v [0] ∧ Below w.heap.size w w' := by
  have H : Hid (NS p w w.heap.size 7 o ((w.alloc (.cells #[.int .i64 7, .int .i64 o.slot, .int .i64 o.cell, .int .u64 o.a, .int .u64 o.b, .slice o.wa o.ws.length o.wc, .string o.p] 57)).alloc (.cells #[.int .i64 0, .slice none 0 0, .string ⟨#[]⟩] 53))) := NS.start w 7 o h
  clear h
  go_enter Tryz.func7, Tryz.ntmps7
  go_wp2_with fail
  generalize hg : w.heap.size = g at *
  generalize hW : (w.alloc (.cells #[.int .i64 7, .int .i64 o.slot, .int .i64 o.cell, .int .u64 o.a, .int .u64 o.b, .slice o.wa o.ws.length o.wc, .string o.p] 57)).alloc (.cells #[.int .i64 0, .slice none 0 0, .string ⟨#[]⟩] 53) = W at *
  clear hW
  refine (nAdd p _ _ _ _ H.out.ms).mono ?_
  rintro e w9 ⟨rfl, hb⟩
  have H9 : Hid (NS p w g _ o w9) := H.out.grow hb
  clear H hb
  have H := H9
  clear H9
  go_wp2_with fail
  refine (num_any _ _).mono ?_
  rintro e w9 ⟨rfl, rfl⟩
  go_wp2_with fail
  have hl := H.out.lt
  refine (one_any _ _).mono ?_
  rintro e w9 ⟨v, rfl, hv, hb⟩
  have H9 : Hid (NS p w g _ o w9) := H.out.grow hb
  have HV : Hid (∃ B, g + 1 < B ∧ SeenB w9 B v [0]) := ⟨_, hl, hv⟩
  clear H hv hb hl
  have H := H9
  clear H9
  have ev : ∃ sp cap, v = .slice sp 1 cap := by
    obtain ⟨B, _, sp, cap, e, _⟩ := HV.out
    exact ⟨sp, cap, e⟩
  obtain ⟨sp, cap, rfl⟩ := ev
  have q0 := H.out.r0
  have q1 := H.out.r1
  have q2 := H.out.r2
  have z0 := H.out.z 0
  have z1 := H.out.z 1
  have z2 := H.out.z 2
  go_wp2_with fail
  exact bodyPost_ret (ret_ans rfl H.out _ _ _ _ rfl) rfl ⟨_, rfl, (by obtain ⟨B, h1, h2⟩ := HV.out; exact h2.ans h1 (H.out.hg) _ _ _), hg ▸ H.out.ans _ _ _⟩

theorem ask1 (p : Option Addr) (o : OpV) (w : World) (h : MissP p w) (B : Nat) (hB : B ≤ w.heap.size) (hs : SeesU w B o.wa o.ws) (hl8 : o.ws.length * 8 ≤ 140737488355328) : Calls Tryz.prog 7 #[.pointer p, .agg #[.int .i64 1, .int .i64 o.slot, .int .i64 o.cell, .int .u64 o.a, .int .u64 o.b, .slice o.wa o.ws.length o.wc, .string o.p]] w fun e w' => ∃ v, e = .returned (.agg #[.int .i64 1, v, .string ⟨#[]⟩]) ∧ SeenB w' w.heap.size v [0] ∧ Below w.heap.size w w' := by
  have H : Hid (NS p w w.heap.size 1 o ((w.alloc (.cells #[.int .i64 1, .int .i64 o.slot, .int .i64 o.cell, .int .u64 o.a, .int .u64 o.b, .slice o.wa o.ws.length o.wc, .string o.p] 57)).alloc (.cells #[.int .i64 0, .slice none 0 0, .string ⟨#[]⟩] 53))) := NS.start w 1 o h
  clear h
  go_enter Tryz.func7, Tryz.ntmps7
  go_wp2_with fail
  generalize hg : w.heap.size = g at *
  generalize hW : (w.alloc (.cells #[.int .i64 1, .int .i64 o.slot, .int .i64 o.cell, .int .u64 o.a, .int .u64 o.b, .slice o.wa o.ws.length o.wc, .string o.p] 57)).alloc (.cells #[.int .i64 0, .slice none 0 0, .string ⟨#[]⟩] 53) = W at *
  clear hW
  have HU : Hid (SeesU W B o.wa o.ws) := hs.later (H.out.low.mono (by omega))
  have hBW : B ≤ W.heap.size := by have := H.out.low.size; omega
  have HD : Hid (NS p w g _ o W.drew) := H.out.drew
  have d1 : W.drew.cell? ⟨g, 1, none⟩ = some (.int .i64 o.slot) := H.out.c1
  have d2 : W.drew.cell? ⟨g, 2, none⟩ = some (.int .i64 o.cell) := H.out.c2
  have d5 : W.drew.cell? ⟨g, 5, none⟩ = some (.slice o.wa o.ws.length o.wc) := H.out.c5
  have d6 : W.drew.cell? ⟨g, 6, none⟩ = some (.string o.p) := H.out.c6
  clear hs
  have HG : Hid (w.heap.size = g) := hg
  clear hg
  go_region_held3 (fun W' => W'.cell? ⟨g, 1, none⟩ = some (.int .i64 o.slot) ∧ W'.cell? ⟨g, 2, none⟩ = some (.int .i64 o.cell) ∧ W'.cell? ⟨g, 5, none⟩ = some (.slice o.wa o.ws.length o.wc) ∧ W'.cell? ⟨g, 6, none⟩ = some (.string o.p)) (first | assumption | exact ⟨d1, d2, d5, d6⟩ | exact ⟨H1.out.c1, H1.out.c2, H1.out.c5, H1.out.c6⟩ | exact ⟨H3.out.c1, H3.out.c2, H3.out.c5, H3.out.c6⟩) (first | (go_at_call 13; refine (words_any o.wa o.wc o.ws W.drew B hBW HU.out hl8).mono ?_; rintro e w1 ⟨v1, rfl, ho, hb⟩; have H1 : Hid (NS p w g _ o w1) := HD.out.grow hb; clear ho hb) | (go_at_call 12; refine (nAlloc p _ _ _ H1.out.ms).mono ?_; rintro e w3 ⟨rfl, rfl⟩; ))
  have H9 := H1
  clear H HD HU d1 d2 d5 d6
  have H := H9
  clear H9
  go_wp2_with fail
  refine (num_any _ _).mono ?_
  rintro e w9 ⟨rfl, rfl⟩
  go_wp2_with fail
  have hl := H.out.lt
  refine (one_any _ _).mono ?_
  rintro e w9 ⟨v, rfl, hv, hb⟩
  have H9 : Hid (NS p w g _ o w9) := H.out.grow hb
  have HV : Hid (∃ B, g + 1 < B ∧ SeenB w9 B v [0]) := ⟨_, hl, hv⟩
  clear H hv hb hl
  have H := H9
  clear H9
  have ev : ∃ sp cap, v = .slice sp 1 cap := by
    obtain ⟨B, _, sp, cap, e, _⟩ := HV.out
    exact ⟨sp, cap, e⟩
  obtain ⟨sp, cap, rfl⟩ := ev
  have q0 := H.out.r0
  have q1 := H.out.r1
  have q2 := H.out.r2
  have z0 := H.out.z 0
  have z1 := H.out.z 1
  have z2 := H.out.z 2
  go_wp2_with fail
  exact bodyPost_ret (ret_ans rfl H.out _ _ _ _ rfl) rfl ⟨_, rfl, (by obtain ⟨B, h1, h2⟩ := HV.out; exact h2.ans h1 (H.out.hg) _ _ _), HG.out ▸ H.out.ans _ _ _⟩

theorem ask8 (p : Option Addr) (o : OpV) (w : World) (h : MissP p w) (B : Nat) (hB : B ≤ w.heap.size) (hs : SeesU w B o.wa o.ws) (hl8 : o.ws.length * 8 ≤ 140737488355328) : Calls Tryz.prog 7 #[.pointer p, .agg #[.int .i64 8, .int .i64 o.slot, .int .i64 o.cell, .int .u64 o.a, .int .u64 o.b, .slice o.wa o.ws.length o.wc, .string o.p]] w fun e w' => ∃ v, e = .returned (.agg #[.int .i64 1, v, .string ⟨#[]⟩]) ∧ SeenB w' w.heap.size v [0] ∧ Below w.heap.size w w' := by
  have H : Hid (NS p w w.heap.size 8 o ((w.alloc (.cells #[.int .i64 8, .int .i64 o.slot, .int .i64 o.cell, .int .u64 o.a, .int .u64 o.b, .slice o.wa o.ws.length o.wc, .string o.p] 57)).alloc (.cells #[.int .i64 0, .slice none 0 0, .string ⟨#[]⟩] 53))) := NS.start w 8 o h
  clear h
  go_enter Tryz.func7, Tryz.ntmps7
  go_wp2_with fail
  generalize hg : w.heap.size = g at *
  generalize hW : (w.alloc (.cells #[.int .i64 8, .int .i64 o.slot, .int .i64 o.cell, .int .u64 o.a, .int .u64 o.b, .slice o.wa o.ws.length o.wc, .string o.p] 57)).alloc (.cells #[.int .i64 0, .slice none 0 0, .string ⟨#[]⟩] 53) = W at *
  clear hW
  have HU : Hid (SeesU W B o.wa o.ws) := hs.later (H.out.low.mono (by omega))
  have hBW : B ≤ W.heap.size := by have := H.out.low.size; omega
  have HD : Hid (NS p w g _ o W.drew) := H.out.drew
  have d1 : W.drew.cell? ⟨g, 1, none⟩ = some (.int .i64 o.slot) := H.out.c1
  have d2 : W.drew.cell? ⟨g, 2, none⟩ = some (.int .i64 o.cell) := H.out.c2
  have d5 : W.drew.cell? ⟨g, 5, none⟩ = some (.slice o.wa o.ws.length o.wc) := H.out.c5
  have d6 : W.drew.cell? ⟨g, 6, none⟩ = some (.string o.p) := H.out.c6
  clear hs
  have HG : Hid (w.heap.size = g) := hg
  clear hg
  go_region_held3 (fun W' => W'.cell? ⟨g, 1, none⟩ = some (.int .i64 o.slot) ∧ W'.cell? ⟨g, 2, none⟩ = some (.int .i64 o.cell) ∧ W'.cell? ⟨g, 5, none⟩ = some (.slice o.wa o.ws.length o.wc) ∧ W'.cell? ⟨g, 6, none⟩ = some (.string o.p)) (first | assumption | exact ⟨d1, d2, d5, d6⟩ | exact ⟨H1.out.c1, H1.out.c2, H1.out.c5, H1.out.c6⟩ | exact ⟨H3.out.c1, H3.out.c2, H3.out.c5, H3.out.c6⟩) (first | (go_at_call 13; refine (words_any o.wa o.wc o.ws W.drew B hBW HU.out hl8).mono ?_; rintro e w1 ⟨v1, rfl, ho, hb⟩; have H1 : Hid (NS p w g _ o w1) := HD.out.grow hb; clear ho hb) | (go_at_call 22; refine (nAddAll p _ _ _ _ H1.out.ms).mono ?_; rintro e w3 ⟨rfl, hb⟩; have H3 : Hid (NS p w g _ o w3) := H1.out.grow hb; clear hb))
  have H9 := H3
  clear H HD HU d1 d2 d5 d6
  have H := H9
  clear H9
  go_wp2_with fail
  refine (num_any _ _).mono ?_
  rintro e w9 ⟨rfl, rfl⟩
  go_wp2_with fail
  have hl := H.out.lt
  refine (one_any _ _).mono ?_
  rintro e w9 ⟨v, rfl, hv, hb⟩
  have H9 : Hid (NS p w g _ o w9) := H.out.grow hb
  have HV : Hid (∃ B, g + 1 < B ∧ SeenB w9 B v [0]) := ⟨_, hl, hv⟩
  clear H hv hb hl
  have H := H9
  clear H9
  have ev : ∃ sp cap, v = .slice sp 1 cap := by
    obtain ⟨B, _, sp, cap, e, _⟩ := HV.out
    exact ⟨sp, cap, e⟩
  obtain ⟨sp, cap, rfl⟩ := ev
  have q0 := H.out.r0
  have q1 := H.out.r1
  have q2 := H.out.r2
  have z0 := H.out.z 0
  have z1 := H.out.z 1
  have z2 := H.out.z 2
  go_wp2_with fail
  exact bodyPost_ret (ret_ans rfl H.out _ _ _ _ rfl) rfl ⟨_, rfl, (by obtain ⟨B, h1, h2⟩ := HV.out; exact h2.ans h1 (H.out.hg) _ _ _), HG.out ▸ H.out.ans _ _ _⟩

end Go.Proofs.YtdgkocgjihdbpaaGreat
