import Derived.Test.YtdgkocgjihdbpaaGreatCellNil3
import Derived.Test.YtdgkocgjihdbpaaGreatCells4
namespace Go.Proofs.YtdgkocgjihdbpaaGreat
open Go.ChangeShapes Go.WideShapes Go.ChangeAt Go.RowKit
set_option linter.unusedVariables false
set_option maxRecDepth 100000
set_option maxHeartbeats 1600000

theorem rAlloc (e0 : Value) (v : Value) (w : World) (sp : Option Addr) (n c : Nat) (hv : v = .slice sp n c) (a b : ByteArray) (t : Int) (he : e0 = .agg #[.string a, .string b, .int .i64 t]) : Calls Tryz.prog 24 #[.pointer none, e0, v] w fun e w' => e = .returned (.tuple #[.int .i64 0, .int .i64 1]) ∧ Below w.heap.size w w' := by
  subst hv he
  go_enter Tryz.func24, Tryz.ntmps24
  go_wp2
  go_ret2
  exact ⟨rfl, (Below.refl _ _).alloc (Nat.le_refl _) _⟩
theorem infoEn : (Tryz.prog.info? 85).map (·.size) = some 3 := by kernel_rfl
theorem ret_entry {fn : Func} {p u : Tmp} (h : fn.results = #[.cell p 85, .tmp u]) (tmps : Array Value) (w : World) (a b c : Value) (g : Nat) (hp : tmps.getD p undef = .pointer (some ⟨g, 0, none⟩)) (hg : w.heap[g]? = some (.cells #[a, b, c] 85 (0, 0))) :
    (results fn tmps).run Tryz.prog w = .ok (.tuple #[.agg #[a, b, c], tmps.getD u undef]) w := by
  have hp' : tmps[p]?.getD undef = .pointer (some ⟨g, 0, none⟩) := by simpa using hp
  simp [results, h, hp', asAddr, run_loadVar_row w g 85 85 _ (0, 0) _ hg Tryz.underlying85 rfl infoEn]
theorem rPayload (x : Int) (w : World) : Calls Tryz.prog 26 #[.pointer none, .int .i64 x] w fun e w' => e = .returned (.tuple #[.agg #[.string ⟨#[]⟩, .string ⟨#[]⟩, .int .i64 0], .int .i64 1]) ∧ Below w.heap.size w w' := by
  go_enter Tryz.func26, Tryz.ntmps26
  go_wp2
  exact bodyPost_ret (ret_entry (p := 4) (u := 5) rfl _ _ _ _ _ w.heap.size (by rfl) (heap_alloc_new w _)) rfl ⟨rfl, (Below.refl _ _).alloc (Nat.le_refl _) _⟩

theorem doc1 (o : OpV) (w : World) (h : MissP none w) : Calls Tryz.prog 8 #[.pointer none, .agg #[.int .i64 1, .int .i64 o.slot, .int .i64 o.cell, .int .u64 o.a, .int .u64 o.b, .slice o.wa o.ws.length o.wc, .string o.p]] w fun e w' => ∃ v, e = .returned (.agg #[.int .i64 1, v, .string ⟨#[]⟩]) ∧ SeenB w' w.heap.size v [0] ∧ Below w.heap.size w w' := by
  have H : Hid (NS none w w.heap.size 1 o ((w.alloc (.cells #[.int .i64 1, .int .i64 o.slot, .int .i64 o.cell, .int .u64 o.a, .int .u64 o.b, .slice o.wa o.ws.length o.wc, .string o.p] 57)).alloc (.cells #[.int .i64 0, .slice none 0 0, .string ⟨#[]⟩] 53))) := NS.start w 1 o h
  clear h
  go_enter Tryz.func8, Tryz.ntmps8
  go_wp2_with fail
  generalize hg : w.heap.size = g at *
  generalize hW : (w.alloc (.cells #[.int .i64 1, .int .i64 o.slot, .int .i64 o.cell, .int .u64 o.a, .int .u64 o.b, .slice o.wa o.ws.length o.wc, .string o.p] 57)).alloc (.cells #[.int .i64 0, .slice none 0 0, .string ⟨#[]⟩] 53) = W at *
  clear hW
  refine (rAlloc _ _ _ _ _ _ rfl _ _ _ rfl).mono ?_
  rintro e w9 ⟨rfl, hb⟩
  have H9 : Hid (NS none w g _ o w9) := H.out.grow hb
  clear H hb
  have H := H9
  clear H9
  go_wp2_with fail
  have hl := H.out.lt
  refine (one_any _ _).mono ?_
  rintro e w9 ⟨v, rfl, hv, hb⟩
  have H9 : Hid (NS none w g _ o w9) := H.out.grow hb
  have HV : Hid (∃ B, g + 1 < B ∧ SeenB w9 B v [0]) := ⟨_, hl, hv⟩
  clear H hv hb hl
  have H := H9
  clear H9
  have ev : ∃ sp cap, v = .slice sp 1 cap := by
    obtain ⟨B, _, sp, cap, e, _⟩ := HV.out
    exact ⟨sp, cap, e⟩
  obtain ⟨sp, cap, rfl⟩ := ev
  have q0 := H.out.r0
  have q1 := H.out.r1
  have q2 := H.out.r2
  have z0 := H.out.z 0
  have z1 := H.out.z 1
  have z2 := H.out.z 2
  go_wp2_with fail
  exact bodyPost_ret (ret_ans rfl H.out _ _ _ _ rfl) rfl ⟨_, rfl, (by obtain ⟨B, h1, h2⟩ := HV.out; exact h2.ans h1 (H.out.hg) _ _ _), hg ▸ H.out.ans _ _ _⟩

theorem doc3 (o : OpV) (w : World) (h : MissP none w) : Calls Tryz.prog 8 #[.pointer none, .agg #[.int .i64 3, .int .i64 o.slot, .int .i64 o.cell, .int .u64 o.a, .int .u64 o.b, .slice o.wa o.ws.length o.wc, .string o.p]] w fun e w' => ∃ v, e = .returned (.agg #[.int .i64 1, v, .string ⟨#[]⟩]) ∧ SeenB w' w.heap.size v [] ∧ Below w.heap.size w w' := by
  have H : Hid (NS none w w.heap.size 3 o ((w.alloc (.cells #[.int .i64 3, .int .i64 o.slot, .int .i64 o.cell, .int .u64 o.a, .int .u64 o.b, .slice o.wa o.ws.length o.wc, .string o.p] 57)).alloc (.cells #[.int .i64 0, .slice none 0 0, .string ⟨#[]⟩] 53))) := NS.start w 3 o h
  clear h
  go_enter Tryz.func8, Tryz.ntmps8
  go_wp2_with fail
  generalize hg : w.heap.size = g at *
  generalize hW : (w.alloc (.cells #[.int .i64 3, .int .i64 o.slot, .int .i64 o.cell, .int .u64 o.a, .int .u64 o.b, .slice o.wa o.ws.length o.wc, .string o.p] 57)).alloc (.cells #[.int .i64 0, .slice none 0 0, .string ⟨#[]⟩] 53) = W at *
  clear hW
  refine (rPayload _ _).mono ?_
  rintro e w9 ⟨rfl, hb⟩
  have H9 : Hid (NS none w g _ o w9) := H.out.grow hb
  clear H hb
  have H := H9
  clear H9
  have H9 : Hid (NS none w g _ o (w9.alloc (.cells #[.string ⟨#[]⟩, .string ⟨#[]⟩, .int .i64 0] 85))) := H.out.grow ((Below.refl _ _).alloc (Nat.le_refl _) _)
  clear H
  have H := H9
  clear H9
  have q0 := H.out.r0
  have q1 := H.out.r1
  have q2 := H.out.r2
  have z0 := H.out.z 0
  have z1 := H.out.z 1
  have z2 := H.out.z 2
  go_wp2_with fail
  exact bodyPost_ret (ret_ans rfl H.out _ _ _ _ rfl) rfl ⟨_, rfl, seenU_nil _ _, hg ▸ H.out.ans _ _ _⟩

theorem doc2 (o : OpV) (w : World) (h : MissP none w) : Calls Tryz.prog 8 #[.pointer none, .agg #[.int .i64 2, .int .i64 o.slot, .int .i64 o.cell, .int .u64 o.a, .int .u64 o.b, .slice o.wa o.ws.length o.wc, .string o.p]] w fun e w' => ∃ v, e = .returned (.agg #[.int .i64 1, v, .string ⟨#[]⟩]) ∧ SeenB w' w.heap.size v [] ∧ Below w.heap.size w w' := by
  have H : Hid (NS none w w.heap.size 2 o ((w.alloc (.cells #[.int .i64 2, .int .i64 o.slot, .int .i64 o.cell, .int .u64 o.a, .int .u64 o.b, .slice o.wa o.ws.length o.wc, .string o.p] 57)).alloc (.cells #[.int .i64 0, .slice none 0 0, .string ⟨#[]⟩] 53))) := NS.start w 2 o h
  clear h
  go_enter Tryz.func8, Tryz.ntmps8
  go_wp2_with fail
  generalize hg : w.heap.size = g at *
  generalize hW : (w.alloc (.cells #[.int .i64 2, .int .i64 o.slot, .int .i64 o.cell, .int .u64 o.a, .int .u64 o.b, .slice o.wa o.ws.length o.wc, .string o.p] 57)).alloc (.cells #[.int .i64 0, .slice none 0 0, .string ⟨#[]⟩] 53) = W at *
  clear hW
  refine (rFree _ _).mono ?_
  rintro e w9 ⟨rfl, rfl⟩
  have q0 := H.out.r0
  have q1 := H.out.r1
  have q2 := H.out.r2
  have z0 := H.out.z 0
  have z1 := H.out.z 1
  have z2 := H.out.z 2
  go_wp2_with fail
  exact bodyPost_ret (ret_ans rfl H.out _ _ _ _ rfl) rfl ⟨_, rfl, seenU_nil _ _, hg ▸ H.out.ans _ _ _⟩

theorem doc4 (o : OpV) (w : World) (h : MissP none w) : Calls Tryz.prog 8 #[.pointer none, .agg #[.int .i64 4, .int .i64 o.slot, .int .i64 o.cell, .int .u64 o.a, .int .u64 o.b, .slice o.wa o.ws.length o.wc, .string o.p]] w fun e w' => ∃ v, e = .returned (.agg #[.int .i64 1, v, .string ⟨#[]⟩]) ∧ SeenB w' w.heap.size v [0] ∧ Below w.heap.size w w' := by
  have H : Hid (NS none w w.heap.size 4 o ((w.alloc (.cells #[.int .i64 4, .int .i64 o.slot, .int .i64 o.cell, .int .u64 o.a, .int .u64 o.b, .slice o.wa o.ws.length o.wc, .string o.p] 57)).alloc (.cells #[.int .i64 0, .slice none 0 0, .string ⟨#[]⟩] 53))) := NS.start w 4 o h
  clear h
  go_enter Tryz.func8, Tryz.ntmps8
  go_wp2_with fail
  generalize hg : w.heap.size = g at *
  generalize hW : (w.alloc (.cells #[.int .i64 4, .int .i64 o.slot, .int .i64 o.cell, .int .u64 o.a, .int .u64 o.b, .slice o.wa o.ws.length o.wc, .string o.p] 57)).alloc (.cells #[.int .i64 0, .slice none 0 0, .string ⟨#[]⟩] 53) = W at *
  clear hW
  refine (rLoad _ _ _).mono ?_
  rintro e w9 ⟨rfl, rfl⟩
  go_wp2_with fail
  have hl := H.out.lt
  refine (one_any _ _).mono ?_
  rintro e w9 ⟨v, rfl, hv, hb⟩
  have H9 : Hid (NS none w g _ o w9) := H.out.grow hb
  have HV : Hid (∃ B, g + 1 < B ∧ SeenB w9 B v [0]) := ⟨_, hl, hv⟩
  clear H hv hb hl
  have H := H9
  clear H9
  have ev : ∃ sp cap, v = .slice sp 1 cap := by
    obtain ⟨B, _, sp, cap, e, _⟩ := HV.out
    exact ⟨sp, cap, e⟩
  obtain ⟨sp, cap, rfl⟩ := ev
  have q0 := H.out.r0
  have q1 := H.out.r1
  have q2 := H.out.r2
  have z0 := H.out.z 0
  have z1 := H.out.z 1
  have z2 := H.out.z 2
  go_wp2_with fail
  exact bodyPost_ret (ret_ans rfl H.out _ _ _ _ rfl) rfl ⟨_, rfl, (by obtain ⟨B, h1, h2⟩ := HV.out; exact h2.ans h1 (H.out.hg) _ _ _), hg ▸ H.out.ans _ _ _⟩

theorem doc5 (o : OpV) (w : World) (h : MissP none w) : Calls Tryz.prog 8 #[.pointer none, .agg #[.int .i64 5, .int .i64 o.slot, .int .i64 o.cell, .int .u64 o.a, .int .u64 o.b, .slice o.wa o.ws.length o.wc, .string o.p]] w fun e w' => ∃ v, e = .returned (.agg #[.int .i64 1, v, .string ⟨#[]⟩]) ∧ SeenB w' w.heap.size v [] ∧ Below w.heap.size w w' := by
  have H : Hid (NS none w w.heap.size 5 o ((w.alloc (.cells #[.int .i64 5, .int .i64 o.slot, .int .i64 o.cell, .int .u64 o.a, .int .u64 o.b, .slice o.wa o.ws.length o.wc, .string o.p] 57)).alloc (.cells #[.int .i64 0, .slice none 0 0, .string ⟨#[]⟩] 53))) := NS.start w 5 o h
  clear h
  go_enter Tryz.func8, Tryz.ntmps8
  go_wp2_with fail
  generalize hg : w.heap.size = g at *
  generalize hW : (w.alloc (.cells #[.int .i64 5, .int .i64 o.slot, .int .i64 o.cell, .int .u64 o.a, .int .u64 o.b, .slice o.wa o.ws.length o.wc, .string o.p] 57)).alloc (.cells #[.int .i64 0, .slice none 0 0, .string ⟨#[]⟩] 53) = W at *
  clear hW
  refine (rStore _ _ _ _).mono ?_
  rintro e w9 ⟨rfl, rfl⟩
  have q0 := H.out.r0
  have q1 := H.out.r1
  have q2 := H.out.r2
  have z0 := H.out.z 0
  have z1 := H.out.z 1
  have z2 := H.out.z 2
  go_wp2_with fail
  exact bodyPost_ret (ret_ans rfl H.out _ _ _ _ rfl) rfl ⟨_, rfl, seenU_nil _ _, hg ▸ H.out.ans _ _ _⟩

theorem doc6 (o : OpV) (w : World) (h : MissP none w) : Calls Tryz.prog 8 #[.pointer none, .agg #[.int .i64 6, .int .i64 o.slot, .int .i64 o.cell, .int .u64 o.a, .int .u64 o.b, .slice o.wa o.ws.length o.wc, .string o.p]] w fun e w' => ∃ v, e = .returned (.agg #[.int .i64 1, v, .string ⟨#[]⟩]) ∧ SeenB w' w.heap.size v [0] ∧ Below w.heap.size w w' := by
  have H : Hid (NS none w w.heap.size 6 o ((w.alloc (.cells #[.int .i64 6, .int .i64 o.slot, .int .i64 o.cell, .int .u64 o.a, .int .u64 o.b, .slice o.wa o.ws.length o.wc, .string o.p] 57)).alloc (.cells #[.int .i64 0, .slice none 0 0, .string ⟨#[]⟩] 53))) := NS.start w 6 o h
  clear h
  go_enter Tryz.func8, Tryz.ntmps8
  go_wp2_with fail
  generalize hg : w.heap.size = g at *
  generalize hW : (w.alloc (.cells #[.int .i64 6, .int .i64 o.slot, .int .i64 o.cell, .int .u64 o.a, .int .u64 o.b, .slice o.wa o.ws.length o.wc, .string o.p] 57)).alloc (.cells #[.int .i64 0, .slice none 0 0, .string ⟨#[]⟩] 53) = W at *
  clear hW
  refine (rCAS _ _ _ _ _).mono ?_
  rintro e w9 ⟨rfl, rfl⟩
  go_wp2_with fail
  have hl := H.out.lt
  refine (bit_no _).mono ?_
  rintro e w9 ⟨v, rfl, hv, hb⟩
  have H9 : Hid (NS none w g _ o w9) := H.out.grow hb
  have HV : Hid (∃ B, g + 1 < B ∧ SeenB w9 B v [0]) := ⟨_, hl, hv⟩
  clear H hv hb hl
  have H := H9
  clear H9
  have ev : ∃ sp cap, v = .slice sp 1 cap := by
    obtain ⟨B, _, sp, cap, e, _⟩ := HV.out
    exact ⟨sp, cap, e⟩
  obtain ⟨sp, cap, rfl⟩ := ev
  have q0 := H.out.r0
  have q1 := H.out.r1
  have q2 := H.out.r2
  have z0 := H.out.z 0
  have z1 := H.out.z 1
  have z2 := H.out.z 2
  go_wp2_with fail
  exact bodyPost_ret (ret_ans rfl H.out _ _ _ _ rfl) rfl ⟨_, rfl, (by obtain ⟨B, h1, h2⟩ := HV.out; exact h2.ans h1 (H.out.hg) _ _ _), hg ▸ H.out.ans _ _ _⟩

theorem doc7 (o : OpV) (w : World) (h : MissP none w) : Calls Tryz.prog 8 #[.pointer none, .agg #[.int .i64 7, .int .i64 o.slot, .int .i64 o.cell, .int .u64 o.a, .int .u64 o.b, .slice o.wa o.ws.length o.wc, .string o.p]] w fun e w' => ∃ v, e = .returned (.agg #[.int .i64 1, v, .string ⟨#[]⟩]) ∧ SeenB w' w.heap.size v [0] ∧ Below w.heap.size w w' := by
  have H : Hid (NS none w w.heap.size 7 o ((w.alloc (.cells #[.int .i64 7, .int .i64 o.slot, .int .i64 o.cell, .int .u64 o.a, .int .u64 o.b, .slice o.wa o.ws.length o.wc, .string o.p] 57)).alloc (.cells #[.int .i64 0, .slice none 0 0, .string ⟨#[]⟩] 53))) := NS.start w 7 o h
  clear h
  go_enter Tryz.func8, Tryz.ntmps8
  go_wp2_with fail
  generalize hg : w.heap.size = g at *
  generalize hW : (w.alloc (.cells #[.int .i64 7, .int .i64 o.slot, .int .i64 o.cell, .int .u64 o.a, .int .u64 o.b, .slice o.wa o.ws.length o.wc, .string o.p] 57)).alloc (.cells #[.int .i64 0, .slice none 0 0, .string ⟨#[]⟩] 53) = W at *
  clear hW
  refine (rAdd _ _ _ _).mono ?_
  rintro e w9 ⟨rfl, rfl⟩
  go_wp2_with fail
  have hl := H.out.lt
  refine (one_any _ _).mono ?_
  rintro e w9 ⟨v, rfl, hv, hb⟩
  have H9 : Hid (NS none w g _ o w9) := H.out.grow hb
  have HV : Hid (∃ B, g + 1 < B ∧ SeenB w9 B v [0]) := ⟨_, hl, hv⟩
  clear H hv hb hl
  have H := H9
  clear H9
  have ev : ∃ sp cap, v = .slice sp 1 cap := by
    obtain ⟨B, _, sp, cap, e, _⟩ := HV.out
    exact ⟨sp, cap, e⟩
  obtain ⟨sp, cap, rfl⟩ := ev
  have q0 := H.out.r0
  have q1 := H.out.r1
  have q2 := H.out.r2
  have z0 := H.out.z 0
  have z1 := H.out.z 1
  have z2 := H.out.z 2
  go_wp2_with fail
  exact bodyPost_ret (ret_ans rfl H.out _ _ _ _ rfl) rfl ⟨_, rfl, (by obtain ⟨B, h1, h2⟩ := HV.out; exact h2.ans h1 (H.out.hg) _ _ _), hg ▸ H.out.ans _ _ _⟩

theorem doc8 (o : OpV) (w : World) (h : MissP none w) : Calls Tryz.prog 8 #[.pointer none, .agg #[.int .i64 8, .int .i64 o.slot, .int .i64 o.cell, .int .u64 o.a, .int .u64 o.b, .slice o.wa o.ws.length o.wc, .string o.p]] w fun e w' => ∃ v, e = .returned (.agg #[.int .i64 1, v, .string ⟨#[]⟩]) ∧ SeenB w' w.heap.size v [0] ∧ Below w.heap.size w w' := by
  have H : Hid (NS none w w.heap.size 8 o ((w.alloc (.cells #[.int .i64 8, .int .i64 o.slot, .int .i64 o.cell, .int .u64 o.a, .int .u64 o.b, .slice o.wa o.ws.length o.wc, .string o.p] 57)).alloc (.cells #[.int .i64 0, .slice none 0 0, .string ⟨#[]⟩] 53))) := NS.start w 8 o h
  clear h
  go_enter Tryz.func8, Tryz.ntmps8
  go_wp2_with fail
  generalize hg : w.heap.size = g at *
  generalize hW : (w.alloc (.cells #[.int .i64 8, .int .i64 o.slot, .int .i64 o.cell, .int .u64 o.a, .int .u64 o.b, .slice o.wa o.ws.length o.wc, .string o.p] 57)).alloc (.cells #[.int .i64 0, .slice none 0 0, .string ⟨#[]⟩] 53) = W at *
  clear hW
  refine (rAddAll _ _ _ _).mono ?_
  rintro e w9 ⟨rfl, rfl⟩
  go_wp2_with fail
  have hl := H.out.lt
  refine (one_any _ _).mono ?_
  rintro e w9 ⟨v, rfl, hv, hb⟩
  have H9 : Hid (NS none w g _ o w9) := H.out.grow hb
  have HV : Hid (∃ B, g + 1 < B ∧ SeenB w9 B v [0]) := ⟨_, hl, hv⟩
  clear H hv hb hl
  have H := H9
  clear H9
  have ev : ∃ sp cap, v = .slice sp 1 cap := by
    obtain ⟨B, _, sp, cap, e, _⟩ := HV.out
    exact ⟨sp, cap, e⟩
  obtain ⟨sp, cap, rfl⟩ := ev
  have q0 := H.out.r0
  have q1 := H.out.r1
  have q2 := H.out.r2
  have z0 := H.out.z 0
  have z1 := H.out.z 1
  have z2 := H.out.z 2
  go_wp2_with fail
  exact bodyPost_ret (ret_ans rfl H.out _ _ _ _ rfl) rfl ⟨_, rfl, (by obtain ⟨B, h1, h2⟩ := HV.out; exact h2.ans h1 (H.out.hg) _ _ _), hg ▸ H.out.ans _ _ _⟩

theorem doc9 (o : OpV) (w : World) (h : MissP none w) : Calls Tryz.prog 8 #[.pointer none, .agg #[.int .i64 9, .int .i64 o.slot, .int .i64 o.cell, .int .u64 o.a, .int .u64 o.b, .slice o.wa o.ws.length o.wc, .string o.p]] w fun e w' => ∃ v, e = .returned (.agg #[.int .i64 0, v, .string ⟨#[]⟩]) ∧ SeenB w' w.heap.size v [0] ∧ Below w.heap.size w w' := by
  have H : Hid (NS none w w.heap.size 9 o ((w.alloc (.cells #[.int .i64 9, .int .i64 o.slot, .int .i64 o.cell, .int .u64 o.a, .int .u64 o.b, .slice o.wa o.ws.length o.wc, .string o.p] 57)).alloc (.cells #[.int .i64 0, .slice none 0 0, .string ⟨#[]⟩] 53))) := NS.start w 9 o h
  clear h
  go_enter Tryz.func8, Tryz.ntmps8
  go_wp2_with fail
  generalize hg : w.heap.size = g at *
  generalize hW : (w.alloc (.cells #[.int .i64 9, .int .i64 o.slot, .int .i64 o.cell, .int .u64 o.a, .int .u64 o.b, .slice o.wa o.ws.length o.wc, .string o.p] 57)).alloc (.cells #[.int .i64 0, .slice none 0 0, .string ⟨#[]⟩] 53) = W at *
  clear hW
  refine (rAccesses _).mono ?_
  rintro e w9 ⟨rfl, rfl⟩
  go_wp2_with fail
  have hl := H.out.lt
  refine (one_any _ _).mono ?_
  rintro e w9 ⟨v, rfl, hv, hb⟩
  have H9 : Hid (NS none w g _ o w9) := H.out.grow hb
  have HV : Hid (∃ B, g + 1 < B ∧ SeenB w9 B v [0]) := ⟨_, hl, hv⟩
  clear H hv hb hl
  have H := H9
  clear H9
  have ev : ∃ sp cap, v = .slice sp 1 cap := by
    obtain ⟨B, _, sp, cap, e, _⟩ := HV.out
    exact ⟨sp, cap, e⟩
  obtain ⟨sp, cap, rfl⟩ := ev
  have q0 := H.out.r0
  have q1 := H.out.r1
  have q2 := H.out.r2
  have z0 := H.out.z 0
  have z1 := H.out.z 1
  have z2 := H.out.z 2
  go_wp2_with fail
  exact bodyPost_ret (ret_ans rfl H.out _ _ _ _ rfl) rfl ⟨_, rfl, (by obtain ⟨B, h1, h2⟩ := HV.out; exact h2.ans h1 (H.out.hg) _ _ _), hg ▸ H.out.ans _ _ _⟩

theorem doc10 (o : OpV) (w : World) (h : MissP none w) : Calls Tryz.prog 8 #[.pointer none, .agg #[.int .i64 10, .int .i64 o.slot, .int .i64 o.cell, .int .u64 o.a, .int .u64 o.b, .slice o.wa o.ws.length o.wc, .string o.p]] w fun e w' => ∃ v, e = .returned (.agg #[.int .i64 0, v, .string ⟨#[]⟩]) ∧ SeenB w' w.heap.size v [0] ∧ Below w.heap.size w w' := by
  have H : Hid (NS none w w.heap.size 10 o ((w.alloc (.cells #[.int .i64 10, .int .i64 o.slot, .int .i64 o.cell, .int .u64 o.a, .int .u64 o.b, .slice o.wa o.ws.length o.wc, .string o.p] 57)).alloc (.cells #[.int .i64 0, .slice none 0 0, .string ⟨#[]⟩] 53))) := NS.start w 10 o h
  clear h
  go_enter Tryz.func8, Tryz.ntmps8
  go_wp2_with fail
  generalize hg : w.heap.size = g at *
  generalize hW : (w.alloc (.cells #[.int .i64 10, .int .i64 o.slot, .int .i64 o.cell, .int .u64 o.a, .int .u64 o.b, .slice o.wa o.ws.length o.wc, .string o.p] 57)).alloc (.cells #[.int .i64 0, .slice none 0 0, .string ⟨#[]⟩] 53) = W at *
  clear hW
  refine (rMisses _).mono ?_
  rintro e w9 ⟨rfl, rfl⟩
  go_wp2_with fail
  have hl := H.out.lt
  refine (one_any _ _).mono ?_
  rintro e w9 ⟨v, rfl, hv, hb⟩
  have H9 : Hid (NS none w g _ o w9) := H.out.grow hb
  have HV : Hid (∃ B, g + 1 < B ∧ SeenB w9 B v [0]) := ⟨_, hl, hv⟩
  clear H hv hb hl
  have H := H9
  clear H9
  have ev : ∃ sp cap, v = .slice sp 1 cap := by
    obtain ⟨B, _, sp, cap, e, _⟩ := HV.out
    exact ⟨sp, cap, e⟩
  obtain ⟨sp, cap, rfl⟩ := ev
  have q0 := H.out.r0
  have q1 := H.out.r1
  have q2 := H.out.r2
  have z0 := H.out.z 0
  have z1 := H.out.z 1
  have z2 := H.out.z 2
  go_wp2_with fail
  exact bodyPost_ret (ret_ans rfl H.out _ _ _ _ rfl) rfl ⟨_, rfl, (by obtain ⟨B, h1, h2⟩ := HV.out; exact h2.ans h1 (H.out.hg) _ _ _), hg ▸ H.out.ans _ _ _⟩

theorem doc11 (o : OpV) (w : World) (h : MissP none w) : Calls Tryz.prog 8 #[.pointer none, .agg #[.int .i64 11, .int .i64 o.slot, .int .i64 o.cell, .int .u64 o.a, .int .u64 o.b, .slice o.wa o.ws.length o.wc, .string o.p]] w fun e w' => ∃ v, e = .returned (.agg #[.int .i64 1, v, .string ⟨#[]⟩]) ∧ SeenB w' w.heap.size v [] ∧ Below w.heap.size w w' := by
  have H : Hid (NS none w w.heap.size 11 o ((w.alloc (.cells #[.int .i64 11, .int .i64 o.slot, .int .i64 o.cell, .int .u64 o.a, .int .u64 o.b, .slice o.wa o.ws.length o.wc, .string o.p] 57)).alloc (.cells #[.int .i64 0, .slice none 0 0, .string ⟨#[]⟩] 53))) := NS.start w 11 o h
  clear h
  go_enter Tryz.func8, Tryz.ntmps8
  go_wp2_with fail
  generalize hg : w.heap.size = g at *
  generalize hW : (w.alloc (.cells #[.int .i64 11, .int .i64 o.slot, .int .i64 o.cell, .int .u64 o.a, .int .u64 o.b, .slice o.wa o.ws.length o.wc, .string o.p] 57)).alloc (.cells #[.int .i64 0, .slice none 0 0, .string ⟨#[]⟩] 53) = W at *
  clear hW
  refine (rPeek _ _).mono ?_
  rintro e w9 ⟨rfl, rfl⟩
  have q0 := H.out.r0
  have q1 := H.out.r1
  have q2 := H.out.r2
  have z0 := H.out.z 0
  have z1 := H.out.z 1
  have z2 := H.out.z 2
  go_wp2_with fail
  exact bodyPost_ret (ret_ans rfl H.out _ _ _ _ rfl) rfl ⟨_, rfl, seenU_nil _ _, hg ▸ H.out.ans _ _ _⟩

theorem doc12 (o : OpV) (w : World) (h : MissP none w) : Calls Tryz.prog 8 #[.pointer none, .agg #[.int .i64 12, .int .i64 o.slot, .int .i64 o.cell, .int .u64 o.a, .int .u64 o.b, .slice o.wa o.ws.length o.wc, .string o.p]] w fun e w' => ∃ v, e = .returned (.agg #[.int .i64 1, v, .string ⟨#[]⟩]) ∧ SeenB w' w.heap.size v [0] ∧ Below w.heap.size w w' := by
  have H : Hid (NS none w w.heap.size 12 o ((w.alloc (.cells #[.int .i64 12, .int .i64 o.slot, .int .i64 o.cell, .int .u64 o.a, .int .u64 o.b, .slice o.wa o.ws.length o.wc, .string o.p] 57)).alloc (.cells #[.int .i64 0, .slice none 0 0, .string ⟨#[]⟩] 53))) := NS.start w 12 o h
  clear h
  go_enter Tryz.func8, Tryz.ntmps8
  go_wp2_with fail
  generalize hg : w.heap.size = g at *
  generalize hW : (w.alloc (.cells #[.int .i64 12, .int .i64 o.slot, .int .i64 o.cell, .int .u64 o.a, .int .u64 o.b, .slice o.wa o.ws.length o.wc, .string o.p] 57)).alloc (.cells #[.int .i64 0, .slice none 0 0, .string ⟨#[]⟩] 53) = W at *
  clear hW
  refine (rTurn _ _).mono ?_
  rintro e w9 ⟨rfl, rfl⟩
  go_wp2_with fail
  have hl := H.out.lt
  refine (one_any _ _).mono ?_
  rintro e w9 ⟨v, rfl, hv, hb⟩
  have H9 : Hid (NS none w g _ o w9) := H.out.grow hb
  have HV : Hid (∃ B, g + 1 < B ∧ SeenB w9 B v [0]) := ⟨_, hl, hv⟩
  clear H hv hb hl
  have H := H9
  clear H9
  have ev : ∃ sp cap, v = .slice sp 1 cap := by
    obtain ⟨B, _, sp, cap, e, _⟩ := HV.out
    exact ⟨sp, cap, e⟩
  obtain ⟨sp, cap, rfl⟩ := ev
  have q0 := H.out.r0
  have q1 := H.out.r1
  have q2 := H.out.r2
  have z0 := H.out.z 0
  have z1 := H.out.z 1
  have z2 := H.out.z 2
  go_wp2_with fail
  exact bodyPost_ret (ret_ans rfl H.out _ _ _ _ rfl) rfl ⟨_, rfl, (by obtain ⟨B, h1, h2⟩ := HV.out; exact h2.ans h1 (H.out.hg) _ _ _), hg ▸ H.out.ans _ _ _⟩

theorem doc13 (o : OpV) (w : World) (h : MissP none w) : Calls Tryz.prog 8 #[.pointer none, .agg #[.int .i64 13, .int .i64 o.slot, .int .i64 o.cell, .int .u64 o.a, .int .u64 o.b, .slice o.wa o.ws.length o.wc, .string o.p]] w fun e w' => ∃ v, e = .returned (.agg #[.int .i64 0, v, .string ⟨#[]⟩]) ∧ SeenB w' w.heap.size v [] ∧ Below w.heap.size w w' := by
  have H : Hid (NS none w w.heap.size 13 o ((w.alloc (.cells #[.int .i64 13, .int .i64 o.slot, .int .i64 o.cell, .int .u64 o.a, .int .u64 o.b, .slice o.wa o.ws.length o.wc, .string o.p] 57)).alloc (.cells #[.int .i64 0, .slice none 0 0, .string ⟨#[]⟩] 53))) := NS.start w 13 o h
  clear h
  go_enter Tryz.func8, Tryz.ntmps8
  go_wp2_with fail
  generalize hg : w.heap.size = g at *
  generalize hW : (w.alloc (.cells #[.int .i64 13, .int .i64 o.slot, .int .i64 o.cell, .int .u64 o.a, .int .u64 o.b, .slice o.wa o.ws.length o.wc, .string o.p] 57)).alloc (.cells #[.int .i64 0, .slice none 0 0, .string ⟨#[]⟩] 53) = W at *
  clear hW
  refine (rLive _).mono ?_
  rintro e w9 ⟨rfl, rfl⟩
  go_wp2_with fail
  refine (ints_none _).mono ?_
  rintro e w9 ⟨rfl, rfl⟩
  have q0 := H.out.r0
  have q1 := H.out.r1
  have q2 := H.out.r2
  have z0 := H.out.z 0
  have z1 := H.out.z 1
  have z2 := H.out.z 2
  go_wp2_with fail
  exact bodyPost_ret (ret_ans rfl H.out _ _ _ _ rfl) rfl ⟨_, rfl, seenU_nil _ _, hg ▸ H.out.ans _ _ _⟩

theorem doc14 (o : OpV) (w : World) (h : MissP none w) : Calls Tryz.prog 8 #[.pointer none, .agg #[.int .i64 14, .int .i64 o.slot, .int .i64 o.cell, .int .u64 o.a, .int .u64 o.b, .slice o.wa o.ws.length o.wc, .string o.p]] w fun e w' => ∃ v, e = .returned (.agg #[.int .i64 0, v, .string ⟨#[]⟩]) ∧ SeenB w' w.heap.size v [0, 0] ∧ Below w.heap.size w w' := by
  have H : Hid (NS none w w.heap.size 14 o ((w.alloc (.cells #[.int .i64 14, .int .i64 o.slot, .int .i64 o.cell, .int .u64 o.a, .int .u64 o.b, .slice o.wa o.ws.length o.wc, .string o.p] 57)).alloc (.cells #[.int .i64 0, .slice none 0 0, .string ⟨#[]⟩] 53))) := NS.start w 14 o h
  clear h
  go_enter Tryz.func8, Tryz.ntmps8
  go_wp2_with fail
  generalize hg : w.heap.size = g at *
  generalize hW : (w.alloc (.cells #[.int .i64 14, .int .i64 o.slot, .int .i64 o.cell, .int .u64 o.a, .int .u64 o.b, .slice o.wa o.ws.length o.wc, .string o.p] 57)).alloc (.cells #[.int .i64 0, .slice none 0 0, .string ⟨#[]⟩] 53) = W at *
  clear hW
  refine (ref_shape_nil _).mono ?_
  rintro e w9 ⟨rfl, rfl⟩
  have hl := H.out.lt
  have H9 : Hid (NS none w g _ o (w9.alloc (.cells #[.int .u64 0, .int .u64 0] 55))) := H.out.grow ((Below.refl _ _).alloc (Nat.le_refl _) _)
  have HV : Hid (∃ B, g + 1 < B ∧ SeenB (w9.alloc (.cells #[.int .u64 0, .int .u64 0] 55)) B (.slice (some ⟨w9.heap.size, 0, none⟩) 2 2) [0, 0]) := ⟨_, hl, seenU_two w9 0 0⟩
  clear H hl
  have H := H9
  clear H9
  have q0 := H.out.r0
  have q1 := H.out.r1
  have q2 := H.out.r2
  have z0 := H.out.z 0
  have z1 := H.out.z 1
  have z2 := H.out.z 2
  go_wp2_with fail
  exact bodyPost_ret (ret_ans rfl H.out _ _ _ _ rfl) rfl ⟨_, rfl, (by obtain ⟨B, h1, h2⟩ := HV.out; exact h2.ans h1 (H.out.hg) _ _ _), hg ▸ H.out.ans _ _ _⟩

theorem doc0 (k : Int) (o : OpV) (w : World) (h : MissP none w) (k1 : ¬ k = 1) (k2 : ¬ k = 2) (k3 : ¬ k = 3) (k4 : ¬ k = 4) (k5 : ¬ k = 5) (k6 : ¬ k = 6) (k7 : ¬ k = 7) (k8 : ¬ k = 8) (k9 : ¬ k = 9) (k10 : ¬ k = 10) (k11 : ¬ k = 11) (k12 : ¬ k = 12) (k13 : ¬ k = 13) (k14 : ¬ k = 14) : Calls Tryz.prog 8 #[.pointer none, .agg #[.int .i64 k, .int .i64 o.slot, .int .i64 o.cell, .int .u64 o.a, .int .u64 o.b, .slice o.wa o.ws.length o.wc, .string o.p]] w fun e w' => ∃ v, e = .returned (.agg #[.int .i64 0, v, .string ⟨#[]⟩]) ∧ SeenB w' w.heap.size v [] ∧ Below w.heap.size w w' := by
  have H : Hid (NS none w w.heap.size k o ((w.alloc (.cells #[.int .i64 k, .int .i64 o.slot, .int .i64 o.cell, .int .u64 o.a, .int .u64 o.b, .slice o.wa o.ws.length o.wc, .string o.p] 57)).alloc (.cells #[.int .i64 0, .slice none 0 0, .string ⟨#[]⟩] 53))) := NS.start w k o h
  clear h
  go_enter Tryz.func8, Tryz.ntmps8
  go_wp2_with fail
  generalize hg : w.heap.size = g at *
  generalize hW : (w.alloc (.cells #[.int .i64 k, .int .i64 o.slot, .int .i64 o.cell, .int .u64 o.a, .int .u64 o.b, .slice o.wa o.ws.length o.wc, .string o.p] 57)).alloc (.cells #[.int .i64 0, .slice none 0 0, .string ⟨#[]⟩] 53) = W at *
  clear hW
  exact bodyPost_ret (ret_ans0 rfl H.out _ rfl) rfl ⟨_, rfl, seenU_nil _ _, hg ▸ H.out.low⟩

end Go.Proofs.YtdgkocgjihdbpaaGreat
