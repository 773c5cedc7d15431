import Derived.Test.YtdgkocgjihdbpaaGreatCellNil2
namespace Go.Proofs.YtdgkocgjihdbpaaGreat
open Go.ChangeShapes Go.WideShapes Go.ChangeAt Go.RowKit
set_option linter.unusedVariables false
set_option maxRecDepth 100000
set_option maxHeartbeats 1600000

theorem look9 (p : Option Addr) (o : OpV) (w : World) (h : MissP p w) : Calls Tryz.prog 23 #[.pointer p, .agg #[.int .i64 9, .int .i64 o.slot, .int .i64 o.cell, .int .u64 o.a, .int .u64 o.b, .slice o.wa o.ws.length o.wc, .string o.p]] w fun e w' => ∃ v, e = .returned (.agg #[.int .i64 0, v, .string ⟨#[]⟩]) ∧ SeenB w' w.heap.size v [0] ∧ Below w.heap.size w w' := by
  have H : Hid (NS p w w.heap.size 9 o ((w.alloc (.cells #[.int .i64 9, .int .i64 o.slot, .int .i64 o.cell, .int .u64 o.a, .int .u64 o.b, .slice o.wa o.ws.length o.wc, .string o.p] 57)).alloc (.cells #[.int .i64 0, .slice none 0 0, .string ⟨#[]⟩] 53))) := NS.start w 9 o h
  clear h
  go_enter Tryz.func23, Tryz.ntmps23
  go_wp2_with fail
  generalize hg : w.heap.size = g at *
  generalize hW : (w.alloc (.cells #[.int .i64 9, .int .i64 o.slot, .int .i64 o.cell, .int .u64 o.a, .int .u64 o.b, .slice o.wa o.ws.length o.wc, .string o.p] 57)).alloc (.cells #[.int .i64 0, .slice none 0 0, .string ⟨#[]⟩] 53) = W at *
  clear hW
  refine (nAccesses p _ H.out.ms).mono ?_
  rintro e w9 ⟨rfl, rfl⟩
  go_wp2_with fail
  have hl := H.out.lt
  refine (one_any _ _).mono ?_
  rintro e w9 ⟨v, rfl, hv, hb⟩
  have H9 : Hid (NS p w g _ o w9) := H.out.grow hb
  have HV : Hid (∃ B, g + 1 < B ∧ SeenB w9 B v [0]) := ⟨_, hl, hv⟩
  clear H hv hb hl
  have H := H9
  clear H9
  have ev : ∃ sp cap, v = .slice sp 1 cap := by
    obtain ⟨B, _, sp, cap, e, _⟩ := HV.out
    exact ⟨sp, cap, e⟩
  obtain ⟨sp, cap, rfl⟩ := ev
  have q0 := H.out.r0
  have q1 := H.out.r1
  have q2 := H.out.r2
  have z0 := H.out.z 0
  have z1 := H.out.z 1
  have z2 := H.out.z 2
  go_wp2_with fail
  exact bodyPost_ret (ret_ans rfl H.out _ _ _ _ rfl) rfl ⟨_, rfl, (by obtain ⟨B, h1, h2⟩ := HV.out; exact h2.ans h1 (H.out.hg) _ _ _), hg ▸ H.out.ans _ _ _⟩

theorem look10 (p : Option Addr) (o : OpV) (w : World) (h : MissP p w) : Calls Tryz.prog 23 #[.pointer p, .agg #[.int .i64 10, .int .i64 o.slot, .int .i64 o.cell, .int .u64 o.a, .int .u64 o.b, .slice o.wa o.ws.length o.wc, .string o.p]] w fun e w' => ∃ v, e = .returned (.agg #[.int .i64 0, v, .string ⟨#[]⟩]) ∧ SeenB w' w.heap.size v [0] ∧ Below w.heap.size w w' := by
  have H : Hid (NS p w w.heap.size 10 o ((w.alloc (.cells #[.int .i64 10, .int .i64 o.slot, .int .i64 o.cell, .int .u64 o.a, .int .u64 o.b, .slice o.wa o.ws.length o.wc, .string o.p] 57)).alloc (.cells #[.int .i64 0, .slice none 0 0, .string ⟨#[]⟩] 53))) := NS.start w 10 o h
  clear h
  go_enter Tryz.func23, Tryz.ntmps23
  go_wp2_with fail
  generalize hg : w.heap.size = g at *
  generalize hW : (w.alloc (.cells #[.int .i64 10, .int .i64 o.slot, .int .i64 o.cell, .int .u64 o.a, .int .u64 o.b, .slice o.wa o.ws.length o.wc, .string o.p] 57)).alloc (.cells #[.int .i64 0, .slice none 0 0, .string ⟨#[]⟩] 53) = W at *
  clear hW
  refine (nMisses p _ H.out.ms).mono ?_
  rintro e w9 ⟨rfl, rfl⟩
  go_wp2_with fail
  have hl := H.out.lt
  refine (one_any _ _).mono ?_
  rintro e w9 ⟨v, rfl, hv, hb⟩
  have H9 : Hid (NS p w g _ o w9) := H.out.grow hb
  have HV : Hid (∃ B, g + 1 < B ∧ SeenB w9 B v [0]) := ⟨_, hl, hv⟩
  clear H hv hb hl
  have H := H9
  clear H9
  have ev : ∃ sp cap, v = .slice sp 1 cap := by
    obtain ⟨B, _, sp, cap, e, _⟩ := HV.out
    exact ⟨sp, cap, e⟩
  obtain ⟨sp, cap, rfl⟩ := ev
  have q0 := H.out.r0
  have q1 := H.out.r1
  have q2 := H.out.r2
  have z0 := H.out.z 0
  have z1 := H.out.z 1
  have z2 := H.out.z 2
  go_wp2_with fail
  exact bodyPost_ret (ret_ans rfl H.out _ _ _ _ rfl) rfl ⟨_, rfl, (by obtain ⟨B, h1, h2⟩ := HV.out; exact h2.ans h1 (H.out.hg) _ _ _), hg ▸ H.out.ans _ _ _⟩

theorem look11 (p : Option Addr) (o : OpV) (w : World) (h : MissP p w) : Calls Tryz.prog 23 #[.pointer p, .agg #[.int .i64 11, .int .i64 o.slot, .int .i64 o.cell, .int .u64 o.a, .int .u64 o.b, .slice o.wa o.ws.length o.wc, .string o.p]] w fun e w' => ∃ v, e = .returned (.agg #[.int .i64 1, v, .string ⟨#[]⟩]) ∧ SeenB w' w.heap.size v [] ∧ Below w.heap.size w w' := by
  have H : Hid (NS p w w.heap.size 11 o ((w.alloc (.cells #[.int .i64 11, .int .i64 o.slot, .int .i64 o.cell, .int .u64 o.a, .int .u64 o.b, .slice o.wa o.ws.length o.wc, .string o.p] 57)).alloc (.cells #[.int .i64 0, .slice none 0 0, .string ⟨#[]⟩] 53))) := NS.start w 11 o h
  clear h
  go_enter Tryz.func23, Tryz.ntmps23
  go_wp2_with fail
  generalize hg : w.heap.size = g at *
  generalize hW : (w.alloc (.cells #[.int .i64 11, .int .i64 o.slot, .int .i64 o.cell, .int .u64 o.a, .int .u64 o.b, .slice o.wa o.ws.length o.wc, .string o.p] 57)).alloc (.cells #[.int .i64 0, .slice none 0 0, .string ⟨#[]⟩] 53) = W at *
  clear hW
  refine (nPeek p _ _ H.out.ms).mono ?_
  rintro e w9 ⟨rfl, rfl⟩
  go_wp2_with fail
  refine (num_any _ _).mono ?_
  rintro e w9 ⟨rfl, rfl⟩
  have q0 := H.out.r0
  have q1 := H.out.r1
  have q2 := H.out.r2
  have z0 := H.out.z 0
  have z1 := H.out.z 1
  have z2 := H.out.z 2
  go_wp2_with fail
  exact bodyPost_ret (ret_ans rfl H.out _ _ _ _ rfl) rfl ⟨_, rfl, seenU_nil _ _, hg ▸ H.out.ans _ _ _⟩

theorem look12 (p : Option Addr) (o : OpV) (w : World) (h : MissP p w) : Calls Tryz.prog 23 #[.pointer p, .agg #[.int .i64 12, .int .i64 o.slot, .int .i64 o.cell, .int .u64 o.a, .int .u64 o.b, .slice o.wa o.ws.length o.wc, .string o.p]] w fun e w' => ∃ v, e = .returned (.agg #[.int .i64 1, v, .string ⟨#[]⟩]) ∧ SeenB w' w.heap.size v [0] ∧ Below w.heap.size w w' := by
  have H : Hid (NS p w w.heap.size 12 o ((w.alloc (.cells #[.int .i64 12, .int .i64 o.slot, .int .i64 o.cell, .int .u64 o.a, .int .u64 o.b, .slice o.wa o.ws.length o.wc, .string o.p] 57)).alloc (.cells #[.int .i64 0, .slice none 0 0, .string ⟨#[]⟩] 53))) := NS.start w 12 o h
  clear h
  go_enter Tryz.func23, Tryz.ntmps23
  go_wp2_with fail
  generalize hg : w.heap.size = g at *
  generalize hW : (w.alloc (.cells #[.int .i64 12, .int .i64 o.slot, .int .i64 o.cell, .int .u64 o.a, .int .u64 o.b, .slice o.wa o.ws.length o.wc, .string o.p] 57)).alloc (.cells #[.int .i64 0, .slice none 0 0, .string ⟨#[]⟩] 53) = W at *
  clear hW
  refine (nTurn p _ _ H.out.ms).mono ?_
  rintro e w9 ⟨rfl, rfl⟩
  go_wp2_with fail
  refine (num_any _ _).mono ?_
  rintro e w9 ⟨rfl, rfl⟩
  go_wp2_with fail
  have hl := H.out.lt
  refine (one_any _ _).mono ?_
  rintro e w9 ⟨v, rfl, hv, hb⟩
  have H9 : Hid (NS p w g _ o w9) := H.out.grow hb
  have HV : Hid (∃ B, g + 1 < B ∧ SeenB w9 B v [0]) := ⟨_, hl, hv⟩
  clear H hv hb hl
  have H := H9
  clear H9
  have ev : ∃ sp cap, v = .slice sp 1 cap := by
    obtain ⟨B, _, sp, cap, e, _⟩ := HV.out
    exact ⟨sp, cap, e⟩
  obtain ⟨sp, cap, rfl⟩ := ev
  have q0 := H.out.r0
  have q1 := H.out.r1
  have q2 := H.out.r2
  have z0 := H.out.z 0
  have z1 := H.out.z 1
  have z2 := H.out.z 2
  go_wp2_with fail
  exact bodyPost_ret (ret_ans rfl H.out _ _ _ _ rfl) rfl ⟨_, rfl, (by obtain ⟨B, h1, h2⟩ := HV.out; exact h2.ans h1 (H.out.hg) _ _ _), hg ▸ H.out.ans _ _ _⟩

theorem look13 (p : Option Addr) (o : OpV) (w : World) (h : MissP p w) : Calls Tryz.prog 23 #[.pointer p, .agg #[.int .i64 13, .int .i64 o.slot, .int .i64 o.cell, .int .u64 o.a, .int .u64 o.b, .slice o.wa o.ws.length o.wc, .string o.p]] w fun e w' => ∃ v, e = .returned (.agg #[.int .i64 0, v, .string ⟨#[]⟩]) ∧ SeenB w' w.heap.size v [] ∧ Below w.heap.size w w' := by
  have H : Hid (NS p w w.heap.size 13 o ((w.alloc (.cells #[.int .i64 13, .int .i64 o.slot, .int .i64 o.cell, .int .u64 o.a, .int .u64 o.b, .slice o.wa o.ws.length o.wc, .string o.p] 57)).alloc (.cells #[.int .i64 0, .slice none 0 0, .string ⟨#[]⟩] 53))) := NS.start w 13 o h
  clear h
  go_enter Tryz.func23, Tryz.ntmps23
  go_wp2_with fail
  generalize hg : w.heap.size = g at *
  generalize hW : (w.alloc (.cells #[.int .i64 13, .int .i64 o.slot, .int .i64 o.cell, .int .u64 o.a, .int .u64 o.b, .slice o.wa o.ws.length o.wc, .string o.p] 57)).alloc (.cells #[.int .i64 0, .slice none 0 0, .string ⟨#[]⟩] 53) = W at *
  clear hW
  refine (nLive p _ H.out.ms).mono ?_
  rintro e w9 ⟨rfl, hb⟩
  have H9 : Hid (NS p w g _ o w9) := H.out.grow hb
  clear H hb
  have H := H9
  clear H9
  go_wp2_with fail
  refine (ints_none _).mono ?_
  rintro e w9 ⟨rfl, rfl⟩
  have q0 := H.out.r0
  have q1 := H.out.r1
  have q2 := H.out.r2
  have z0 := H.out.z 0
  have z1 := H.out.z 1
  have z2 := H.out.z 2
  go_wp2_with fail
  exact bodyPost_ret (ret_ans rfl H.out _ _ _ _ rfl) rfl ⟨_, rfl, seenU_nil _ _, hg ▸ H.out.ans _ _ _⟩

theorem look14 (p : Option Addr) (o : OpV) (w : World) (h : MissP p w) : Calls Tryz.prog 23 #[.pointer p, .agg #[.int .i64 14, .int .i64 o.slot, .int .i64 o.cell, .int .u64 o.a, .int .u64 o.b, .slice o.wa o.ws.length o.wc, .string o.p]] w fun e w' => ∃ v, e = .returned (.agg #[.int .i64 0, v, .string ⟨#[]⟩]) ∧ SeenB w' w.heap.size v [0, 0] ∧ Below w.heap.size w w' := by
  have H : Hid (NS p w w.heap.size 14 o ((w.alloc (.cells #[.int .i64 14, .int .i64 o.slot, .int .i64 o.cell, .int .u64 o.a, .int .u64 o.b, .slice o.wa o.ws.length o.wc, .string o.p] 57)).alloc (.cells #[.int .i64 0, .slice none 0 0, .string ⟨#[]⟩] 53))) := NS.start w 14 o h
  clear h
  go_enter Tryz.func23, Tryz.ntmps23
  go_wp2_with fail
  generalize hg : w.heap.size = g at *
  generalize hW : (w.alloc (.cells #[.int .i64 14, .int .i64 o.slot, .int .i64 o.cell, .int .u64 o.a, .int .u64 o.b, .slice o.wa o.ws.length o.wc, .string o.p] 57)).alloc (.cells #[.int .i64 0, .slice none 0 0, .string ⟨#[]⟩] 53) = W at *
  clear hW
  refine (nShape p _ H.out.ms).mono ?_
  rintro e w9 ⟨rfl, rfl⟩
  have hl := H.out.lt
  have H9 : Hid (NS p w g _ o (w9.alloc (.cells #[.int .u64 0, .int .u64 0] 55))) := H.out.grow ((Below.refl _ _).alloc (Nat.le_refl _) _)
  have HV : Hid (∃ B, g + 1 < B ∧ SeenB (w9.alloc (.cells #[.int .u64 0, .int .u64 0] 55)) B (.slice (some ⟨w9.heap.size, 0, none⟩) 2 2) [0, 0]) := ⟨_, hl, seenU_two w9 0 0⟩
  clear H hl
  have H := H9
  clear H9
  have q0 := H.out.r0
  have q1 := H.out.r1
  have q2 := H.out.r2
  have z0 := H.out.z 0
  have z1 := H.out.z 1
  have z2 := H.out.z 2
  go_wp2_with fail
  exact bodyPost_ret (ret_ans rfl H.out _ _ _ _ rfl) rfl ⟨_, rfl, (by obtain ⟨B, h1, h2⟩ := HV.out; exact h2.ans h1 (H.out.hg) _ _ _), hg ▸ H.out.ans _ _ _⟩

theorem look0 (k : Int) (p : Option Addr) (o : OpV) (w : World) (h : MissP p w) (k9 : ¬ k = 9) (k10 : ¬ k = 10) (k11 : ¬ k = 11) (k12 : ¬ k = 12) (k13 : ¬ k = 13) (k14 : ¬ k = 14) : Calls Tryz.prog 23 #[.pointer p, .agg #[.int .i64 k, .int .i64 o.slot, .int .i64 o.cell, .int .u64 o.a, .int .u64 o.b, .slice o.wa o.ws.length o.wc, .string o.p]] w fun e w' => ∃ v, e = .returned (.agg #[.int .i64 0, v, .string ⟨#[]⟩]) ∧ SeenB w' w.heap.size v [] ∧ Below w.heap.size w w' := by
  have H : Hid (NS p w w.heap.size k o ((w.alloc (.cells #[.int .i64 k, .int .i64 o.slot, .int .i64 o.cell, .int .u64 o.a, .int .u64 o.b, .slice o.wa o.ws.length o.wc, .string o.p] 57)).alloc (.cells #[.int .i64 0, .slice none 0 0, .string ⟨#[]⟩] 53))) := NS.start w k o h
  clear h
  go_enter Tryz.func23, Tryz.ntmps23
  go_wp2_with fail
  generalize hg : w.heap.size = g at *
  generalize hW : (w.alloc (.cells #[.int .i64 k, .int .i64 o.slot, .int .i64 o.cell, .int .u64 o.a, .int .u64 o.b, .slice o.wa o.ws.length o.wc, .string o.p] 57)).alloc (.cells #[.int .i64 0, .slice none 0 0, .string ⟨#[]⟩] 53) = W at *
  clear hW
  exact bodyPost_ret (ret_ans0 rfl H.out _ rfl) rfl ⟨_, rfl, seenU_nil _ _, hg ▸ H.out.low⟩

end Go.Proofs.YtdgkocgjihdbpaaGreat
