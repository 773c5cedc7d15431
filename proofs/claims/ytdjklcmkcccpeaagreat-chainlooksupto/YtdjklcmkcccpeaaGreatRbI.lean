import Derived.Test.YtdjklcmkcccpeaaGreatRbH
namespace Go.Proofs.YtdjklcmkcccpeaaGreat
set_option linter.unusedSimpArgs false
open Go.ChangeShapes Go.WideShapes Go.ChangeAt Go.RowKit Go.MuLone Go.RwLone
set_option linter.unusedVariables false
set_option maxRecDepth 100000
set_option maxHeartbeats 3200000
theorem rrm_st2_dead (w : World) (R : RL) (cap : Nat) (qv : Value) (Q : List Nat) (S : AS) (X : XL) (hc : Nat) (x : XS) (mb : Nat) (bu sl wv ah nw co : Int) (ma : Bool) (he : Int) (wd pr be : Int) (h : RC w R cap qv Q S X hc x) (hm : w.heap[mb]? = some (.cells (rrmA X.x bu sl 2 wv ah nw false co ma he) 239)) (hn : ¬ rcF R qv S X mb) (hb : inB x bu = true) (hk0 : 0 ≤ wv) (hk1 : wv ≤ 4294967295) (hl : liv S sl = false) : Calls Tryz.prog 157 #[.pointer (some ⟨mb, 0, none⟩)] w (RstR w R cap qv Q X hc mb S (true, ⟨mis1 S, x⟩, ⟨6, 22, bu, sl, wd, ah, pr, be, ma, he⟩)) := by
  have HP : Hid (RM w R cap qv Q (S) X hc (x) mb (rrmA X.x bu sl 2 wv ah nw false co ma he) 239 ∧ Keeps (mrF R qv S X mb) w w) := ⟨⟨h, hm, hn⟩, Keeps.refl _ _⟩
  have HB := rx_has w R.b X hc x bu h.i
  rw [show inB x bu = true from hb] at HB
  have HBB : Hid (∀ _ : Unit, _) := fun _ => HB
  clear h hm hn HB
  have c0 : w.cell? ⟨mb, 0, none⟩ = some (.pointer (some ⟨X.x, 0, none⟩)) := (HP.out.1.cell 0).trans rfl
  have c1 : w.cell? ⟨mb, 1, none⟩ = some (.int .i64 bu) := (HP.out.1.cell 1).trans rfl
  have c3 : w.cell? ⟨mb, 3, none⟩ = some (.int .i64 2) := (HP.out.1.cell 3).trans rfl
  have c7 : w.cell? ⟨mb, 7, none⟩ = some (.bool false) := (HP.out.1.cell 7).trans rfl
  have HC : Hid (∀ W, RC W R cap qv Q S X hc x → Calls Tryz.prog 202 #[.pointer (some ⟨R.b, 0, none⟩), .int .i64 sl, .int .i64 (x.cell : Int), .int .u64 wv, .int .u64 (wv + 1)] W fun e w' => e = .returned (.tuple #[.bool false, .int .i64 22]) ∧ RAr w' R cap qv Q (mis1 S) ∧ Keeps (raF R qv S) W w') := fun W hW => ra_cas_no W R cap qv Q S sl (x.cell : Int) wv (wv + 1) hW.a hl
  have HW2 : Hid ((mis1 S).wd = S.wd ∧ ∀ g, raF R qv (mis1 S) g → raF R qv S g) := ⟨rfl, fun g e => e⟩
  have HWR : Hid (IntKind.u64.wrap (wv + 1) = wv + 1) := by show _ = _; rw [IntKind.wrap_u64]; omega
  clear hb hl hk0 hk1
  go_enter Tryz.func157, Tryz.ntmps157
  go_wp2_with fail
  refine (HBB.out ()).mono ?_
  rintro e w1 ⟨rfl, hw1⟩
  rw [hw1]
  clear hw1 w1 HBB
  have HD : Hid (RM w.drew R cap qv Q (S) X hc (x) mb (rrmA X.x bu sl 2 wv ah nw false co ma he) 239 ∧ Keeps (mrF R qv S X mb) w w.drew) := ⟨⟨HP.out.1.h.keeps (D := fun _ => False) (Keeps.refl _ _).drew (fun _ _ e => e), HP.out.1.m, HP.out.1.n⟩, (Keeps.refl _ _).drew⟩
  have sx : w.drew.cell? ⟨X.x, 0, none⟩ = some (.pointer (some ⟨R.b, 0, none⟩)) ∧ w.drew.cell? ⟨X.x, 1, none⟩ = some (.int .i64 (x.cell : Int)) ∧ w.drew.cell? ⟨mb, 2, none⟩ = some (.int .i64 sl) ∧ w.drew.cell? ⟨mb, 4, none⟩ = some (.int .u64 wv) := ⟨HD.out.1.h.i.c0, HD.out.1.h.i.c1, (HD.out.1.cell 2).trans rfl, (HD.out.1.cell 4).trans rfl⟩
  go_wp2_with fail
  (refine wp_region_held_drew (S := (fun Z => Z.cell? ⟨X.x, 0, none⟩ = some (.pointer (some ⟨R.b, 0, none⟩)) ∧ Z.cell? ⟨X.x, 1, none⟩ = some (.int .i64 (x.cell : Int)) ∧ Z.cell? ⟨mb, 2, none⟩ = some (.int .i64 sl) ∧ Z.cell? ⟨mb, 4, none⟩ = some (.int .u64 wv))) (by kernel_rfl) sx (fun hHeld => ?_); simp only [List.size_toArray, List.length_cons, List.length_nil, Nat.reduceAdd, Array.replicate_succ, Array.replicate_zero, List.push_toArray, List.append_toArray, List.nil_append, List.cons_append])
  clear sx HP c0 c1 c3 c7
  refine rgT 0 (h := ?_)
  refine rgT 1 (h := ?_)
  refine rgT 2 (h := ?_)
  refine rgT 3 (h := ?_)
  refine rgT 4 (h := ?_)
  refine rgT 5 (h := ?_)
  refine rgT 6 (h := ?_)
  refine rgT 7 (h := ?_)
  refine rgT 8 (h := ?_)
  refine rgT 9 (h := ?_)
  refine rgT 10 (h := ?_)
  refine rgT 11 (h := ?_)
  refine rgT 12 (h := ?_)
  refine rgT 13 (h := ?_)
  refine rgT 14 (h := ?_)
  refine rgT 15 (h := ?_)
  refine rgT 16 (h := ?_)
  refine rgT 17 (h := ?_)
  refine rgT 18 (h := ?_)
  refine rgT 19 (h := ?_)
  refine rgT 20 (h := ?_)
  (refine rgS 21 (h := fun K hK => ?_); go_simp)
  rw [HWR.out]
  clear HWR
  refine (HC.out w.drew HD.out.1.h).mono ?_
  rintro e w2 ⟨rfl, ha2, k2⟩
  have H2 : Hid (RM w2 R cap qv Q (mis1 S) X hc (x) mb (rrmA X.x bu sl 2 wv ah nw false co ma he) 239 ∧ Keeps (mrF R qv S X mb) w w2) := ⟨HD.out.1.callA ha2 k2 HW2.out.1 HW2.out.2, HD.out.2.trans (rA k2)⟩
  clear ha2 k2 HD HC
  (refine hK.out _ _ ⟨H2.out.1.h.i.c0, H2.out.1.h.i.c1, (H2.out.1.cell 2).trans rfl, (H2.out.1.cell 4).trans rfl⟩ (fun hHeld => ?_); clear hK K; try simp only [Act.put, List.setIfInBounds_toArray, List.set_cons_zero, List.set_cons_succ])
  refine rgT 22 (h := ?_)
  refine rgT 23 (h := ?_)
  refine rgT 24 (h := ?_)
  refine rgT 25 (h := ?_)
  refine rgT 26 (h := ?_)
  refine wpAnyH_done (by kernel_rfl) ?_ _
  clear hHeld
  clear hHeld
  go_wp2_with fail
  refine (rrm_over w2 mb X.x bu sl 2 wv ah nw false co ma he 22 H2.out.1.m).mono ?_
  rintro e w9 ⟨rfl, hm9, k9⟩
  have H9 : Hid (RC w9 R cap qv Q (mis1 S) X hc (x) ∧ RrmH w9 mb X.x ⟨6, 22, bu, sl, wd, ah, pr, be, ma, he⟩ ∧ Keeps (mrF R qv S X mb) w w9) := ⟨(H2.out.1.own hm9 k9).h, rrm6 hm9, H2.out.2.trans (rM k9)⟩
  clear hm9 k9 H2 
  go_wp2
  go_ret
  exact ⟨rfl, H9.out⟩
theorem rrm_st2_miss (w : World) (R : RL) (cap : Nat) (qv : Value) (Q : List Nat) (S : AS) (X : XL) (hc : Nat) (x : XS) (mb : Nat) (bu sl wv ah nw co : Int) (ma : Bool) (he : Int) (wd pr be : Int) (h : RC w R cap qv Q S X hc x) (hm : w.heap[mb]? = some (.cells (rrmA X.x bu sl 2 wv ah nw false co ma he) 239)) (hn : ¬ rcF R qv S X mb) (hb : inB x bu = true) (hk0 : 0 ≤ wv) (hk1 : wv ≤ 4294967295) (hl : liv S sl = true) (hu : ¬ S.word (atC S sl x.cell) = wv) : Calls Tryz.prog 157 #[.pointer (some ⟨mb, 0, none⟩)] w (RstR w R cap qv Q X hc mb S (false, ⟨acc1 S, x⟩, ⟨1, co, bu, sl, wd, ah, pr, be, ma, he⟩)) := by
  have HP : Hid (RM w R cap qv Q (S) X hc (x) mb (rrmA X.x bu sl 2 wv ah nw false co ma he) 239 ∧ Keeps (mrF R qv S X mb) w w) := ⟨⟨h, hm, hn⟩, Keeps.refl _ _⟩
  have HB := rx_has w R.b X hc x bu h.i
  rw [show inB x bu = true from hb] at HB
  have HBB : Hid (∀ _ : Unit, _) := fun _ => HB
  clear h hm hn HB
  have c0 : w.cell? ⟨mb, 0, none⟩ = some (.pointer (some ⟨X.x, 0, none⟩)) := (HP.out.1.cell 0).trans rfl
  have c1 : w.cell? ⟨mb, 1, none⟩ = some (.int .i64 bu) := (HP.out.1.cell 1).trans rfl
  have c3 : w.cell? ⟨mb, 3, none⟩ = some (.int .i64 2) := (HP.out.1.cell 3).trans rfl
  have c7 : w.cell? ⟨mb, 7, none⟩ = some (.bool false) := (HP.out.1.cell 7).trans rfl
  have HC : Hid (∀ W, RC W R cap qv Q S X hc x → Calls Tryz.prog 202 #[.pointer (some ⟨R.b, 0, none⟩), .int .i64 sl, .int .i64 (x.cell : Int), .int .u64 wv, .int .u64 (wv + 1)] W fun e w' => e = .returned (.tuple #[.bool false, .int .i64 0]) ∧ RAr w' R cap qv Q (acc1 S) ∧ Keeps (raF R qv S) W w') := fun W hW => ra_cas_miss W R cap qv Q S sl x.cell wv (wv + 1) hW.a hl hW.c _ rfl hu
  have HW2 : Hid ((acc1 S).wd = S.wd ∧ ∀ g, raF R qv (acc1 S) g → raF R qv S g) := ⟨rfl, fun g e => e⟩
  have HWR : Hid (IntKind.u64.wrap (wv + 1) = wv + 1) := by show _ = _; rw [IntKind.wrap_u64]; omega
  clear hb hl hk0 hk1 hu
  go_enter Tryz.func157, Tryz.ntmps157
  go_wp2_with fail
  refine (HBB.out ()).mono ?_
  rintro e w1 ⟨rfl, hw1⟩
  rw [hw1]
  clear hw1 w1 HBB
  have HD : Hid (RM w.drew R cap qv Q (S) X hc (x) mb (rrmA X.x bu sl 2 wv ah nw false co ma he) 239 ∧ Keeps (mrF R qv S X mb) w w.drew) := ⟨⟨HP.out.1.h.keeps (D := fun _ => False) (Keeps.refl _ _).drew (fun _ _ e => e), HP.out.1.m, HP.out.1.n⟩, (Keeps.refl _ _).drew⟩
  have sx : w.drew.cell? ⟨X.x, 0, none⟩ = some (.pointer (some ⟨R.b, 0, none⟩)) ∧ w.drew.cell? ⟨X.x, 1, none⟩ = some (.int .i64 (x.cell : Int)) ∧ w.drew.cell? ⟨mb, 2, none⟩ = some (.int .i64 sl) ∧ w.drew.cell? ⟨mb, 4, none⟩ = some (.int .u64 wv) := ⟨HD.out.1.h.i.c0, HD.out.1.h.i.c1, (HD.out.1.cell 2).trans rfl, (HD.out.1.cell 4).trans rfl⟩
  go_wp2_with fail
  (refine wp_region_held_drew (S := (fun Z => Z.cell? ⟨X.x, 0, none⟩ = some (.pointer (some ⟨R.b, 0, none⟩)) ∧ Z.cell? ⟨X.x, 1, none⟩ = some (.int .i64 (x.cell : Int)) ∧ Z.cell? ⟨mb, 2, none⟩ = some (.int .i64 sl) ∧ Z.cell? ⟨mb, 4, none⟩ = some (.int .u64 wv))) (by kernel_rfl) sx (fun hHeld => ?_); simp only [List.size_toArray, List.length_cons, List.length_nil, Nat.reduceAdd, Array.replicate_succ, Array.replicate_zero, List.push_toArray, List.append_toArray, List.nil_append, List.cons_append])
  clear sx HP c0 c1 c3 c7
  refine rgT 0 (h := ?_)
  refine rgT 1 (h := ?_)
  refine rgT 2 (h := ?_)
  refine rgT 3 (h := ?_)
  refine rgT 4 (h := ?_)
  refine rgT 5 (h := ?_)
  refine rgT 6 (h := ?_)
  refine rgT 7 (h := ?_)
  refine rgT 8 (h := ?_)
  refine rgT 9 (h := ?_)
  refine rgT 10 (h := ?_)
  refine rgT 11 (h := ?_)
  refine rgT 12 (h := ?_)
  refine rgT 13 (h := ?_)
  refine rgT 14 (h := ?_)
  refine rgT 15 (h := ?_)
  refine rgT 16 (h := ?_)
  refine rgT 17 (h := ?_)
  refine rgT 18 (h := ?_)
  refine rgT 19 (h := ?_)
  refine rgT 20 (h := ?_)
  (refine rgS 21 (h := fun K hK => ?_); go_simp)
  rw [HWR.out]
  clear HWR
  refine (HC.out w.drew HD.out.1.h).mono ?_
  rintro e w2 ⟨rfl, ha2, k2⟩
  have H2 : Hid (RM w2 R cap qv Q (acc1 S) X hc (x) mb (rrmA X.x bu sl 2 wv ah nw false co ma he) 239 ∧ Keeps (mrF R qv S X mb) w w2) := ⟨HD.out.1.callA ha2 k2 HW2.out.1 HW2.out.2, HD.out.2.trans (rA k2)⟩
  clear ha2 k2 HD HC
  (refine hK.out _ _ ⟨H2.out.1.h.i.c0, H2.out.1.h.i.c1, (H2.out.1.cell 2).trans rfl, (H2.out.1.cell 4).trans rfl⟩ (fun hHeld => ?_); clear hK K; try simp only [Act.put, List.setIfInBounds_toArray, List.set_cons_zero, List.set_cons_succ])
  refine rgT 22 (h := ?_)
  refine rgT 23 (h := ?_)
  refine rgT 24 (h := ?_)
  refine rgT 25 (h := ?_)
  refine rgT 26 (h := ?_)
  refine wpAnyH_done (by kernel_rfl) ?_ _
  clear hHeld
  clear hHeld
  have d3 : w2.cell? ⟨mb, 3, none⟩ = some (.int .i64 2) := (H2.out.1.cell 3).trans rfl
  have dz3 := H2.out.1.fz 3
  have H3 : Hid (RM (w2.setCell ⟨mb, 3, none⟩ (.int .i64 1)) R cap qv Q (acc1 S) X hc (x) mb (rrmA X.x bu sl 1 wv ah nw false co ma he) 239 ∧ Keeps (mrF R qv S X mb) w (w2.setCell ⟨mb, 3, none⟩ (.int .i64 1))) := ⟨(H2.out.1.set 3 _).1, (H2.out.2.trans (rM (H2.out.1.set 3 _).2))⟩
  clear H2
  go_wp2
  go_ret
  exact ⟨rfl, H3.out.1.h, rrm1 H3.out.1.m, H3.out.2⟩
theorem rrm_st2_hit (w : World) (R : RL) (cap : Nat) (qv : Value) (Q : List Nat) (S : AS) (X : XL) (hc : Nat) (x : XS) (mb : Nat) (bu sl wv ah nw co : Int) (ma : Bool) (he : Int) (wd pr be : Int) (h : RC w R cap qv Q S X hc x) (hm : w.heap[mb]? = some (.cells (rrmA X.x bu sl 2 wv ah nw false co ma he) 239)) (hn : ¬ rcF R qv S X mb) (hb : inB x bu = true) (hk0 : 0 ≤ wv) (hk1 : wv ≤ 4294967295) (hl : liv S sl = true) (hu : S.word (atC S sl x.cell) = wv) (S2 : AS) (hS2 : put1 S (atC S sl x.cell) (wv + 1) = S2) : Calls Tryz.prog 157 #[.pointer (some ⟨mb, 0, none⟩)] w (RstR w R cap qv Q X hc mb S (false, ⟨S2, x⟩, ⟨3, co, bu, sl, wd, ah, pr, be, true, he⟩)) := by
  have HP : Hid (RM w R cap qv Q (S) X hc (x) mb (rrmA X.x bu sl 2 wv ah nw false co ma he) 239 ∧ Keeps (mrF R qv S X mb) w w) := ⟨⟨h, hm, hn⟩, Keeps.refl _ _⟩
  have HB := rx_has w R.b X hc x bu h.i
  rw [show inB x bu = true from hb] at HB
  have HBB : Hid (∀ _ : Unit, _) := fun _ => HB
  clear h hm hn HB
  have c0 : w.cell? ⟨mb, 0, none⟩ = some (.pointer (some ⟨X.x, 0, none⟩)) := (HP.out.1.cell 0).trans rfl
  have c1 : w.cell? ⟨mb, 1, none⟩ = some (.int .i64 bu) := (HP.out.1.cell 1).trans rfl
  have c3 : w.cell? ⟨mb, 3, none⟩ = some (.int .i64 2) := (HP.out.1.cell 3).trans rfl
  have c7 : w.cell? ⟨mb, 7, none⟩ = some (.bool false) := (HP.out.1.cell 7).trans rfl
  have HC : Hid (∀ W, RC W R cap qv Q S X hc x → Calls Tryz.prog 202 #[.pointer (some ⟨R.b, 0, none⟩), .int .i64 sl, .int .i64 (x.cell : Int), .int .u64 wv, .int .u64 (wv + 1)] W fun e w' => e = .returned (.tuple #[.bool true, .int .i64 0]) ∧ RAr w' R cap qv Q (S2) ∧ Keeps (raF R qv S) W w') := fun W hW => by rw [← hS2]; exact ra_cas_hit W R cap qv Q S sl x.cell wv (wv + 1) hW.a hl hW.c hu
  have HW2 : Hid ((S2).wd = S.wd ∧ ∀ g, raF R qv (S2) g → raF R qv S g) := by rw [← hS2]; exact ⟨rfl, fun g e => e⟩
  have HWR : Hid (IntKind.u64.wrap (wv + 1) = wv + 1) := by show _ = _; rw [IntKind.wrap_u64]; omega
  clear hb hl hk0 hk1 hu hS2
  go_enter Tryz.func157, Tryz.ntmps157
  go_wp2_with fail
  refine (HBB.out ()).mono ?_
  rintro e w1 ⟨rfl, hw1⟩
  rw [hw1]
  clear hw1 w1 HBB
  have HD : Hid (RM w.drew R cap qv Q (S) X hc (x) mb (rrmA X.x bu sl 2 wv ah nw false co ma he) 239 ∧ Keeps (mrF R qv S X mb) w w.drew) := ⟨⟨HP.out.1.h.keeps (D := fun _ => False) (Keeps.refl _ _).drew (fun _ _ e => e), HP.out.1.m, HP.out.1.n⟩, (Keeps.refl _ _).drew⟩
  have sx : w.drew.cell? ⟨X.x, 0, none⟩ = some (.pointer (some ⟨R.b, 0, none⟩)) ∧ w.drew.cell? ⟨X.x, 1, none⟩ = some (.int .i64 (x.cell : Int)) ∧ w.drew.cell? ⟨mb, 2, none⟩ = some (.int .i64 sl) ∧ w.drew.cell? ⟨mb, 4, none⟩ = some (.int .u64 wv) := ⟨HD.out.1.h.i.c0, HD.out.1.h.i.c1, (HD.out.1.cell 2).trans rfl, (HD.out.1.cell 4).trans rfl⟩
  go_wp2_with fail
  (refine wp_region_held_drew (S := (fun Z => Z.cell? ⟨X.x, 0, none⟩ = some (.pointer (some ⟨R.b, 0, none⟩)) ∧ Z.cell? ⟨X.x, 1, none⟩ = some (.int .i64 (x.cell : Int)) ∧ Z.cell? ⟨mb, 2, none⟩ = some (.int .i64 sl) ∧ Z.cell? ⟨mb, 4, none⟩ = some (.int .u64 wv))) (by kernel_rfl) sx (fun hHeld => ?_); simp only [List.size_toArray, List.length_cons, List.length_nil, Nat.reduceAdd, Array.replicate_succ, Array.replicate_zero, List.push_toArray, List.append_toArray, List.nil_append, List.cons_append])
  clear sx HP c0 c1 c3 c7
  refine rgT 0 (h := ?_)
  refine rgT 1 (h := ?_)
  refine rgT 2 (h := ?_)
  refine rgT 3 (h := ?_)
  refine rgT 4 (h := ?_)
  refine rgT 5 (h := ?_)
  refine rgT 6 (h := ?_)
  refine rgT 7 (h := ?_)
  refine rgT 8 (h := ?_)
  refine rgT 9 (h := ?_)
  refine rgT 10 (h := ?_)
  refine rgT 11 (h := ?_)
  refine rgT 12 (h := ?_)
  refine rgT 13 (h := ?_)
  refine rgT 14 (h := ?_)
  refine rgT 15 (h := ?_)
  refine rgT 16 (h := ?_)
  refine rgT 17 (h := ?_)
  refine rgT 18 (h := ?_)
  refine rgT 19 (h := ?_)
  refine rgT 20 (h := ?_)
  (refine rgS 21 (h := fun K hK => ?_); go_simp)
  rw [HWR.out]
  clear HWR
  refine (HC.out w.drew HD.out.1.h).mono ?_
  rintro e w2 ⟨rfl, ha2, k2⟩
  have H2 : Hid (RM w2 R cap qv Q (S2) X hc (x) mb (rrmA X.x bu sl 2 wv ah nw false co ma he) 239 ∧ Keeps (mrF R qv S X mb) w w2) := ⟨HD.out.1.callA ha2 k2 HW2.out.1 HW2.out.2, HD.out.2.trans (rA k2)⟩
  clear ha2 k2 HD HC
  (refine hK.out _ _ ⟨H2.out.1.h.i.c0, H2.out.1.h.i.c1, (H2.out.1.cell 2).trans rfl, (H2.out.1.cell 4).trans rfl⟩ (fun hHeld => ?_); clear hK K; try simp only [Act.put, List.setIfInBounds_toArray, List.set_cons_zero, List.set_cons_succ])
  refine rgT 22 (h := ?_)
  refine rgT 23 (h := ?_)
  refine rgT 24 (h := ?_)
  refine rgT 25 (h := ?_)
  refine rgT 26 (h := ?_)
  refine wpAnyH_done (by kernel_rfl) ?_ _
  clear hHeld
  clear hHeld
  have d3 : w2.cell? ⟨mb, 3, none⟩ = some (.int .i64 2) := (H2.out.1.cell 3).trans rfl
  have d9 : w2.cell? ⟨mb, 9, none⟩ = some (.bool ma) := (H2.out.1.cell 9).trans rfl
  have dz3 := H2.out.1.fz 3
  have dz9 := H2.out.1.fz 9
  have H3 : Hid (RM (((w2.setCell ⟨mb, 3, none⟩ (.int .i64 1)).setCell ⟨mb, 9, none⟩ (.bool true)).setCell ⟨mb, 3, none⟩ (.int .i64 3)) R cap qv Q (S2) X hc (x) mb (rrmA X.x bu sl 3 wv ah nw false co true he) 239 ∧ Keeps (mrF R qv S X mb) w (((w2.setCell ⟨mb, 3, none⟩ (.int .i64 1)).setCell ⟨mb, 9, none⟩ (.bool true)).setCell ⟨mb, 3, none⟩ (.int .i64 3))) := ⟨(((H2.out.1.set 3 _).1.set 9 _).1.set 3 _).1, (((H2.out.2.trans (rM (H2.out.1.set 3 _).2)).trans (rM ((H2.out.1.set 3 _).1.set 9 _).2)).trans (rM (((H2.out.1.set 3 _).1.set 9 _).1.set 3 _).2))⟩
  clear H2
  go_wp2
  go_ret
  exact ⟨rfl, H3.out.1.h, rrm3 H3.out.1.m, H3.out.2⟩
end Go.Proofs.YtdjklcmkcccpeaaGreat
