import Derived.Test.YtdjklcmkcccpeaaGreatRbF
namespace Go.Proofs.YtdjklcmkcccpeaaGreat
set_option linter.unusedSimpArgs false
open Go.ChangeShapes Go.WideShapes Go.ChangeAt Go.RowKit Go.MuLone Go.RwLone
set_option linter.unusedVariables false
set_option maxRecDepth 100000
set_option maxHeartbeats 3200000
theorem rrs_head_miss (w : World) (R : RL) (cap : Nat) (qv : Value) (Q : List Nat) (S : AS) (X : XL) (hc : Nat) (x : XS) (mb : Nat) (bu sl wv ah nw co : Int) (ma : Bool) (he : Int) (wd pr be : Int) (h : RC w R cap qv Q S X hc x) (hm : w.heap[mb]? = some (.cells (rrmA X.x bu sl 5 wv 0 pr false co ma he) 239)) (hn : ¬ rcF R qv S X mb) (hk : LkOk wv) (hnn : wv / 2 = be) (hp : 0 ≤ pr ∧ pr ≤ 2147483647) (hb2 : 0 ≤ be ∧ be ≤ 2147483647) (b : Nat) (hbb : bu = (b : Int)) (hb1 : b < x.nb) (hu : ¬ x.hd b = 2 * pr) (x2 : XS) (hx2 : x.cn1 = x2) : Calls Tryz.prog 205 #[.pointer (some ⟨mb, 0, none⟩)] w (RstR w R cap qv Q X hc mb S (false, ⟨S, x2⟩, ⟨3, co, bu, sl, wd, 0, pr, be, ma, he⟩)) := by
  have HP : Hid (RM w R cap qv Q (S) X hc (x) mb (rrmA X.x bu sl 5 wv 0 pr false co ma he) 239 ∧ Keeps (mrF R qv S X mb) w w) := ⟨⟨h, hm, hn⟩, Keeps.refl _ _⟩
  clear h hm hn
  obtain ⟨u, hu0⟩ : ∃ u, 2 * pr = u := ⟨_, rfl⟩
  obtain ⟨y, hy0⟩ : ∃ y, 2 * be = y := ⟨_, rfl⟩
  have HK1 : Hid (∀ W, Calls Tryz.prog 146 #[.int .i64 pr] W fun e w' => e = .returned (.int .u64 u) ∧ w' = W) := fun W => by rw [← hu0]; exact rword_any pr W hp.1 hp.2
  have HK2 : Hid (∀ W, Calls Tryz.prog 146 #[.int .i64 be] W fun e w' => e = .returned (.int .u64 y) ∧ w' = W) := fun W => by rw [← hy0]; exact rword_any be W hb2.1 hb2.2
  have HNU : Hid (∀ W, Calls Tryz.prog 198 #[.int .u64 wv] W fun e w' => e = .returned (.int .i64 be) ∧ w' = W) := fun W => by rw [← hnn]; exact rnumber_any wv W hk
  subst hbb
  have HX2 : Hid (x2.cell = x.cell) := by show _ = _; rw [← hx2]; rfl
  have HS : Hid (∀ W, RxH W R.b X hc x → Calls Tryz.prog 195 #[.pointer (some ⟨X.x, 0, none⟩), .int .i64 (b : Int), .int .u64 u, .int .u64 y] W fun e w' => e = .returned (.bool false) ∧ RxH w' R.b X hc x2 ∧ Keeps X.has W w') := fun W hW => by
    rw [← hx2]
    exact rx_swap_miss W R.b X hc x b hb1 u _ hW (by rw [← hu0]; exact hu)
  clear hu hx2 hb1
  clear hk hnn hp hb2 hu0 hy0
  have c4 : w.cell? ⟨mb, 4, none⟩ = some (.int .u64 wv) := (HP.out.1.cell 4).trans rfl
  have c5 : w.cell? ⟨mb, 5, none⟩ = some (.int .i64 0) := (HP.out.1.cell 5).trans rfl
  go_enter Tryz.func205, Tryz.ntmps205
  go_wp2_with fail
  refine (HNU.out _).mono ?_
  rintro e w5 ⟨rfl, hw5⟩
  rw [hw5]
  clear hw5 w5 HNU
  have HD : Hid (RM w.drew R cap qv Q (S) X hc (x) mb (rrmA X.x (b : Int) sl 5 wv 0 pr false co ma he) 239 ∧ Keeps (mrF R qv S X mb) w w.drew) := ⟨⟨HP.out.1.h.keeps (D := fun _ => False) (Keeps.refl _ _).drew (fun _ _ e => e), HP.out.1.m, HP.out.1.n⟩, (Keeps.refl _ _).drew⟩
  have sx : w.drew.cell? ⟨mb, 0, none⟩ = some (.pointer (some ⟨X.x, 0, none⟩)) ∧ w.drew.cell? ⟨mb, 1, none⟩ = some (.int .i64 (b : Int)) ∧ w.drew.cell? ⟨mb, 6, none⟩ = some (.int .i64 pr) := ⟨(HD.out.1.cell 0).trans rfl, (HD.out.1.cell 1).trans rfl, (HD.out.1.cell 6).trans rfl⟩
  go_wp2_with fail
  (refine wp_region_held_drew (S := (fun Z => Z.cell? ⟨mb, 0, none⟩ = some (.pointer (some ⟨X.x, 0, none⟩)) ∧ Z.cell? ⟨mb, 1, none⟩ = some (.int .i64 (b : Int)) ∧ Z.cell? ⟨mb, 6, none⟩ = some (.int .i64 pr))) (by kernel_rfl) sx (fun hHeld => ?_); simp only [List.size_toArray, List.length_cons, List.length_nil, Nat.reduceAdd, Array.replicate_succ, Array.replicate_zero, List.push_toArray, List.append_toArray, List.nil_append, List.cons_append])
  clear sx HP c4 c5
  refine rgT 0 (h := ?_)
  refine rgT 1 (h := ?_)
  refine rgT 2 (h := ?_)
  refine rgT 3 (h := ?_)
  refine rgT 4 (h := ?_)
  refine rgT 5 (h := ?_)
  refine rgT 6 (h := ?_)
  refine rgT 7 (h := ?_)
  refine rgT 8 (h := ?_)
  refine rgT 9 (h := ?_)
  refine rgT 10 (h := ?_)
  refine rgT 11 (h := ?_)
  refine rgT 13 (h := ?_)
  (refine rgS 12 (h := fun K hK => ?_); go_simp)
  refine (HK1.out _).mono ?_
  rintro e w1 ⟨rfl, hw1⟩
  rw [hw1]
  clear hw1 w1 HK1
  (refine hK.out _ _ ⟨(HD.out.1.cell 0).trans rfl, (HD.out.1.cell 1).trans rfl, (HD.out.1.cell 6).trans rfl⟩ (fun hHeld => ?_); clear hK K; try simp only [Act.put, List.setIfInBounds_toArray, List.set_cons_zero, List.set_cons_succ])
  (refine rgS 14 (h := fun K hK => ?_); go_simp)
  refine (HK2.out _).mono ?_
  rintro e w1 ⟨rfl, hw1⟩
  rw [hw1]
  clear hw1 w1 HK2
  (refine hK.out _ _ ⟨(HD.out.1.cell 0).trans rfl, (HD.out.1.cell 1).trans rfl, (HD.out.1.cell 6).trans rfl⟩ (fun hHeld => ?_); clear hK K; try simp only [Act.put, List.setIfInBounds_toArray, List.set_cons_zero, List.set_cons_succ])
  (refine rgS 15 (h := fun K hK => ?_); go_simp)
  refine (HS.out _ HD.out.1.h.i).mono ?_
  rintro e w2 ⟨rfl, hx, k2⟩
  have H2 : Hid (RM w2 R cap qv Q (S) X hc (x2) mb (rrmA X.x (b : Int) sl 5 wv 0 pr false co ma he) 239 ∧ Keeps (mrF R qv S X mb) w w2) := ⟨HD.out.1.callX hx k2 HX2.out, HD.out.2.trans (rX k2)⟩
  clear hx k2 HD HS
  (refine hK.out _ _ ⟨(H2.out.1.cell 0).trans rfl, (H2.out.1.cell 1).trans rfl, (H2.out.1.cell 6).trans rfl⟩ (fun hHeld => ?_); clear hK K; try simp only [Act.put, List.setIfInBounds_toArray, List.set_cons_zero, List.set_cons_succ])
  refine rgT 16 (h := ?_)
  refine wpAnyH_done (by kernel_rfl) ?_ _
  clear hHeld
  clear hHeld
  clear hHeld
  clear hHeld
  have d3 : w2.cell? ⟨mb, 3, none⟩ = some (.int .i64 5) := (H2.out.1.cell 3).trans rfl
  have dz3 := H2.out.1.fz 3
  have H3 : Hid (RM (w2.setCell ⟨mb, 3, none⟩ (.int .i64 3)) R cap qv Q (S) X hc (x2) mb (rrmA X.x (b : Int) sl 3 wv 0 pr false co ma he) 239 ∧ Keeps (mrF R qv S X mb) w (w2.setCell ⟨mb, 3, none⟩ (.int .i64 3))) := ⟨(H2.out.1.set 3 _).1, (H2.out.2.trans (rM (H2.out.1.set 3 _).2))⟩
  clear H2
  go_wp2
  go_ret
  exact ⟨rfl, H3.out.1.h, rrm3 H3.out.1.m, H3.out.2⟩
theorem rrs_head_own (w : World) (R : RL) (cap : Nat) (qv : Value) (Q : List Nat) (S : AS) (X : XL) (hc : Nat) (x : XS) (mb : Nat) (bu sl wv ah nw co : Int) (ma : Bool) (he : Int) (wd pr be : Int) (h : RC w R cap qv Q S X hc x) (hm : w.heap[mb]? = some (.cells (rrmA X.x bu sl 5 wv 0 pr false co ma he) 239)) (hn : ¬ rcF R qv S X mb) (hk : LkOk wv) (hnn : wv / 2 = be) (hp : 0 ≤ pr ∧ pr ≤ 2147483647) (hb2 : 0 ≤ be ∧ be ≤ 2147483647) (b : Nat) (hbb : bu = (b : Int)) (hb1 : b < x.nb) (hu : x.hd b = 2 * pr) (x2 : XS) (hx2 : ({ x.cn1 with hd := upd x.hd b (2 * be) } : XS) = x2) (hps : (pr == sl) = true) : Calls Tryz.prog 205 #[.pointer (some ⟨mb, 0, none⟩)] w (RstR w R cap qv Q X hc mb S (true, ⟨S, x2⟩, ⟨6, 0, bu, sl, wd, 0, pr, be, ma, he⟩)) := by
  have HP : Hid (RM w R cap qv Q (S) X hc (x) mb (rrmA X.x bu sl 5 wv 0 pr false co ma he) 239 ∧ Keeps (mrF R qv S X mb) w w) := ⟨⟨h, hm, hn⟩, Keeps.refl _ _⟩
  clear h hm hn
  obtain ⟨u, hu0⟩ : ∃ u, 2 * pr = u := ⟨_, rfl⟩
  obtain ⟨y, hy0⟩ : ∃ y, 2 * be = y := ⟨_, rfl⟩
  have HK1 : Hid (∀ W, Calls Tryz.prog 146 #[.int .i64 pr] W fun e w' => e = .returned (.int .u64 u) ∧ w' = W) := fun W => by rw [← hu0]; exact rword_any pr W hp.1 hp.2
  have HK2 : Hid (∀ W, Calls Tryz.prog 146 #[.int .i64 be] W fun e w' => e = .returned (.int .u64 y) ∧ w' = W) := fun W => by rw [← hy0]; exact rword_any be W hb2.1 hb2.2
  have HNU : Hid (∀ W, Calls Tryz.prog 198 #[.int .u64 wv] W fun e w' => e = .returned (.int .i64 be) ∧ w' = W) := fun W => by rw [← hnn]; exact rnumber_any wv W hk
  subst hbb
  have HX2 : Hid (x2.cell = x.cell) := by show _ = _; rw [← hx2]; rfl
  have HS : Hid (∀ W, RxH W R.b X hc x → Calls Tryz.prog 195 #[.pointer (some ⟨X.x, 0, none⟩), .int .i64 (b : Int), .int .u64 u, .int .u64 y] W fun e w' => e = .returned (.bool true) ∧ RxH w' R.b X hc x2 ∧ Keeps X.has W w') := fun W hW => by
    rw [← hx2, hy0]
    exact rx_swap_hit W R.b X hc x b hb1 u _ hW (by rw [← hu0]; exact hu)
  clear hu hx2 hb1
  clear hk hnn hp hb2 hu0 hy0
  have c4 : w.cell? ⟨mb, 4, none⟩ = some (.int .u64 wv) := (HP.out.1.cell 4).trans rfl
  have c5 : w.cell? ⟨mb, 5, none⟩ = some (.int .i64 0) := (HP.out.1.cell 5).trans rfl
  go_enter Tryz.func205, Tryz.ntmps205
  go_wp2_with fail
  refine (HNU.out _).mono ?_
  rintro e w5 ⟨rfl, hw5⟩
  rw [hw5]
  clear hw5 w5 HNU
  have HD : Hid (RM w.drew R cap qv Q (S) X hc (x) mb (rrmA X.x (b : Int) sl 5 wv 0 pr false co ma he) 239 ∧ Keeps (mrF R qv S X mb) w w.drew) := ⟨⟨HP.out.1.h.keeps (D := fun _ => False) (Keeps.refl _ _).drew (fun _ _ e => e), HP.out.1.m, HP.out.1.n⟩, (Keeps.refl _ _).drew⟩
  have sx : w.drew.cell? ⟨mb, 0, none⟩ = some (.pointer (some ⟨X.x, 0, none⟩)) ∧ w.drew.cell? ⟨mb, 1, none⟩ = some (.int .i64 (b : Int)) ∧ w.drew.cell? ⟨mb, 6, none⟩ = some (.int .i64 pr) := ⟨(HD.out.1.cell 0).trans rfl, (HD.out.1.cell 1).trans rfl, (HD.out.1.cell 6).trans rfl⟩
  go_wp2_with fail
  (refine wp_region_held_drew (S := (fun Z => Z.cell? ⟨mb, 0, none⟩ = some (.pointer (some ⟨X.x, 0, none⟩)) ∧ Z.cell? ⟨mb, 1, none⟩ = some (.int .i64 (b : Int)) ∧ Z.cell? ⟨mb, 6, none⟩ = some (.int .i64 pr))) (by kernel_rfl) sx (fun hHeld => ?_); simp only [List.size_toArray, List.length_cons, List.length_nil, Nat.reduceAdd, Array.replicate_succ, Array.replicate_zero, List.push_toArray, List.append_toArray, List.nil_append, List.cons_append])
  clear sx HP c4 c5
  refine rgT 0 (h := ?_)
  refine rgT 1 (h := ?_)
  refine rgT 2 (h := ?_)
  refine rgT 3 (h := ?_)
  refine rgT 4 (h := ?_)
  refine rgT 5 (h := ?_)
  refine rgT 6 (h := ?_)
  refine rgT 7 (h := ?_)
  refine rgT 8 (h := ?_)
  refine rgT 9 (h := ?_)
  refine rgT 10 (h := ?_)
  refine rgT 11 (h := ?_)
  refine rgT 13 (h := ?_)
  (refine rgS 12 (h := fun K hK => ?_); go_simp)
  refine (HK1.out _).mono ?_
  rintro e w1 ⟨rfl, hw1⟩
  rw [hw1]
  clear hw1 w1 HK1
  (refine hK.out _ _ ⟨(HD.out.1.cell 0).trans rfl, (HD.out.1.cell 1).trans rfl, (HD.out.1.cell 6).trans rfl⟩ (fun hHeld => ?_); clear hK K; try simp only [Act.put, List.setIfInBounds_toArray, List.set_cons_zero, List.set_cons_succ])
  (refine rgS 14 (h := fun K hK => ?_); go_simp)
  refine (HK2.out _).mono ?_
  rintro e w1 ⟨rfl, hw1⟩
  rw [hw1]
  clear hw1 w1 HK2
  (refine hK.out _ _ ⟨(HD.out.1.cell 0).trans rfl, (HD.out.1.cell 1).trans rfl, (HD.out.1.cell 6).trans rfl⟩ (fun hHeld => ?_); clear hK K; try simp only [Act.put, List.setIfInBounds_toArray, List.set_cons_zero, List.set_cons_succ])
  (refine rgS 15 (h := fun K hK => ?_); go_simp)
  refine (HS.out _ HD.out.1.h.i).mono ?_
  rintro e w2 ⟨rfl, hx, k2⟩
  have H2 : Hid (RM w2 R cap qv Q (S) X hc (x2) mb (rrmA X.x (b : Int) sl 5 wv 0 pr false co ma he) 239 ∧ Keeps (mrF R qv S X mb) w w2) := ⟨HD.out.1.callX hx k2 HX2.out, HD.out.2.trans (rX k2)⟩
  clear hx k2 HD HS
  (refine hK.out _ _ ⟨(H2.out.1.cell 0).trans rfl, (H2.out.1.cell 1).trans rfl, (H2.out.1.cell 6).trans rfl⟩ (fun hHeld => ?_); clear hK K; try simp only [Act.put, List.setIfInBounds_toArray, List.set_cons_zero, List.set_cons_succ])
  refine rgT 16 (h := ?_)
  refine wpAnyH_done (by kernel_rfl) ?_ _
  clear hHeld
  clear hHeld
  clear hHeld
  clear hHeld
  have H2D : Hid (RM w2.drew R cap qv Q (S) X hc (x2) mb (rrmA X.x (b : Int) sl 5 wv 0 pr false co ma he) 239 ∧ Keeps (mrF R qv S X mb) w w2.drew) := ⟨⟨H2.out.1.h.keeps (D := fun _ => False) (Keeps.refl _ _).drew (fun _ _ e => e), H2.out.1.m, H2.out.1.n⟩, H2.out.2.trans (Keeps.refl _ _).drew⟩
  have sx2 : w2.drew.cell? ⟨mb, 6, none⟩ = some (.int .i64 pr) ∧ w2.drew.cell? ⟨mb, 2, none⟩ = some (.int .i64 sl) := ⟨(H2D.out.1.cell 6).trans rfl, (H2D.out.1.cell 2).trans rfl⟩
  go_wp2_with fail
  (refine wp_region_held_drew (S := (fun Z => Z.cell? ⟨mb, 6, none⟩ = some (.int .i64 pr) ∧ Z.cell? ⟨mb, 2, none⟩ = some (.int .i64 sl))) (by kernel_rfl) sx2 (fun hHeld => ?_); simp only [List.size_toArray, List.length_cons, List.length_nil, Nat.reduceAdd, Array.replicate_succ, Array.replicate_zero, List.push_toArray, List.append_toArray, List.nil_append, List.cons_append])
  clear sx2 H2
  refine rgT 0 (h := ?_)
  refine rgT 1 (h := ?_)
  refine rgT 2 (h := ?_)
  refine rgT 3 (h := ?_)
  refine rgT 4 (h := ?_)
  refine rgT 5 (h := ?_)
  refine rgT 6 (h := ?_)
  refine rgT 7 (h := ?_)
  refine rgT 8 (h := ?_)
  refine wpAnyH_done (by kernel_rfl) ?_ _
  clear hHeld
  go_wp2_with fail
  refine (rrm_over w2.drew mb X.x (b : Int) sl 5 wv 0 pr false co ma he 0 H2D.out.1.m).mono ?_
  rintro e w9 ⟨rfl, hm9, k9⟩
  have H9 : Hid (RC w9 R cap qv Q (S) X hc (x2) ∧ RrmH w9 mb X.x ⟨6, 0, (b : Int), sl, wd, 0, pr, be, ma, he⟩ ∧ Keeps (mrF R qv S X mb) w w9) := ⟨(H2D.out.1.own hm9 k9).h, rrm6 hm9, H2D.out.2.trans (rM k9)⟩
  clear hm9 k9 H2D 
  go_wp2
  go_ret
  exact ⟨rfl, H9.out⟩
theorem rrs_head_help (w : World) (R : RL) (cap : Nat) (qv : Value) (Q : List Nat) (S : AS) (X : XL) (hc : Nat) (x : XS) (mb : Nat) (bu sl wv ah nw co : Int) (ma : Bool) (he : Int) (wd pr be : Int) (h : RC w R cap qv Q S X hc x) (hm : w.heap[mb]? = some (.cells (rrmA X.x bu sl 5 wv 0 pr false co ma he) 239)) (hn : ¬ rcF R qv S X mb) (hk : LkOk wv) (hnn : wv / 2 = be) (hp : 0 ≤ pr ∧ pr ≤ 2147483647) (hb2 : 0 ≤ be ∧ be ≤ 2147483647) (b : Nat) (hbb : bu = (b : Int)) (hb1 : b < x.nb) (hu : x.hd b = 2 * pr) (x2 : XS) (hx2 : ({ x.cn1 with hd := upd x.hd b (2 * be) } : XS) = x2) (hps : (pr == sl) = false) (q : Bool × MR) (hq : mvR ⟨5, co, bu, sl, wd, 0, pr, be, ma, wrap64 (he + 1)⟩ be = q) : Calls Tryz.prog 205 #[.pointer (some ⟨mb, 0, none⟩)] w (RstR w R cap qv Q X hc mb S (q.1, ⟨S, x2⟩, q.2)) := by
  have HP : Hid (RM w R cap qv Q (S) X hc (x) mb (rrmA X.x bu sl 5 wv 0 pr false co ma he) 239 ∧ Keeps (mrF R qv S X mb) w w) := ⟨⟨h, hm, hn⟩, Keeps.refl _ _⟩
  clear h hm hn
  obtain ⟨u, hu0⟩ : ∃ u, 2 * pr = u := ⟨_, rfl⟩
  obtain ⟨y, hy0⟩ : ∃ y, 2 * be = y := ⟨_, rfl⟩
  have HK1 : Hid (∀ W, Calls Tryz.prog 146 #[.int .i64 pr] W fun e w' => e = .returned (.int .u64 u) ∧ w' = W) := fun W => by rw [← hu0]; exact rword_any pr W hp.1 hp.2
  have HK2 : Hid (∀ W, Calls Tryz.prog 146 #[.int .i64 be] W fun e w' => e = .returned (.int .u64 y) ∧ w' = W) := fun W => by rw [← hy0]; exact rword_any be W hb2.1 hb2.2
  have HNU : Hid (∀ W, Calls Tryz.prog 198 #[.int .u64 wv] W fun e w' => e = .returned (.int .i64 be) ∧ w' = W) := fun W => by rw [← hnn]; exact rnumber_any wv W hk
  subst hbb
  have HX2 : Hid (x2.cell = x.cell) := by show _ = _; rw [← hx2]; rfl
  have HS : Hid (∀ W, RxH W R.b X hc x → Calls Tryz.prog 195 #[.pointer (some ⟨X.x, 0, none⟩), .int .i64 (b : Int), .int .u64 u, .int .u64 y] W fun e w' => e = .returned (.bool true) ∧ RxH w' R.b X hc x2 ∧ Keeps X.has W w') := fun W hW => by
    rw [← hx2, hy0]
    exact rx_swap_hit W R.b X hc x b hb1 u _ hW (by rw [← hu0]; exact hu)
  clear hu hx2 hb1
  have HPR : Hid (∀ W, W.heap[mb]? = some (.cells (rrmA X.x (b : Int) sl 5 wv 0 pr false co ma (wrap64 (he + 1))) 239) → Calls Tryz.prog 203 #[.pointer (some ⟨mb, 0, none⟩), .int .i64 be] W fun e w' => e = .returned (.bool q.1) ∧ RrmH w' mb X.x q.2 ∧ Keeps (fun g => g = mb) W w') := fun W hW => by
    rw [← hq]
    exact rrm_present W mb X.x (b : Int) sl 5 wv 0 pr co ma (wrap64 (he + 1)) be 5 wd pr be hW
  clear hq
  clear hk hnn hp hb2 hu0 hy0
  have c4 : w.cell? ⟨mb, 4, none⟩ = some (.int .u64 wv) := (HP.out.1.cell 4).trans rfl
  have c5 : w.cell? ⟨mb, 5, none⟩ = some (.int .i64 0) := (HP.out.1.cell 5).trans rfl
  go_enter Tryz.func205, Tryz.ntmps205
  go_wp2_with fail
  refine (HNU.out _).mono ?_
  rintro e w5 ⟨rfl, hw5⟩
  rw [hw5]
  clear hw5 w5 HNU
  have HD : Hid (RM w.drew R cap qv Q (S) X hc (x) mb (rrmA X.x (b : Int) sl 5 wv 0 pr false co ma he) 239 ∧ Keeps (mrF R qv S X mb) w w.drew) := ⟨⟨HP.out.1.h.keeps (D := fun _ => False) (Keeps.refl _ _).drew (fun _ _ e => e), HP.out.1.m, HP.out.1.n⟩, (Keeps.refl _ _).drew⟩
  have sx : w.drew.cell? ⟨mb, 0, none⟩ = some (.pointer (some ⟨X.x, 0, none⟩)) ∧ w.drew.cell? ⟨mb, 1, none⟩ = some (.int .i64 (b : Int)) ∧ w.drew.cell? ⟨mb, 6, none⟩ = some (.int .i64 pr) := ⟨(HD.out.1.cell 0).trans rfl, (HD.out.1.cell 1).trans rfl, (HD.out.1.cell 6).trans rfl⟩
  go_wp2_with fail
  (refine wp_region_held_drew (S := (fun Z => Z.cell? ⟨mb, 0, none⟩ = some (.pointer (some ⟨X.x, 0, none⟩)) ∧ Z.cell? ⟨mb, 1, none⟩ = some (.int .i64 (b : Int)) ∧ Z.cell? ⟨mb, 6, none⟩ = some (.int .i64 pr))) (by kernel_rfl) sx (fun hHeld => ?_); simp only [List.size_toArray, List.length_cons, List.length_nil, Nat.reduceAdd, Array.replicate_succ, Array.replicate_zero, List.push_toArray, List.append_toArray, List.nil_append, List.cons_append])
  clear sx HP c4 c5
  refine rgT 0 (h := ?_)
  refine rgT 1 (h := ?_)
  refine rgT 2 (h := ?_)
  refine rgT 3 (h := ?_)
  refine rgT 4 (h := ?_)
  refine rgT 5 (h := ?_)
  refine rgT 6 (h := ?_)
  refine rgT 7 (h := ?_)
  refine rgT 8 (h := ?_)
  refine rgT 9 (h := ?_)
  refine rgT 10 (h := ?_)
  refine rgT 11 (h := ?_)
  refine rgT 13 (h := ?_)
  (refine rgS 12 (h := fun K hK => ?_); go_simp)
  refine (HK1.out _).mono ?_
  rintro e w1 ⟨rfl, hw1⟩
  rw [hw1]
  clear hw1 w1 HK1
  (refine hK.out _ _ ⟨(HD.out.1.cell 0).trans rfl, (HD.out.1.cell 1).trans rfl, (HD.out.1.cell 6).trans rfl⟩ (fun hHeld => ?_); clear hK K; try simp only [Act.put, List.setIfInBounds_toArray, List.set_cons_zero, List.set_cons_succ])
  (refine rgS 14 (h := fun K hK => ?_); go_simp)
  refine (HK2.out _).mono ?_
  rintro e w1 ⟨rfl, hw1⟩
  rw [hw1]
  clear hw1 w1 HK2
  (refine hK.out _ _ ⟨(HD.out.1.cell 0).trans rfl, (HD.out.1.cell 1).trans rfl, (HD.out.1.cell 6).trans rfl⟩ (fun hHeld => ?_); clear hK K; try simp only [Act.put, List.setIfInBounds_toArray, List.set_cons_zero, List.set_cons_succ])
  (refine rgS 15 (h := fun K hK => ?_); go_simp)
  refine (HS.out _ HD.out.1.h.i).mono ?_
  rintro e w2 ⟨rfl, hx, k2⟩
  have H2 : Hid (RM w2 R cap qv Q (S) X hc (x2) mb (rrmA X.x (b : Int) sl 5 wv 0 pr false co ma he) 239 ∧ Keeps (mrF R qv S X mb) w w2) := ⟨HD.out.1.callX hx k2 HX2.out, HD.out.2.trans (rX k2)⟩
  clear hx k2 HD HS
  (refine hK.out _ _ ⟨(H2.out.1.cell 0).trans rfl, (H2.out.1.cell 1).trans rfl, (H2.out.1.cell 6).trans rfl⟩ (fun hHeld => ?_); clear hK K; try simp only [Act.put, List.setIfInBounds_toArray, List.set_cons_zero, List.set_cons_succ])
  refine rgT 16 (h := ?_)
  refine wpAnyH_done (by kernel_rfl) ?_ _
  clear hHeld
  clear hHeld
  clear hHeld
  clear hHeld
  have H2D : Hid (RM w2.drew R cap qv Q (S) X hc (x2) mb (rrmA X.x (b : Int) sl 5 wv 0 pr false co ma he) 239 ∧ Keeps (mrF R qv S X mb) w w2.drew) := ⟨⟨H2.out.1.h.keeps (D := fun _ => False) (Keeps.refl _ _).drew (fun _ _ e => e), H2.out.1.m, H2.out.1.n⟩, H2.out.2.trans (Keeps.refl _ _).drew⟩
  have sx2 : w2.drew.cell? ⟨mb, 6, none⟩ = some (.int .i64 pr) ∧ w2.drew.cell? ⟨mb, 2, none⟩ = some (.int .i64 sl) := ⟨(H2D.out.1.cell 6).trans rfl, (H2D.out.1.cell 2).trans rfl⟩
  go_wp2_with fail
  (refine wp_region_held_drew (S := (fun Z => Z.cell? ⟨mb, 6, none⟩ = some (.int .i64 pr) ∧ Z.cell? ⟨mb, 2, none⟩ = some (.int .i64 sl))) (by kernel_rfl) sx2 (fun hHeld => ?_); simp only [List.size_toArray, List.length_cons, List.length_nil, Nat.reduceAdd, Array.replicate_succ, Array.replicate_zero, List.push_toArray, List.append_toArray, List.nil_append, List.cons_append])
  clear sx2 H2
  refine rgT 0 (h := ?_)
  refine rgT 1 (h := ?_)
  refine rgT 2 (h := ?_)
  refine rgT 3 (h := ?_)
  refine rgT 4 (h := ?_)
  refine rgT 5 (h := ?_)
  refine rgT 6 (h := ?_)
  refine rgT 7 (h := ?_)
  refine rgT 8 (h := ?_)
  refine wpAnyH_done (by kernel_rfl) ?_ _
  clear hHeld
  have d10 : w2.drew.cell? ⟨mb, 10, none⟩ = some (.int .i64 he) := (H2D.out.1.cell 10).trans rfl
  have dz10 := H2D.out.1.fz 10
  have H3 : Hid (RM (w2.drew.setCell ⟨mb, 10, none⟩ (.int .i64 (wrap64 (he + 1)))) R cap qv Q (S) X hc (x2) mb (rrmA X.x (b : Int) sl 5 wv 0 pr false co ma (wrap64 (he + 1))) 239 ∧ Keeps (mrF R qv S X mb) w (w2.drew.setCell ⟨mb, 10, none⟩ (.int .i64 (wrap64 (he + 1))))) := ⟨(H2D.out.1.set 10 _).1, (H2D.out.2.trans (rM (H2D.out.1.set 10 _).2))⟩
  clear H2D
  go_wp2_with fail
  refine (HPR.out _ H3.out.1.m).mono ?_
  rintro e w9 ⟨rfl, hm9, k9⟩
  have H9 : Hid (RC w9 R cap qv Q (S) X hc (x2) ∧ RrmH w9 mb X.x q.2 ∧ Keeps (mrF R qv S X mb) w w9) := ⟨H3.out.1.kept k9, hm9, H3.out.2.trans (rM k9)⟩
  clear hm9 k9 H3 HPR d10 dz10
  go_wp2
  go_ret
  exact ⟨rfl, H9.out⟩
theorem rrs_slot_dead (w : World) (R : RL) (cap : Nat) (qv : Value) (Q : List Nat) (S : AS) (X : XL) (hc : Nat) (x : XS) (mb : Nat) (bu sl wv ah nw co : Int) (ma : Bool) (he : Int) (wd pr be : Int) (h : RC w R cap qv Q S X hc x) (hm : w.heap[mb]? = some (.cells (rrmA X.x bu sl 5 wv ah pr false co ma he) 239)) (hn : ¬ rcF R qv S X mb) (hk : LkOk wv) (hnn : wv / 2 = be) (hp : 0 ≤ pr ∧ pr ≤ 2147483647) (hb2 : 0 ≤ be ∧ be ≤ 2147483647) (ha0 : ¬ ah = 0) (hl : liv S ah = false) : Calls Tryz.prog 205 #[.pointer (some ⟨mb, 0, none⟩)] w (RstR w R cap qv Q X hc mb S (true, ⟨mis1 S, x⟩, ⟨6, 22, bu, sl, wd, ah, pr, be, ma, he⟩)) := by
  have HP : Hid (RM w R cap qv Q (S) X hc (x) mb (rrmA X.x bu sl 5 wv ah pr false co ma he) 239 ∧ Keeps (mrF R qv S X mb) w w) := ⟨⟨h, hm, hn⟩, Keeps.refl _ _⟩
  clear h hm hn
  obtain ⟨u, hu0⟩ : ∃ u, 2 * pr = u := ⟨_, rfl⟩
  obtain ⟨y, hy0⟩ : ∃ y, 2 * be = y := ⟨_, rfl⟩
  have HK1 : Hid (∀ W, Calls Tryz.prog 146 #[.int .i64 pr] W fun e w' => e = .returned (.int .u64 u) ∧ w' = W) := fun W => by rw [← hu0]; exact rword_any pr W hp.1 hp.2
  have HK2 : Hid (∀ W, Calls Tryz.prog 146 #[.int .i64 be] W fun e w' => e = .returned (.int .u64 y) ∧ w' = W) := fun W => by rw [← hy0]; exact rword_any be W hb2.1 hb2.2
  have HNU : Hid (∀ W, Calls Tryz.prog 198 #[.int .u64 wv] W fun e w' => e = .returned (.int .i64 be) ∧ w' = W) := fun W => by rw [← hnn]; exact rnumber_any wv W hk
  have HC : Hid (∀ W, RC W R cap qv Q S X hc x → Calls Tryz.prog 202 #[.pointer (some ⟨R.b, 0, none⟩), .int .i64 ah, .int .i64 (x.cell : Int), .int .u64 u, .int .u64 y] W fun e w' => e = .returned (.tuple #[.bool false, .int .i64 22]) ∧ RAr w' R cap qv Q (mis1 S) ∧ Keeps (raF R qv S) W w') := fun W hW => ra_cas_no W R cap qv Q S ah (x.cell : Int) u y hW.a hl
  have HW2 : Hid ((mis1 S).wd = S.wd ∧ ∀ g, raF R qv (mis1 S) g → raF R qv S g) := ⟨rfl, fun g e => e⟩
  have ha2 : (ah == 0) = false := by simp [ha0]
  clear hl ha0
  clear hk hnn hp hb2 hu0 hy0
  have c4 : w.cell? ⟨mb, 4, none⟩ = some (.int .u64 wv) := (HP.out.1.cell 4).trans rfl
  have c5 : w.cell? ⟨mb, 5, none⟩ = some (.int .i64 ah) := (HP.out.1.cell 5).trans rfl
  go_enter Tryz.func205, Tryz.ntmps205
  go_wp2_with fail
  refine (HNU.out _).mono ?_
  rintro e w5 ⟨rfl, hw5⟩
  rw [hw5]
  clear hw5 w5 HNU
  have HD : Hid (RM w.drew R cap qv Q (S) X hc (x) mb (rrmA X.x bu sl 5 wv ah pr false co ma he) 239 ∧ Keeps (mrF R qv S X mb) w w.drew) := ⟨⟨HP.out.1.h.keeps (D := fun _ => False) (Keeps.refl _ _).drew (fun _ _ e => e), HP.out.1.m, HP.out.1.n⟩, (Keeps.refl _ _).drew⟩
  have sx : w.drew.cell? ⟨X.x, 0, none⟩ = some (.pointer (some ⟨R.b, 0, none⟩)) ∧ w.drew.cell? ⟨X.x, 1, none⟩ = some (.int .i64 (x.cell : Int)) ∧ w.drew.cell? ⟨mb, 0, none⟩ = some (.pointer (some ⟨X.x, 0, none⟩)) ∧ w.drew.cell? ⟨mb, 5, none⟩ = some (.int .i64 ah) ∧ w.drew.cell? ⟨mb, 6, none⟩ = some (.int .i64 pr) := ⟨HD.out.1.h.i.c0, HD.out.1.h.i.c1, (HD.out.1.cell 0).trans rfl, (HD.out.1.cell 5).trans rfl, (HD.out.1.cell 6).trans rfl⟩
  go_wp2_with fail
  (refine wp_region_held_drew (S := (fun Z => Z.cell? ⟨X.x, 0, none⟩ = some (.pointer (some ⟨R.b, 0, none⟩)) ∧ Z.cell? ⟨X.x, 1, none⟩ = some (.int .i64 (x.cell : Int)) ∧ Z.cell? ⟨mb, 0, none⟩ = some (.pointer (some ⟨X.x, 0, none⟩)) ∧ Z.cell? ⟨mb, 5, none⟩ = some (.int .i64 ah) ∧ Z.cell? ⟨mb, 6, none⟩ = some (.int .i64 pr))) (by kernel_rfl) sx (fun hHeld => ?_); simp only [List.size_toArray, List.length_cons, List.length_nil, Nat.reduceAdd, Array.replicate_succ, Array.replicate_zero, List.push_toArray, List.append_toArray, List.nil_append, List.cons_append])
  clear sx HP c4 c5
  refine rgT 0 (h := ?_)
  refine rgT 1 (h := ?_)
  refine rgT 2 (h := ?_)
  refine rgT 3 (h := ?_)
  refine rgT 4 (h := ?_)
  refine rgT 5 (h := ?_)
  refine rgT 6 (h := ?_)
  refine rgT 7 (h := ?_)
  refine rgT 8 (h := ?_)
  refine rgT 9 (h := ?_)
  refine rgT 10 (h := ?_)
  refine rgT 11 (h := ?_)
  refine rgT 12 (h := ?_)
  refine rgT 13 (h := ?_)
  refine rgT 14 (h := ?_)
  refine rgT 15 (h := ?_)
  refine rgT 16 (h := ?_)
  refine rgT 17 (h := ?_)
  refine rgT 18 (h := ?_)
  refine rgT 19 (h := ?_)
  refine rgT 20 (h := ?_)
  refine rgT 21 (h := ?_)
  refine rgT 23 (h := ?_)
  (refine rgS 22 (h := fun K hK => ?_); go_simp)
  refine (HK1.out _).mono ?_
  rintro e w1 ⟨rfl, hw1⟩
  rw [hw1]
  clear hw1 w1 HK1
  (refine hK.out _ _ ⟨HD.out.1.h.i.c0, HD.out.1.h.i.c1, (HD.out.1.cell 0).trans rfl, (HD.out.1.cell 5).trans rfl, (HD.out.1.cell 6).trans rfl⟩ (fun hHeld => ?_); clear hK K; try simp only [Act.put, List.setIfInBounds_toArray, List.set_cons_zero, List.set_cons_succ])
  (refine rgS 24 (h := fun K hK => ?_); go_simp)
  refine (HK2.out _).mono ?_
  rintro e w1 ⟨rfl, hw1⟩
  rw [hw1]
  clear hw1 w1 HK2
  (refine hK.out _ _ ⟨HD.out.1.h.i.c0, HD.out.1.h.i.c1, (HD.out.1.cell 0).trans rfl, (HD.out.1.cell 5).trans rfl, (HD.out.1.cell 6).trans rfl⟩ (fun hHeld => ?_); clear hK K; try simp only [Act.put, List.setIfInBounds_toArray, List.set_cons_zero, List.set_cons_succ])
  (refine rgS 25 (h := fun K hK => ?_); go_simp)
  refine (HC.out _ HD.out.1.h).mono ?_
  rintro e w2 ⟨rfl, ha2, k2⟩
  have H2 : Hid (RM w2 R cap qv Q (mis1 S) X hc (x) mb (rrmA X.x bu sl 5 wv ah pr false co ma he) 239 ∧ Keeps (mrF R qv S X mb) w w2) := ⟨HD.out.1.callA ha2 k2 HW2.out.1 HW2.out.2, HD.out.2.trans (rA k2)⟩
  clear ha2 k2 HD HC
  (refine hK.out _ _ ⟨H2.out.1.h.i.c0, H2.out.1.h.i.c1, (H2.out.1.cell 0).trans rfl, (H2.out.1.cell 5).trans rfl, (H2.out.1.cell 6).trans rfl⟩ (fun hHeld => ?_); clear hK K; try simp only [Act.put, List.setIfInBounds_toArray, List.set_cons_zero, List.set_cons_succ])
  refine rgT 26 (h := ?_)
  refine rgT 27 (h := ?_)
  refine rgT 28 (h := ?_)
  refine rgT 29 (h := ?_)
  refine rgT 30 (h := ?_)
  refine wpAnyH_done (by kernel_rfl) ?_ _
  clear hHeld
  clear hHeld
  clear hHeld
  clear hHeld
  go_wp2_with fail
  refine (rrm_over w2 mb X.x bu sl 5 wv ah pr false co ma he 22 H2.out.1.m).mono ?_
  rintro e w9 ⟨rfl, hm9, k9⟩
  have H9 : Hid (RC w9 R cap qv Q (mis1 S) X hc (x) ∧ RrmH w9 mb X.x ⟨6, 22, bu, sl, wd, ah, pr, be, ma, he⟩ ∧ Keeps (mrF R qv S X mb) w w9) := ⟨(H2.out.1.own hm9 k9).h, rrm6 hm9, H2.out.2.trans (rM k9)⟩
  clear hm9 k9 H2 
  go_wp2
  go_ret
  exact ⟨rfl, H9.out⟩
theorem rrs_slot_miss (w : World) (R : RL) (cap : Nat) (qv : Value) (Q : List Nat) (S : AS) (X : XL) (hc : Nat) (x : XS) (mb : Nat) (bu sl wv ah nw co : Int) (ma : Bool) (he : Int) (wd pr be : Int) (h : RC w R cap qv Q S X hc x) (hm : w.heap[mb]? = some (.cells (rrmA X.x bu sl 5 wv ah pr false co ma he) 239)) (hn : ¬ rcF R qv S X mb) (hk : LkOk wv) (hnn : wv / 2 = be) (hp : 0 ≤ pr ∧ pr ≤ 2147483647) (hb2 : 0 ≤ be ∧ be ≤ 2147483647) (ha0 : ¬ ah = 0) (hl : liv S ah = true) (hu : ¬ S.word (atC S ah x.cell) = 2 * pr) : Calls Tryz.prog 205 #[.pointer (some ⟨mb, 0, none⟩)] w (RstR w R cap qv Q X hc mb S (false, ⟨acc1 S, x⟩, ⟨3, co, bu, sl, wd, ah, pr, be, ma, he⟩)) := by
  have HP : Hid (RM w R cap qv Q (S) X hc (x) mb (rrmA X.x bu sl 5 wv ah pr false co ma he) 239 ∧ Keeps (mrF R qv S X mb) w w) := ⟨⟨h, hm, hn⟩, Keeps.refl _ _⟩
  clear h hm hn
  obtain ⟨u, hu0⟩ : ∃ u, 2 * pr = u := ⟨_, rfl⟩
  obtain ⟨y, hy0⟩ : ∃ y, 2 * be = y := ⟨_, rfl⟩
  have HK1 : Hid (∀ W, Calls Tryz.prog 146 #[.int .i64 pr] W fun e w' => e = .returned (.int .u64 u) ∧ w' = W) := fun W => by rw [← hu0]; exact rword_any pr W hp.1 hp.2
  have HK2 : Hid (∀ W, Calls Tryz.prog 146 #[.int .i64 be] W fun e w' => e = .returned (.int .u64 y) ∧ w' = W) := fun W => by rw [← hy0]; exact rword_any be W hb2.1 hb2.2
  have HNU : Hid (∀ W, Calls Tryz.prog 198 #[.int .u64 wv] W fun e w' => e = .returned (.int .i64 be) ∧ w' = W) := fun W => by rw [← hnn]; exact rnumber_any wv W hk
  have HC : Hid (∀ W, RC W R cap qv Q S X hc x → Calls Tryz.prog 202 #[.pointer (some ⟨R.b, 0, none⟩), .int .i64 ah, .int .i64 (x.cell : Int), .int .u64 u, .int .u64 y] W fun e w' => e = .returned (.tuple #[.bool false, .int .i64 0]) ∧ RAr w' R cap qv Q (acc1 S) ∧ Keeps (raF R qv S) W w') := fun W hW => ra_cas_miss W R cap qv Q S ah x.cell u y hW.a hl hW.c _ rfl (by rw [← hu0]; exact hu)
  have HW2 : Hid ((acc1 S).wd = S.wd ∧ ∀ g, raF R qv (acc1 S) g → raF R qv S g) := ⟨rfl, fun g e => e⟩
  have ha2 : (ah == 0) = false := by simp [ha0]
  clear hl ha0 hu
  clear hk hnn hp hb2 hu0 hy0
  have c4 : w.cell? ⟨mb, 4, none⟩ = some (.int .u64 wv) := (HP.out.1.cell 4).trans rfl
  have c5 : w.cell? ⟨mb, 5, none⟩ = some (.int .i64 ah) := (HP.out.1.cell 5).trans rfl
  go_enter Tryz.func205, Tryz.ntmps205
  go_wp2_with fail
  refine (HNU.out _).mono ?_
  rintro e w5 ⟨rfl, hw5⟩
  rw [hw5]
  clear hw5 w5 HNU
  have HD : Hid (RM w.drew R cap qv Q (S) X hc (x) mb (rrmA X.x bu sl 5 wv ah pr false co ma he) 239 ∧ Keeps (mrF R qv S X mb) w w.drew) := ⟨⟨HP.out.1.h.keeps (D := fun _ => False) (Keeps.refl _ _).drew (fun _ _ e => e), HP.out.1.m, HP.out.1.n⟩, (Keeps.refl _ _).drew⟩
  have sx : w.drew.cell? ⟨X.x, 0, none⟩ = some (.pointer (some ⟨R.b, 0, none⟩)) ∧ w.drew.cell? ⟨X.x, 1, none⟩ = some (.int .i64 (x.cell : Int)) ∧ w.drew.cell? ⟨mb, 0, none⟩ = some (.pointer (some ⟨X.x, 0, none⟩)) ∧ w.drew.cell? ⟨mb, 5, none⟩ = some (.int .i64 ah) ∧ w.drew.cell? ⟨mb, 6, none⟩ = some (.int .i64 pr) := ⟨HD.out.1.h.i.c0, HD.out.1.h.i.c1, (HD.out.1.cell 0).trans rfl, (HD.out.1.cell 5).trans rfl, (HD.out.1.cell 6).trans rfl⟩
  go_wp2_with fail
  (refine wp_region_held_drew (S := (fun Z => Z.cell? ⟨X.x, 0, none⟩ = some (.pointer (some ⟨R.b, 0, none⟩)) ∧ Z.cell? ⟨X.x, 1, none⟩ = some (.int .i64 (x.cell : Int)) ∧ Z.cell? ⟨mb, 0, none⟩ = some (.pointer (some ⟨X.x, 0, none⟩)) ∧ Z.cell? ⟨mb, 5, none⟩ = some (.int .i64 ah) ∧ Z.cell? ⟨mb, 6, none⟩ = some (.int .i64 pr))) (by kernel_rfl) sx (fun hHeld => ?_); simp only [List.size_toArray, List.length_cons, List.length_nil, Nat.reduceAdd, Array.replicate_succ, Array.replicate_zero, List.push_toArray, List.append_toArray, List.nil_append, List.cons_append])
  clear sx HP c4 c5
  refine rgT 0 (h := ?_)
  refine rgT 1 (h := ?_)
  refine rgT 2 (h := ?_)
  refine rgT 3 (h := ?_)
  refine rgT 4 (h := ?_)
  refine rgT 5 (h := ?_)
  refine rgT 6 (h := ?_)
  refine rgT 7 (h := ?_)
  refine rgT 8 (h := ?_)
  refine rgT 9 (h := ?_)
  refine rgT 10 (h := ?_)
  refine rgT 11 (h := ?_)
  refine rgT 12 (h := ?_)
  refine rgT 13 (h := ?_)
  refine rgT 14 (h := ?_)
  refine rgT 15 (h := ?_)
  refine rgT 16 (h := ?_)
  refine rgT 17 (h := ?_)
  refine rgT 18 (h := ?_)
  refine rgT 19 (h := ?_)
  refine rgT 20 (h := ?_)
  refine rgT 21 (h := ?_)
  refine rgT 23 (h := ?_)
  (refine rgS 22 (h := fun K hK => ?_); go_simp)
  refine (HK1.out _).mono ?_
  rintro e w1 ⟨rfl, hw1⟩
  rw [hw1]
  clear hw1 w1 HK1
  (refine hK.out _ _ ⟨HD.out.1.h.i.c0, HD.out.1.h.i.c1, (HD.out.1.cell 0).trans rfl, (HD.out.1.cell 5).trans rfl, (HD.out.1.cell 6).trans rfl⟩ (fun hHeld => ?_); clear hK K; try simp only [Act.put, List.setIfInBounds_toArray, List.set_cons_zero, List.set_cons_succ])
  (refine rgS 24 (h := fun K hK => ?_); go_simp)
  refine (HK2.out _).mono ?_
  rintro e w1 ⟨rfl, hw1⟩
  rw [hw1]
  clear hw1 w1 HK2
  (refine hK.out _ _ ⟨HD.out.1.h.i.c0, HD.out.1.h.i.c1, (HD.out.1.cell 0).trans rfl, (HD.out.1.cell 5).trans rfl, (HD.out.1.cell 6).trans rfl⟩ (fun hHeld => ?_); clear hK K; try simp only [Act.put, List.setIfInBounds_toArray, List.set_cons_zero, List.set_cons_succ])
  (refine rgS 25 (h := fun K hK => ?_); go_simp)
  refine (HC.out _ HD.out.1.h).mono ?_
  rintro e w2 ⟨rfl, ha2, k2⟩
  have H2 : Hid (RM w2 R cap qv Q (acc1 S) X hc (x) mb (rrmA X.x bu sl 5 wv ah pr false co ma he) 239 ∧ Keeps (mrF R qv S X mb) w w2) := ⟨HD.out.1.callA ha2 k2 HW2.out.1 HW2.out.2, HD.out.2.trans (rA k2)⟩
  clear ha2 k2 HD HC
  (refine hK.out _ _ ⟨H2.out.1.h.i.c0, H2.out.1.h.i.c1, (H2.out.1.cell 0).trans rfl, (H2.out.1.cell 5).trans rfl, (H2.out.1.cell 6).trans rfl⟩ (fun hHeld => ?_); clear hK K; try simp only [Act.put, List.setIfInBounds_toArray, List.set_cons_zero, List.set_cons_succ])
  refine rgT 26 (h := ?_)
  refine rgT 27 (h := ?_)
  refine rgT 28 (h := ?_)
  refine rgT 29 (h := ?_)
  refine rgT 30 (h := ?_)
  refine wpAnyH_done (by kernel_rfl) ?_ _
  clear hHeld
  clear hHeld
  clear hHeld
  clear hHeld
  have d3 : w2.cell? ⟨mb, 3, none⟩ = some (.int .i64 5) := (H2.out.1.cell 3).trans rfl
  have dz3 := H2.out.1.fz 3
  have H3 : Hid (RM (w2.setCell ⟨mb, 3, none⟩ (.int .i64 3)) R cap qv Q (acc1 S) X hc (x) mb (rrmA X.x bu sl 3 wv ah pr false co ma he) 239 ∧ Keeps (mrF R qv S X mb) w (w2.setCell ⟨mb, 3, none⟩ (.int .i64 3))) := ⟨(H2.out.1.set 3 _).1, (H2.out.2.trans (rM (H2.out.1.set 3 _).2))⟩
  clear H2
  go_wp2
  go_ret
  exact ⟨rfl, H3.out.1.h, rrm3 H3.out.1.m, H3.out.2⟩
theorem rrs_slot_own (w : World) (R : RL) (cap : Nat) (qv : Value) (Q : List Nat) (S : AS) (X : XL) (hc : Nat) (x : XS) (mb : Nat) (bu sl wv ah nw co : Int) (ma : Bool) (he : Int) (wd pr be : Int) (h : RC w R cap qv Q S X hc x) (hm : w.heap[mb]? = some (.cells (rrmA X.x bu sl 5 wv ah pr false co ma he) 239)) (hn : ¬ rcF R qv S X mb) (hk : LkOk wv) (hnn : wv / 2 = be) (hp : 0 ≤ pr ∧ pr ≤ 2147483647) (hb2 : 0 ≤ be ∧ be ≤ 2147483647) (ha0 : ¬ ah = 0) (hl : liv S ah = true) (hu : S.word (atC S ah x.cell) = 2 * pr) (S2 : AS) (hS2 : put1 S (atC S ah x.cell) (2 * be) = S2) (hps : (pr == sl) = true) : Calls Tryz.prog 205 #[.pointer (some ⟨mb, 0, none⟩)] w (RstR w R cap qv Q X hc mb S (true, ⟨S2, x⟩, ⟨6, 0, bu, sl, wd, ah, pr, be, ma, he⟩)) := by
  have HP : Hid (RM w R cap qv Q (S) X hc (x) mb (rrmA X.x bu sl 5 wv ah pr false co ma he) 239 ∧ Keeps (mrF R qv S X mb) w w) := ⟨⟨h, hm, hn⟩, Keeps.refl _ _⟩
  clear h hm hn
  obtain ⟨u, hu0⟩ : ∃ u, 2 * pr = u := ⟨_, rfl⟩
  obtain ⟨y, hy0⟩ : ∃ y, 2 * be = y := ⟨_, rfl⟩
  have HK1 : Hid (∀ W, Calls Tryz.prog 146 #[.int .i64 pr] W fun e w' => e = .returned (.int .u64 u) ∧ w' = W) := fun W => by rw [← hu0]; exact rword_any pr W hp.1 hp.2
  have HK2 : Hid (∀ W, Calls Tryz.prog 146 #[.int .i64 be] W fun e w' => e = .returned (.int .u64 y) ∧ w' = W) := fun W => by rw [← hy0]; exact rword_any be W hb2.1 hb2.2
  have HNU : Hid (∀ W, Calls Tryz.prog 198 #[.int .u64 wv] W fun e w' => e = .returned (.int .i64 be) ∧ w' = W) := fun W => by rw [← hnn]; exact rnumber_any wv W hk
  have HC : Hid (∀ W, RC W R cap qv Q S X hc x → Calls Tryz.prog 202 #[.pointer (some ⟨R.b, 0, none⟩), .int .i64 ah, .int .i64 (x.cell : Int), .int .u64 u, .int .u64 y] W fun e w' => e = .returned (.tuple #[.bool true, .int .i64 0]) ∧ RAr w' R cap qv Q (S2) ∧ Keeps (raF R qv S) W w') := fun W hW => by rw [← hS2, hy0]; exact ra_cas_hit W R cap qv Q S ah x.cell u y hW.a hl hW.c (by rw [← hu0]; exact hu)
  have HW2 : Hid ((S2).wd = S.wd ∧ ∀ g, raF R qv (S2) g → raF R qv S g) := by rw [← hS2]; exact ⟨rfl, fun g e => e⟩
  have ha2 : (ah == 0) = false := by simp [ha0]
  clear hl ha0 hu hS2
  clear hk hnn hp hb2 hu0 hy0
  have c4 : w.cell? ⟨mb, 4, none⟩ = some (.int .u64 wv) := (HP.out.1.cell 4).trans rfl
  have c5 : w.cell? ⟨mb, 5, none⟩ = some (.int .i64 ah) := (HP.out.1.cell 5).trans rfl
  go_enter Tryz.func205, Tryz.ntmps205
  go_wp2_with fail
  refine (HNU.out _).mono ?_
  rintro e w5 ⟨rfl, hw5⟩
  rw [hw5]
  clear hw5 w5 HNU
  have HD : Hid (RM w.drew R cap qv Q (S) X hc (x) mb (rrmA X.x bu sl 5 wv ah pr false co ma he) 239 ∧ Keeps (mrF R qv S X mb) w w.drew) := ⟨⟨HP.out.1.h.keeps (D := fun _ => False) (Keeps.refl _ _).drew (fun _ _ e => e), HP.out.1.m, HP.out.1.n⟩, (Keeps.refl _ _).drew⟩
  have sx : w.drew.cell? ⟨X.x, 0, none⟩ = some (.pointer (some ⟨R.b, 0, none⟩)) ∧ w.drew.cell? ⟨X.x, 1, none⟩ = some (.int .i64 (x.cell : Int)) ∧ w.drew.cell? ⟨mb, 0, none⟩ = some (.pointer (some ⟨X.x, 0, none⟩)) ∧ w.drew.cell? ⟨mb, 5, none⟩ = some (.int .i64 ah) ∧ w.drew.cell? ⟨mb, 6, none⟩ = some (.int .i64 pr) := ⟨HD.out.1.h.i.c0, HD.out.1.h.i.c1, (HD.out.1.cell 0).trans rfl, (HD.out.1.cell 5).trans rfl, (HD.out.1.cell 6).trans rfl⟩
  go_wp2_with fail
  (refine wp_region_held_drew (S := (fun Z => Z.cell? ⟨X.x, 0, none⟩ = some (.pointer (some ⟨R.b, 0, none⟩)) ∧ Z.cell? ⟨X.x, 1, none⟩ = some (.int .i64 (x.cell : Int)) ∧ Z.cell? ⟨mb, 0, none⟩ = some (.pointer (some ⟨X.x, 0, none⟩)) ∧ Z.cell? ⟨mb, 5, none⟩ = some (.int .i64 ah) ∧ Z.cell? ⟨mb, 6, none⟩ = some (.int .i64 pr))) (by kernel_rfl) sx (fun hHeld => ?_); simp only [List.size_toArray, List.length_cons, List.length_nil, Nat.reduceAdd, Array.replicate_succ, Array.replicate_zero, List.push_toArray, List.append_toArray, List.nil_append, List.cons_append])
  clear sx HP c4 c5
  refine rgT 0 (h := ?_)
  refine rgT 1 (h := ?_)
  refine rgT 2 (h := ?_)
  refine rgT 3 (h := ?_)
  refine rgT 4 (h := ?_)
  refine rgT 5 (h := ?_)
  refine rgT 6 (h := ?_)
  refine rgT 7 (h := ?_)
  refine rgT 8 (h := ?_)
  refine rgT 9 (h := ?_)
  refine rgT 10 (h := ?_)
  refine rgT 11 (h := ?_)
  refine rgT 12 (h := ?_)
  refine rgT 13 (h := ?_)
  refine rgT 14 (h := ?_)
  refine rgT 15 (h := ?_)
  refine rgT 16 (h := ?_)
  refine rgT 17 (h := ?_)
  refine rgT 18 (h := ?_)
  refine rgT 19 (h := ?_)
  refine rgT 20 (h := ?_)
  refine rgT 21 (h := ?_)
  refine rgT 23 (h := ?_)
  (refine rgS 22 (h := fun K hK => ?_); go_simp)
  refine (HK1.out _).mono ?_
  rintro e w1 ⟨rfl, hw1⟩
  rw [hw1]
  clear hw1 w1 HK1
  (refine hK.out _ _ ⟨HD.out.1.h.i.c0, HD.out.1.h.i.c1, (HD.out.1.cell 0).trans rfl, (HD.out.1.cell 5).trans rfl, (HD.out.1.cell 6).trans rfl⟩ (fun hHeld => ?_); clear hK K; try simp only [Act.put, List.setIfInBounds_toArray, List.set_cons_zero, List.set_cons_succ])
  (refine rgS 24 (h := fun K hK => ?_); go_simp)
  refine (HK2.out _).mono ?_
  rintro e w1 ⟨rfl, hw1⟩
  rw [hw1]
  clear hw1 w1 HK2
  (refine hK.out _ _ ⟨HD.out.1.h.i.c0, HD.out.1.h.i.c1, (HD.out.1.cell 0).trans rfl, (HD.out.1.cell 5).trans rfl, (HD.out.1.cell 6).trans rfl⟩ (fun hHeld => ?_); clear hK K; try simp only [Act.put, List.setIfInBounds_toArray, List.set_cons_zero, List.set_cons_succ])
  (refine rgS 25 (h := fun K hK => ?_); go_simp)
  refine (HC.out _ HD.out.1.h).mono ?_
  rintro e w2 ⟨rfl, ha2, k2⟩
  have H2 : Hid (RM w2 R cap qv Q (S2) X hc (x) mb (rrmA X.x bu sl 5 wv ah pr false co ma he) 239 ∧ Keeps (mrF R qv S X mb) w w2) := ⟨HD.out.1.callA ha2 k2 HW2.out.1 HW2.out.2, HD.out.2.trans (rA k2)⟩
  clear ha2 k2 HD HC
  (refine hK.out _ _ ⟨H2.out.1.h.i.c0, H2.out.1.h.i.c1, (H2.out.1.cell 0).trans rfl, (H2.out.1.cell 5).trans rfl, (H2.out.1.cell 6).trans rfl⟩ (fun hHeld => ?_); clear hK K; try simp only [Act.put, List.setIfInBounds_toArray, List.set_cons_zero, List.set_cons_succ])
  refine rgT 26 (h := ?_)
  refine rgT 27 (h := ?_)
  refine rgT 28 (h := ?_)
  refine rgT 29 (h := ?_)
  refine rgT 30 (h := ?_)
  refine wpAnyH_done (by kernel_rfl) ?_ _
  clear hHeld
  clear hHeld
  clear hHeld
  clear hHeld
  have H2D : Hid (RM w2.drew R cap qv Q (S2) X hc (x) mb (rrmA X.x bu sl 5 wv ah pr false co ma he) 239 ∧ Keeps (mrF R qv S X mb) w w2.drew) := ⟨⟨H2.out.1.h.keeps (D := fun _ => False) (Keeps.refl _ _).drew (fun _ _ e => e), H2.out.1.m, H2.out.1.n⟩, H2.out.2.trans (Keeps.refl _ _).drew⟩
  have sx2 : w2.drew.cell? ⟨mb, 6, none⟩ = some (.int .i64 pr) ∧ w2.drew.cell? ⟨mb, 2, none⟩ = some (.int .i64 sl) := ⟨(H2D.out.1.cell 6).trans rfl, (H2D.out.1.cell 2).trans rfl⟩
  go_wp2_with fail
  (refine wp_region_held_drew (S := (fun Z => Z.cell? ⟨mb, 6, none⟩ = some (.int .i64 pr) ∧ Z.cell? ⟨mb, 2, none⟩ = some (.int .i64 sl))) (by kernel_rfl) sx2 (fun hHeld => ?_); simp only [List.size_toArray, List.length_cons, List.length_nil, Nat.reduceAdd, Array.replicate_succ, Array.replicate_zero, List.push_toArray, List.append_toArray, List.nil_append, List.cons_append])
  clear sx2 H2
  refine rgT 0 (h := ?_)
  refine rgT 1 (h := ?_)
  refine rgT 2 (h := ?_)
  refine rgT 3 (h := ?_)
  refine rgT 4 (h := ?_)
  refine rgT 5 (h := ?_)
  refine rgT 6 (h := ?_)
  refine rgT 7 (h := ?_)
  refine rgT 8 (h := ?_)
  refine wpAnyH_done (by kernel_rfl) ?_ _
  clear hHeld
  go_wp2_with fail
  refine (rrm_over w2.drew mb X.x bu sl 5 wv ah pr false co ma he 0 H2D.out.1.m).mono ?_
  rintro e w9 ⟨rfl, hm9, k9⟩
  have H9 : Hid (RC w9 R cap qv Q (S2) X hc (x) ∧ RrmH w9 mb X.x ⟨6, 0, bu, sl, wd, ah, pr, be, ma, he⟩ ∧ Keeps (mrF R qv S X mb) w w9) := ⟨(H2D.out.1.own hm9 k9).h, rrm6 hm9, H2D.out.2.trans (rM k9)⟩
  clear hm9 k9 H2D 
  go_wp2
  go_ret
  exact ⟨rfl, H9.out⟩
theorem rrs_slot_help (w : World) (R : RL) (cap : Nat) (qv : Value) (Q : List Nat) (S : AS) (X : XL) (hc : Nat) (x : XS) (mb : Nat) (bu sl wv ah nw co : Int) (ma : Bool) (he : Int) (wd pr be : Int) (h : RC w R cap qv Q S X hc x) (hm : w.heap[mb]? = some (.cells (rrmA X.x bu sl 5 wv ah pr false co ma he) 239)) (hn : ¬ rcF R qv S X mb) (hk : LkOk wv) (hnn : wv / 2 = be) (hp : 0 ≤ pr ∧ pr ≤ 2147483647) (hb2 : 0 ≤ be ∧ be ≤ 2147483647) (ha0 : ¬ ah = 0) (hl : liv S ah = true) (hu : S.word (atC S ah x.cell) = 2 * pr) (S2 : AS) (hS2 : put1 S (atC S ah x.cell) (2 * be) = S2) (hps : (pr == sl) = false) (q : Bool × MR) (hq : mvR ⟨5, co, bu, sl, wd, ah, pr, be, ma, wrap64 (he + 1)⟩ be = q) : Calls Tryz.prog 205 #[.pointer (some ⟨mb, 0, none⟩)] w (RstR w R cap qv Q X hc mb S (q.1, ⟨S2, x⟩, q.2)) := by
  have HP : Hid (RM w R cap qv Q (S) X hc (x) mb (rrmA X.x bu sl 5 wv ah pr false co ma he) 239 ∧ Keeps (mrF R qv S X mb) w w) := ⟨⟨h, hm, hn⟩, Keeps.refl _ _⟩
  clear h hm hn
  obtain ⟨u, hu0⟩ : ∃ u, 2 * pr = u := ⟨_, rfl⟩
  obtain ⟨y, hy0⟩ : ∃ y, 2 * be = y := ⟨_, rfl⟩
  have HK1 : Hid (∀ W, Calls Tryz.prog 146 #[.int .i64 pr] W fun e w' => e = .returned (.int .u64 u) ∧ w' = W) := fun W => by rw [← hu0]; exact rword_any pr W hp.1 hp.2
  have HK2 : Hid (∀ W, Calls Tryz.prog 146 #[.int .i64 be] W fun e w' => e = .returned (.int .u64 y) ∧ w' = W) := fun W => by rw [← hy0]; exact rword_any be W hb2.1 hb2.2
  have HNU : Hid (∀ W, Calls Tryz.prog 198 #[.int .u64 wv] W fun e w' => e = .returned (.int .i64 be) ∧ w' = W) := fun W => by rw [← hnn]; exact rnumber_any wv W hk
  have HC : Hid (∀ W, RC W R cap qv Q S X hc x → Calls Tryz.prog 202 #[.pointer (some ⟨R.b, 0, none⟩), .int .i64 ah, .int .i64 (x.cell : Int), .int .u64 u, .int .u64 y] W fun e w' => e = .returned (.tuple #[.bool true, .int .i64 0]) ∧ RAr w' R cap qv Q (S2) ∧ Keeps (raF R qv S) W w') := fun W hW => by rw [← hS2, hy0]; exact ra_cas_hit W R cap qv Q S ah x.cell u y hW.a hl hW.c (by rw [← hu0]; exact hu)
  have HW2 : Hid ((S2).wd = S.wd ∧ ∀ g, raF R qv (S2) g → raF R qv S g) := by rw [← hS2]; exact ⟨rfl, fun g e => e⟩
  have ha2 : (ah == 0) = false := by simp [ha0]
  clear hl ha0 hu hS2
  have HPR : Hid (∀ W, W.heap[mb]? = some (.cells (rrmA X.x bu sl 5 wv ah pr false co ma (wrap64 (he + 1))) 239) → Calls Tryz.prog 203 #[.pointer (some ⟨mb, 0, none⟩), .int .i64 be] W fun e w' => e = .returned (.bool q.1) ∧ RrmH w' mb X.x q.2 ∧ Keeps (fun g => g = mb) W w') := fun W hW => by
    rw [← hq]
    exact rrm_present W mb X.x bu sl 5 wv ah pr co ma (wrap64 (he + 1)) be 5 wd pr be hW
  clear hq
  clear hk hnn hp hb2 hu0 hy0
  have c4 : w.cell? ⟨mb, 4, none⟩ = some (.int .u64 wv) := (HP.out.1.cell 4).trans rfl
  have c5 : w.cell? ⟨mb, 5, none⟩ = some (.int .i64 ah) := (HP.out.1.cell 5).trans rfl
  go_enter Tryz.func205, Tryz.ntmps205
  go_wp2_with fail
  refine (HNU.out _).mono ?_
  rintro e w5 ⟨rfl, hw5⟩
  rw [hw5]
  clear hw5 w5 HNU
  have HD : Hid (RM w.drew R cap qv Q (S) X hc (x) mb (rrmA X.x bu sl 5 wv ah pr false co ma he) 239 ∧ Keeps (mrF R qv S X mb) w w.drew) := ⟨⟨HP.out.1.h.keeps (D := fun _ => False) (Keeps.refl _ _).drew (fun _ _ e => e), HP.out.1.m, HP.out.1.n⟩, (Keeps.refl _ _).drew⟩
  have sx : w.drew.cell? ⟨X.x, 0, none⟩ = some (.pointer (some ⟨R.b, 0, none⟩)) ∧ w.drew.cell? ⟨X.x, 1, none⟩ = some (.int .i64 (x.cell : Int)) ∧ w.drew.cell? ⟨mb, 0, none⟩ = some (.pointer (some ⟨X.x, 0, none⟩)) ∧ w.drew.cell? ⟨mb, 5, none⟩ = some (.int .i64 ah) ∧ w.drew.cell? ⟨mb, 6, none⟩ = some (.int .i64 pr) := ⟨HD.out.1.h.i.c0, HD.out.1.h.i.c1, (HD.out.1.cell 0).trans rfl, (HD.out.1.cell 5).trans rfl, (HD.out.1.cell 6).trans rfl⟩
  go_wp2_with fail
  (refine wp_region_held_drew (S := (fun Z => Z.cell? ⟨X.x, 0, none⟩ = some (.pointer (some ⟨R.b, 0, none⟩)) ∧ Z.cell? ⟨X.x, 1, none⟩ = some (.int .i64 (x.cell : Int)) ∧ Z.cell? ⟨mb, 0, none⟩ = some (.pointer (some ⟨X.x, 0, none⟩)) ∧ Z.cell? ⟨mb, 5, none⟩ = some (.int .i64 ah) ∧ Z.cell? ⟨mb, 6, none⟩ = some (.int .i64 pr))) (by kernel_rfl) sx (fun hHeld => ?_); simp only [List.size_toArray, List.length_cons, List.length_nil, Nat.reduceAdd, Array.replicate_succ, Array.replicate_zero, List.push_toArray, List.append_toArray, List.nil_append, List.cons_append])
  clear sx HP c4 c5
  refine rgT 0 (h := ?_)
  refine rgT 1 (h := ?_)
  refine rgT 2 (h := ?_)
  refine rgT 3 (h := ?_)
  refine rgT 4 (h := ?_)
  refine rgT 5 (h := ?_)
  refine rgT 6 (h := ?_)
  refine rgT 7 (h := ?_)
  refine rgT 8 (h := ?_)
  refine rgT 9 (h := ?_)
  refine rgT 10 (h := ?_)
  refine rgT 11 (h := ?_)
  refine rgT 12 (h := ?_)
  refine rgT 13 (h := ?_)
  refine rgT 14 (h := ?_)
  refine rgT 15 (h := ?_)
  refine rgT 16 (h := ?_)
  refine rgT 17 (h := ?_)
  refine rgT 18 (h := ?_)
  refine rgT 19 (h := ?_)
  refine rgT 20 (h := ?_)
  refine rgT 21 (h := ?_)
  refine rgT 23 (h := ?_)
  (refine rgS 22 (h := fun K hK => ?_); go_simp)
  refine (HK1.out _).mono ?_
  rintro e w1 ⟨rfl, hw1⟩
  rw [hw1]
  clear hw1 w1 HK1
  (refine hK.out _ _ ⟨HD.out.1.h.i.c0, HD.out.1.h.i.c1, (HD.out.1.cell 0).trans rfl, (HD.out.1.cell 5).trans rfl, (HD.out.1.cell 6).trans rfl⟩ (fun hHeld => ?_); clear hK K; try simp only [Act.put, List.setIfInBounds_toArray, List.set_cons_zero, List.set_cons_succ])
  (refine rgS 24 (h := fun K hK => ?_); go_simp)
  refine (HK2.out _).mono ?_
  rintro e w1 ⟨rfl, hw1⟩
  rw [hw1]
  clear hw1 w1 HK2
  (refine hK.out _ _ ⟨HD.out.1.h.i.c0, HD.out.1.h.i.c1, (HD.out.1.cell 0).trans rfl, (HD.out.1.cell 5).trans rfl, (HD.out.1.cell 6).trans rfl⟩ (fun hHeld => ?_); clear hK K; try simp only [Act.put, List.setIfInBounds_toArray, List.set_cons_zero, List.set_cons_succ])
  (refine rgS 25 (h := fun K hK => ?_); go_simp)
  refine (HC.out _ HD.out.1.h).mono ?_
  rintro e w2 ⟨rfl, ha2, k2⟩
  have H2 : Hid (RM w2 R cap qv Q (S2) X hc (x) mb (rrmA X.x bu sl 5 wv ah pr false co ma he) 239 ∧ Keeps (mrF R qv S X mb) w w2) := ⟨HD.out.1.callA ha2 k2 HW2.out.1 HW2.out.2, HD.out.2.trans (rA k2)⟩
  clear ha2 k2 HD HC
  (refine hK.out _ _ ⟨H2.out.1.h.i.c0, H2.out.1.h.i.c1, (H2.out.1.cell 0).trans rfl, (H2.out.1.cell 5).trans rfl, (H2.out.1.cell 6).trans rfl⟩ (fun hHeld => ?_); clear hK K; try simp only [Act.put, List.setIfInBounds_toArray, List.set_cons_zero, List.set_cons_succ])
  refine rgT 26 (h := ?_)
  refine rgT 27 (h := ?_)
  refine rgT 28 (h := ?_)
  refine rgT 29 (h := ?_)
  refine rgT 30 (h := ?_)
  refine wpAnyH_done (by kernel_rfl) ?_ _
  clear hHeld
  clear hHeld
  clear hHeld
  clear hHeld
  have H2D : Hid (RM w2.drew R cap qv Q (S2) X hc (x) mb (rrmA X.x bu sl 5 wv ah pr false co ma he) 239 ∧ Keeps (mrF R qv S X mb) w w2.drew) := ⟨⟨H2.out.1.h.keeps (D := fun _ => False) (Keeps.refl _ _).drew (fun _ _ e => e), H2.out.1.m, H2.out.1.n⟩, H2.out.2.trans (Keeps.refl _ _).drew⟩
  have sx2 : w2.drew.cell? ⟨mb, 6, none⟩ = some (.int .i64 pr) ∧ w2.drew.cell? ⟨mb, 2, none⟩ = some (.int .i64 sl) := ⟨(H2D.out.1.cell 6).trans rfl, (H2D.out.1.cell 2).trans rfl⟩
  go_wp2_with fail
  (refine wp_region_held_drew (S := (fun Z => Z.cell? ⟨mb, 6, none⟩ = some (.int .i64 pr) ∧ Z.cell? ⟨mb, 2, none⟩ = some (.int .i64 sl))) (by kernel_rfl) sx2 (fun hHeld => ?_); simp only [List.size_toArray, List.length_cons, List.length_nil, Nat.reduceAdd, Array.replicate_succ, Array.replicate_zero, List.push_toArray, List.append_toArray, List.nil_append, List.cons_append])
  clear sx2 H2
  refine rgT 0 (h := ?_)
  refine rgT 1 (h := ?_)
  refine rgT 2 (h := ?_)
  refine rgT 3 (h := ?_)
  refine rgT 4 (h := ?_)
  refine rgT 5 (h := ?_)
  refine rgT 6 (h := ?_)
  refine rgT 7 (h := ?_)
  refine rgT 8 (h := ?_)
  refine wpAnyH_done (by kernel_rfl) ?_ _
  clear hHeld
  have d10 : w2.drew.cell? ⟨mb, 10, none⟩ = some (.int .i64 he) := (H2D.out.1.cell 10).trans rfl
  have dz10 := H2D.out.1.fz 10
  have H3 : Hid (RM (w2.drew.setCell ⟨mb, 10, none⟩ (.int .i64 (wrap64 (he + 1)))) R cap qv Q (S2) X hc (x) mb (rrmA X.x bu sl 5 wv ah pr false co ma (wrap64 (he + 1))) 239 ∧ Keeps (mrF R qv S X mb) w (w2.drew.setCell ⟨mb, 10, none⟩ (.int .i64 (wrap64 (he + 1))))) := ⟨(H2D.out.1.set 10 _).1, (H2D.out.2.trans (rM (H2D.out.1.set 10 _).2))⟩
  clear H2D
  go_wp2_with fail
  refine (HPR.out _ H3.out.1.m).mono ?_
  rintro e w9 ⟨rfl, hm9, k9⟩
  have H9 : Hid (RC w9 R cap qv Q (S2) X hc (x) ∧ RrmH w9 mb X.x q.2 ∧ Keeps (mrF R qv S X mb) w w9) := ⟨H3.out.1.kept k9, hm9, H3.out.2.trans (rM k9)⟩
  clear hm9 k9 H3 HPR d10 dz10
  go_wp2
  go_ret
  exact ⟨rfl, H9.out⟩
end Go.Proofs.YtdjklcmkcccpeaaGreat
