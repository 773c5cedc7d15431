import Derived.Test.YteekompojgbkhaaGreatKChK
namespace Go.Proofs.YteekompojgbkhaaGreat
set_option linter.unusedSimpArgs false
open Go.ChangeShapes Go.WideShapes Go.ChangeAt Go.RowKit Go.MuLone Go.RwLone
set_option linter.unusedVariables false
set_option maxRecDepth 100000
set_option maxHeartbeats 3200000
theorem rem_ahead (w : World) (L : Lay) (Q : List Nat) (S : AS) (X : XL) (x : XS) (mb ff : Nat) (co bu sl wd ah pr be : Int) (ma : Bool) (he : Int) (u y : Int) (h : MB w L Q S X x mb (remA mb X.x ff co bu sl wd ah pr be ma he) 155) (hb : inB x bu = true) : Calls Tryz.prog 227 #[.pointer (some ⟨mb, 0, none⟩), .int .u64 u, .int .u64 y] w fun e w' => e = .returned (.tuple #[.bool (ahR S x bu ah u y).1, .int .i64 (ahR S x bu ah u y).2.1]) ∧ CH w' L Q (ahR S x bu ah u y).2.2.S X (ahR S x bu ah u y).2.2.x ∧ Keeps (chF L X) w w' := by
  obtain ⟨b, hb1, hbb⟩ := inB_yes hb
  unfold ahR
  by_cases ha : ah = 0
  · rw [if_pos ha]
    have hbn : bu.toNat = b := by omega
    rw [hbn]
    by_cases hu : x.hd b = u
    · rw [if_pos hu]
      exact rem_ah_head_hit w L Q S X x mb ff co bu sl wd ah pr be ma he u y h ha b hbb hb1 hu
    · rw [if_neg hu]
      exact rem_ah_head_miss w L Q S X x mb ff co bu sl wd ah pr be ma he u y h ha b hbb hb1 hu
  · rw [if_neg ha]
    cases hl : liv S ah
    · exact rem_ah_link_dead w L Q S X x mb ff co bu sl wd ah pr be ma he u y h ha hl
    · by_cases hu : S.word (atC S ah x.cell) = u
      · rw [if_pos rfl, if_pos hu]
        exact rem_ah_link_hit w L Q S X x mb ff co bu sl wd ah pr be ma he u y h ha hl hu
      · rw [if_pos rfl, if_neg hu]
        exact rem_ah_link_miss w L Q S X x mb ff co bu sl wd ah pr be ma he u y h ha hl hu
theorem rem_unl_dead (w : World) (L : Lay) (Q : List Nat) (S : AS) (X : XL) (x : XS) (mb ff : Nat) (co bu sl wd ah pr be : Int) (ma : Bool) (he : Int) (h : CH w L Q S X x) (hm : w.heap[mb]? = some (.cells (remA mb X.x ff co bu sl wd ah pr be ma he) 155)) (hn : ¬ chF L X mb) (hb : inB x bu = true) (hp : 0 ≤ pr ∧ pr ≤ 2147483647) (hbe : 0 ≤ be ∧ be ≤ 2147483647) (T2 : CS) (hq : ahR S x bu ah (2 * pr) (2 * be) = (false, 22, T2)) : Calls Tryz.prog 224 #[.pointer (some ⟨mb, 0, none⟩)] w (StpR w L Q X mb (true, T2, ⟨6, 22, bu, sl, wd, ah, pr, be, ma, he⟩)) := by
  have H0 : MB w L Q S X x mb (remA mb X.x ff co bu sl wd ah pr be ma he) 155 := ⟨h, hm, hn⟩
  have HD : Hid (MB w.drew L Q S X x mb (remA mb X.x ff co bu sl wd ah pr be ma he) 155 ∧ Keeps (mkF L X mb) w w.drew) := ⟨H0.drew, (Keeps.refl _ _).drew⟩
  have HP : Hid (MB w L Q S X x mb (remA mb X.x ff co bu sl wd ah pr be ma he) 155 ∧ Keeps (mkF L X mb) w w) := ⟨H0, Keeps.refl _ _⟩
  clear h hm hn H0
  obtain ⟨u, hu⟩ : ∃ u, 2 * pr = u := ⟨_, rfl⟩
  obtain ⟨y, hy⟩ : ∃ y, 2 * be = y := ⟨_, rfl⟩
  rw [hu, hy] at hq
  have HL1 : Hid (∀ W, Calls Tryz.prog 60 #[.int .i64 pr] W fun e w' => e = .returned (.int .u64 u) ∧ w' = W) := fun W => by rw [← hu]; exact lkof_any pr W hp.1 hp.2
  have HL2 : Hid (∀ W, Calls Tryz.prog 60 #[.int .i64 be] W fun e w' => e = .returned (.int .u64 y) ∧ w' = W) := fun W => by rw [← hy]; exact lkof_any be W hbe.1 hbe.2
  have HS := rem_ahead w.drew L Q S X x mb ff co bu sl wd ah pr be ma he u y HD.out.1 hb
  rw [hq] at HS
  have HSS : Hid (∀ _ : Unit, _) := fun _ => HS
  clear HS hq hu hy hp hbe hb HP
  go_enter Tryz.func224, Tryz.ntmps224
  have sx : w.drew.cell? ⟨mb, 7, none⟩ = some (.int .i64 pr) ∧ w.drew.cell? ⟨mb, 8, none⟩ = some (.int .i64 be) := ⟨(HD.out.1.cell 7).trans rfl, (HD.out.1.cell 8).trans rfl⟩
  go_wp2_with fail
  (refine wp_region_held_drew (S := (fun Z => Z.cell? ⟨mb, 7, none⟩ = some (.int .i64 pr) ∧ Z.cell? ⟨mb, 8, none⟩ = some (.int .i64 be))) (by kernel_rfl) sx (fun hHeld => ?_); simp only [List.size_toArray, List.length_cons, List.length_nil, Nat.reduceAdd, Array.replicate_succ, Array.replicate_zero, List.push_toArray, List.append_toArray, List.nil_append, List.cons_append])
  clear sx
  refine rgT 0 (h := ?_)
  refine rgT 1 (h := ?_)
  refine rgT 2 (h := ?_)
  refine rgT 3 (h := ?_)
  refine rgT 4 (h := ?_)
  refine rgT 6 (h := ?_)
  refine rgT 7 (h := ?_)
  refine rgT 8 (h := ?_)
  refine rgT 9 (h := ?_)
  (refine rgS 5 (h := fun K hK => ?_); go_simp)
  refine (HL1.out _).mono ?_
  rintro e w1 ⟨rfl, hw1⟩
  rw [hw1]
  clear hw1 w1 HL1
  (refine hK.out _ _ ⟨(HD.out.1.cell 7).trans rfl, (HD.out.1.cell 8).trans rfl⟩ (fun hHeld => ?_); clear hK K; try simp only [Act.put, List.setIfInBounds_toArray, List.set_cons_zero, List.set_cons_succ])
  (refine rgS 10 (h := fun K hK => ?_); go_simp)
  refine (HL2.out _).mono ?_
  rintro e w1 ⟨rfl, hw1⟩
  rw [hw1]
  clear hw1 w1 HL2
  (refine hK.out _ _ ⟨(HD.out.1.cell 7).trans rfl, (HD.out.1.cell 8).trans rfl⟩ (fun hHeld => ?_); clear hK K; try simp only [Act.put, List.setIfInBounds_toArray, List.set_cons_zero, List.set_cons_succ])
  (refine rgS 11 (h := fun K hK => ?_); go_simp)
  refine (HSS.out ()).mono ?_
  rintro e w2 ⟨rfl, hc2, k2⟩
  have H2 : Hid (MB w2 L Q T2.S X T2.x mb (remA mb X.x ff co bu sl wd ah pr be ma he) 155 ∧ Keeps (mkF L X mb) w w2) := ⟨HD.out.1.call hc2 k2, HD.out.2.trans (kF k2)⟩
  clear hc2 k2 HD HSS
  (refine hK.out _ _ ⟨(H2.out.1.cell 7).trans rfl, (H2.out.1.cell 8).trans rfl⟩ (fun hHeld => ?_); clear hK K; try simp only [Act.put, List.setIfInBounds_toArray, List.set_cons_zero, List.set_cons_succ])
  refine rgT 12 (h := ?_)
  refine rgT 13 (h := ?_)
  refine rgT 14 (h := ?_)
  refine rgT 15 (h := ?_)
  refine rgT 16 (h := ?_)
  refine wpAnyH_done (by kernel_rfl) ?_ _
  clear hHeld
  clear hHeld
  clear hHeld
  clear hHeld
  go_wp2_with fail
  refine (job_done w2 mb 22 _ _ _ _ H2.out.1.m rfl rfl).mono ?_
  rintro e w9 ⟨rfl, hm9, k9⟩
  have H9 : Hid (CH w9 L Q (T2.S) X (T2.x) ∧ RemH w9 mb X.x ⟨6, 22, bu, sl, wd, ah, pr, be, ma, he⟩ ∧ Keeps (mkF L X mb) w w9) := ⟨(H2.out.1.own hm9 k9).h, hm9, H2.out.2.trans (kM k9)⟩
  clear hm9 k9 H2
  go_wp2
  go_ret
  exact ⟨rfl, H9.out⟩
theorem rem_unl_miss (w : World) (L : Lay) (Q : List Nat) (S : AS) (X : XL) (x : XS) (mb ff : Nat) (co bu sl wd ah pr be : Int) (ma : Bool) (he : Int) (h : CH w L Q S X x) (hm : w.heap[mb]? = some (.cells (remA mb X.x ff co bu sl wd ah pr be ma he) 155)) (hn : ¬ chF L X mb) (hb : inB x bu = true) (hp : 0 ≤ pr ∧ pr ≤ 2147483647) (hbe : 0 ≤ be ∧ be ≤ 2147483647) (T2 : CS) (hq : ahR S x bu ah (2 * pr) (2 * be) = (false, 0, T2)) : Calls Tryz.prog 224 #[.pointer (some ⟨mb, 0, none⟩)] w (StpR w L Q X mb (false, T2, ⟨3, co, bu, sl, wd, ah, pr, be, ma, he⟩)) := by
  have H0 : MB w L Q S X x mb (remA mb X.x ff co bu sl wd ah pr be ma he) 155 := ⟨h, hm, hn⟩
  have HD : Hid (MB w.drew L Q S X x mb (remA mb X.x ff co bu sl wd ah pr be ma he) 155 ∧ Keeps (mkF L X mb) w w.drew) := ⟨H0.drew, (Keeps.refl _ _).drew⟩
  have HP : Hid (MB w L Q S X x mb (remA mb X.x ff co bu sl wd ah pr be ma he) 155 ∧ Keeps (mkF L X mb) w w) := ⟨H0, Keeps.refl _ _⟩
  clear h hm hn H0
  obtain ⟨u, hu⟩ : ∃ u, 2 * pr = u := ⟨_, rfl⟩
  obtain ⟨y, hy⟩ : ∃ y, 2 * be = y := ⟨_, rfl⟩
  rw [hu, hy] at hq
  have HL1 : Hid (∀ W, Calls Tryz.prog 60 #[.int .i64 pr] W fun e w' => e = .returned (.int .u64 u) ∧ w' = W) := fun W => by rw [← hu]; exact lkof_any pr W hp.1 hp.2
  have HL2 : Hid (∀ W, Calls Tryz.prog 60 #[.int .i64 be] W fun e w' => e = .returned (.int .u64 y) ∧ w' = W) := fun W => by rw [← hy]; exact lkof_any be W hbe.1 hbe.2
  have HS := rem_ahead w.drew L Q S X x mb ff co bu sl wd ah pr be ma he u y HD.out.1 hb
  rw [hq] at HS
  have HSS : Hid (∀ _ : Unit, _) := fun _ => HS
  clear HS hq hu hy hp hbe hb HP
  go_enter Tryz.func224, Tryz.ntmps224
  have sx : w.drew.cell? ⟨mb, 7, none⟩ = some (.int .i64 pr) ∧ w.drew.cell? ⟨mb, 8, none⟩ = some (.int .i64 be) := ⟨(HD.out.1.cell 7).trans rfl, (HD.out.1.cell 8).trans rfl⟩
  go_wp2_with fail
  (refine wp_region_held_drew (S := (fun Z => Z.cell? ⟨mb, 7, none⟩ = some (.int .i64 pr) ∧ Z.cell? ⟨mb, 8, none⟩ = some (.int .i64 be))) (by kernel_rfl) sx (fun hHeld => ?_); simp only [List.size_toArray, List.length_cons, List.length_nil, Nat.reduceAdd, Array.replicate_succ, Array.replicate_zero, List.push_toArray, List.append_toArray, List.nil_append, List.cons_append])
  clear sx
  refine rgT 0 (h := ?_)
  refine rgT 1 (h := ?_)
  refine rgT 2 (h := ?_)
  refine rgT 3 (h := ?_)
  refine rgT 4 (h := ?_)
  refine rgT 6 (h := ?_)
  refine rgT 7 (h := ?_)
  refine rgT 8 (h := ?_)
  refine rgT 9 (h := ?_)
  (refine rgS 5 (h := fun K hK => ?_); go_simp)
  refine (HL1.out _).mono ?_
  rintro e w1 ⟨rfl, hw1⟩
  rw [hw1]
  clear hw1 w1 HL1
  (refine hK.out _ _ ⟨(HD.out.1.cell 7).trans rfl, (HD.out.1.cell 8).trans rfl⟩ (fun hHeld => ?_); clear hK K; try simp only [Act.put, List.setIfInBounds_toArray, List.set_cons_zero, List.set_cons_succ])
  (refine rgS 10 (h := fun K hK => ?_); go_simp)
  refine (HL2.out _).mono ?_
  rintro e w1 ⟨rfl, hw1⟩
  rw [hw1]
  clear hw1 w1 HL2
  (refine hK.out _ _ ⟨(HD.out.1.cell 7).trans rfl, (HD.out.1.cell 8).trans rfl⟩ (fun hHeld => ?_); clear hK K; try simp only [Act.put, List.setIfInBounds_toArray, List.set_cons_zero, List.set_cons_succ])
  (refine rgS 11 (h := fun K hK => ?_); go_simp)
  refine (HSS.out ()).mono ?_
  rintro e w2 ⟨rfl, hc2, k2⟩
  have H2 : Hid (MB w2 L Q T2.S X T2.x mb (remA mb X.x ff co bu sl wd ah pr be ma he) 155 ∧ Keeps (mkF L X mb) w w2) := ⟨HD.out.1.call hc2 k2, HD.out.2.trans (kF k2)⟩
  clear hc2 k2 HD HSS
  (refine hK.out _ _ ⟨(H2.out.1.cell 7).trans rfl, (H2.out.1.cell 8).trans rfl⟩ (fun hHeld => ?_); clear hK K; try simp only [Act.put, List.setIfInBounds_toArray, List.set_cons_zero, List.set_cons_succ])
  refine rgT 12 (h := ?_)
  refine rgT 13 (h := ?_)
  refine rgT 14 (h := ?_)
  refine rgT 15 (h := ?_)
  refine rgT 16 (h := ?_)
  refine wpAnyH_done (by kernel_rfl) ?_ _
  clear hHeld
  clear hHeld
  clear hHeld
  clear hHeld
  go_wp2_with fail
  refine (job_goOn w2 mb (nxV 171 mb) _ _ _ H2.out.1.m rfl ⟨_, _, rfl⟩).mono ?_
  rintro e w9 ⟨rfl, hm9, k9⟩
  have H9 : Hid (CH w9 L Q (T2.S) X (T2.x) ∧ RemH w9 mb X.x ⟨3, co, bu, sl, wd, ah, pr, be, ma, he⟩ ∧ Keeps (mkF L X mb) w w9) := ⟨(H2.out.1.own hm9 k9).h, hm9, H2.out.2.trans (kM k9)⟩
  clear hm9 k9 H2
  go_wp2
  go_ret
  exact ⟨rfl, H9.out⟩
theorem rem_unl_own (w : World) (L : Lay) (Q : List Nat) (S : AS) (X : XL) (x : XS) (mb ff : Nat) (co bu sl wd ah pr be : Int) (ma : Bool) (he : Int) (h : CH w L Q S X x) (hm : w.heap[mb]? = some (.cells (remA mb X.x ff co bu sl wd ah pr be ma he) 155)) (hn : ¬ chF L X mb) (hb : inB x bu = true) (hp : 0 ≤ pr ∧ pr ≤ 2147483647) (hbe : 0 ≤ be ∧ be ≤ 2147483647) (T2 : CS) (hq : ahR S x bu ah (2 * pr) (2 * be) = (true, 0, T2)) (he2 : pr = sl) : Calls Tryz.prog 224 #[.pointer (some ⟨mb, 0, none⟩)] w (StpR w L Q X mb (true, T2, ⟨6, 0, bu, sl, wd, ah, pr, be, ma, he⟩)) := by
  have H0 : MB w L Q S X x mb (remA mb X.x ff co bu sl wd ah pr be ma he) 155 := ⟨h, hm, hn⟩
  have HD : Hid (MB w.drew L Q S X x mb (remA mb X.x ff co bu sl wd ah pr be ma he) 155 ∧ Keeps (mkF L X mb) w w.drew) := ⟨H0.drew, (Keeps.refl _ _).drew⟩
  have HP : Hid (MB w L Q S X x mb (remA mb X.x ff co bu sl wd ah pr be ma he) 155 ∧ Keeps (mkF L X mb) w w) := ⟨H0, Keeps.refl _ _⟩
  clear h hm hn H0
  obtain ⟨u, hu⟩ : ∃ u, 2 * pr = u := ⟨_, rfl⟩
  obtain ⟨y, hy⟩ : ∃ y, 2 * be = y := ⟨_, rfl⟩
  rw [hu, hy] at hq
  have HL1 : Hid (∀ W, Calls Tryz.prog 60 #[.int .i64 pr] W fun e w' => e = .returned (.int .u64 u) ∧ w' = W) := fun W => by rw [← hu]; exact lkof_any pr W hp.1 hp.2
  have HL2 : Hid (∀ W, Calls Tryz.prog 60 #[.int .i64 be] W fun e w' => e = .returned (.int .u64 y) ∧ w' = W) := fun W => by rw [← hy]; exact lkof_any be W hbe.1 hbe.2
  have HS := rem_ahead w.drew L Q S X x mb ff co bu sl wd ah pr be ma he u y HD.out.1 hb
  rw [hq] at HS
  have HSS : Hid (∀ _ : Unit, _) := fun _ => HS
  clear HS hq hu hy hp hbe hb HP
  have hps : (pr == sl) = true := by simp [he2]
  clear he2
  go_enter Tryz.func224, Tryz.ntmps224
  have sx : w.drew.cell? ⟨mb, 7, none⟩ = some (.int .i64 pr) ∧ w.drew.cell? ⟨mb, 8, none⟩ = some (.int .i64 be) := ⟨(HD.out.1.cell 7).trans rfl, (HD.out.1.cell 8).trans rfl⟩
  go_wp2_with fail
  (refine wp_region_held_drew (S := (fun Z => Z.cell? ⟨mb, 7, none⟩ = some (.int .i64 pr) ∧ Z.cell? ⟨mb, 8, none⟩ = some (.int .i64 be))) (by kernel_rfl) sx (fun hHeld => ?_); simp only [List.size_toArray, List.length_cons, List.length_nil, Nat.reduceAdd, Array.replicate_succ, Array.replicate_zero, List.push_toArray, List.append_toArray, List.nil_append, List.cons_append])
  clear sx
  refine rgT 0 (h := ?_)
  refine rgT 1 (h := ?_)
  refine rgT 2 (h := ?_)
  refine rgT 3 (h := ?_)
  refine rgT 4 (h := ?_)
  refine rgT 6 (h := ?_)
  refine rgT 7 (h := ?_)
  refine rgT 8 (h := ?_)
  refine rgT 9 (h := ?_)
  (refine rgS 5 (h := fun K hK => ?_); go_simp)
  refine (HL1.out _).mono ?_
  rintro e w1 ⟨rfl, hw1⟩
  rw [hw1]
  clear hw1 w1 HL1
  (refine hK.out _ _ ⟨(HD.out.1.cell 7).trans rfl, (HD.out.1.cell 8).trans rfl⟩ (fun hHeld => ?_); clear hK K; try simp only [Act.put, List.setIfInBounds_toArray, List.set_cons_zero, List.set_cons_succ])
  (refine rgS 10 (h := fun K hK => ?_); go_simp)
  refine (HL2.out _).mono ?_
  rintro e w1 ⟨rfl, hw1⟩
  rw [hw1]
  clear hw1 w1 HL2
  (refine hK.out _ _ ⟨(HD.out.1.cell 7).trans rfl, (HD.out.1.cell 8).trans rfl⟩ (fun hHeld => ?_); clear hK K; try simp only [Act.put, List.setIfInBounds_toArray, List.set_cons_zero, List.set_cons_succ])
  (refine rgS 11 (h := fun K hK => ?_); go_simp)
  refine (HSS.out ()).mono ?_
  rintro e w2 ⟨rfl, hc2, k2⟩
  have H2 : Hid (MB w2 L Q T2.S X T2.x mb (remA mb X.x ff co bu sl wd ah pr be ma he) 155 ∧ Keeps (mkF L X mb) w w2) := ⟨HD.out.1.call hc2 k2, HD.out.2.trans (kF k2)⟩
  clear hc2 k2 HD HSS
  (refine hK.out _ _ ⟨(H2.out.1.cell 7).trans rfl, (H2.out.1.cell 8).trans rfl⟩ (fun hHeld => ?_); clear hK K; try simp only [Act.put, List.setIfInBounds_toArray, List.set_cons_zero, List.set_cons_succ])
  refine rgT 12 (h := ?_)
  refine rgT 13 (h := ?_)
  refine rgT 14 (h := ?_)
  refine rgT 15 (h := ?_)
  refine rgT 16 (h := ?_)
  refine wpAnyH_done (by kernel_rfl) ?_ _
  clear hHeld
  clear hHeld
  clear hHeld
  clear hHeld
  have H3 : Hid (MB w2.drew L Q T2.S X T2.x mb (remA mb X.x ff co bu sl wd ah pr be ma he) 155 ∧ Keeps (mkF L X mb) w w2.drew) := ⟨H2.out.1.drew, H2.out.2.drew⟩
  clear H2
  have sx : w2.drew.cell? ⟨mb, 7, none⟩ = some (.int .i64 pr) ∧ w2.drew.cell? ⟨mb, 4, none⟩ = some (.int .i64 sl) := ⟨(H3.out.1.cell 7).trans rfl, (H3.out.1.cell 4).trans rfl⟩
  go_wp2_with fail
  (refine wp_region_held_drew (S := (fun Z => Z.cell? ⟨mb, 7, none⟩ = some (.int .i64 pr) ∧ Z.cell? ⟨mb, 4, none⟩ = some (.int .i64 sl))) (by kernel_rfl) sx (fun hHeld => ?_); simp only [List.size_toArray, List.length_cons, List.length_nil, Nat.reduceAdd, Array.replicate_succ, Array.replicate_zero, List.push_toArray, List.append_toArray, List.nil_append, List.cons_append])
  clear sx
  refine rgT 0 (h := ?_)
  refine rgT 1 (h := ?_)
  refine rgT 2 (h := ?_)
  refine rgT 3 (h := ?_)
  refine rgT 4 (h := ?_)
  refine rgT 5 (h := ?_)
  refine rgT 6 (h := ?_)
  refine rgT 7 (h := ?_)
  refine rgT 8 (h := ?_)
  refine wpAnyH_done (by kernel_rfl) ?_ _
  clear hHeld
  generalize w2.drew = w3 at *
  go_wp2_with fail
  refine (job_done w3 mb 0 _ _ _ _ H3.out.1.m rfl rfl).mono ?_
  rintro e w9 ⟨rfl, hm9, k9⟩
  have H9 : Hid (CH w9 L Q (T2.S) X (T2.x) ∧ RemH w9 mb X.x ⟨6, 0, bu, sl, wd, ah, pr, be, ma, he⟩ ∧ Keeps (mkF L X mb) w w9) := ⟨(H3.out.1.own hm9 k9).h, hm9, H3.out.2.trans (kM k9)⟩
  clear hm9 k9 H3
  go_wp2
  go_ret
  exact ⟨rfl, H9.out⟩
theorem rem_unl_other (w : World) (L : Lay) (Q : List Nat) (S : AS) (X : XL) (x : XS) (mb ff : Nat) (co bu sl wd ah pr be : Int) (ma : Bool) (he : Int) (h : CH w L Q S X x) (hm : w.heap[mb]? = some (.cells (remA mb X.x ff co bu sl wd ah pr be ma he) 155)) (hn : ¬ chF L X mb) (hb : inB x bu = true) (hp : 0 ≤ pr ∧ pr ≤ 2147483647) (hbe : 0 ≤ be ∧ be ≤ 2147483647) (T2 : CS) (hq : ahR S x bu ah (2 * pr) (2 * be) = (true, 0, T2)) (he2 : ¬ pr = sl) : Calls Tryz.prog 224 #[.pointer (some ⟨mb, 0, none⟩)] w (StpR w L Q X mb ((mvR ⟨5, co, bu, sl, wd, ah, pr, be, ma, wrap64 (he + 1)⟩ be).1, T2, (mvR ⟨5, co, bu, sl, wd, ah, pr, be, ma, wrap64 (he + 1)⟩ be).2)) := by
  have H0 : MB w L Q S X x mb (remA mb X.x ff co bu sl wd ah pr be ma he) 155 := ⟨h, hm, hn⟩
  have HD : Hid (MB w.drew L Q S X x mb (remA mb X.x ff co bu sl wd ah pr be ma he) 155 ∧ Keeps (mkF L X mb) w w.drew) := ⟨H0.drew, (Keeps.refl _ _).drew⟩
  have HP : Hid (MB w L Q S X x mb (remA mb X.x ff co bu sl wd ah pr be ma he) 155 ∧ Keeps (mkF L X mb) w w) := ⟨H0, Keeps.refl _ _⟩
  clear h hm hn H0
  obtain ⟨u, hu⟩ : ∃ u, 2 * pr = u := ⟨_, rfl⟩
  obtain ⟨y, hy⟩ : ∃ y, 2 * be = y := ⟨_, rfl⟩
  rw [hu, hy] at hq
  have HL1 : Hid (∀ W, Calls Tryz.prog 60 #[.int .i64 pr] W fun e w' => e = .returned (.int .u64 u) ∧ w' = W) := fun W => by rw [← hu]; exact lkof_any pr W hp.1 hp.2
  have HL2 : Hid (∀ W, Calls Tryz.prog 60 #[.int .i64 be] W fun e w' => e = .returned (.int .u64 y) ∧ w' = W) := fun W => by rw [← hy]; exact lkof_any be W hbe.1 hbe.2
  have HS := rem_ahead w.drew L Q S X x mb ff co bu sl wd ah pr be ma he u y HD.out.1 hb
  rw [hq] at HS
  have HSS : Hid (∀ _ : Unit, _) := fun _ => HS
  clear HS hq hu hy hp hbe hb HP
  have hps : (pr == sl) = false := by simp [he2]
  clear he2
  obtain ⟨q, hq⟩ : ∃ q, mvR ⟨5, co, bu, sl, wd, ah, pr, be, ma, wrap64 (he + 1)⟩ be = q := ⟨_, rfl⟩
  have HMV : Hid (∀ W, W.heap[mb]? = some (.cells (remA mb X.x ff co bu sl wd ah pr be ma (wrap64 (he + 1))) 155) → Calls Tryz.prog 210 #[.pointer (some ⟨mb, 0, none⟩), .int .i64 be] W fun e w' => e = .returned (.bool q.1) ∧ RemH w' mb X.x q.2 ∧ Keeps (fun g => g = mb) W w') := fun W hW => by
    rw [← hq]
    exact rem_moveA W mb X.x ff co bu sl wd ah pr be ma (wrap64 (he + 1)) be 5 hW
  rw [hq]
  clear hq
  go_enter Tryz.func224, Tryz.ntmps224
  have sx : w.drew.cell? ⟨mb, 7, none⟩ = some (.int .i64 pr) ∧ w.drew.cell? ⟨mb, 8, none⟩ = some (.int .i64 be) := ⟨(HD.out.1.cell 7).trans rfl, (HD.out.1.cell 8).trans rfl⟩
  go_wp2_with fail
  (refine wp_region_held_drew (S := (fun Z => Z.cell? ⟨mb, 7, none⟩ = some (.int .i64 pr) ∧ Z.cell? ⟨mb, 8, none⟩ = some (.int .i64 be))) (by kernel_rfl) sx (fun hHeld => ?_); simp only [List.size_toArray, List.length_cons, List.length_nil, Nat.reduceAdd, Array.replicate_succ, Array.replicate_zero, List.push_toArray, List.append_toArray, List.nil_append, List.cons_append])
  clear sx
  refine rgT 0 (h := ?_)
  refine rgT 1 (h := ?_)
  refine rgT 2 (h := ?_)
  refine rgT 3 (h := ?_)
  refine rgT 4 (h := ?_)
  refine rgT 6 (h := ?_)
  refine rgT 7 (h := ?_)
  refine rgT 8 (h := ?_)
  refine rgT 9 (h := ?_)
  (refine rgS 5 (h := fun K hK => ?_); go_simp)
  refine (HL1.out _).mono ?_
  rintro e w1 ⟨rfl, hw1⟩
  rw [hw1]
  clear hw1 w1 HL1
  (refine hK.out _ _ ⟨(HD.out.1.cell 7).trans rfl, (HD.out.1.cell 8).trans rfl⟩ (fun hHeld => ?_); clear hK K; try simp only [Act.put, List.setIfInBounds_toArray, List.set_cons_zero, List.set_cons_succ])
  (refine rgS 10 (h := fun K hK => ?_); go_simp)
  refine (HL2.out _).mono ?_
  rintro e w1 ⟨rfl, hw1⟩
  rw [hw1]
  clear hw1 w1 HL2
  (refine hK.out _ _ ⟨(HD.out.1.cell 7).trans rfl, (HD.out.1.cell 8).trans rfl⟩ (fun hHeld => ?_); clear hK K; try simp only [Act.put, List.setIfInBounds_toArray, List.set_cons_zero, List.set_cons_succ])
  (refine rgS 11 (h := fun K hK => ?_); go_simp)
  refine (HSS.out ()).mono ?_
  rintro e w2 ⟨rfl, hc2, k2⟩
  have H2 : Hid (MB w2 L Q T2.S X T2.x mb (remA mb X.x ff co bu sl wd ah pr be ma he) 155 ∧ Keeps (mkF L X mb) w w2) := ⟨HD.out.1.call hc2 k2, HD.out.2.trans (kF k2)⟩
  clear hc2 k2 HD HSS
  (refine hK.out _ _ ⟨(H2.out.1.cell 7).trans rfl, (H2.out.1.cell 8).trans rfl⟩ (fun hHeld => ?_); clear hK K; try simp only [Act.put, List.setIfInBounds_toArray, List.set_cons_zero, List.set_cons_succ])
  refine rgT 12 (h := ?_)
  refine rgT 13 (h := ?_)
  refine rgT 14 (h := ?_)
  refine rgT 15 (h := ?_)
  refine rgT 16 (h := ?_)
  refine wpAnyH_done (by kernel_rfl) ?_ _
  clear hHeld
  clear hHeld
  clear hHeld
  clear hHeld
  have H3 : Hid (MB w2.drew L Q T2.S X T2.x mb (remA mb X.x ff co bu sl wd ah pr be ma he) 155 ∧ Keeps (mkF L X mb) w w2.drew) := ⟨H2.out.1.drew, H2.out.2.drew⟩
  clear H2
  have sx : w2.drew.cell? ⟨mb, 7, none⟩ = some (.int .i64 pr) ∧ w2.drew.cell? ⟨mb, 4, none⟩ = some (.int .i64 sl) := ⟨(H3.out.1.cell 7).trans rfl, (H3.out.1.cell 4).trans rfl⟩
  go_wp2_with fail
  (refine wp_region_held_drew (S := (fun Z => Z.cell? ⟨mb, 7, none⟩ = some (.int .i64 pr) ∧ Z.cell? ⟨mb, 4, none⟩ = some (.int .i64 sl))) (by kernel_rfl) sx (fun hHeld => ?_); simp only [List.size_toArray, List.length_cons, List.length_nil, Nat.reduceAdd, Array.replicate_succ, Array.replicate_zero, List.push_toArray, List.append_toArray, List.nil_append, List.cons_append])
  clear sx
  refine rgT 0 (h := ?_)
  refine rgT 1 (h := ?_)
  refine rgT 2 (h := ?_)
  refine rgT 3 (h := ?_)
  refine rgT 4 (h := ?_)
  refine rgT 5 (h := ?_)
  refine rgT 6 (h := ?_)
  refine rgT 7 (h := ?_)
  refine rgT 8 (h := ?_)
  refine wpAnyH_done (by kernel_rfl) ?_ _
  clear hHeld
  generalize w2.drew = w3 at *
  have c10 : w3.cell? ⟨mb, 10, none⟩ = some (.int .i64 he) := (H3.out.1.cell 10).trans rfl
  have f10 := H3.out.1.fz 10
  have H4 : Hid (MB (w3.setCell ⟨mb, 10, none⟩ (.int .i64 (wrap64 (he + 1)))) L Q T2.S X T2.x mb (remA mb X.x ff co bu sl wd ah pr be ma (wrap64 (he + 1))) 155 ∧ Keeps (mkF L X mb) w (w3.setCell ⟨mb, 10, none⟩ (.int .i64 (wrap64 (he + 1))))) := ⟨(H3.out.1.set 10 _).1, H3.out.2.trans (kM (H3.out.1.set 10 _).2)⟩
  have c8 : w3.cell? ⟨mb, 8, none⟩ = some (.int .i64 be) := (H3.out.1.cell 8).trans rfl
  clear H3
  go_wp2_with fail
  clear c10 f10 c8
  generalize w3.setCell ⟨mb, 10, none⟩ (.int .i64 (wrap64 (he + 1))) = w4 at *
  refine (HMV.out w4 H4.out.1.m).mono ?_
  rintro e w9 ⟨rfl, hm9, k9⟩
  have H9 : Hid (CH w9 L Q (T2.S) X (T2.x) ∧ RemH w9 mb X.x q.2 ∧ Keeps (mkF L X mb) w w9) := ⟨(H4.out.1.own hm9 k9).h, hm9, H4.out.2.trans (kM k9)⟩
  clear hm9 k9 H4 HMV
  go_wp2
  go_ret
  exact ⟨rfl, H9.out⟩
theorem rem_own (w : World) (L : Lay) (Q : List Nat) (S : AS) (X : XL) (x : XS) (mb ff : Nat) (co bu sl wd ah pr be : Int) (ma : Bool) (he : Int) (st : Nat) (h : CH w L Q S X x) (hm : w.heap[mb]? = some (.cells (remA mb X.x ff co bu sl wd ah pr be ma he) 155)) (hn : ¬ chF L X mb) (hk : WdOk S x) : Calls Tryz.prog 125 #[.pointer (some ⟨mb, 0, none⟩)] w (StpR w L Q X mb (ownR S x ⟨st, co, bu, sl, wd, ah, pr, be, ma, he⟩)) := by
  unfold ownR
  cases hl : liv S sl
  · exact rem_own_dead w L Q S X x mb ff co bu sl wd ah pr be ma he h hm hn hl
  · obtain ⟨v, hv⟩ : ∃ v, S.word (atC S sl x.cell) = v := ⟨_, rfl⟩
    have hk2 : LkOk v := by rw [← hv]; exact hk.1 _
    dsimp only
    rw [if_pos rfl, hv]
    by_cases hz : v = 0
    · rw [if_pos hz]
      exact rem_own_zero w L Q S X x mb ff co bu sl wd ah pr be ma he h hm hn v hv hk2 hl hz
    · rw [if_neg hz]
      cases hm2 : (v % 2 == 1)
      · exact rem_own_go w L Q S X x mb ff co bu sl wd ah pr be ma he h hm hn v hv hk2 hl hz hm2
      · exact rem_own_marked w L Q S X x mb ff co bu sl wd ah pr be ma he h hm hn v hv hk2 hl hz hm2
theorem rem_begin_out (w : World) (L : Lay) (Q : List Nat) (S : AS) (X : XL) (x : XS) (mb ff : Nat) (co bu sl wd ah pr be : Int) (ma : Bool) (he : Int) (h : CH w L Q S X x) (hm : w.heap[mb]? = some (.cells (remA mb X.x ff co bu sl wd ah pr be ma he) 155)) (hn : ¬ chF L X mb) (hb : inB x bu = false) : Calls Tryz.prog 72 #[.pointer (some ⟨mb, 0, none⟩)] w (StpR w L Q X mb (true, ⟨S, x⟩, ⟨6, 40, bu, sl, wd, ah, pr, be, ma, he⟩)) := by
  have H0 : MB w L Q S X x mb (remA mb X.x ff co bu sl wd ah pr be ma he) 155 := ⟨h, hm, hn⟩
  have HD : Hid (MB w.drew L Q S X x mb (remA mb X.x ff co bu sl wd ah pr be ma he) 155 ∧ Keeps (mkF L X mb) w w.drew) := ⟨H0.drew, (Keeps.refl _ _).drew⟩
  have HP : Hid (MB w L Q S X x mb (remA mb X.x ff co bu sl wd ah pr be ma he) 155 ∧ Keeps (mkF L X mb) w w) := ⟨H0, Keeps.refl _ _⟩
  clear h hm hn H0
  have HB := ix_has w.drew L.b X x bu HD.out.1.h.i
  rw [hb] at HB
  have HBB : Hid (∀ _ : Unit, _) := fun _ => HB
  clear HB HP
  clear hb
  go_enter Tryz.func72, Tryz.ntmps72
  have sx : w.drew.cell? ⟨mb, 2, none⟩ = some (.pointer (some ⟨X.x, 0, none⟩)) ∧ w.drew.cell? ⟨mb, 3, none⟩ = some (.int .i64 bu) := ⟨(HD.out.1.cell 2).trans rfl, (HD.out.1.cell 3).trans rfl⟩
  go_wp2_with fail
  (refine wp_region_held_drew (S := (fun Z => Z.cell? ⟨mb, 2, none⟩ = some (.pointer (some ⟨X.x, 0, none⟩)) ∧ Z.cell? ⟨mb, 3, none⟩ = some (.int .i64 bu))) (by kernel_rfl) sx (fun hHeld => ?_); simp only [List.size_toArray, List.length_cons, List.length_nil, Nat.reduceAdd, Array.replicate_succ, Array.replicate_zero, List.push_toArray, List.append_toArray, List.nil_append, List.cons_append])
  clear sx
  refine rgT 0 (h := ?_)
  refine rgT 1 (h := ?_)
  refine rgT 2 (h := ?_)
  refine rgT 3 (h := ?_)
  refine rgT 4 (h := ?_)
  refine rgT 5 (h := ?_)
  refine rgT 6 (h := ?_)
  refine rgT 7 (h := ?_)
  (refine rgS 8 (h := fun K hK => ?_); go_simp)
  refine (HBB.out ()).mono ?_
  rintro e w1 ⟨rfl, hw1⟩
  rw [hw1]
  clear HBB hw1 w1
  (refine hK.out _ _ ⟨(HD.out.1.cell 2).trans rfl, (HD.out.1.cell 3).trans rfl⟩ (fun hHeld => ?_); clear hK K; try simp only [Act.put, List.setIfInBounds_toArray, List.set_cons_zero, List.set_cons_succ])
  refine rgT 9 (h := ?_)
  refine wpAnyH_done (by kernel_rfl) ?_ _
  clear hHeld
  clear hHeld
  generalize w.drew = w1 at *
  go_wp2_with fail
  refine (job_done w1 mb 40 _ _ _ _ HD.out.1.m rfl rfl).mono ?_
  rintro e w9 ⟨rfl, hm9, k9⟩
  have H9 : Hid (CH w9 L Q (S) X (x) ∧ RemH w9 mb X.x ⟨6, 40, bu, sl, wd, ah, pr, be, ma, he⟩ ∧ Keeps (mkF L X mb) w w9) := ⟨(HD.out.1.own hm9 k9).h, hm9, HD.out.2.trans (kM k9)⟩
  clear hm9 k9 HD
  go_wp2
  go_ret
  exact ⟨rfl, H9.out⟩
theorem rem_begin_in (w : World) (L : Lay) (Q : List Nat) (S : AS) (X : XL) (x : XS) (mb ff : Nat) (co bu sl wd ah pr be : Int) (ma : Bool) (he : Int) (h : CH w L Q S X x) (hm : w.heap[mb]? = some (.cells (remA mb X.x ff co bu sl wd ah pr be ma he) 155)) (hn : ¬ chF L X mb) (hb : inB x bu = true) (hk : WdOk S x) : Calls Tryz.prog 72 #[.pointer (some ⟨mb, 0, none⟩)] w (StpR w L Q X mb (ownR S x ⟨0, co, bu, sl, wd, ah, pr, be, ma, he⟩)) := by
  have H0 : MB w L Q S X x mb (remA mb X.x ff co bu sl wd ah pr be ma he) 155 := ⟨h, hm, hn⟩
  have HD : Hid (MB w.drew L Q S X x mb (remA mb X.x ff co bu sl wd ah pr be ma he) 155 ∧ Keeps (mkF L X mb) w w.drew) := ⟨H0.drew, (Keeps.refl _ _).drew⟩
  have HP : Hid (MB w L Q S X x mb (remA mb X.x ff co bu sl wd ah pr be ma he) 155 ∧ Keeps (mkF L X mb) w w) := ⟨H0, Keeps.refl _ _⟩
  clear h hm hn H0
  have HB := ix_has w.drew L.b X x bu HD.out.1.h.i
  rw [hb] at HB
  have HBB : Hid (∀ _ : Unit, _) := fun _ => HB
  clear HB HP
  obtain ⟨p, hp⟩ : ∃ p, ownR S x ⟨0, co, bu, sl, wd, ah, pr, be, ma, he⟩ = p := ⟨_, rfl⟩
  have HOW : Hid (∀ W, MB W L Q S X x mb (remA mb X.x ff co bu sl wd ah pr be ma he) 155 → Calls Tryz.prog 125 #[.pointer (some ⟨mb, 0, none⟩)] W (StpR W L Q X mb p)) := fun W hW => by
    rw [← hp]
    exact rem_own W L Q S X x mb ff co bu sl wd ah pr be ma he 0 hW.h hW.m hW.n hk
  show Calls Tryz.prog 72 _ w (StpR w L Q X mb (ownR S x ⟨0, co, bu, sl, wd, ah, pr, be, ma, he⟩))
  rw [hp]
  clear hp hk hb
  obtain ⟨r, cs, m'⟩ := p
  go_enter Tryz.func72, Tryz.ntmps72
  have sx : w.drew.cell? ⟨mb, 2, none⟩ = some (.pointer (some ⟨X.x, 0, none⟩)) ∧ w.drew.cell? ⟨mb, 3, none⟩ = some (.int .i64 bu) := ⟨(HD.out.1.cell 2).trans rfl, (HD.out.1.cell 3).trans rfl⟩
  go_wp2_with fail
  (refine wp_region_held_drew (S := (fun Z => Z.cell? ⟨mb, 2, none⟩ = some (.pointer (some ⟨X.x, 0, none⟩)) ∧ Z.cell? ⟨mb, 3, none⟩ = some (.int .i64 bu))) (by kernel_rfl) sx (fun hHeld => ?_); simp only [List.size_toArray, List.length_cons, List.length_nil, Nat.reduceAdd, Array.replicate_succ, Array.replicate_zero, List.push_toArray, List.append_toArray, List.nil_append, List.cons_append])
  clear sx
  refine rgT 0 (h := ?_)
  refine rgT 1 (h := ?_)
  refine rgT 2 (h := ?_)
  refine rgT 3 (h := ?_)
  refine rgT 4 (h := ?_)
  refine rgT 5 (h := ?_)
  refine rgT 6 (h := ?_)
  refine rgT 7 (h := ?_)
  (refine rgS 8 (h := fun K hK => ?_); go_simp)
  refine (HBB.out ()).mono ?_
  rintro e w1 ⟨rfl, hw1⟩
  rw [hw1]
  clear HBB hw1 w1
  (refine hK.out _ _ ⟨(HD.out.1.cell 2).trans rfl, (HD.out.1.cell 3).trans rfl⟩ (fun hHeld => ?_); clear hK K; try simp only [Act.put, List.setIfInBounds_toArray, List.set_cons_zero, List.set_cons_succ])
  refine rgT 9 (h := ?_)
  refine wpAnyH_done (by kernel_rfl) ?_ _
  clear hHeld
  clear hHeld
  generalize w.drew = w1 at *
  go_wp2_with fail
  refine (HOW.out w1 HD.out.1).mono ?_
  rintro e w9 ⟨rfl, hc, hr, k9⟩
  have H9 : Hid (CH w9 L Q cs.S X cs.x ∧ RemH w9 mb X.x m' ∧ Keeps (mkF L X mb) w w9) := ⟨hc, hr, HD.out.2.trans k9⟩
  clear hc hr k9 HD HOW
  go_wp2
  go_ret
  exact ⟨rfl, H9.out⟩
/-- What is known of a Remove that has begun. -/
def remOk (x : XS) (m : MR) : Prop := (1 ≤ m.st → m.st ≤ 5 → inB x m.bu = true) ∧ (m.st = 2 → LkOk m.wd) ∧ (m.st = 5 → (0 ≤ m.pr ∧ m.pr ≤ 2147483647) ∧ (0 ≤ m.be ∧ m.be ≤ 2147483647))
theorem rem_any (w : World) (L : Lay) (Q : List Nat) (S : AS) (X : XL) (x : XS) (mb : Nat) (m : MR) (h : CH w L Q S X x) (hm : RemH w mb X.x m) (hn : ¬ chF L X mb) (hk : WdOk S x) (ho : remOk x m) : Calls Tryz.prog (remF m.st) #[.pointer (some ⟨mb, 0, none⟩)] w (StpR w L Q X mb (remP S x m)) := by
  obtain ⟨st, co, bu, sl, wd, ah, pr, be, ma, he⟩ := m
  match st with
  | 0 =>
    unfold remP
    dsimp only
    cases hb : inB x bu
    · exact rem_begin_out w L Q S X x mb _ co bu sl wd ah pr be ma he h hm hn hb
    · exact rem_begin_in w L Q S X x mb _ co bu sl wd ah pr be ma he h hm hn hb hk
  | 1 => exact rem_own w L Q S X x mb _ co bu sl wd ah pr be ma he 1 h hm hn hk
  | 2 =>
    have hw := ho.2.1 rfl
    unfold remP
    dsimp only
    cases hl : liv S sl
    · exact rem_mark_dead w L Q S X x mb _ co bu sl wd ah pr be ma he h hm hn hw hl
    · rw [if_pos rfl]
      by_cases hu : S.word (atC S sl x.cell) = wd
      · rw [if_pos hu]
        exact rem_mark_hit w L Q S X x mb _ co bu sl wd ah pr be ma he h hm hn hw hl hu
      · rw [if_neg hu]
        exact rem_mark_miss w L Q S X x mb _ co bu sl wd ah pr be ma he h hm hn hw hl hu
  | 3 =>
    obtain ⟨b, hb1, hbb⟩ := inB_yes (ho.1 (by show 1 ≤ 3; omega) (by show 3 ≤ 5; omega))
    have hbb : bu = (b : Int) := hbb
    unfold remP
    dsimp only
    rw [show bu.toNat = b from by omega]
    exact rem_head w L Q S X x mb _ co bu sl wd ah pr be ma he h hm hn b hbb hb1 (x.hd b) rfl (hk.2 b hb1)
  | 4 =>
    unfold remP
    dsimp only
    cases hl : liv S pr
    · exact rem_pres_dead w L Q S X x mb _ co bu sl wd ah pr be ma he h hm hn hl
    · obtain ⟨v, hv⟩ : ∃ v, S.word (atC S pr x.cell) = v := ⟨_, rfl⟩
      have hk2 : LkOk v := by rw [← hv]; exact hk.1 _
      rw [if_pos rfl, hv]
      by_cases hz : v / 2 = 0
      · rw [if_pos hz]
        exact rem_pres_zero w L Q S X x mb _ co bu sl wd ah pr be ma he h hm hn v hv hk2 hl hz
      · rw [if_neg hz]
        cases hm2 : (v % 2 == 1)
        · exact rem_pres_on w L Q S X x mb _ co bu sl wd ah pr be ma he h hm hn v hv hk2 hl hz hm2
        · exact rem_pres_marked w L Q S X x mb _ co bu sl wd ah pr be ma he h hm hn v hv hk2 hl hz hm2
  | 5 =>
    obtain ⟨o1, o2⟩ := ho.2.2 rfl
    have hb := ho.1 (by show 1 ≤ 5; omega) (by show 5 ≤ 5; omega)
    show Calls Tryz.prog _ _ w (StpR w L Q X mb (unlR ⟨5, co, bu, sl, wd, ah, pr, be, ma, he⟩ (ahR S x bu ah (2 * pr) (2 * be))))
    obtain ⟨q, hq⟩ : ∃ q, ahR S x bu ah (2 * pr) (2 * be) = q := ⟨_, rfl⟩
    have he0 : q.2.1 = 0 ∨ (q.2.1 = 22 ∧ q.1 = false) := by
      rw [← hq]
      unfold ahR
      repeat' split
      all_goals first | exact Or.inl rfl | exact Or.inr ⟨rfl, rfl⟩
    rw [hq]
    obtain ⟨r, er, T2⟩ := q
    unfold unlR
    dsimp only at he0 ⊢
    rcases he0 with rfl | ⟨rfl, rfl⟩
    · rw [if_pos rfl]
      cases r
      · exact rem_unl_miss w L Q S X x mb _ co bu sl wd ah pr be ma he h hm hn hb o1 o2 T2 hq
      · rw [if_pos rfl]
        by_cases hps : pr = sl
        · rw [if_pos hps]
          exact rem_unl_own w L Q S X x mb _ co bu sl wd ah pr be ma he h hm hn hb o1 o2 T2 hq hps
        · rw [if_neg hps]
          exact rem_unl_other w L Q S X x mb _ co bu sl wd ah pr be ma he h hm hn hb o1 o2 T2 hq hps
    · rw [if_neg (by decide)]
      exact rem_unl_dead w L Q S X x mb _ co bu sl wd ah pr be ma he h hm hn hb o1 o2 T2 hq
  | n + 6 =>
    refine (ins_rest w mb).mono ?_
    rintro e w' ⟨rfl, rfl⟩
    exact ⟨rfl, h, hm, Keeps.refl _ _⟩
theorem rem_call0 (w : World) (mb : Nat) (r : Bool) (R : World → Prop) (c0 : w.cell? ⟨mb, 0, none⟩ = some (.func (.func 72) #[.pointer (some ⟨mb, 0, none⟩)] #[])) (HC : Calls Tryz.prog 72 #[.pointer (some ⟨mb, 0, none⟩)] w fun e w' => e = .returned (.bool r) ∧ R w') : Calls Tryz.prog 75 #[.pointer (some ⟨mb, 0, none⟩)] w fun e w' => e = .returned (.bool r) ∧ R w' := by
  have HCC : Hid (∀ _ : Unit, _) := fun _ => HC
  clear HC
  go_enter Tryz.func75, Tryz.ntmps75
  go_wp2_with fail
  refine (HCC.out ()).mono ?_
  rintro e w1 ⟨rfl, hr⟩
  have HR : Hid (R w1) := hr
  clear hr HCC c0
  go_wp2
  go_ret
  exact ⟨rfl, HR.out⟩
theorem rem_call1 (w : World) (mb : Nat) (r : Bool) (R : World → Prop) (c0 : w.cell? ⟨mb, 0, none⟩ = some (.func (.func 125) #[.pointer (some ⟨mb, 0, none⟩)] #[])) (HC : Calls Tryz.prog 125 #[.pointer (some ⟨mb, 0, none⟩)] w fun e w' => e = .returned (.bool r) ∧ R w') : Calls Tryz.prog 75 #[.pointer (some ⟨mb, 0, none⟩)] w fun e w' => e = .returned (.bool r) ∧ R w' := by
  have HCC : Hid (∀ _ : Unit, _) := fun _ => HC
  clear HC
  go_enter Tryz.func75, Tryz.ntmps75
  go_wp2_with fail
  refine (HCC.out ()).mono ?_
  rintro e w1 ⟨rfl, hr⟩
  have HR : Hid (R w1) := hr
  clear hr HCC c0
  go_wp2
  go_ret
  exact ⟨rfl, HR.out⟩
theorem rem_call2 (w : World) (mb : Nat) (r : Bool) (R : World → Prop) (c0 : w.cell? ⟨mb, 0, none⟩ = some (.func (.func 172) #[.pointer (some ⟨mb, 0, none⟩)] #[])) (HC : Calls Tryz.prog 172 #[.pointer (some ⟨mb, 0, none⟩)] w fun e w' => e = .returned (.bool r) ∧ R w') : Calls Tryz.prog 75 #[.pointer (some ⟨mb, 0, none⟩)] w fun e w' => e = .returned (.bool r) ∧ R w' := by
  have HCC : Hid (∀ _ : Unit, _) := fun _ => HC
  clear HC
  go_enter Tryz.func75, Tryz.ntmps75
  go_wp2_with fail
  refine (HCC.out ()).mono ?_
  rintro e w1 ⟨rfl, hr⟩
  have HR : Hid (R w1) := hr
  clear hr HCC c0
  go_wp2
  go_ret
  exact ⟨rfl, HR.out⟩
theorem rem_call3 (w : World) (mb : Nat) (r : Bool) (R : World → Prop) (c0 : w.cell? ⟨mb, 0, none⟩ = some (.func (.func 171) #[.pointer (some ⟨mb, 0, none⟩)] #[])) (HC : Calls Tryz.prog 171 #[.pointer (some ⟨mb, 0, none⟩)] w fun e w' => e = .returned (.bool r) ∧ R w') : Calls Tryz.prog 75 #[.pointer (some ⟨mb, 0, none⟩)] w fun e w' => e = .returned (.bool r) ∧ R w' := by
  have HCC : Hid (∀ _ : Unit, _) := fun _ => HC
  clear HC
  go_enter Tryz.func75, Tryz.ntmps75
  go_wp2_with fail
  refine (HCC.out ()).mono ?_
  rintro e w1 ⟨rfl, hr⟩
  have HR : Hid (R w1) := hr
  clear hr HCC c0
  go_wp2
  go_ret
  exact ⟨rfl, HR.out⟩
theorem rem_call4 (w : World) (mb : Nat) (r : Bool) (R : World → Prop) (c0 : w.cell? ⟨mb, 0, none⟩ = some (.func (.func 220) #[.pointer (some ⟨mb, 0, none⟩)] #[])) (HC : Calls Tryz.prog 220 #[.pointer (some ⟨mb, 0, none⟩)] w fun e w' => e = .returned (.bool r) ∧ R w') : Calls Tryz.prog 75 #[.pointer (some ⟨mb, 0, none⟩)] w fun e w' => e = .returned (.bool r) ∧ R w' := by
  have HCC : Hid (∀ _ : Unit, _) := fun _ => HC
  clear HC
  go_enter Tryz.func75, Tryz.ntmps75
  go_wp2_with fail
  refine (HCC.out ()).mono ?_
  rintro e w1 ⟨rfl, hr⟩
  have HR : Hid (R w1) := hr
  clear hr HCC c0
  go_wp2
  go_ret
  exact ⟨rfl, HR.out⟩
theorem rem_call5 (w : World) (mb : Nat) (r : Bool) (R : World → Prop) (c0 : w.cell? ⟨mb, 0, none⟩ = some (.func (.func 224) #[.pointer (some ⟨mb, 0, none⟩)] #[])) (HC : Calls Tryz.prog 224 #[.pointer (some ⟨mb, 0, none⟩)] w fun e w' => e = .returned (.bool r) ∧ R w') : Calls Tryz.prog 75 #[.pointer (some ⟨mb, 0, none⟩)] w fun e w' => e = .returned (.bool r) ∧ R w' := by
  have HCC : Hid (∀ _ : Unit, _) := fun _ => HC
  clear HC
  go_enter Tryz.func75, Tryz.ntmps75
  go_wp2_with fail
  refine (HCC.out ()).mono ?_
  rintro e w1 ⟨rfl, hr⟩
  have HR : Hid (R w1) := hr
  clear hr HCC c0
  go_wp2
  go_ret
  exact ⟨rfl, HR.out⟩
theorem rem_call6 (w : World) (mb : Nat) (r : Bool) (R : World → Prop) (c0 : w.cell? ⟨mb, 0, none⟩ = some (.func (.func 134) #[.pointer (some ⟨mb, 0, none⟩)] #[])) (HC : Calls Tryz.prog 134 #[.pointer (some ⟨mb, 0, none⟩)] w fun e w' => e = .returned (.bool r) ∧ R w') : Calls Tryz.prog 75 #[.pointer (some ⟨mb, 0, none⟩)] w fun e w' => e = .returned (.bool r) ∧ R w' := by
  have HCC : Hid (∀ _ : Unit, _) := fun _ => HC
  clear HC
  go_enter Tryz.func75, Tryz.ntmps75
  go_wp2_with fail
  refine (HCC.out ()).mono ?_
  rintro e w1 ⟨rfl, hr⟩
  have HR : Hid (R w1) := hr
  clear hr HCC c0
  go_wp2
  go_ret
  exact ⟨rfl, HR.out⟩
theorem rem_step (w : World) (L : Lay) (Q : List Nat) (S : AS) (X : XL) (x : XS) (mb : Nat) (m : MR) (h : CH w L Q S X x) (hm : RemH w mb X.x m) (hn : ¬ chF L X mb) (hk : WdOk S x) (ho : remOk x m) : Calls Tryz.prog 75 #[.pointer (some ⟨mb, 0, none⟩)] w (StpR w L Q X mb (remP S x m)) := by
  obtain ⟨st, co, bu, sl, wd, ah, pr, be, ma, he⟩ := m
  match st with
  | 0 => exact rem_call0 w mb _ _ ((cell?_heap hm 0).trans rfl) (rem_any w L Q S X x mb _ h hm hn hk ho)
  | 1 => exact rem_call1 w mb _ _ ((cell?_heap hm 0).trans rfl) (rem_any w L Q S X x mb _ h hm hn hk ho)
  | 2 => exact rem_call2 w mb _ _ ((cell?_heap hm 0).trans rfl) (rem_any w L Q S X x mb _ h hm hn hk ho)
  | 3 => exact rem_call3 w mb _ _ ((cell?_heap hm 0).trans rfl) (rem_any w L Q S X x mb _ h hm hn hk ho)
  | 4 => exact rem_call4 w mb _ _ ((cell?_heap hm 0).trans rfl) (rem_any w L Q S X x mb _ h hm hn hk ho)
  | 5 => exact rem_call5 w mb _ _ ((cell?_heap hm 0).trans rfl) (rem_any w L Q S X x mb _ h hm hn hk ho)
  | n + 6 => exact rem_call6 w mb _ _ ((cell?_heap hm 0).trans rfl) (rem_any w L Q S X x mb _ h hm hn hk ho)
theorem rem_Code (w : World) (mb xb : Nat) (m : MR) (hm : RemH w mb xb m) : Calls Tryz.prog 78 #[.pointer (some ⟨mb, 0, none⟩)] w fun e w' => e = .returned (.int .i64 m.co) ∧ w' = w := by
  have c : w.cell? ⟨mb, 1, none⟩ = some (.int .i64 m.co) := (cell?_heap hm 1).trans rfl
  clear hm
  go_enter Tryz.func78, Tryz.ntmps78
  go_wp2
  go_ret
  exact ⟨rfl, rfl⟩
theorem rem_Marked (w : World) (mb xb : Nat) (m : MR) (hm : RemH w mb xb m) : Calls Tryz.prog 76 #[.pointer (some ⟨mb, 0, none⟩)] w fun e w' => e = .returned (.bool m.ma) ∧ w' = w := by
  have c : w.cell? ⟨mb, 9, none⟩ = some (.bool m.ma) := (cell?_heap hm 9).trans rfl
  clear hm
  go_enter Tryz.func76, Tryz.ntmps76
  go_wp2
  go_ret
  exact ⟨rfl, rfl⟩
theorem rem_new (w : World) (xb : Nat) (bu sl : Int) : Calls Tryz.prog 40 #[.pointer (some ⟨xb, 0, none⟩), .int .i64 bu, .int .i64 sl] w fun e w' => e = .returned (.pointer (some ⟨w.heap.size, 0, none⟩)) ∧ RemH w' w.heap.size xb ⟨0, 0, bu, sl, 0, 0, 0, 0, false, 0⟩ ∧ Keeps (fun _ => False) w w' ∧ w'.heap.size = w.heap.size + 1 := by
  go_enter Tryz.func40, Tryz.ntmps40
  go_wp2
  go_ret
  refine ⟨rfl, ?_, ?_, ?_⟩
  · exact heap_alloc_last _ _ _ rfl
  · exact (Keeps.refl _ _).alloc _
  · simp
end Go.Proofs.YteekompojgbkhaaGreat
