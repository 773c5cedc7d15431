import Derived.Test.YteekompojgbkhaaGreatKChJ
namespace Go.Proofs.YteekompojgbkhaaGreat
set_option linter.unusedSimpArgs false
open Go.ChangeShapes Go.WideShapes Go.ChangeAt Go.RowKit Go.MuLone Go.RwLone
set_option linter.unusedVariables false
set_option maxRecDepth 100000
set_option maxHeartbeats 3200000
theorem rem_mark_dead (w : World) (L : Lay) (Q : List Nat) (S : AS) (X : XL) (x : XS) (mb ff : Nat) (co bu sl wd ah pr be : Int) (ma : Bool) (he : Int) (h : CH w L Q S X x) (hm : w.heap[mb]? = some (.cells (remA mb X.x ff co bu sl wd ah pr be ma he) 155)) (hn : ¬ chF L X mb) (hk : LkOk wd) (hl : liv S sl = false) : Calls Tryz.prog 172 #[.pointer (some ⟨mb, 0, none⟩)] w (StpR w L Q X mb (true, ⟨mis1 S, x⟩, ⟨6, 22, bu, sl, wd, ah, pr, be, ma, he⟩)) := by
  have H0 : MB w L Q S X x mb (remA mb X.x ff co bu sl wd ah pr be ma he) 155 := ⟨h, hm, hn⟩
  have HD : Hid (MB w.drew L Q S X x mb (remA mb X.x ff co bu sl wd ah pr be ma he) 155 ∧ Keeps (mkF L X mb) w w.drew) := ⟨H0.drew, (Keeps.refl _ _).drew⟩
  have HP : Hid (MB w L Q S X x mb (remA mb X.x ff co bu sl wd ah pr be ma he) 155 ∧ Keeps (mkF L X mb) w w) := ⟨H0, Keeps.refl _ _⟩
  clear h hm hn H0
  have HK : Hid (LkOk wd) := hk
  obtain ⟨n, hnn⟩ : ∃ n, wd / 2 = n := ⟨_, rfl⟩
  have hn0 : 0 ≤ n ∧ n ≤ 2147483647 := by have := hk.1; have := hk.2; omega
  have HNN : Hid (wd / 2 = n) := hnn
  clear hk hnn
  obtain ⟨y, hy⟩ : ∃ y, 2 * n + 1 = y := ⟨_, rfl⟩
  have HMO := mkof_any n w.drew hn0.1 hn0.2
  rw [hy] at HMO
  have HMM : Hid (∀ _ : Unit, _) := fun _ => HMO
  obtain ⟨S2, hS2⟩ : ∃ S2, mis1 S = S2 := ⟨_, rfl⟩
  have HS := ix_swapLink_no w.drew L Q S X x sl wd y HD.out.1.h hl
  rw [hS2] at HS ⊢
  have HSS : Hid (∀ _ : Unit, _) := fun _ => HS
  clear HMO HS hS2 hy hn0
  go_enter Tryz.func172, Tryz.ntmps172
  have c5 : w.cell? ⟨mb, 5, none⟩ = some (.int .u64 wd) := (HP.out.1.cell 5).trans rfl
  go_wp2_with fail
  refine (take_any wd w HK.out).mono ?_
  rintro e w5 ⟨rfl, hw5⟩
  rw [hw5, HNN.out]
  clear hw5 w5 HK HNN c5 HP
  generalize (wd % 2 == 1) = b5
  have sx : w.drew.cell? ⟨mb, 2, none⟩ = some (.pointer (some ⟨X.x, 0, none⟩)) ∧ w.drew.cell? ⟨mb, 4, none⟩ = some (.int .i64 sl) ∧ w.drew.cell? ⟨mb, 5, none⟩ = some (.int .u64 wd) := ⟨(HD.out.1.cell 2).trans rfl, (HD.out.1.cell 4).trans rfl, (HD.out.1.cell 5).trans rfl⟩
  go_wp2_with fail
  (refine wp_region_held_drew (S := (fun Z => Z.cell? ⟨mb, 2, none⟩ = some (.pointer (some ⟨X.x, 0, none⟩)) ∧ Z.cell? ⟨mb, 4, none⟩ = some (.int .i64 sl) ∧ Z.cell? ⟨mb, 5, none⟩ = some (.int .u64 wd))) (by kernel_rfl) sx (fun hHeld => ?_); simp only [List.size_toArray, List.length_cons, List.length_nil, Nat.reduceAdd, Array.replicate_succ, Array.replicate_zero, List.push_toArray, List.append_toArray, List.nil_append, List.cons_append])
  clear sx
  refine rgT 0 (h := ?_)
  refine rgT 1 (h := ?_)
  refine rgT 2 (h := ?_)
  refine rgT 3 (h := ?_)
  refine rgT 4 (h := ?_)
  refine rgT 5 (h := ?_)
  refine rgT 6 (h := ?_)
  refine rgT 7 (h := ?_)
  refine rgT 8 (h := ?_)
  refine rgT 9 (h := ?_)
  refine rgT 10 (h := ?_)
  refine rgT 11 (h := ?_)
  refine rgT 12 (h := ?_)
  (refine rgS 13 (h := fun K hK => ?_); go_simp)
  refine (HMM.out ()).mono ?_
  rintro e w1 ⟨rfl, hw1⟩
  rw [hw1]
  clear hw1 w1 HMM
  (refine hK.out _ _ ⟨(HD.out.1.cell 2).trans rfl, (HD.out.1.cell 4).trans rfl, (HD.out.1.cell 5).trans rfl⟩ (fun hHeld => ?_); clear hK K; try simp only [Act.put, List.setIfInBounds_toArray, List.set_cons_zero, List.set_cons_succ])
  (refine rgS 14 (h := fun K hK => ?_); go_simp)
  refine (HSS.out ()).mono ?_
  rintro e w2 ⟨rfl, hc2, k2⟩
  have H2 : Hid (MB w2 L Q S2 X x mb (remA mb X.x ff co bu sl wd ah pr be ma he) 155 ∧ Keeps (mkF L X mb) w w2) := ⟨HD.out.1.call hc2 k2, HD.out.2.trans (kF k2)⟩
  clear hc2 k2 HD HSS
  (refine hK.out _ _ ⟨(H2.out.1.cell 2).trans rfl, (H2.out.1.cell 4).trans rfl, (H2.out.1.cell 5).trans rfl⟩ (fun hHeld => ?_); clear hK K; try simp only [Act.put, List.setIfInBounds_toArray, List.set_cons_zero, List.set_cons_succ])
  refine rgT 15 (h := ?_)
  refine rgT 16 (h := ?_)
  refine rgT 17 (h := ?_)
  refine rgT 18 (h := ?_)
  refine rgT 19 (h := ?_)
  refine wpAnyH_done (by kernel_rfl) ?_ _
  clear hHeld
  clear hHeld
  clear hHeld
  go_wp2_with fail
  refine (job_done w2 mb 22 _ _ _ _ H2.out.1.m rfl rfl).mono ?_
  rintro e w9 ⟨rfl, hm9, k9⟩
  have H9 : Hid (CH w9 L Q (S2) X (x) ∧ RemH w9 mb X.x ⟨6, 22, bu, sl, wd, ah, pr, be, ma, he⟩ ∧ Keeps (mkF L X mb) w w9) := ⟨(H2.out.1.own hm9 k9).h, hm9, H2.out.2.trans (kM k9)⟩
  clear hm9 k9 H2
  go_wp2
  go_ret
  exact ⟨rfl, H9.out⟩
theorem rem_mark_miss (w : World) (L : Lay) (Q : List Nat) (S : AS) (X : XL) (x : XS) (mb ff : Nat) (co bu sl wd ah pr be : Int) (ma : Bool) (he : Int) (h : CH w L Q S X x) (hm : w.heap[mb]? = some (.cells (remA mb X.x ff co bu sl wd ah pr be ma he) 155)) (hn : ¬ chF L X mb) (hk : LkOk wd) (hl : liv S sl = true) (hu : ¬ S.word (atC S sl x.cell) = wd) : Calls Tryz.prog 172 #[.pointer (some ⟨mb, 0, none⟩)] w (StpR w L Q X mb (false, ⟨acc1 S, x⟩, ⟨1, co, bu, sl, wd, ah, pr, be, ma, he⟩)) := by
  have H0 : MB w L Q S X x mb (remA mb X.x ff co bu sl wd ah pr be ma he) 155 := ⟨h, hm, hn⟩
  have HD : Hid (MB w.drew L Q S X x mb (remA mb X.x ff co bu sl wd ah pr be ma he) 155 ∧ Keeps (mkF L X mb) w w.drew) := ⟨H0.drew, (Keeps.refl _ _).drew⟩
  have HP : Hid (MB w L Q S X x mb (remA mb X.x ff co bu sl wd ah pr be ma he) 155 ∧ Keeps (mkF L X mb) w w) := ⟨H0, Keeps.refl _ _⟩
  clear h hm hn H0
  have HK : Hid (LkOk wd) := hk
  obtain ⟨n, hnn⟩ : ∃ n, wd / 2 = n := ⟨_, rfl⟩
  have hn0 : 0 ≤ n ∧ n ≤ 2147483647 := by have := hk.1; have := hk.2; omega
  have HNN : Hid (wd / 2 = n) := hnn
  clear hk hnn
  obtain ⟨y, hy⟩ : ∃ y, 2 * n + 1 = y := ⟨_, rfl⟩
  have HMO := mkof_any n w.drew hn0.1 hn0.2
  rw [hy] at HMO
  have HMM : Hid (∀ _ : Unit, _) := fun _ => HMO
  obtain ⟨S2, hS2⟩ : ∃ S2, acc1 S = S2 := ⟨_, rfl⟩
  have HS := ix_swapLink_miss w.drew L Q S X x sl wd y HD.out.1.h hl hu
  rw [hS2] at HS ⊢
  have HSS : Hid (∀ _ : Unit, _) := fun _ => HS
  clear HMO HS hS2 hy hn0
  go_enter Tryz.func172, Tryz.ntmps172
  have c5 : w.cell? ⟨mb, 5, none⟩ = some (.int .u64 wd) := (HP.out.1.cell 5).trans rfl
  go_wp2_with fail
  refine (take_any wd w HK.out).mono ?_
  rintro e w5 ⟨rfl, hw5⟩
  rw [hw5, HNN.out]
  clear hw5 w5 HK HNN c5 HP
  generalize (wd % 2 == 1) = b5
  have sx : w.drew.cell? ⟨mb, 2, none⟩ = some (.pointer (some ⟨X.x, 0, none⟩)) ∧ w.drew.cell? ⟨mb, 4, none⟩ = some (.int .i64 sl) ∧ w.drew.cell? ⟨mb, 5, none⟩ = some (.int .u64 wd) := ⟨(HD.out.1.cell 2).trans rfl, (HD.out.1.cell 4).trans rfl, (HD.out.1.cell 5).trans rfl⟩
  go_wp2_with fail
  (refine wp_region_held_drew (S := (fun Z => Z.cell? ⟨mb, 2, none⟩ = some (.pointer (some ⟨X.x, 0, none⟩)) ∧ Z.cell? ⟨mb, 4, none⟩ = some (.int .i64 sl) ∧ Z.cell? ⟨mb, 5, none⟩ = some (.int .u64 wd))) (by kernel_rfl) sx (fun hHeld => ?_); simp only [List.size_toArray, List.length_cons, List.length_nil, Nat.reduceAdd, Array.replicate_succ, Array.replicate_zero, List.push_toArray, List.append_toArray, List.nil_append, List.cons_append])
  clear sx
  refine rgT 0 (h := ?_)
  refine rgT 1 (h := ?_)
  refine rgT 2 (h := ?_)
  refine rgT 3 (h := ?_)
  refine rgT 4 (h := ?_)
  refine rgT 5 (h := ?_)
  refine rgT 6 (h := ?_)
  refine rgT 7 (h := ?_)
  refine rgT 8 (h := ?_)
  refine rgT 9 (h := ?_)
  refine rgT 10 (h := ?_)
  refine rgT 11 (h := ?_)
  refine rgT 12 (h := ?_)
  (refine rgS 13 (h := fun K hK => ?_); go_simp)
  refine (HMM.out ()).mono ?_
  rintro e w1 ⟨rfl, hw1⟩
  rw [hw1]
  clear hw1 w1 HMM
  (refine hK.out _ _ ⟨(HD.out.1.cell 2).trans rfl, (HD.out.1.cell 4).trans rfl, (HD.out.1.cell 5).trans rfl⟩ (fun hHeld => ?_); clear hK K; try simp only [Act.put, List.setIfInBounds_toArray, List.set_cons_zero, List.set_cons_succ])
  (refine rgS 14 (h := fun K hK => ?_); go_simp)
  refine (HSS.out ()).mono ?_
  rintro e w2 ⟨rfl, hc2, k2⟩
  have H2 : Hid (MB w2 L Q S2 X x mb (remA mb X.x ff co bu sl wd ah pr be ma he) 155 ∧ Keeps (mkF L X mb) w w2) := ⟨HD.out.1.call hc2 k2, HD.out.2.trans (kF k2)⟩
  clear hc2 k2 HD HSS
  (refine hK.out _ _ ⟨(H2.out.1.cell 2).trans rfl, (H2.out.1.cell 4).trans rfl, (H2.out.1.cell 5).trans rfl⟩ (fun hHeld => ?_); clear hK K; try simp only [Act.put, List.setIfInBounds_toArray, List.set_cons_zero, List.set_cons_succ])
  refine rgT 15 (h := ?_)
  refine rgT 16 (h := ?_)
  refine rgT 17 (h := ?_)
  refine rgT 18 (h := ?_)
  refine rgT 19 (h := ?_)
  refine wpAnyH_done (by kernel_rfl) ?_ _
  clear hHeld
  clear hHeld
  clear hHeld
  go_wp2_with fail
  refine (job_goOn w2 mb (nxV 125 mb) _ _ _ H2.out.1.m rfl ⟨_, _, rfl⟩).mono ?_
  rintro e w9 ⟨rfl, hm9, k9⟩
  have H9 : Hid (CH w9 L Q (S2) X (x) ∧ RemH w9 mb X.x ⟨1, co, bu, sl, wd, ah, pr, be, ma, he⟩ ∧ Keeps (mkF L X mb) w w9) := ⟨(H2.out.1.own hm9 k9).h, hm9, H2.out.2.trans (kM k9)⟩
  clear hm9 k9 H2
  go_wp2
  go_ret
  exact ⟨rfl, H9.out⟩
theorem rem_mark_hit (w : World) (L : Lay) (Q : List Nat) (S : AS) (X : XL) (x : XS) (mb ff : Nat) (co bu sl wd ah pr be : Int) (ma : Bool) (he : Int) (h : CH w L Q S X x) (hm : w.heap[mb]? = some (.cells (remA mb X.x ff co bu sl wd ah pr be ma he) 155)) (hn : ¬ chF L X mb) (hk : LkOk wd) (hl : liv S sl = true) (hu : S.word (atC S sl x.cell) = wd) : Calls Tryz.prog 172 #[.pointer (some ⟨mb, 0, none⟩)] w (StpR w L Q X mb (false, ⟨put1 S (atC S sl x.cell) (2 * (wd / 2) + 1), x⟩, ⟨3, co, bu, sl, wd, ah, pr, be, true, he⟩)) := by
  have H0 : MB w L Q S X x mb (remA mb X.x ff co bu sl wd ah pr be ma he) 155 := ⟨h, hm, hn⟩
  have HD : Hid (MB w.drew L Q S X x mb (remA mb X.x ff co bu sl wd ah pr be ma he) 155 ∧ Keeps (mkF L X mb) w w.drew) := ⟨H0.drew, (Keeps.refl _ _).drew⟩
  have HP : Hid (MB w L Q S X x mb (remA mb X.x ff co bu sl wd ah pr be ma he) 155 ∧ Keeps (mkF L X mb) w w) := ⟨H0, Keeps.refl _ _⟩
  clear h hm hn H0
  have HK : Hid (LkOk wd) := hk
  obtain ⟨n, hnn⟩ : ∃ n, wd / 2 = n := ⟨_, rfl⟩
  have hn0 : 0 ≤ n ∧ n ≤ 2147483647 := by have := hk.1; have := hk.2; omega
  rw [hnn]
  have HNN : Hid (wd / 2 = n) := hnn
  clear hk hnn
  obtain ⟨y, hy⟩ : ∃ y, 2 * n + 1 = y := ⟨_, rfl⟩
  have HMO := mkof_any n w.drew hn0.1 hn0.2
  rw [hy] at HMO ⊢
  have HMM : Hid (∀ _ : Unit, _) := fun _ => HMO
  obtain ⟨S2, hS2⟩ : ∃ S2, put1 S (atC S sl x.cell) y = S2 := ⟨_, rfl⟩
  have HS := ix_swapLink_hit w.drew L Q S X x sl wd y HD.out.1.h hl hu
  rw [hS2] at HS ⊢
  have HSS : Hid (∀ _ : Unit, _) := fun _ => HS
  clear HMO HS hS2 hy hn0
  go_enter Tryz.func172, Tryz.ntmps172
  have c5 : w.cell? ⟨mb, 5, none⟩ = some (.int .u64 wd) := (HP.out.1.cell 5).trans rfl
  go_wp2_with fail
  refine (take_any wd w HK.out).mono ?_
  rintro e w5 ⟨rfl, hw5⟩
  rw [hw5, HNN.out]
  clear hw5 w5 HK HNN c5 HP
  generalize (wd % 2 == 1) = b5
  have sx : w.drew.cell? ⟨mb, 2, none⟩ = some (.pointer (some ⟨X.x, 0, none⟩)) ∧ w.drew.cell? ⟨mb, 4, none⟩ = some (.int .i64 sl) ∧ w.drew.cell? ⟨mb, 5, none⟩ = some (.int .u64 wd) := ⟨(HD.out.1.cell 2).trans rfl, (HD.out.1.cell 4).trans rfl, (HD.out.1.cell 5).trans rfl⟩
  go_wp2_with fail
  (refine wp_region_held_drew (S := (fun Z => Z.cell? ⟨mb, 2, none⟩ = some (.pointer (some ⟨X.x, 0, none⟩)) ∧ Z.cell? ⟨mb, 4, none⟩ = some (.int .i64 sl) ∧ Z.cell? ⟨mb, 5, none⟩ = some (.int .u64 wd))) (by kernel_rfl) sx (fun hHeld => ?_); simp only [List.size_toArray, List.length_cons, List.length_nil, Nat.reduceAdd, Array.replicate_succ, Array.replicate_zero, List.push_toArray, List.append_toArray, List.nil_append, List.cons_append])
  clear sx
  refine rgT 0 (h := ?_)
  refine rgT 1 (h := ?_)
  refine rgT 2 (h := ?_)
  refine rgT 3 (h := ?_)
  refine rgT 4 (h := ?_)
  refine rgT 5 (h := ?_)
  refine rgT 6 (h := ?_)
  refine rgT 7 (h := ?_)
  refine rgT 8 (h := ?_)
  refine rgT 9 (h := ?_)
  refine rgT 10 (h := ?_)
  refine rgT 11 (h := ?_)
  refine rgT 12 (h := ?_)
  (refine rgS 13 (h := fun K hK => ?_); go_simp)
  refine (HMM.out ()).mono ?_
  rintro e w1 ⟨rfl, hw1⟩
  rw [hw1]
  clear hw1 w1 HMM
  (refine hK.out _ _ ⟨(HD.out.1.cell 2).trans rfl, (HD.out.1.cell 4).trans rfl, (HD.out.1.cell 5).trans rfl⟩ (fun hHeld => ?_); clear hK K; try simp only [Act.put, List.setIfInBounds_toArray, List.set_cons_zero, List.set_cons_succ])
  (refine rgS 14 (h := fun K hK => ?_); go_simp)
  refine (HSS.out ()).mono ?_
  rintro e w2 ⟨rfl, hc2, k2⟩
  have H2 : Hid (MB w2 L Q S2 X x mb (remA mb X.x ff co bu sl wd ah pr be ma he) 155 ∧ Keeps (mkF L X mb) w w2) := ⟨HD.out.1.call hc2 k2, HD.out.2.trans (kF k2)⟩
  clear hc2 k2 HD HSS
  (refine hK.out _ _ ⟨(H2.out.1.cell 2).trans rfl, (H2.out.1.cell 4).trans rfl, (H2.out.1.cell 5).trans rfl⟩ (fun hHeld => ?_); clear hK K; try simp only [Act.put, List.setIfInBounds_toArray, List.set_cons_zero, List.set_cons_succ])
  refine rgT 15 (h := ?_)
  refine rgT 16 (h := ?_)
  refine rgT 17 (h := ?_)
  refine rgT 18 (h := ?_)
  refine rgT 19 (h := ?_)
  refine wpAnyH_done (by kernel_rfl) ?_ _
  clear hHeld
  clear hHeld
  clear hHeld
  have c9 : w2.cell? ⟨mb, 9, none⟩ = some (.bool ma) := (H2.out.1.cell 9).trans rfl
  have f9 := H2.out.1.fz 9
  have H3 : Hid (MB (w2.setCell ⟨mb, 9, none⟩ (.bool true)) L Q S2 X x mb (remA mb X.x ff co bu sl wd ah pr be true he) 155 ∧ Keeps (mkF L X mb) w (w2.setCell ⟨mb, 9, none⟩ (.bool true))) := ⟨(H2.out.1.set 9 _).1, H2.out.2.trans (kM (H2.out.1.set 9 _).2)⟩
  clear H2
  go_wp2_with fail
  clear c9 f9
  generalize w2.setCell ⟨mb, 9, none⟩ (.bool true) = w3 at *
  refine (job_goOn w3 mb (nxV 171 mb) _ _ _ H3.out.1.m rfl ⟨_, _, rfl⟩).mono ?_
  rintro e w9 ⟨rfl, hm9, k9⟩
  have H9 : Hid (CH w9 L Q (S2) X (x) ∧ RemH w9 mb X.x ⟨3, co, bu, sl, wd, ah, pr, be, true, he⟩ ∧ Keeps (mkF L X mb) w w9) := ⟨(H3.out.1.own hm9 k9).h, hm9, H3.out.2.trans (kM k9)⟩
  clear hm9 k9 H3
  go_wp2
  go_ret
  exact ⟨rfl, H9.out⟩
theorem rem_pres_dead (w : World) (L : Lay) (Q : List Nat) (S : AS) (X : XL) (x : XS) (mb ff : Nat) (co bu sl wd ah pr be : Int) (ma : Bool) (he : Int) (h : CH w L Q S X x) (hm : w.heap[mb]? = some (.cells (remA mb X.x ff co bu sl wd ah pr be ma he) 155)) (hn : ¬ chF L X mb) (hl : liv S pr = false) : Calls Tryz.prog 220 #[.pointer (some ⟨mb, 0, none⟩)] w (StpR w L Q X mb (true, ⟨mis1 S, x⟩, ⟨6, 22, bu, sl, wd, ah, pr, be, ma, he⟩)) := by
  have H0 : MB w L Q S X x mb (remA mb X.x ff co bu sl wd ah pr be ma he) 155 := ⟨h, hm, hn⟩
  have HD : Hid (MB w.drew L Q S X x mb (remA mb X.x ff co bu sl wd ah pr be ma he) 155 ∧ Keeps (mkF L X mb) w w.drew) := ⟨H0.drew, (Keeps.refl _ _).drew⟩
  have HP : Hid (MB w L Q S X x mb (remA mb X.x ff co bu sl wd ah pr be ma he) 155 ∧ Keeps (mkF L X mb) w w) := ⟨H0, Keeps.refl _ _⟩
  clear h hm hn H0
  have HL := ix_loadLink_no w.drew L Q S X x pr HD.out.1.h hl
  have HLL : Hid (∀ _ : Unit, _) := fun _ => HL
  clear HL hl
  go_enter Tryz.func220, Tryz.ntmps220
  have sx : w.drew.cell? ⟨mb, 2, none⟩ = some (.pointer (some ⟨X.x, 0, none⟩)) ∧ w.drew.cell? ⟨mb, 7, none⟩ = some (.int .i64 pr) := ⟨(HD.out.1.cell 2).trans rfl, (HD.out.1.cell 7).trans rfl⟩
  go_wp2_with fail
  (refine wp_region_held_drew (S := (fun Z => Z.cell? ⟨mb, 2, none⟩ = some (.pointer (some ⟨X.x, 0, none⟩)) ∧ Z.cell? ⟨mb, 7, none⟩ = some (.int .i64 pr))) (by kernel_rfl) sx (fun hHeld => ?_); simp only [List.size_toArray, List.length_cons, List.length_nil, Nat.reduceAdd, Array.replicate_succ, Array.replicate_zero, List.push_toArray, List.append_toArray, List.nil_append, List.cons_append])
  clear sx
  refine rgT 0 (h := ?_)
  refine rgT 1 (h := ?_)
  refine rgT 2 (h := ?_)
  refine rgT 3 (h := ?_)
  refine rgT 4 (h := ?_)
  refine rgT 5 (h := ?_)
  refine rgT 6 (h := ?_)
  refine rgT 7 (h := ?_)
  (refine rgS 8 (h := fun K hK => ?_); go_simp)
  refine (HLL.out ()).mono ?_
  rintro e w2 ⟨rfl, hc2, k2⟩
  have H2 : Hid (MB w2 L Q (mis1 S) X x mb (remA mb X.x ff co bu sl wd ah pr be ma he) 155 ∧ Keeps (mkF L X mb) w w2) := ⟨HD.out.1.call hc2 k2, HD.out.2.trans (kF k2)⟩
  clear hc2 k2 HD HLL HP
  (refine hK.out _ _ ⟨(H2.out.1.cell 2).trans rfl, (H2.out.1.cell 7).trans rfl⟩ (fun hHeld => ?_); clear hK K; try simp only [Act.put, List.setIfInBounds_toArray, List.set_cons_zero, List.set_cons_succ])
  refine rgT 9 (h := ?_)
  refine rgT 10 (h := ?_)
  refine rgT 11 (h := ?_)
  refine rgT 12 (h := ?_)
  refine rgT 13 (h := ?_)
  refine wpAnyH_done (by kernel_rfl) ?_ _
  clear hHeld
  clear hHeld
  go_wp2_with fail
  refine (job_done w2 mb 22 _ _ _ _ H2.out.1.m rfl rfl).mono ?_
  rintro e w9 ⟨rfl, hm9, k9⟩
  have H9 : Hid (CH w9 L Q (mis1 S) X (x) ∧ RemH w9 mb X.x ⟨6, 22, bu, sl, wd, ah, pr, be, ma, he⟩ ∧ Keeps (mkF L X mb) w w9) := ⟨(H2.out.1.own hm9 k9).h, hm9, H2.out.2.trans (kM k9)⟩
  clear hm9 k9 H2
  go_wp2
  go_ret
  exact ⟨rfl, H9.out⟩
theorem rem_pres_zero (w : World) (L : Lay) (Q : List Nat) (S : AS) (X : XL) (x : XS) (mb ff : Nat) (co bu sl wd ah pr be : Int) (ma : Bool) (he : Int) (h : CH w L Q S X x) (hm : w.heap[mb]? = some (.cells (remA mb X.x ff co bu sl wd ah pr be ma he) 155)) (hn : ¬ chF L X mb) (v : Int) (hv : S.word (atC S pr x.cell) = v) (hk : LkOk v) (hl : liv S pr = true) (hz : v / 2 = 0) : Calls Tryz.prog 220 #[.pointer (some ⟨mb, 0, none⟩)] w (StpR w L Q X mb (true, ⟨acc1 S, x⟩, ⟨6, 42, bu, sl, wd, ah, pr, be, ma, he⟩)) := by
  have H0 : MB w L Q S X x mb (remA mb X.x ff co bu sl wd ah pr be ma he) 155 := ⟨h, hm, hn⟩
  have HD : Hid (MB w.drew L Q S X x mb (remA mb X.x ff co bu sl wd ah pr be ma he) 155 ∧ Keeps (mkF L X mb) w w.drew) := ⟨H0.drew, (Keeps.refl _ _).drew⟩
  have HP : Hid (MB w L Q S X x mb (remA mb X.x ff co bu sl wd ah pr be ma he) 155 ∧ Keeps (mkF L X mb) w w) := ⟨H0, Keeps.refl _ _⟩
  clear h hm hn H0
  have HL := ix_loadLink w.drew L Q S X x pr HD.out.1.h hl
  rw [hv] at HL
  have HLL : Hid (∀ _ : Unit, _) := fun _ => HL
  clear HL hl hv
  have HK : Hid (LkOk v) := hk
  have HNN : Hid (v / 2 = 0) := hz
  clear hk hz
  go_enter Tryz.func220, Tryz.ntmps220
  have sx : w.drew.cell? ⟨mb, 2, none⟩ = some (.pointer (some ⟨X.x, 0, none⟩)) ∧ w.drew.cell? ⟨mb, 7, none⟩ = some (.int .i64 pr) := ⟨(HD.out.1.cell 2).trans rfl, (HD.out.1.cell 7).trans rfl⟩
  go_wp2_with fail
  (refine wp_region_held_drew (S := (fun Z => Z.cell? ⟨mb, 2, none⟩ = some (.pointer (some ⟨X.x, 0, none⟩)) ∧ Z.cell? ⟨mb, 7, none⟩ = some (.int .i64 pr))) (by kernel_rfl) sx (fun hHeld => ?_); simp only [List.size_toArray, List.length_cons, List.length_nil, Nat.reduceAdd, Array.replicate_succ, Array.replicate_zero, List.push_toArray, List.append_toArray, List.nil_append, List.cons_append])
  clear sx
  refine rgT 0 (h := ?_)
  refine rgT 1 (h := ?_)
  refine rgT 2 (h := ?_)
  refine rgT 3 (h := ?_)
  refine rgT 4 (h := ?_)
  refine rgT 5 (h := ?_)
  refine rgT 6 (h := ?_)
  refine rgT 7 (h := ?_)
  (refine rgS 8 (h := fun K hK => ?_); go_simp)
  refine (HLL.out ()).mono ?_
  rintro e w2 ⟨rfl, hc2, k2⟩
  have H2 : Hid (MB w2 L Q (acc1 S) X x mb (remA mb X.x ff co bu sl wd ah pr be ma he) 155 ∧ Keeps (mkF L X mb) w w2) := ⟨HD.out.1.call hc2 k2, HD.out.2.trans (kF k2)⟩
  clear hc2 k2 HD HLL HP
  (refine hK.out _ _ ⟨(H2.out.1.cell 2).trans rfl, (H2.out.1.cell 7).trans rfl⟩ (fun hHeld => ?_); clear hK K; try simp only [Act.put, List.setIfInBounds_toArray, List.set_cons_zero, List.set_cons_succ])
  refine rgT 9 (h := ?_)
  refine rgT 10 (h := ?_)
  refine rgT 11 (h := ?_)
  refine rgT 12 (h := ?_)
  refine rgT 13 (h := ?_)
  refine wpAnyH_done (by kernel_rfl) ?_ _
  clear hHeld
  clear hHeld
  go_wp2_with fail
  refine (take_any v w2 HK.out).mono ?_
  rintro e w5 ⟨rfl, hw5⟩
  rw [hw5, HNN.out]
  clear hw5 w5 HK HNN
  generalize (v % 2 == 1) = b5
  go_wp2_with fail
  refine (job_done w2 mb 42 _ _ _ _ H2.out.1.m rfl rfl).mono ?_
  rintro e w9 ⟨rfl, hm9, k9⟩
  have H9 : Hid (CH w9 L Q (acc1 S) X (x) ∧ RemH w9 mb X.x ⟨6, 42, bu, sl, wd, ah, pr, be, ma, he⟩ ∧ Keeps (mkF L X mb) w w9) := ⟨(H2.out.1.own hm9 k9).h, hm9, H2.out.2.trans (kM k9)⟩
  clear hm9 k9 H2
  go_wp2
  go_ret
  exact ⟨rfl, H9.out⟩
theorem rem_pres_marked (w : World) (L : Lay) (Q : List Nat) (S : AS) (X : XL) (x : XS) (mb ff : Nat) (co bu sl wd ah pr be : Int) (ma : Bool) (he : Int) (h : CH w L Q S X x) (hm : w.heap[mb]? = some (.cells (remA mb X.x ff co bu sl wd ah pr be ma he) 155)) (hn : ¬ chF L X mb) (v : Int) (hv : S.word (atC S pr x.cell) = v) (hk : LkOk v) (hl : liv S pr = true) (hz : ¬ v / 2 = 0) (hm2 : (v % 2 == 1) = true) : Calls Tryz.prog 220 #[.pointer (some ⟨mb, 0, none⟩)] w (StpR w L Q X mb (false, ⟨acc1 S, x⟩, ⟨5, co, bu, sl, wd, ah, pr, v / 2, ma, he⟩)) := by
  have H0 : MB w L Q S X x mb (remA mb X.x ff co bu sl wd ah pr be ma he) 155 := ⟨h, hm, hn⟩
  have HD : Hid (MB w.drew L Q S X x mb (remA mb X.x ff co bu sl wd ah pr be ma he) 155 ∧ Keeps (mkF L X mb) w w.drew) := ⟨H0.drew, (Keeps.refl _ _).drew⟩
  have HP : Hid (MB w L Q S X x mb (remA mb X.x ff co bu sl wd ah pr be ma he) 155 ∧ Keeps (mkF L X mb) w w) := ⟨H0, Keeps.refl _ _⟩
  clear h hm hn H0
  have HL := ix_loadLink w.drew L Q S X x pr HD.out.1.h hl
  rw [hv] at HL
  have HLL : Hid (∀ _ : Unit, _) := fun _ => HL
  clear HL hl hv
  have HK : Hid (LkOk v) := hk
  obtain ⟨n, hnn⟩ : ∃ n, v / 2 = n := ⟨_, rfl⟩
  rw [hnn] at hz ⊢
  have HNN : Hid (v / 2 = n) := hnn
  clear hk hnn
  have hz2 : (n == 0) = false := by simp [hz]
  have HMK : Hid ((v % 2 == 1) = true) := hm2
  clear hm2 hz
  go_enter Tryz.func220, Tryz.ntmps220
  have sx : w.drew.cell? ⟨mb, 2, none⟩ = some (.pointer (some ⟨X.x, 0, none⟩)) ∧ w.drew.cell? ⟨mb, 7, none⟩ = some (.int .i64 pr) := ⟨(HD.out.1.cell 2).trans rfl, (HD.out.1.cell 7).trans rfl⟩
  go_wp2_with fail
  (refine wp_region_held_drew (S := (fun Z => Z.cell? ⟨mb, 2, none⟩ = some (.pointer (some ⟨X.x, 0, none⟩)) ∧ Z.cell? ⟨mb, 7, none⟩ = some (.int .i64 pr))) (by kernel_rfl) sx (fun hHeld => ?_); simp only [List.size_toArray, List.length_cons, List.length_nil, Nat.reduceAdd, Array.replicate_succ, Array.replicate_zero, List.push_toArray, List.append_toArray, List.nil_append, List.cons_append])
  clear sx
  refine rgT 0 (h := ?_)
  refine rgT 1 (h := ?_)
  refine rgT 2 (h := ?_)
  refine rgT 3 (h := ?_)
  refine rgT 4 (h := ?_)
  refine rgT 5 (h := ?_)
  refine rgT 6 (h := ?_)
  refine rgT 7 (h := ?_)
  (refine rgS 8 (h := fun K hK => ?_); go_simp)
  refine (HLL.out ()).mono ?_
  rintro e w2 ⟨rfl, hc2, k2⟩
  have H2 : Hid (MB w2 L Q (acc1 S) X x mb (remA mb X.x ff co bu sl wd ah pr be ma he) 155 ∧ Keeps (mkF L X mb) w w2) := ⟨HD.out.1.call hc2 k2, HD.out.2.trans (kF k2)⟩
  clear hc2 k2 HD HLL HP
  (refine hK.out _ _ ⟨(H2.out.1.cell 2).trans rfl, (H2.out.1.cell 7).trans rfl⟩ (fun hHeld => ?_); clear hK K; try simp only [Act.put, List.setIfInBounds_toArray, List.set_cons_zero, List.set_cons_succ])
  refine rgT 9 (h := ?_)
  refine rgT 10 (h := ?_)
  refine rgT 11 (h := ?_)
  refine rgT 12 (h := ?_)
  refine rgT 13 (h := ?_)
  refine wpAnyH_done (by kernel_rfl) ?_ _
  clear hHeld
  clear hHeld
  go_wp2_with fail
  refine (take_any v w2 HK.out).mono ?_
  rintro e w5 ⟨rfl, hw5⟩
  rw [hw5, HNN.out]
  clear hw5 w5 HK HNN
  rw [HMK.out]
  clear HMK
  have c8 : w2.cell? ⟨mb, 8, none⟩ = some (.int .i64 be) := (H2.out.1.cell 8).trans rfl
  have f8 := H2.out.1.fz 8
  have H3 : Hid (MB (w2.setCell ⟨mb, 8, none⟩ (.int .i64 n)) L Q (acc1 S) X x mb (remA mb X.x ff co bu sl wd ah pr n ma he) 155 ∧ Keeps (mkF L X mb) w (w2.setCell ⟨mb, 8, none⟩ (.int .i64 n))) := ⟨(H2.out.1.set 8 _).1, H2.out.2.trans (kM (H2.out.1.set 8 _).2)⟩
  clear H2
  go_wp2_with fail
  clear c8 f8
  generalize w2.setCell ⟨mb, 8, none⟩ (.int .i64 n) = w3 at *
  refine (job_goOn w3 mb (nxV 224 mb) _ _ _ H3.out.1.m rfl ⟨_, _, rfl⟩).mono ?_
  rintro e w9 ⟨rfl, hm9, k9⟩
  have H9 : Hid (CH w9 L Q (acc1 S) X (x) ∧ RemH w9 mb X.x ⟨5, co, bu, sl, wd, ah, pr, n, ma, he⟩ ∧ Keeps (mkF L X mb) w w9) := ⟨(H3.out.1.own hm9 k9).h, hm9, H3.out.2.trans (kM k9)⟩
  clear hm9 k9 H3
  go_wp2
  go_ret
  exact ⟨rfl, H9.out⟩
theorem rem_pres_on (w : World) (L : Lay) (Q : List Nat) (S : AS) (X : XL) (x : XS) (mb ff : Nat) (co bu sl wd ah pr be : Int) (ma : Bool) (he : Int) (h : CH w L Q S X x) (hm : w.heap[mb]? = some (.cells (remA mb X.x ff co bu sl wd ah pr be ma he) 155)) (hn : ¬ chF L X mb) (v : Int) (hv : S.word (atC S pr x.cell) = v) (hk : LkOk v) (hl : liv S pr = true) (hz : ¬ v / 2 = 0) (hm2 : (v % 2 == 1) = false) : Calls Tryz.prog 220 #[.pointer (some ⟨mb, 0, none⟩)] w (StpR w L Q X mb ((mvR ⟨4, co, bu, sl, wd, pr, pr, be, ma, he⟩ (v / 2)).1, ⟨acc1 S, x⟩, (mvR ⟨4, co, bu, sl, wd, pr, pr, be, ma, he⟩ (v / 2)).2)) := by
  have H0 : MB w L Q S X x mb (remA mb X.x ff co bu sl wd ah pr be ma he) 155 := ⟨h, hm, hn⟩
  have HD : Hid (MB w.drew L Q S X x mb (remA mb X.x ff co bu sl wd ah pr be ma he) 155 ∧ Keeps (mkF L X mb) w w.drew) := ⟨H0.drew, (Keeps.refl _ _).drew⟩
  have HP : Hid (MB w L Q S X x mb (remA mb X.x ff co bu sl wd ah pr be ma he) 155 ∧ Keeps (mkF L X mb) w w) := ⟨H0, Keeps.refl _ _⟩
  clear h hm hn H0
  have HL := ix_loadLink w.drew L Q S X x pr HD.out.1.h hl
  rw [hv] at HL
  have HLL : Hid (∀ _ : Unit, _) := fun _ => HL
  clear HL hl hv
  have HK : Hid (LkOk v) := hk
  obtain ⟨n, hnn⟩ : ∃ n, v / 2 = n := ⟨_, rfl⟩
  rw [hnn] at hz ⊢
  have HNN : Hid (v / 2 = n) := hnn
  clear hk hnn
  have hz2 : (n == 0) = false := by simp [hz]
  have HMK : Hid ((v % 2 == 1) = false) := hm2
  clear hm2 hz
  obtain ⟨q, hq⟩ : ∃ q, mvR ⟨4, co, bu, sl, wd, pr, pr, be, ma, he⟩ n = q := ⟨_, rfl⟩
  have HMV : Hid (∀ W, W.heap[mb]? = some (.cells (remA mb X.x ff co bu sl wd pr pr be ma he) 155) → Calls Tryz.prog 210 #[.pointer (some ⟨mb, 0, none⟩), .int .i64 n] W fun e w' => e = .returned (.bool q.1) ∧ RemH w' mb X.x q.2 ∧ Keeps (fun g => g = mb) W w') := fun W hW => by
    rw [← hq]
    exact rem_moveA W mb X.x ff co bu sl wd pr pr be ma he n 4 hW
  rw [hq]
  clear hq
  go_enter Tryz.func220, Tryz.ntmps220
  have sx : w.drew.cell? ⟨mb, 2, none⟩ = some (.pointer (some ⟨X.x, 0, none⟩)) ∧ w.drew.cell? ⟨mb, 7, none⟩ = some (.int .i64 pr) := ⟨(HD.out.1.cell 2).trans rfl, (HD.out.1.cell 7).trans rfl⟩
  go_wp2_with fail
  (refine wp_region_held_drew (S := (fun Z => Z.cell? ⟨mb, 2, none⟩ = some (.pointer (some ⟨X.x, 0, none⟩)) ∧ Z.cell? ⟨mb, 7, none⟩ = some (.int .i64 pr))) (by kernel_rfl) sx (fun hHeld => ?_); simp only [List.size_toArray, List.length_cons, List.length_nil, Nat.reduceAdd, Array.replicate_succ, Array.replicate_zero, List.push_toArray, List.append_toArray, List.nil_append, List.cons_append])
  clear sx
  refine rgT 0 (h := ?_)
  refine rgT 1 (h := ?_)
  refine rgT 2 (h := ?_)
  refine rgT 3 (h := ?_)
  refine rgT 4 (h := ?_)
  refine rgT 5 (h := ?_)
  refine rgT 6 (h := ?_)
  refine rgT 7 (h := ?_)
  (refine rgS 8 (h := fun K hK => ?_); go_simp)
  refine (HLL.out ()).mono ?_
  rintro e w2 ⟨rfl, hc2, k2⟩
  have H2 : Hid (MB w2 L Q (acc1 S) X x mb (remA mb X.x ff co bu sl wd ah pr be ma he) 155 ∧ Keeps (mkF L X mb) w w2) := ⟨HD.out.1.call hc2 k2, HD.out.2.trans (kF k2)⟩
  clear hc2 k2 HD HLL HP
  (refine hK.out _ _ ⟨(H2.out.1.cell 2).trans rfl, (H2.out.1.cell 7).trans rfl⟩ (fun hHeld => ?_); clear hK K; try simp only [Act.put, List.setIfInBounds_toArray, List.set_cons_zero, List.set_cons_succ])
  refine rgT 9 (h := ?_)
  refine rgT 10 (h := ?_)
  refine rgT 11 (h := ?_)
  refine rgT 12 (h := ?_)
  refine rgT 13 (h := ?_)
  refine wpAnyH_done (by kernel_rfl) ?_ _
  clear hHeld
  clear hHeld
  go_wp2_with fail
  refine (take_any v w2 HK.out).mono ?_
  rintro e w5 ⟨rfl, hw5⟩
  rw [hw5, HNN.out]
  clear hw5 w5 HK HNN
  rw [HMK.out]
  clear HMK
  have c7 : w2.cell? ⟨mb, 7, none⟩ = some (.int .i64 pr) := (H2.out.1.cell 7).trans rfl
  have c6 : w2.cell? ⟨mb, 6, none⟩ = some (.int .i64 ah) := (H2.out.1.cell 6).trans rfl
  have f6 := H2.out.1.fz 6
  have H3 : Hid (MB (w2.setCell ⟨mb, 6, none⟩ (.int .i64 pr)) L Q (acc1 S) X x mb (remA mb X.x ff co bu sl wd pr pr be ma he) 155 ∧ Keeps (mkF L X mb) w (w2.setCell ⟨mb, 6, none⟩ (.int .i64 pr))) := ⟨(H2.out.1.set 6 _).1, H2.out.2.trans (kM (H2.out.1.set 6 _).2)⟩
  clear H2
  go_wp2_with fail
  clear c6 f6 c7
  generalize w2.setCell ⟨mb, 6, none⟩ (.int .i64 pr) = w3 at *
  refine (HMV.out w3 H3.out.1.m).mono ?_
  rintro e w9 ⟨rfl, hm9, k9⟩
  have H9 : Hid (CH w9 L Q (acc1 S) X (x) ∧ RemH w9 mb X.x q.2 ∧ Keeps (mkF L X mb) w w9) := ⟨(H3.out.1.own hm9 k9).h, hm9, H3.out.2.trans (kM k9)⟩
  clear hm9 k9 H3 HMV
  go_wp2
  go_ret
  exact ⟨rfl, H9.out⟩
theorem rem_ah_head_hit (w : World) (L : Lay) (Q : List Nat) (S : AS) (X : XL) (x : XS) (mb ff : Nat) (co bu sl wd ah pr be : Int) (ma : Bool) (he : Int) (u y : Int) (h : MB w L Q S X x mb (remA mb X.x ff co bu sl wd ah pr be ma he) 155) (ha : ah = 0) (b : Nat) (hb : bu = (b : Int)) (hb1 : b < x.nb) (hu : x.hd b = u) : Calls Tryz.prog 227 #[.pointer (some ⟨mb, 0, none⟩), .int .u64 u, .int .u64 y] w fun e w' => e = .returned (.tuple #[.bool true, .int .i64 0]) ∧ CH w' L Q (S) X ({ x.cn1 with hd := upd x.hd b y }) ∧ Keeps (chF L X) w w' := by
  subst hb
  have c6 : w.cell? ⟨mb, 6, none⟩ = some (.int .i64 ah) := (h.cell 6).trans rfl
  have HD : Hid (MB w.drew L Q S X x mb (remA mb X.x ff co (b : Int) sl wd ah pr be ma he) 155 ∧ Keeps (chF L X) w w.drew) := ⟨h.drew, (Keeps.refl _ _).drew⟩
  obtain ⟨T2, hT2⟩ : ∃ T2 : CS, ⟨S, { x.cn1 with hd := upd x.hd b y }⟩ = T2 := ⟨_, rfl⟩
  have HS := ix_swap_hit w.drew L.b X x b hb1 u y HD.out.1.h.i hu
  have HF : Hid (∀ w', CH w' L Q (S) X ({ x.cn1 with hd := upd x.hd b y }) → CH w' L Q T2.S X T2.x) := fun w' c => by rw [← hT2]; exact c
  have HB : Hid (∀ w', CH w' L Q T2.S X T2.x → CH w' L Q (S) X ({ x.cn1 with hd := upd x.hd b y })) := fun w' c => by rw [← hT2] at c; exact c
  have HSS : Hid (∀ _ : Unit, _) := fun _ => HS
  clear h HS hT2
  subst ha
  go_enter Tryz.func227, Tryz.ntmps227
  have sx : w.drew.cell? ⟨mb, 2, none⟩ = some (.pointer (some ⟨X.x, 0, none⟩)) ∧ w.drew.cell? ⟨mb, 3, none⟩ = some (.int .i64 (b : Int)) := ⟨(HD.out.1.cell 2).trans rfl, (HD.out.1.cell 3).trans rfl⟩
  go_wp2_with fail
  clear c6
  (refine wp_region_held_drew (S := (fun Z => Z.cell? ⟨mb, 2, none⟩ = some (.pointer (some ⟨X.x, 0, none⟩)) ∧ Z.cell? ⟨mb, 3, none⟩ = some (.int .i64 (b : Int)))) (by kernel_rfl) sx (fun hHeld => ?_); simp only [List.size_toArray, List.length_cons, List.length_nil, Nat.reduceAdd, Array.replicate_succ, Array.replicate_zero, List.push_toArray, List.append_toArray, List.nil_append, List.cons_append])
  clear sx
  refine rgT 0 (h := ?_)
  refine rgT 1 (h := ?_)
  refine rgT 2 (h := ?_)
  refine rgT 3 (h := ?_)
  refine rgT 4 (h := ?_)
  refine rgT 5 (h := ?_)
  refine rgT 6 (h := ?_)
  refine rgT 7 (h := ?_)
  refine rgT 8 (h := ?_)
  refine rgT 9 (h := ?_)
  (refine rgS 10 (h := fun K hK => ?_); go_simp)
  refine (HSS.out ()).mono ?_
  rintro e w2 ⟨rfl, hc2, k2⟩
  have hc3 : CH w2 L Q (S) X ({ x.cn1 with hd := upd x.hd b y }) ∧ Keeps (chF L X) w.drew w2 := ⟨HD.out.1.h.ix hc2 k2 rfl, k2.mono (fun _ e => .inr e)⟩
  have H2 : Hid (MB w2 L Q T2.S X T2.x mb (remA mb X.x ff co (b : Int) sl wd 0 pr be ma he) 155 ∧ Keeps (chF L X) w w2) := ⟨HD.out.1.call (HF.out w2 hc3.1) hc3.2, HD.out.2.trans hc3.2⟩
  clear hc2 k2 HD HSS hc3 HF
  (refine hK.out _ _ ⟨(H2.out.1.cell 2).trans rfl, (H2.out.1.cell 3).trans rfl⟩ (fun hHeld => ?_); clear hK K; try simp only [Act.put, List.setIfInBounds_toArray, List.set_cons_zero, List.set_cons_succ])
  refine rgT 11 (h := ?_)
  refine rgT 12 (h := ?_)
  refine wpAnyH_done (by kernel_rfl) ?_ _
  clear hHeld
  clear hHeld
  go_wp2
  go_ret2
  exact ⟨rfl, HB.out _ H2.out.1.h, H2.out.2⟩
theorem rem_ah_head_miss (w : World) (L : Lay) (Q : List Nat) (S : AS) (X : XL) (x : XS) (mb ff : Nat) (co bu sl wd ah pr be : Int) (ma : Bool) (he : Int) (u y : Int) (h : MB w L Q S X x mb (remA mb X.x ff co bu sl wd ah pr be ma he) 155) (ha : ah = 0) (b : Nat) (hb : bu = (b : Int)) (hb1 : b < x.nb) (hu : ¬ x.hd b = u) : Calls Tryz.prog 227 #[.pointer (some ⟨mb, 0, none⟩), .int .u64 u, .int .u64 y] w fun e w' => e = .returned (.tuple #[.bool false, .int .i64 0]) ∧ CH w' L Q (S) X (x.cn1) ∧ Keeps (chF L X) w w' := by
  subst hb
  have c6 : w.cell? ⟨mb, 6, none⟩ = some (.int .i64 ah) := (h.cell 6).trans rfl
  have HD : Hid (MB w.drew L Q S X x mb (remA mb X.x ff co (b : Int) sl wd ah pr be ma he) 155 ∧ Keeps (chF L X) w w.drew) := ⟨h.drew, (Keeps.refl _ _).drew⟩
  obtain ⟨T2, hT2⟩ : ∃ T2 : CS, ⟨S, x.cn1⟩ = T2 := ⟨_, rfl⟩
  have HS := ix_swap_miss w.drew L.b X x b hb1 u y HD.out.1.h.i hu
  have HF : Hid (∀ w', CH w' L Q (S) X (x.cn1) → CH w' L Q T2.S X T2.x) := fun w' c => by rw [← hT2]; exact c
  have HB : Hid (∀ w', CH w' L Q T2.S X T2.x → CH w' L Q (S) X (x.cn1)) := fun w' c => by rw [← hT2] at c; exact c
  have HSS : Hid (∀ _ : Unit, _) := fun _ => HS
  clear h HS hT2
  subst ha
  go_enter Tryz.func227, Tryz.ntmps227
  have sx : w.drew.cell? ⟨mb, 2, none⟩ = some (.pointer (some ⟨X.x, 0, none⟩)) ∧ w.drew.cell? ⟨mb, 3, none⟩ = some (.int .i64 (b : Int)) := ⟨(HD.out.1.cell 2).trans rfl, (HD.out.1.cell 3).trans rfl⟩
  go_wp2_with fail
  clear c6
  (refine wp_region_held_drew (S := (fun Z => Z.cell? ⟨mb, 2, none⟩ = some (.pointer (some ⟨X.x, 0, none⟩)) ∧ Z.cell? ⟨mb, 3, none⟩ = some (.int .i64 (b : Int)))) (by kernel_rfl) sx (fun hHeld => ?_); simp only [List.size_toArray, List.length_cons, List.length_nil, Nat.reduceAdd, Array.replicate_succ, Array.replicate_zero, List.push_toArray, List.append_toArray, List.nil_append, List.cons_append])
  clear sx
  refine rgT 0 (h := ?_)
  refine rgT 1 (h := ?_)
  refine rgT 2 (h := ?_)
  refine rgT 3 (h := ?_)
  refine rgT 4 (h := ?_)
  refine rgT 5 (h := ?_)
  refine rgT 6 (h := ?_)
  refine rgT 7 (h := ?_)
  refine rgT 8 (h := ?_)
  refine rgT 9 (h := ?_)
  (refine rgS 10 (h := fun K hK => ?_); go_simp)
  refine (HSS.out ()).mono ?_
  rintro e w2 ⟨rfl, hc2, k2⟩
  have hc3 : CH w2 L Q (S) X (x.cn1) ∧ Keeps (chF L X) w.drew w2 := ⟨HD.out.1.h.ix hc2 k2 rfl, k2.mono (fun _ e => .inr e)⟩
  have H2 : Hid (MB w2 L Q T2.S X T2.x mb (remA mb X.x ff co (b : Int) sl wd 0 pr be ma he) 155 ∧ Keeps (chF L X) w w2) := ⟨HD.out.1.call (HF.out w2 hc3.1) hc3.2, HD.out.2.trans hc3.2⟩
  clear hc2 k2 HD HSS hc3 HF
  (refine hK.out _ _ ⟨(H2.out.1.cell 2).trans rfl, (H2.out.1.cell 3).trans rfl⟩ (fun hHeld => ?_); clear hK K; try simp only [Act.put, List.setIfInBounds_toArray, List.set_cons_zero, List.set_cons_succ])
  refine rgT 11 (h := ?_)
  refine rgT 12 (h := ?_)
  refine wpAnyH_done (by kernel_rfl) ?_ _
  clear hHeld
  clear hHeld
  go_wp2
  go_ret2
  exact ⟨rfl, HB.out _ H2.out.1.h, H2.out.2⟩
theorem rem_ah_link_hit (w : World) (L : Lay) (Q : List Nat) (S : AS) (X : XL) (x : XS) (mb ff : Nat) (co bu sl wd ah pr be : Int) (ma : Bool) (he : Int) (u y : Int) (h : MB w L Q S X x mb (remA mb X.x ff co bu sl wd ah pr be ma he) 155) (ha : ¬ ah = 0) (hl : liv S ah = true) (hu : S.word (atC S ah x.cell) = u) : Calls Tryz.prog 227 #[.pointer (some ⟨mb, 0, none⟩), .int .u64 u, .int .u64 y] w fun e w' => e = .returned (.tuple #[.bool true, .int .i64 0]) ∧ CH w' L Q (put1 S (atC S ah x.cell) y) X (x) ∧ Keeps (chF L X) w w' := by
  have c6 : w.cell? ⟨mb, 6, none⟩ = some (.int .i64 ah) := (h.cell 6).trans rfl
  have HD : Hid (MB w.drew L Q S X x mb (remA mb X.x ff co bu sl wd ah pr be ma he) 155 ∧ Keeps (chF L X) w w.drew) := ⟨h.drew, (Keeps.refl _ _).drew⟩
  obtain ⟨T2, hT2⟩ : ∃ T2 : CS, ⟨put1 S (atC S ah x.cell) y, x⟩ = T2 := ⟨_, rfl⟩
  have HS := ix_swapLink_hit w.drew L Q S X x ah u y HD.out.1.h hl hu
  have HF : Hid (∀ w', CH w' L Q (put1 S (atC S ah x.cell) y) X (x) → CH w' L Q T2.S X T2.x) := fun w' c => by rw [← hT2]; exact c
  have HB : Hid (∀ w', CH w' L Q T2.S X T2.x → CH w' L Q (put1 S (atC S ah x.cell) y) X (x)) := fun w' c => by rw [← hT2] at c; exact c
  have HSS : Hid (∀ _ : Unit, _) := fun _ => HS
  clear h HS hT2
  have ha2 : (ah == 0) = false := by simp [ha]
  go_enter Tryz.func227, Tryz.ntmps227
  have sx : w.drew.cell? ⟨mb, 2, none⟩ = some (.pointer (some ⟨X.x, 0, none⟩)) ∧ w.drew.cell? ⟨mb, 6, none⟩ = some (.int .i64 ah) := ⟨(HD.out.1.cell 2).trans rfl, (HD.out.1.cell 6).trans rfl⟩
  go_wp2_with fail
  clear c6
  (refine wp_region_held_drew (S := (fun Z => Z.cell? ⟨mb, 2, none⟩ = some (.pointer (some ⟨X.x, 0, none⟩)) ∧ Z.cell? ⟨mb, 6, none⟩ = some (.int .i64 ah))) (by kernel_rfl) sx (fun hHeld => ?_); simp only [List.size_toArray, List.length_cons, List.length_nil, Nat.reduceAdd, Array.replicate_succ, Array.replicate_zero, List.push_toArray, List.append_toArray, List.nil_append, List.cons_append])
  clear sx
  refine rgT 0 (h := ?_)
  refine rgT 1 (h := ?_)
  refine rgT 2 (h := ?_)
  refine rgT 3 (h := ?_)
  refine rgT 4 (h := ?_)
  refine rgT 5 (h := ?_)
  refine rgT 6 (h := ?_)
  refine rgT 7 (h := ?_)
  refine rgT 8 (h := ?_)
  refine rgT 9 (h := ?_)
  (refine rgS 10 (h := fun K hK => ?_); go_simp)
  refine (HSS.out ()).mono ?_
  rintro e w2 ⟨rfl, hc2, k2⟩
  have hc3 : CH w2 L Q (put1 S (atC S ah x.cell) y) X (x) ∧ Keeps (chF L X) w.drew w2 := ⟨hc2, k2⟩
  have H2 : Hid (MB w2 L Q T2.S X T2.x mb (remA mb X.x ff co bu sl wd ah pr be ma he) 155 ∧ Keeps (chF L X) w w2) := ⟨HD.out.1.call (HF.out w2 hc3.1) hc3.2, HD.out.2.trans hc3.2⟩
  clear hc2 k2 HD HSS hc3 HF
  (refine hK.out _ _ ⟨(H2.out.1.cell 2).trans rfl, (H2.out.1.cell 6).trans rfl⟩ (fun hHeld => ?_); clear hK K; try simp only [Act.put, List.setIfInBounds_toArray, List.set_cons_zero, List.set_cons_succ])
  refine rgT 11 (h := ?_)
  refine rgT 12 (h := ?_)
  refine rgT 13 (h := ?_)
  refine rgT 14 (h := ?_)
  refine wpAnyH_done (by kernel_rfl) ?_ _
  clear hHeld
  clear hHeld
  go_wp2
  go_ret2
  exact ⟨rfl, HB.out _ H2.out.1.h, H2.out.2⟩
theorem rem_ah_link_miss (w : World) (L : Lay) (Q : List Nat) (S : AS) (X : XL) (x : XS) (mb ff : Nat) (co bu sl wd ah pr be : Int) (ma : Bool) (he : Int) (u y : Int) (h : MB w L Q S X x mb (remA mb X.x ff co bu sl wd ah pr be ma he) 155) (ha : ¬ ah = 0) (hl : liv S ah = true) (hu : ¬ S.word (atC S ah x.cell) = u) : Calls Tryz.prog 227 #[.pointer (some ⟨mb, 0, none⟩), .int .u64 u, .int .u64 y] w fun e w' => e = .returned (.tuple #[.bool false, .int .i64 0]) ∧ CH w' L Q (acc1 S) X (x) ∧ Keeps (chF L X) w w' := by
  have c6 : w.cell? ⟨mb, 6, none⟩ = some (.int .i64 ah) := (h.cell 6).trans rfl
  have HD : Hid (MB w.drew L Q S X x mb (remA mb X.x ff co bu sl wd ah pr be ma he) 155 ∧ Keeps (chF L X) w w.drew) := ⟨h.drew, (Keeps.refl _ _).drew⟩
  obtain ⟨T2, hT2⟩ : ∃ T2 : CS, ⟨acc1 S, x⟩ = T2 := ⟨_, rfl⟩
  have HS := ix_swapLink_miss w.drew L Q S X x ah u y HD.out.1.h hl hu
  have HF : Hid (∀ w', CH w' L Q (acc1 S) X (x) → CH w' L Q T2.S X T2.x) := fun w' c => by rw [← hT2]; exact c
  have HB : Hid (∀ w', CH w' L Q T2.S X T2.x → CH w' L Q (acc1 S) X (x)) := fun w' c => by rw [← hT2] at c; exact c
  have HSS : Hid (∀ _ : Unit, _) := fun _ => HS
  clear h HS hT2
  have ha2 : (ah == 0) = false := by simp [ha]
  go_enter Tryz.func227, Tryz.ntmps227
  have sx : w.drew.cell? ⟨mb, 2, none⟩ = some (.pointer (some ⟨X.x, 0, none⟩)) ∧ w.drew.cell? ⟨mb, 6, none⟩ = some (.int .i64 ah) := ⟨(HD.out.1.cell 2).trans rfl, (HD.out.1.cell 6).trans rfl⟩
  go_wp2_with fail
  clear c6
  (refine wp_region_held_drew (S := (fun Z => Z.cell? ⟨mb, 2, none⟩ = some (.pointer (some ⟨X.x, 0, none⟩)) ∧ Z.cell? ⟨mb, 6, none⟩ = some (.int .i64 ah))) (by kernel_rfl) sx (fun hHeld => ?_); simp only [List.size_toArray, List.length_cons, List.length_nil, Nat.reduceAdd, Array.replicate_succ, Array.replicate_zero, List.push_toArray, List.append_toArray, List.nil_append, List.cons_append])
  clear sx
  refine rgT 0 (h := ?_)
  refine rgT 1 (h := ?_)
  refine rgT 2 (h := ?_)
  refine rgT 3 (h := ?_)
  refine rgT 4 (h := ?_)
  refine rgT 5 (h := ?_)
  refine rgT 6 (h := ?_)
  refine rgT 7 (h := ?_)
  refine rgT 8 (h := ?_)
  refine rgT 9 (h := ?_)
  (refine rgS 10 (h := fun K hK => ?_); go_simp)
  refine (HSS.out ()).mono ?_
  rintro e w2 ⟨rfl, hc2, k2⟩
  have hc3 : CH w2 L Q (acc1 S) X (x) ∧ Keeps (chF L X) w.drew w2 := ⟨hc2, k2⟩
  have H2 : Hid (MB w2 L Q T2.S X T2.x mb (remA mb X.x ff co bu sl wd ah pr be ma he) 155 ∧ Keeps (chF L X) w w2) := ⟨HD.out.1.call (HF.out w2 hc3.1) hc3.2, HD.out.2.trans hc3.2⟩
  clear hc2 k2 HD HSS hc3 HF
  (refine hK.out _ _ ⟨(H2.out.1.cell 2).trans rfl, (H2.out.1.cell 6).trans rfl⟩ (fun hHeld => ?_); clear hK K; try simp only [Act.put, List.setIfInBounds_toArray, List.set_cons_zero, List.set_cons_succ])
  refine rgT 11 (h := ?_)
  refine rgT 12 (h := ?_)
  refine rgT 13 (h := ?_)
  refine rgT 14 (h := ?_)
  refine wpAnyH_done (by kernel_rfl) ?_ _
  clear hHeld
  clear hHeld
  go_wp2
  go_ret2
  exact ⟨rfl, HB.out _ H2.out.1.h, H2.out.2⟩
theorem rem_ah_link_dead (w : World) (L : Lay) (Q : List Nat) (S : AS) (X : XL) (x : XS) (mb ff : Nat) (co bu sl wd ah pr be : Int) (ma : Bool) (he : Int) (u y : Int) (h : MB w L Q S X x mb (remA mb X.x ff co bu sl wd ah pr be ma he) 155) (ha : ¬ ah = 0) (hl : liv S ah = false) : Calls Tryz.prog 227 #[.pointer (some ⟨mb, 0, none⟩), .int .u64 u, .int .u64 y] w fun e w' => e = .returned (.tuple #[.bool false, .int .i64 22]) ∧ CH w' L Q (mis1 S) X (x) ∧ Keeps (chF L X) w w' := by
  have c6 : w.cell? ⟨mb, 6, none⟩ = some (.int .i64 ah) := (h.cell 6).trans rfl
  have HD : Hid (MB w.drew L Q S X x mb (remA mb X.x ff co bu sl wd ah pr be ma he) 155 ∧ Keeps (chF L X) w w.drew) := ⟨h.drew, (Keeps.refl _ _).drew⟩
  obtain ⟨T2, hT2⟩ : ∃ T2 : CS, ⟨mis1 S, x⟩ = T2 := ⟨_, rfl⟩
  have HS := ix_swapLink_no w.drew L Q S X x ah u y HD.out.1.h hl
  have HF : Hid (∀ w', CH w' L Q (mis1 S) X (x) → CH w' L Q T2.S X T2.x) := fun w' c => by rw [← hT2]; exact c
  have HB : Hid (∀ w', CH w' L Q T2.S X T2.x → CH w' L Q (mis1 S) X (x)) := fun w' c => by rw [← hT2] at c; exact c
  have HSS : Hid (∀ _ : Unit, _) := fun _ => HS
  clear h HS hT2
  have ha2 : (ah == 0) = false := by simp [ha]
  go_enter Tryz.func227, Tryz.ntmps227
  have sx : w.drew.cell? ⟨mb, 2, none⟩ = some (.pointer (some ⟨X.x, 0, none⟩)) ∧ w.drew.cell? ⟨mb, 6, none⟩ = some (.int .i64 ah) := ⟨(HD.out.1.cell 2).trans rfl, (HD.out.1.cell 6).trans rfl⟩
  go_wp2_with fail
  clear c6
  (refine wp_region_held_drew (S := (fun Z => Z.cell? ⟨mb, 2, none⟩ = some (.pointer (some ⟨X.x, 0, none⟩)) ∧ Z.cell? ⟨mb, 6, none⟩ = some (.int .i64 ah))) (by kernel_rfl) sx (fun hHeld => ?_); simp only [List.size_toArray, List.length_cons, List.length_nil, Nat.reduceAdd, Array.replicate_succ, Array.replicate_zero, List.push_toArray, List.append_toArray, List.nil_append, List.cons_append])
  clear sx
  refine rgT 0 (h := ?_)
  refine rgT 1 (h := ?_)
  refine rgT 2 (h := ?_)
  refine rgT 3 (h := ?_)
  refine rgT 4 (h := ?_)
  refine rgT 5 (h := ?_)
  refine rgT 6 (h := ?_)
  refine rgT 7 (h := ?_)
  refine rgT 8 (h := ?_)
  refine rgT 9 (h := ?_)
  (refine rgS 10 (h := fun K hK => ?_); go_simp)
  refine (HSS.out ()).mono ?_
  rintro e w2 ⟨rfl, hc2, k2⟩
  have hc3 : CH w2 L Q (mis1 S) X (x) ∧ Keeps (chF L X) w.drew w2 := ⟨hc2, k2⟩
  have H2 : Hid (MB w2 L Q T2.S X T2.x mb (remA mb X.x ff co bu sl wd ah pr be ma he) 155 ∧ Keeps (chF L X) w w2) := ⟨HD.out.1.call (HF.out w2 hc3.1) hc3.2, HD.out.2.trans hc3.2⟩
  clear hc2 k2 HD HSS hc3 HF
  (refine hK.out _ _ ⟨(H2.out.1.cell 2).trans rfl, (H2.out.1.cell 6).trans rfl⟩ (fun hHeld => ?_); clear hK K; try simp only [Act.put, List.setIfInBounds_toArray, List.set_cons_zero, List.set_cons_succ])
  refine rgT 11 (h := ?_)
  refine rgT 12 (h := ?_)
  refine rgT 13 (h := ?_)
  refine rgT 14 (h := ?_)
  refine wpAnyH_done (by kernel_rfl) ?_ _
  clear hHeld
  clear hHeld
  go_wp2
  go_ret2
  exact ⟨rfl, HB.out _ H2.out.1.h, H2.out.2⟩
end Go.Proofs.YteekompojgbkhaaGreat
