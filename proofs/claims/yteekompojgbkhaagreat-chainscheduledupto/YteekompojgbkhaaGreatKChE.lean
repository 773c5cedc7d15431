import Derived.Test.YteekompojgbkhaaGreatKChD
namespace Go.Proofs.YteekompojgbkhaaGreat
set_option linter.unusedSimpArgs false
open Go.ChangeShapes Go.WideShapes Go.ChangeAt Go.RowKit Go.MuLone Go.RwLone
set_option linter.unusedVariables false
set_option maxRecDepth 100000
set_option maxHeartbeats 3200000
theorem ins_begin_out (w : World) (L : Lay) (Q : List Nat) (S : AS) (X : XL) (x : XS) (mb : Nat) (m : MI) (h : CH w L Q S X x) (hm : InsH w mb X.x m) (hn : ¬ chF L X mb) (hs : m.st = 0) (hb : inB x m.bu = false) : Calls Tryz.prog 48 #[.pointer (some ⟨mb, 0, none⟩)] w (StpI w L Q X mb (insP S x m)) := by
  obtain ⟨st, co, bu, sl, hd, tr⟩ := m
  obtain rfl : st = 0 := hs
  have H0 : MB w L Q S X x mb (insA mb X.x 48 co bu sl hd tr) 106 := ⟨h, hm, hn⟩
  have HD : Hid (MB w.drew L Q S X x mb (insA mb X.x 48 co bu sl hd tr) 106 ∧ Keeps (mkF L X mb) w w.drew) := ⟨H0.drew, (Keeps.refl _ _).drew⟩
  clear h hm hn H0
  have e1 : insP S x ⟨0, co, bu, sl, hd, tr⟩ = (true, ⟨S, x⟩, ⟨4, 40, bu, sl, hd, tr⟩) := by
    have hb : inB x bu = false := hb
    show (if inB x bu then _ else _) = _
    rw [hb]
    rfl
  rw [e1]
  clear e1
  have HB := ix_has w.drew L.b X x bu HD.out.1.h.i
  have hb' : inB x bu = false := hb
  rw [hb'] at HB
  have HBB : Hid (∀ _ : Unit, _) := fun _ => HB
  clear HB hb hb'
  go_enter Tryz.func48, Tryz.ntmps48
  have sx : w.drew.cell? ⟨mb, 2, none⟩ = some (.pointer (some ⟨X.x, 0, none⟩)) ∧ w.drew.cell? ⟨mb, 3, none⟩ = some (.int .i64 bu) := ⟨(HD.out.1.cell 2).trans rfl, (HD.out.1.cell 3).trans rfl⟩
  go_wp2_with fail
  (refine wp_region_held_drew (S := (fun Z => Z.cell? ⟨mb, 2, none⟩ = some (.pointer (some ⟨X.x, 0, none⟩)) ∧ Z.cell? ⟨mb, 3, none⟩ = some (.int .i64 bu))) (by kernel_rfl) sx (fun hHeld => ?_); simp only [List.size_toArray, List.length_cons, List.length_nil, Nat.reduceAdd, Array.replicate_succ, Array.replicate_zero, List.push_toArray, List.append_toArray, List.nil_append, List.cons_append])
  clear sx
  refine rgT 0 (h := ?_)
  refine rgT 1 (h := ?_)
  refine rgT 2 (h := ?_)
  refine rgT 3 (h := ?_)
  refine rgT 4 (h := ?_)
  refine rgT 5 (h := ?_)
  refine rgT 6 (h := ?_)
  refine rgT 7 (h := ?_)
  (refine rgS 8 (h := fun K hK => ?_); go_simp)
  refine (HBB.out ()).mono ?_
  rintro e w1 ⟨rfl, rfl⟩
  clear HBB
  (refine hK.out _ _ ⟨(HD.out.1.cell 2).trans rfl, (HD.out.1.cell 3).trans rfl⟩ (fun hHeld => ?_); clear hK K; try simp only [Act.put, List.setIfInBounds_toArray, List.set_cons_zero, List.set_cons_succ])
  refine rgT 9 (h := ?_)
  refine wpAnyH_done (by kernel_rfl) ?_ _
  clear hHeld
  clear hHeld
  generalize w.drew = w1 at *
  go_wp2_with fail
  refine (job_done w1 mb 40 _ _ _ _ HD.out.1.m rfl rfl).mono ?_
  rintro e w9 ⟨rfl, hm9, k9⟩
  have H9 : Hid (CH w9 L Q (S) X (x) ∧ InsH w9 mb X.x ⟨4, 40, bu, sl, hd, tr⟩ ∧ Keeps (mkF L X mb) w w9) := ⟨(HD.out.1.own hm9 k9).h, hm9, HD.out.2.trans (kM k9)⟩
  clear hm9 k9 HD
  go_wp2
  go_ret
  exact ⟨rfl, H9.out⟩
theorem ins_begin_dead (w : World) (L : Lay) (Q : List Nat) (S : AS) (X : XL) (x : XS) (mb : Nat) (m : MI) (h : CH w L Q S X x) (hm : InsH w mb X.x m) (hn : ¬ chF L X mb) (hs : m.st = 0) (hb : inB x m.bu = true) (hl : liv S m.sl = false) : Calls Tryz.prog 48 #[.pointer (some ⟨mb, 0, none⟩)] w (StpI w L Q X mb (insP S x m)) := by
  obtain ⟨st, co, bu, sl, hd, tr⟩ := m
  obtain rfl : st = 0 := hs
  have H0 : MB w L Q S X x mb (insA mb X.x 48 co bu sl hd tr) 106 := ⟨h, hm, hn⟩
  have HD : Hid (MB w.drew L Q S X x mb (insA mb X.x 48 co bu sl hd tr) 106 ∧ Keeps (mkF L X mb) w w.drew) := ⟨H0.drew, (Keeps.refl _ _).drew⟩
  clear h hm hn H0
  have e1 : insP S x ⟨0, co, bu, sl, hd, tr⟩ = (true, ⟨mis1 S, x⟩, ⟨4, 22, bu, sl, hd, tr⟩) := by
    have hb : inB x bu = true := hb
    have hl : liv S sl = false := hl
    show (if inB x bu then (if liv S sl then _ else _) else _) = _
    rw [hb, hl]
    rfl
  rw [e1]
  clear e1
  have HB := ix_has w.drew L.b X x bu HD.out.1.h.i
  have hb' : inB x bu = true := hb
  rw [hb'] at HB
  have HBB : Hid (∀ _ : Unit, _) := fun _ => HB
  clear HB hb hb'
  have HL : Hid (∀ W, CH W L Q S X x → Calls Tryz.prog 88 #[.pointer (some ⟨X.x, 0, none⟩), .int .i64 sl] W fun e w' => e = .returned (.tuple #[.int .u64 0, .int .i64 22]) ∧ CH w' L Q (mis1 S) X x ∧ Keeps (chF L X) W w') := fun W hW => by
    have := ix_loadLink_no W L Q S X x sl hW hl
    exact this
  clear hl
  go_enter Tryz.func48, Tryz.ntmps48
  have sx : w.drew.cell? ⟨mb, 2, none⟩ = some (.pointer (some ⟨X.x, 0, none⟩)) ∧ w.drew.cell? ⟨mb, 3, none⟩ = some (.int .i64 bu) := ⟨(HD.out.1.cell 2).trans rfl, (HD.out.1.cell 3).trans rfl⟩
  go_wp2_with fail
  (refine wp_region_held_drew (S := (fun Z => Z.cell? ⟨mb, 2, none⟩ = some (.pointer (some ⟨X.x, 0, none⟩)) ∧ Z.cell? ⟨mb, 3, none⟩ = some (.int .i64 bu))) (by kernel_rfl) sx (fun hHeld => ?_); simp only [List.size_toArray, List.length_cons, List.length_nil, Nat.reduceAdd, Array.replicate_succ, Array.replicate_zero, List.push_toArray, List.append_toArray, List.nil_append, List.cons_append])
  clear sx
  refine rgT 0 (h := ?_)
  refine rgT 1 (h := ?_)
  refine rgT 2 (h := ?_)
  refine rgT 3 (h := ?_)
  refine rgT 4 (h := ?_)
  refine rgT 5 (h := ?_)
  refine rgT 6 (h := ?_)
  refine rgT 7 (h := ?_)
  (refine rgS 8 (h := fun K hK => ?_); go_simp)
  refine (HBB.out ()).mono ?_
  rintro e w1 ⟨rfl, rfl⟩
  clear HBB
  (refine hK.out _ _ ⟨(HD.out.1.cell 2).trans rfl, (HD.out.1.cell 3).trans rfl⟩ (fun hHeld => ?_); clear hK K; try simp only [Act.put, List.setIfInBounds_toArray, List.set_cons_zero, List.set_cons_succ])
  refine rgT 9 (h := ?_)
  refine wpAnyH_done (by kernel_rfl) ?_ _
  clear hHeld
  clear hHeld
  generalize w.drew = w1 at *
  have HE : Hid (MB w1.drew L Q S X x mb (insA mb X.x 48 co bu sl hd tr) 106 ∧ Keeps (mkF L X mb) w w1.drew) := ⟨HD.out.1.drew, HD.out.2.drew⟩
  clear HD
  have sx : w1.drew.cell? ⟨mb, 2, none⟩ = some (.pointer (some ⟨X.x, 0, none⟩)) ∧ w1.drew.cell? ⟨mb, 4, none⟩ = some (.int .i64 sl) := ⟨(HE.out.1.cell 2).trans rfl, (HE.out.1.cell 4).trans rfl⟩
  go_wp2_with fail
  (refine wp_region_held_drew (S := (fun Z => Z.cell? ⟨mb, 2, none⟩ = some (.pointer (some ⟨X.x, 0, none⟩)) ∧ Z.cell? ⟨mb, 4, none⟩ = some (.int .i64 sl))) (by kernel_rfl) sx (fun hHeld => ?_); simp only [List.size_toArray, List.length_cons, List.length_nil, Nat.reduceAdd, Array.replicate_succ, Array.replicate_zero, List.push_toArray, List.append_toArray, List.nil_append, List.cons_append])
  clear sx
  refine rgT 0 (h := ?_)
  refine rgT 1 (h := ?_)
  refine rgT 2 (h := ?_)
  refine rgT 3 (h := ?_)
  refine rgT 4 (h := ?_)
  refine rgT 5 (h := ?_)
  refine rgT 6 (h := ?_)
  refine rgT 7 (h := ?_)
  (refine rgS 8 (h := fun K hK => ?_); go_simp)
  refine (HL.out w1.drew HE.out.1.h).mono ?_
  rintro e w2 ⟨rfl, hc2, k2⟩
  have H2 : Hid (MB w2 L Q (mis1 S) X x mb (insA mb X.x 48 co bu sl hd tr) 106 ∧ Keeps (mkF L X mb) w w2) := ⟨HE.out.1.call hc2 k2, HE.out.2.trans (kF k2)⟩
  clear hc2 k2 HE HL
  (refine hK.out _ _ ⟨(H2.out.1.cell 2).trans rfl, (H2.out.1.cell 4).trans rfl⟩ (fun hHeld => ?_); clear hK K; try simp only [Act.put, List.setIfInBounds_toArray, List.set_cons_zero, List.set_cons_succ])
  refine rgT 9 (h := ?_)
  refine rgT 10 (h := ?_)
  refine rgT 11 (h := ?_)
  refine rgT 12 (h := ?_)
  refine rgT 13 (h := ?_)
  refine wpAnyH_done (by kernel_rfl) ?_ _
  clear hHeld
  clear hHeld
  go_wp2_with fail
  refine (job_done w2 mb 22 _ _ _ _ H2.out.1.m rfl rfl).mono ?_
  rintro e w9 ⟨rfl, hm9, k9⟩
  have H9 : Hid (CH w9 L Q (mis1 S) X (x) ∧ InsH w9 mb X.x ⟨4, 22, bu, sl, hd, tr⟩ ∧ Keeps (mkF L X mb) w w9) := ⟨(H2.out.1.own hm9 k9).h, hm9, H2.out.2.trans (kM k9)⟩
  clear hm9 k9 H2
  go_wp2
  go_ret
  exact ⟨rfl, H9.out⟩
theorem ins_begin_full (w : World) (L : Lay) (Q : List Nat) (S : AS) (X : XL) (x : XS) (mb : Nat) (m : MI) (h : CH w L Q S X x) (hm : InsH w mb X.x m) (hn : ¬ chF L X mb) (hs : m.st = 0) (hb : inB x m.bu = true) (hl : liv S m.sl = true) (hw : ¬ S.word (atC S m.sl x.cell) = 0) : Calls Tryz.prog 48 #[.pointer (some ⟨mb, 0, none⟩)] w (StpI w L Q X mb (insP S x m)) := by
  obtain ⟨st, co, bu, sl, hd, tr⟩ := m
  obtain rfl : st = 0 := hs
  have H0 : MB w L Q S X x mb (insA mb X.x 48 co bu sl hd tr) 106 := ⟨h, hm, hn⟩
  have HD : Hid (MB w.drew L Q S X x mb (insA mb X.x 48 co bu sl hd tr) 106 ∧ Keeps (mkF L X mb) w w.drew) := ⟨H0.drew, (Keeps.refl _ _).drew⟩
  clear h hm hn H0
  have e1 : insP S x ⟨0, co, bu, sl, hd, tr⟩ = (true, ⟨acc1 S, x⟩, ⟨4, 41, bu, sl, hd, tr⟩) := by
    have hb : inB x bu = true := hb
    have hl : liv S sl = true := hl
    show (if inB x bu then (if liv S sl then _ else _) else _) = _
    rw [hb, hl]
    have hw : ¬ S.word (atC S sl x.cell) = 0 := hw
    show (if S.word (atC S sl x.cell) = 0 then _ else _) = _
    rw [if_neg hw]
  rw [e1]
  clear e1
  have HB := ix_has w.drew L.b X x bu HD.out.1.h.i
  have hb' : inB x bu = true := hb
  rw [hb'] at HB
  have HBB : Hid (∀ _ : Unit, _) := fun _ => HB
  clear HB hb hb'
  have HL : Hid (∀ W, CH W L Q S X x → Calls Tryz.prog 88 #[.pointer (some ⟨X.x, 0, none⟩), .int .i64 sl] W fun e w' => e = .returned (.tuple #[.int .u64 (S.word (atC S sl x.cell)), .int .i64 0]) ∧ CH w' L Q (acc1 S) X x ∧ Keeps (chF L X) W w') := fun W hW => by
    have := ix_loadLink W L Q S X x sl hW hl
    exact this
  obtain ⟨wd, hwd⟩ : ∃ wd, S.word (atC S sl x.cell) = wd := ⟨_, rfl⟩
  have hwn : ¬ wd = 0 := by rw [← hwd]; exact hw
  rw [hwd] at HL
  clear hwd hw
  clear hl
  go_enter Tryz.func48, Tryz.ntmps48
  have sx : w.drew.cell? ⟨mb, 2, none⟩ = some (.pointer (some ⟨X.x, 0, none⟩)) ∧ w.drew.cell? ⟨mb, 3, none⟩ = some (.int .i64 bu) := ⟨(HD.out.1.cell 2).trans rfl, (HD.out.1.cell 3).trans rfl⟩
  go_wp2_with fail
  (refine wp_region_held_drew (S := (fun Z => Z.cell? ⟨mb, 2, none⟩ = some (.pointer (some ⟨X.x, 0, none⟩)) ∧ Z.cell? ⟨mb, 3, none⟩ = some (.int .i64 bu))) (by kernel_rfl) sx (fun hHeld => ?_); simp only [List.size_toArray, List.length_cons, List.length_nil, Nat.reduceAdd, Array.replicate_succ, Array.replicate_zero, List.push_toArray, List.append_toArray, List.nil_append, List.cons_append])
  clear sx
  refine rgT 0 (h := ?_)
  refine rgT 1 (h := ?_)
  refine rgT 2 (h := ?_)
  refine rgT 3 (h := ?_)
  refine rgT 4 (h := ?_)
  refine rgT 5 (h := ?_)
  refine rgT 6 (h := ?_)
  refine rgT 7 (h := ?_)
  (refine rgS 8 (h := fun K hK => ?_); go_simp)
  refine (HBB.out ()).mono ?_
  rintro e w1 ⟨rfl, rfl⟩
  clear HBB
  (refine hK.out _ _ ⟨(HD.out.1.cell 2).trans rfl, (HD.out.1.cell 3).trans rfl⟩ (fun hHeld => ?_); clear hK K; try simp only [Act.put, List.setIfInBounds_toArray, List.set_cons_zero, List.set_cons_succ])
  refine rgT 9 (h := ?_)
  refine wpAnyH_done (by kernel_rfl) ?_ _
  clear hHeld
  clear hHeld
  generalize w.drew = w1 at *
  have HE : Hid (MB w1.drew L Q S X x mb (insA mb X.x 48 co bu sl hd tr) 106 ∧ Keeps (mkF L X mb) w w1.drew) := ⟨HD.out.1.drew, HD.out.2.drew⟩
  clear HD
  have sx : w1.drew.cell? ⟨mb, 2, none⟩ = some (.pointer (some ⟨X.x, 0, none⟩)) ∧ w1.drew.cell? ⟨mb, 4, none⟩ = some (.int .i64 sl) := ⟨(HE.out.1.cell 2).trans rfl, (HE.out.1.cell 4).trans rfl⟩
  go_wp2_with fail
  (refine wp_region_held_drew (S := (fun Z => Z.cell? ⟨mb, 2, none⟩ = some (.pointer (some ⟨X.x, 0, none⟩)) ∧ Z.cell? ⟨mb, 4, none⟩ = some (.int .i64 sl))) (by kernel_rfl) sx (fun hHeld => ?_); simp only [List.size_toArray, List.length_cons, List.length_nil, Nat.reduceAdd, Array.replicate_succ, Array.replicate_zero, List.push_toArray, List.append_toArray, List.nil_append, List.cons_append])
  clear sx
  refine rgT 0 (h := ?_)
  refine rgT 1 (h := ?_)
  refine rgT 2 (h := ?_)
  refine rgT 3 (h := ?_)
  refine rgT 4 (h := ?_)
  refine rgT 5 (h := ?_)
  refine rgT 6 (h := ?_)
  refine rgT 7 (h := ?_)
  (refine rgS 8 (h := fun K hK => ?_); go_simp)
  refine (HL.out w1.drew HE.out.1.h).mono ?_
  rintro e w2 ⟨rfl, hc2, k2⟩
  have H2 : Hid (MB w2 L Q (acc1 S) X x mb (insA mb X.x 48 co bu sl hd tr) 106 ∧ Keeps (mkF L X mb) w w2) := ⟨HE.out.1.call hc2 k2, HE.out.2.trans (kF k2)⟩
  clear hc2 k2 HE HL
  (refine hK.out _ _ ⟨(H2.out.1.cell 2).trans rfl, (H2.out.1.cell 4).trans rfl⟩ (fun hHeld => ?_); clear hK K; try simp only [Act.put, List.setIfInBounds_toArray, List.set_cons_zero, List.set_cons_succ])
  refine rgT 9 (h := ?_)
  refine rgT 10 (h := ?_)
  refine rgT 11 (h := ?_)
  refine rgT 12 (h := ?_)
  refine rgT 13 (h := ?_)
  refine wpAnyH_done (by kernel_rfl) ?_ _
  clear hHeld
  clear hHeld
  go_wp2_with fail
  refine (job_done w2 mb 41 _ _ _ _ H2.out.1.m rfl rfl).mono ?_
  rintro e w9 ⟨rfl, hm9, k9⟩
  have H9 : Hid (CH w9 L Q (acc1 S) X (x) ∧ InsH w9 mb X.x ⟨4, 41, bu, sl, hd, tr⟩ ∧ Keeps (mkF L X mb) w w9) := ⟨(H2.out.1.own hm9 k9).h, hm9, H2.out.2.trans (kM k9)⟩
  clear hm9 k9 H2
  go_wp2
  go_ret
  exact ⟨rfl, H9.out⟩
theorem ins_begin_go (w : World) (L : Lay) (Q : List Nat) (S : AS) (X : XL) (x : XS) (mb : Nat) (m : MI) (h : CH w L Q S X x) (hm : InsH w mb X.x m) (hn : ¬ chF L X mb) (hs : m.st = 0) (hb : inB x m.bu = true) (hl : liv S m.sl = true) (hw : S.word (atC S m.sl x.cell) = 0) : Calls Tryz.prog 48 #[.pointer (some ⟨mb, 0, none⟩)] w (StpI w L Q X mb (insP S x m)) := by
  obtain ⟨st, co, bu, sl, hd, tr⟩ := m
  obtain rfl : st = 0 := hs
  have H0 : MB w L Q S X x mb (insA mb X.x 48 co bu sl hd tr) 106 := ⟨h, hm, hn⟩
  have HD : Hid (MB w.drew L Q S X x mb (insA mb X.x 48 co bu sl hd tr) 106 ∧ Keeps (mkF L X mb) w w.drew) := ⟨H0.drew, (Keeps.refl _ _).drew⟩
  clear h hm hn H0
  have e1 : insP S x ⟨0, co, bu, sl, hd, tr⟩ = (false, ⟨acc1 S, x⟩, ⟨1, co, bu, sl, hd, tr⟩) := by
    have hb : inB x bu = true := hb
    have hl : liv S sl = true := hl
    show (if inB x bu then (if liv S sl then _ else _) else _) = _
    rw [hb, hl]
    have hw : S.word (atC S sl x.cell) = 0 := hw
    show (if S.word (atC S sl x.cell) = 0 then _ else _) = _
    rw [if_pos hw]
  rw [e1]
  clear e1
  have HB := ix_has w.drew L.b X x bu HD.out.1.h.i
  have hb' : inB x bu = true := hb
  rw [hb'] at HB
  have HBB : Hid (∀ _ : Unit, _) := fun _ => HB
  clear HB hb hb'
  have HL : Hid (∀ W, CH W L Q S X x → Calls Tryz.prog 88 #[.pointer (some ⟨X.x, 0, none⟩), .int .i64 sl] W fun e w' => e = .returned (.tuple #[.int .u64 0, .int .i64 0]) ∧ CH w' L Q (acc1 S) X x ∧ Keeps (chF L X) W w') := fun W hW => by
    have := ix_loadLink W L Q S X x sl hW hl
    rw [show S.word (atC S sl x.cell) = 0 from hw] at this
    exact this
  clear hw
  clear hl
  go_enter Tryz.func48, Tryz.ntmps48
  have sx : w.drew.cell? ⟨mb, 2, none⟩ = some (.pointer (some ⟨X.x, 0, none⟩)) ∧ w.drew.cell? ⟨mb, 3, none⟩ = some (.int .i64 bu) := ⟨(HD.out.1.cell 2).trans rfl, (HD.out.1.cell 3).trans rfl⟩
  go_wp2_with fail
  (refine wp_region_held_drew (S := (fun Z => Z.cell? ⟨mb, 2, none⟩ = some (.pointer (some ⟨X.x, 0, none⟩)) ∧ Z.cell? ⟨mb, 3, none⟩ = some (.int .i64 bu))) (by kernel_rfl) sx (fun hHeld => ?_); simp only [List.size_toArray, List.length_cons, List.length_nil, Nat.reduceAdd, Array.replicate_succ, Array.replicate_zero, List.push_toArray, List.append_toArray, List.nil_append, List.cons_append])
  clear sx
  refine rgT 0 (h := ?_)
  refine rgT 1 (h := ?_)
  refine rgT 2 (h := ?_)
  refine rgT 3 (h := ?_)
  refine rgT 4 (h := ?_)
  refine rgT 5 (h := ?_)
  refine rgT 6 (h := ?_)
  refine rgT 7 (h := ?_)
  (refine rgS 8 (h := fun K hK => ?_); go_simp)
  refine (HBB.out ()).mono ?_
  rintro e w1 ⟨rfl, rfl⟩
  clear HBB
  (refine hK.out _ _ ⟨(HD.out.1.cell 2).trans rfl, (HD.out.1.cell 3).trans rfl⟩ (fun hHeld => ?_); clear hK K; try simp only [Act.put, List.setIfInBounds_toArray, List.set_cons_zero, List.set_cons_succ])
  refine rgT 9 (h := ?_)
  refine wpAnyH_done (by kernel_rfl) ?_ _
  clear hHeld
  clear hHeld
  generalize w.drew = w1 at *
  have HE : Hid (MB w1.drew L Q S X x mb (insA mb X.x 48 co bu sl hd tr) 106 ∧ Keeps (mkF L X mb) w w1.drew) := ⟨HD.out.1.drew, HD.out.2.drew⟩
  clear HD
  have sx : w1.drew.cell? ⟨mb, 2, none⟩ = some (.pointer (some ⟨X.x, 0, none⟩)) ∧ w1.drew.cell? ⟨mb, 4, none⟩ = some (.int .i64 sl) := ⟨(HE.out.1.cell 2).trans rfl, (HE.out.1.cell 4).trans rfl⟩
  go_wp2_with fail
  (refine wp_region_held_drew (S := (fun Z => Z.cell? ⟨mb, 2, none⟩ = some (.pointer (some ⟨X.x, 0, none⟩)) ∧ Z.cell? ⟨mb, 4, none⟩ = some (.int .i64 sl))) (by kernel_rfl) sx (fun hHeld => ?_); simp only [List.size_toArray, List.length_cons, List.length_nil, Nat.reduceAdd, Array.replicate_succ, Array.replicate_zero, List.push_toArray, List.append_toArray, List.nil_append, List.cons_append])
  clear sx
  refine rgT 0 (h := ?_)
  refine rgT 1 (h := ?_)
  refine rgT 2 (h := ?_)
  refine rgT 3 (h := ?_)
  refine rgT 4 (h := ?_)
  refine rgT 5 (h := ?_)
  refine rgT 6 (h := ?_)
  refine rgT 7 (h := ?_)
  (refine rgS 8 (h := fun K hK => ?_); go_simp)
  refine (HL.out w1.drew HE.out.1.h).mono ?_
  rintro e w2 ⟨rfl, hc2, k2⟩
  have H2 : Hid (MB w2 L Q (acc1 S) X x mb (insA mb X.x 48 co bu sl hd tr) 106 ∧ Keeps (mkF L X mb) w w2) := ⟨HE.out.1.call hc2 k2, HE.out.2.trans (kF k2)⟩
  clear hc2 k2 HE HL
  (refine hK.out _ _ ⟨(H2.out.1.cell 2).trans rfl, (H2.out.1.cell 4).trans rfl⟩ (fun hHeld => ?_); clear hK K; try simp only [Act.put, List.setIfInBounds_toArray, List.set_cons_zero, List.set_cons_succ])
  refine rgT 9 (h := ?_)
  refine rgT 10 (h := ?_)
  refine rgT 11 (h := ?_)
  refine rgT 12 (h := ?_)
  refine rgT 13 (h := ?_)
  refine wpAnyH_done (by kernel_rfl) ?_ _
  clear hHeld
  clear hHeld
  go_wp2_with fail
  refine (job_goOn w2 mb (nxV 90 mb) _ _ _ H2.out.1.m rfl ⟨_, _, rfl⟩).mono ?_
  rintro e w9 ⟨rfl, hm9, k9⟩
  have H9 : Hid (CH w9 L Q (acc1 S) X (x) ∧ InsH w9 mb X.x ⟨1, co, bu, sl, hd, tr⟩ ∧ Keeps (mkF L X mb) w w9) := ⟨(H2.out.1.own hm9 k9).h, hm9, H2.out.2.trans (kM k9)⟩
  clear hm9 k9 H2
  go_wp2
  go_ret
  exact ⟨rfl, H9.out⟩
theorem ins_store_go (w : World) (L : Lay) (Q : List Nat) (S : AS) (X : XL) (x : XS) (mb : Nat) (m : MI) (h : CH w L Q S X x) (hm : InsH w mb X.x m) (hn : ¬ chF L X mb) (hs : m.st = 2) (hl : liv S m.sl = true) : Calls Tryz.prog 136 #[.pointer (some ⟨mb, 0, none⟩)] w (StpI w L Q X mb (insP S x m)) := by
  obtain ⟨st, co, bu, sl, hd, tr⟩ := m
  obtain rfl : st = 2 := hs
  have H0 : MB w L Q S X x mb (insA mb X.x 136 co bu sl hd tr) 106 := ⟨h, hm, hn⟩
  have HD : Hid (MB w.drew L Q S X x mb (insA mb X.x 136 co bu sl hd tr) 106 ∧ Keeps (mkF L X mb) w w.drew) := ⟨H0.drew, (Keeps.refl _ _).drew⟩
  clear h hm hn H0
  have e1 : insP S x ⟨2, co, bu, sl, hd, tr⟩ = (false, ⟨put1 S (atC S sl x.cell) hd, x⟩, ⟨3, co, bu, sl, hd, tr⟩) := by
    have hl : liv S sl = true := hl
    show (if liv S sl then _ else _) = _
    rw [hl]
    rfl
  rw [e1]
  clear e1
  have hl : liv S sl = true := hl
  obtain ⟨S2, hS2⟩ : ∃ S2, put1 S (atC S sl x.cell) hd = S2 := ⟨_, rfl⟩
  have HL := ix_storeLink w.drew L Q S X x sl hd HD.out.1.h hl
  rw [hS2] at HL ⊢
  have HLL : Hid (∀ _ : Unit, _) := fun _ => HL
  clear HL hl hS2
  go_enter Tryz.func136, Tryz.ntmps136
  have sx : w.drew.cell? ⟨mb, 2, none⟩ = some (.pointer (some ⟨X.x, 0, none⟩)) ∧ w.drew.cell? ⟨mb, 4, none⟩ = some (.int .i64 sl) ∧ w.drew.cell? ⟨mb, 5, none⟩ = some (.int .u64 hd) := ⟨(HD.out.1.cell 2).trans rfl, (HD.out.1.cell 4).trans rfl, (HD.out.1.cell 5).trans rfl⟩
  go_wp2_with fail
  (refine wp_region_held_drew (S := (fun Z => Z.cell? ⟨mb, 2, none⟩ = some (.pointer (some ⟨X.x, 0, none⟩)) ∧ Z.cell? ⟨mb, 4, none⟩ = some (.int .i64 sl) ∧ Z.cell? ⟨mb, 5, none⟩ = some (.int .u64 hd))) (by kernel_rfl) sx (fun hHeld => ?_); simp only [List.size_toArray, List.length_cons, List.length_nil, Nat.reduceAdd, Array.replicate_succ, Array.replicate_zero, List.push_toArray, List.append_toArray, List.nil_append, List.cons_append])
  clear sx
  refine rgT 0 (h := ?_)
  refine rgT 1 (h := ?_)
  refine rgT 2 (h := ?_)
  refine rgT 3 (h := ?_)
  refine rgT 4 (h := ?_)
  refine rgT 5 (h := ?_)
  refine rgT 6 (h := ?_)
  refine rgT 7 (h := ?_)
  refine rgT 8 (h := ?_)
  refine rgT 9 (h := ?_)
  refine rgT 10 (h := ?_)
  refine rgT 11 (h := ?_)
  (refine rgS 12 (h := fun K hK => ?_); go_simp)
  refine (HLL.out ()).mono ?_
  rintro e w2 ⟨rfl, hc2, k2⟩
  have H2 : Hid (MB w2 L Q S2 X x mb (insA mb X.x 136 co bu sl hd tr) 106 ∧ Keeps (mkF L X mb) w w2) := ⟨HD.out.1.call hc2 k2, HD.out.2.trans (kF k2)⟩
  clear hc2 k2 HD HLL
  (refine hK.out _ _ ⟨(H2.out.1.cell 2).trans rfl, (H2.out.1.cell 4).trans rfl, (H2.out.1.cell 5).trans rfl⟩ (fun hHeld => ?_); clear hK K; try simp only [Act.put, List.setIfInBounds_toArray, List.set_cons_zero, List.set_cons_succ])
  refine rgT 13 (h := ?_)
  refine wpAnyH_done (by kernel_rfl) ?_ _
  clear hHeld
  clear hHeld
  go_wp2_with fail
  refine (job_goOn w2 mb (nxV 181 mb) _ _ _ H2.out.1.m rfl ⟨_, _, rfl⟩).mono ?_
  rintro e w9 ⟨rfl, hm9, k9⟩
  have H9 : Hid (CH w9 L Q (S2) X (x) ∧ InsH w9 mb X.x ⟨3, co, bu, sl, hd, tr⟩ ∧ Keeps (mkF L X mb) w w9) := ⟨(H2.out.1.own hm9 k9).h, hm9, H2.out.2.trans (kM k9)⟩
  clear hm9 k9 H2
  go_wp2
  go_ret
  exact ⟨rfl, H9.out⟩
theorem ins_store_dead (w : World) (L : Lay) (Q : List Nat) (S : AS) (X : XL) (x : XS) (mb : Nat) (m : MI) (h : CH w L Q S X x) (hm : InsH w mb X.x m) (hn : ¬ chF L X mb) (hs : m.st = 2) (hl : liv S m.sl = false) : Calls Tryz.prog 136 #[.pointer (some ⟨mb, 0, none⟩)] w (StpI w L Q X mb (insP S x m)) := by
  obtain ⟨st, co, bu, sl, hd, tr⟩ := m
  obtain rfl : st = 2 := hs
  have H0 : MB w L Q S X x mb (insA mb X.x 136 co bu sl hd tr) 106 := ⟨h, hm, hn⟩
  have HD : Hid (MB w.drew L Q S X x mb (insA mb X.x 136 co bu sl hd tr) 106 ∧ Keeps (mkF L X mb) w w.drew) := ⟨H0.drew, (Keeps.refl _ _).drew⟩
  clear h hm hn H0
  have e1 : insP S x ⟨2, co, bu, sl, hd, tr⟩ = (true, ⟨mis1 S, x⟩, ⟨4, 22, bu, sl, hd, tr⟩) := by
    have hl : liv S sl = false := hl
    show (if liv S sl then _ else _) = _
    rw [hl]
    rfl
  rw [e1]
  clear e1
  have hl : liv S sl = false := hl
  obtain ⟨S2, hS2⟩ : ∃ S2, mis1 S = S2 := ⟨_, rfl⟩
  have HL := ix_storeLink_no w.drew L Q S X x sl hd HD.out.1.h hl
  rw [hS2] at HL ⊢
  have HLL : Hid (∀ _ : Unit, _) := fun _ => HL
  clear HL hl hS2
  go_enter Tryz.func136, Tryz.ntmps136
  have sx : w.drew.cell? ⟨mb, 2, none⟩ = some (.pointer (some ⟨X.x, 0, none⟩)) ∧ w.drew.cell? ⟨mb, 4, none⟩ = some (.int .i64 sl) ∧ w.drew.cell? ⟨mb, 5, none⟩ = some (.int .u64 hd) := ⟨(HD.out.1.cell 2).trans rfl, (HD.out.1.cell 4).trans rfl, (HD.out.1.cell 5).trans rfl⟩
  go_wp2_with fail
  (refine wp_region_held_drew (S := (fun Z => Z.cell? ⟨mb, 2, none⟩ = some (.pointer (some ⟨X.x, 0, none⟩)) ∧ Z.cell? ⟨mb, 4, none⟩ = some (.int .i64 sl) ∧ Z.cell? ⟨mb, 5, none⟩ = some (.int .u64 hd))) (by kernel_rfl) sx (fun hHeld => ?_); simp only [List.size_toArray, List.length_cons, List.length_nil, Nat.reduceAdd, Array.replicate_succ, Array.replicate_zero, List.push_toArray, List.append_toArray, List.nil_append, List.cons_append])
  clear sx
  refine rgT 0 (h := ?_)
  refine rgT 1 (h := ?_)
  refine rgT 2 (h := ?_)
  refine rgT 3 (h := ?_)
  refine rgT 4 (h := ?_)
  refine rgT 5 (h := ?_)
  refine rgT 6 (h := ?_)
  refine rgT 7 (h := ?_)
  refine rgT 8 (h := ?_)
  refine rgT 9 (h := ?_)
  refine rgT 10 (h := ?_)
  refine rgT 11 (h := ?_)
  (refine rgS 12 (h := fun K hK => ?_); go_simp)
  refine (HLL.out ()).mono ?_
  rintro e w2 ⟨rfl, hc2, k2⟩
  have H2 : Hid (MB w2 L Q S2 X x mb (insA mb X.x 136 co bu sl hd tr) 106 ∧ Keeps (mkF L X mb) w w2) := ⟨HD.out.1.call hc2 k2, HD.out.2.trans (kF k2)⟩
  clear hc2 k2 HD HLL
  (refine hK.out _ _ ⟨(H2.out.1.cell 2).trans rfl, (H2.out.1.cell 4).trans rfl, (H2.out.1.cell 5).trans rfl⟩ (fun hHeld => ?_); clear hK K; try simp only [Act.put, List.setIfInBounds_toArray, List.set_cons_zero, List.set_cons_succ])
  refine rgT 13 (h := ?_)
  refine wpAnyH_done (by kernel_rfl) ?_ _
  clear hHeld
  clear hHeld
  go_wp2_with fail
  refine (job_done w2 mb 22 _ _ _ _ H2.out.1.m rfl rfl).mono ?_
  rintro e w9 ⟨rfl, hm9, k9⟩
  have H9 : Hid (CH w9 L Q (S2) X (x) ∧ InsH w9 mb X.x ⟨4, 22, bu, sl, hd, tr⟩ ∧ Keeps (mkF L X mb) w w9) := ⟨(H2.out.1.own hm9 k9).h, hm9, H2.out.2.trans (kM k9)⟩
  clear hm9 k9 H2
  go_wp2
  go_ret
  exact ⟨rfl, H9.out⟩
theorem ins_swap_hit (w : World) (L : Lay) (Q : List Nat) (S : AS) (X : XL) (x : XS) (mb : Nat) (m : MI) (h : CH w L Q S X x) (hm : InsH w mb X.x m) (hn : ¬ chF L X mb) (hs : m.st = 3) (hb : inB x m.bu = true) (h1 : 1 ≤ m.sl) (h2 : m.sl ≤ 4096) (hu : x.hd m.bu.toNat = m.hd) : Calls Tryz.prog 181 #[.pointer (some ⟨mb, 0, none⟩)] w (StpI w L Q X mb (insP S x m)) := by
  obtain ⟨st, co, bu, sl, hd, tr⟩ := m
  obtain rfl : st = 3 := hs
  have H0 : MB w L Q S X x mb (insA mb X.x 181 co bu sl hd tr) 106 := ⟨h, hm, hn⟩
  have HD : Hid (MB w.drew L Q S X x mb (insA mb X.x 181 co bu sl hd tr) 106 ∧ Keeps (mkF L X mb) w w.drew) := ⟨H0.drew, (Keeps.refl _ _).drew⟩
  clear h hm hn H0
  obtain ⟨b, hb1, hbb⟩ := inB_yes hb
  obtain rfl : bu = (b : Int) := hbb
  have hu : x.hd b = hd := hu
  have e1 : insP S x ⟨3, co, (b : Int), sl, hd, tr⟩ = (true, ⟨S, { x.cn1 with hd := upd x.hd b (2 * sl) }⟩, ⟨4, 0, (b : Int), sl, hd, tr⟩) := by
    show (if x.hd b = hd then _ else _) = _
    rw [if_pos hu]
    rfl
  rw [e1]
  clear e1 hb
  have h1 : 1 ≤ sl := h1
  have h2 : sl ≤ 4096 := h2
  obtain ⟨y, hy⟩ : ∃ y, 2 * sl = y := ⟨_, rfl⟩
  obtain ⟨x2, hx2⟩ : ∃ x2, ({ x.cn1 with hd := upd x.hd b y } : XS) = x2 := ⟨_, rfl⟩
  have HX2 : Hid (x2.cell = x.cell) := by show _ = _; rw [← hx2]; rfl
  have HK := lkof_any sl w.drew (by omega) (by omega)
  rw [hy] at HK
  have HKK : Hid (∀ _ : Unit, _) := fun _ => HK
  have HS := ix_swap_hit w.drew L.b X x b hb1 hd y HD.out.1.h.i hu
  rw [hx2] at HS
  have HSS : Hid (∀ _ : Unit, _) := fun _ => HS
  rw [hy, hx2]
  clear HK HS hu hy hx2 h1 h2
  go_enter Tryz.func181, Tryz.ntmps181
  have sx : w.drew.cell? ⟨mb, 2, none⟩ = some (.pointer (some ⟨X.x, 0, none⟩)) ∧ w.drew.cell? ⟨mb, 3, none⟩ = some (.int .i64 (b : Int)) ∧ w.drew.cell? ⟨mb, 5, none⟩ = some (.int .u64 hd) ∧ w.drew.cell? ⟨mb, 4, none⟩ = some (.int .i64 sl) := ⟨(HD.out.1.cell 2).trans rfl, (HD.out.1.cell 3).trans rfl, (HD.out.1.cell 5).trans rfl, (HD.out.1.cell 4).trans rfl⟩
  go_wp2_with fail
  (refine wp_region_held_drew (S := (fun Z => Z.cell? ⟨mb, 2, none⟩ = some (.pointer (some ⟨X.x, 0, none⟩)) ∧ Z.cell? ⟨mb, 3, none⟩ = some (.int .i64 (b : Int)) ∧ Z.cell? ⟨mb, 5, none⟩ = some (.int .u64 hd) ∧ Z.cell? ⟨mb, 4, none⟩ = some (.int .i64 sl))) (by kernel_rfl) sx (fun hHeld => ?_); simp only [List.size_toArray, List.length_cons, List.length_nil, Nat.reduceAdd, Array.replicate_succ, Array.replicate_zero, List.push_toArray, List.append_toArray, List.nil_append, List.cons_append])
  clear sx
  refine rgT 0 (h := ?_)
  refine rgT 1 (h := ?_)
  refine rgT 2 (h := ?_)
  refine rgT 3 (h := ?_)
  refine rgT 4 (h := ?_)
  refine rgT 5 (h := ?_)
  refine rgT 6 (h := ?_)
  refine rgT 7 (h := ?_)
  refine rgT 8 (h := ?_)
  refine rgT 9 (h := ?_)
  refine rgT 10 (h := ?_)
  refine rgT 11 (h := ?_)
  refine rgT 12 (h := ?_)
  refine rgT 13 (h := ?_)
  refine rgT 14 (h := ?_)
  refine rgT 15 (h := ?_)
  (refine rgS 16 (h := fun K hK => ?_); go_simp)
  refine (HKK.out ()).mono ?_
  rintro e w1 ⟨rfl, rfl⟩
  clear HKK
  (refine hK.out _ _ ⟨(HD.out.1.cell 2).trans rfl, (HD.out.1.cell 3).trans rfl, (HD.out.1.cell 5).trans rfl, (HD.out.1.cell 4).trans rfl⟩ (fun hHeld => ?_); clear hK K; try simp only [Act.put, List.setIfInBounds_toArray, List.set_cons_zero, List.set_cons_succ])
  (refine rgS 17 (h := fun K hK => ?_); go_simp)
  refine (HSS.out ()).mono ?_
  rintro e w2 ⟨rfl, hc2, k2⟩
  have H2 : Hid (MB w2 L Q S X x2 mb (insA mb X.x 181 co (b : Int) sl hd tr) 106 ∧ Keeps (mkF L X mb) w w2) := ⟨HD.out.1.callX hc2 k2 HX2.out, HD.out.2.trans (kX k2)⟩
  clear hc2 k2 HD HSS
  (refine hK.out _ _ ⟨(H2.out.1.cell 2).trans rfl, (H2.out.1.cell 3).trans rfl, (H2.out.1.cell 5).trans rfl, (H2.out.1.cell 4).trans rfl⟩ (fun hHeld => ?_); clear hK K; try simp only [Act.put, List.setIfInBounds_toArray, List.set_cons_zero, List.set_cons_succ])
  refine wpAnyH_done (by kernel_rfl) ?_ _
  clear hHeld
  clear hHeld
  clear hHeld
  go_wp2_with fail
  refine (job_done w2 mb 0 _ _ _ _ H2.out.1.m rfl rfl).mono ?_
  rintro e w9 ⟨rfl, hm9, k9⟩
  have H9 : Hid (CH w9 L Q (S) X (x2) ∧ InsH w9 mb X.x ⟨4, 0, (b : Int), sl, hd, tr⟩ ∧ Keeps (mkF L X mb) w w9) := ⟨(H2.out.1.own hm9 k9).h, hm9, H2.out.2.trans (kM k9)⟩
  clear hm9 k9 H2
  go_wp2
  go_ret
  exact ⟨rfl, H9.out⟩
theorem ins_swap_miss (w : World) (L : Lay) (Q : List Nat) (S : AS) (X : XL) (x : XS) (mb : Nat) (m : MI) (h : CH w L Q S X x) (hm : InsH w mb X.x m) (hn : ¬ chF L X mb) (hs : m.st = 3) (hb : inB x m.bu = true) (h1 : 1 ≤ m.sl) (h2 : m.sl ≤ 4096) (hu : ¬ x.hd m.bu.toNat = m.hd) : Calls Tryz.prog 181 #[.pointer (some ⟨mb, 0, none⟩)] w (StpI w L Q X mb (insP S x m)) := by
  obtain ⟨st, co, bu, sl, hd, tr⟩ := m
  obtain rfl : st = 3 := hs
  have H0 : MB w L Q S X x mb (insA mb X.x 181 co bu sl hd tr) 106 := ⟨h, hm, hn⟩
  have HD : Hid (MB w.drew L Q S X x mb (insA mb X.x 181 co bu sl hd tr) 106 ∧ Keeps (mkF L X mb) w w.drew) := ⟨H0.drew, (Keeps.refl _ _).drew⟩
  clear h hm hn H0
  obtain ⟨b, hb1, hbb⟩ := inB_yes hb
  obtain rfl : bu = (b : Int) := hbb
  have hu : ¬ x.hd b = hd := hu
  have e1 : insP S x ⟨3, co, (b : Int), sl, hd, tr⟩ = (false, ⟨S, x.cn1⟩, ⟨1, co, (b : Int), sl, hd, wrap64 (tr + 1)⟩) := by
    show (if x.hd b = hd then _ else _) = _
    rw [if_neg hu]

  rw [e1]
  clear e1 hb
  have h1 : 1 ≤ sl := h1
  have h2 : sl ≤ 4096 := h2
  obtain ⟨y, hy⟩ : ∃ y, 2 * sl = y := ⟨_, rfl⟩
  obtain ⟨x2, hx2⟩ : ∃ x2, x.cn1 = x2 := ⟨_, rfl⟩
  have HX2 : Hid (x2.cell = x.cell) := by show _ = _; rw [← hx2]; rfl
  have HK := lkof_any sl w.drew (by omega) (by omega)
  rw [hy] at HK
  have HKK : Hid (∀ _ : Unit, _) := fun _ => HK
  have HS := ix_swap_miss w.drew L.b X x b hb1 hd y HD.out.1.h.i hu
  rw [hx2] at HS
  have HSS : Hid (∀ _ : Unit, _) := fun _ => HS
  rw [hx2]
  clear HK HS hu hy hx2 h1 h2
  go_enter Tryz.func181, Tryz.ntmps181
  have sx : w.drew.cell? ⟨mb, 2, none⟩ = some (.pointer (some ⟨X.x, 0, none⟩)) ∧ w.drew.cell? ⟨mb, 3, none⟩ = some (.int .i64 (b : Int)) ∧ w.drew.cell? ⟨mb, 5, none⟩ = some (.int .u64 hd) ∧ w.drew.cell? ⟨mb, 4, none⟩ = some (.int .i64 sl) := ⟨(HD.out.1.cell 2).trans rfl, (HD.out.1.cell 3).trans rfl, (HD.out.1.cell 5).trans rfl, (HD.out.1.cell 4).trans rfl⟩
  go_wp2_with fail
  (refine wp_region_held_drew (S := (fun Z => Z.cell? ⟨mb, 2, none⟩ = some (.pointer (some ⟨X.x, 0, none⟩)) ∧ Z.cell? ⟨mb, 3, none⟩ = some (.int .i64 (b : Int)) ∧ Z.cell? ⟨mb, 5, none⟩ = some (.int .u64 hd) ∧ Z.cell? ⟨mb, 4, none⟩ = some (.int .i64 sl))) (by kernel_rfl) sx (fun hHeld => ?_); simp only [List.size_toArray, List.length_cons, List.length_nil, Nat.reduceAdd, Array.replicate_succ, Array.replicate_zero, List.push_toArray, List.append_toArray, List.nil_append, List.cons_append])
  clear sx
  refine rgT 0 (h := ?_)
  refine rgT 1 (h := ?_)
  refine rgT 2 (h := ?_)
  refine rgT 3 (h := ?_)
  refine rgT 4 (h := ?_)
  refine rgT 5 (h := ?_)
  refine rgT 6 (h := ?_)
  refine rgT 7 (h := ?_)
  refine rgT 8 (h := ?_)
  refine rgT 9 (h := ?_)
  refine rgT 10 (h := ?_)
  refine rgT 11 (h := ?_)
  refine rgT 12 (h := ?_)
  refine rgT 13 (h := ?_)
  refine rgT 14 (h := ?_)
  refine rgT 15 (h := ?_)
  (refine rgS 16 (h := fun K hK => ?_); go_simp)
  refine (HKK.out ()).mono ?_
  rintro e w1 ⟨rfl, rfl⟩
  clear HKK
  (refine hK.out _ _ ⟨(HD.out.1.cell 2).trans rfl, (HD.out.1.cell 3).trans rfl, (HD.out.1.cell 5).trans rfl, (HD.out.1.cell 4).trans rfl⟩ (fun hHeld => ?_); clear hK K; try simp only [Act.put, List.setIfInBounds_toArray, List.set_cons_zero, List.set_cons_succ])
  (refine rgS 17 (h := fun K hK => ?_); go_simp)
  refine (HSS.out ()).mono ?_
  rintro e w2 ⟨rfl, hc2, k2⟩
  have H2 : Hid (MB w2 L Q S X x2 mb (insA mb X.x 181 co (b : Int) sl hd tr) 106 ∧ Keeps (mkF L X mb) w w2) := ⟨HD.out.1.callX hc2 k2 HX2.out, HD.out.2.trans (kX k2)⟩
  clear hc2 k2 HD HSS
  (refine hK.out _ _ ⟨(H2.out.1.cell 2).trans rfl, (H2.out.1.cell 3).trans rfl, (H2.out.1.cell 5).trans rfl, (H2.out.1.cell 4).trans rfl⟩ (fun hHeld => ?_); clear hK K; try simp only [Act.put, List.setIfInBounds_toArray, List.set_cons_zero, List.set_cons_succ])
  refine wpAnyH_done (by kernel_rfl) ?_ _
  clear hHeld
  clear hHeld
  clear hHeld
  have c6 : w2.cell? ⟨mb, 6, none⟩ = some (.int .i64 tr) := (H2.out.1.cell 6).trans rfl
  have f6 := H2.out.1.fz 6
  have H3 : Hid (MB (w2.setCell ⟨mb, 6, none⟩ (.int .i64 (wrap64 (tr + 1)))) L Q S X x2 mb (insA mb X.x 181 co (b : Int) sl hd (wrap64 (tr + 1))) 106 ∧ Keeps (mkF L X mb) w (w2.setCell ⟨mb, 6, none⟩ (.int .i64 (wrap64 (tr + 1))))) := ⟨(H2.out.1.set 6 _).1, H2.out.2.trans (kM (H2.out.1.set 6 _).2)⟩
  clear H2
  go_wp2_with fail
  clear c6 f6
  generalize w2.setCell ⟨mb, 6, none⟩ (.int .i64 (wrap64 (tr + 1))) = w3 at *
  refine (job_goOn w3 mb (nxV 90 mb) _ _ _ H3.out.1.m rfl ⟨_, _, rfl⟩).mono ?_
  rintro e w9 ⟨rfl, hm9, k9⟩
  have H9 : Hid (CH w9 L Q (S) X (x2) ∧ InsH w9 mb X.x ⟨1, co, (b : Int), sl, hd, wrap64 (tr + 1)⟩ ∧ Keeps (mkF L X mb) w w9) := ⟨(H3.out.1.own hm9 k9).h, hm9, H3.out.2.trans (kM k9)⟩
  clear hm9 k9 H3
  go_wp2
  go_ret
  exact ⟨rfl, H9.out⟩
end Go.Proofs.YteekompojgbkhaaGreat
