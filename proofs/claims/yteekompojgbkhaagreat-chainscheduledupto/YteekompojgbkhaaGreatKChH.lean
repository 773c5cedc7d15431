import Derived.Test.YteekompojgbkhaaGreatKChG
namespace Go.Proofs.YteekompojgbkhaaGreat
set_option linter.unusedSimpArgs false
open Go.ChangeShapes Go.WideShapes Go.ChangeAt Go.RowKit Go.MuLone Go.RwLone
set_option linter.unusedVariables false
set_option maxRecDepth 100000
set_option maxHeartbeats 3200000
def wlkP (S : AS) (x : XS) (m : MW) : Bool × CS × MW := match m.st with
  | 0 => if inB x m.src then ((lookW { m with own := 4097 + m.src } (x.hd m.src.toNat / 2)).1, ⟨S, x.cn1⟩, (lookW { m with own := 4097 + m.src } (x.hd m.src.toNat / 2)).2) else (true, ⟨S, x⟩, failW m 40)
  | 1 => if liv S m.src then ((lookW m (S.word (atC S m.src x.cell) / 2)).1, ⟨acc1 S, x⟩, (lookW m (S.word (atC S m.src x.cell) / 2)).2) else (true, ⟨mis1 S, x⟩, failW m 22)
  | 2 => if liv S m.pend then ((lookW { m with slot := if S.word (atC S m.pend x.cell) % 2 == 1 then 0 else m.pend } (S.word (atC S m.pend x.cell) / 2)).1, ⟨acc1 S, x⟩, (lookW { m with slot := if S.word (atC S m.pend x.cell) % 2 == 1 then 0 else m.pend } (S.word (atC S m.pend x.cell) / 2)).2) else (true, ⟨mis1 S, x⟩, failW m 22)
  | _ => (true, ⟨S, x⟩, { m with slot := 0 })
/-- All words are links. -/
def WdOk (S : AS) (x : XS) : Prop := (∀ i, LkOk (S.word i)) ∧ ∀ b, b < x.nb → LkOk (x.hd b)
def StpW (w : World) (L : Lay) (Q : List Nat) (X : XL) (mb : Nat) (p : Bool × CS × MW) (e : Ending) (w' : World) : Prop := e = .returned (.bool p.1) ∧ CH w' L Q p.2.1.S X p.2.1.x ∧ WlkH w' mb X.x p.2.2 ∧ Keeps (mkF L X mb) w w'
theorem wlk_head_out (w : World) (L : Lay) (Q : List Nat) (S : AS) (X : XL) (x : XS) (mb : Nat) (m : MW) (h : CH w L Q S X x) (hm : WlkH w mb X.x m) (hn : ¬ chF L X mb) (hs : m.st = 0) (hk : WdOk S x) (hb : inB x m.src = false) : Calls Tryz.prog 46 #[.pointer (some ⟨mb, 0, none⟩)] w (StpW w L Q X mb (wlkP S x m)) := by
  obtain ⟨st, src, own, slot, pend, ended, code⟩ := m
  obtain rfl : st = 0 := hs
  have H0 : MB w L Q S X x mb (wlkA mb X.x 46 src own slot pend ended code) 94 := ⟨h, hm, hn⟩
  have HD : Hid (MB w.drew L Q S X x mb (wlkA mb X.x 46 src own slot pend ended code) 94 ∧ Keeps (mkF L X mb) w w.drew) := ⟨H0.drew, (Keeps.refl _ _).drew⟩
  clear h hm hn H0
  have e1 : wlkP S x ⟨0, src, own, slot, pend, ended, code⟩ = (true, ⟨S, x⟩, failW ⟨0, src, own, slot, pend, ended, code⟩ 40) := by
    have hb : inB x src = false := hb
    show (if inB x src then _ else _) = _
    rw [hb]
    rfl
  rw [e1]
  clear e1 hk
  have HB := ix_has w.drew L.b X x src HD.out.1.h.i
  have hb' : inB x src = false := hb
  rw [hb'] at HB
  have HBB : Hid (∀ _ : Unit, _) := fun _ => HB
  clear HB hb'
  clear hb
  go_enter Tryz.func46, Tryz.ntmps46
  have sx : w.drew.cell? ⟨mb, 0, none⟩ = some (.pointer (some ⟨X.x, 0, none⟩)) ∧ w.drew.cell? ⟨mb, 2, none⟩ = some (.int .i64 src) := ⟨(HD.out.1.cell 0).trans rfl, (HD.out.1.cell 2).trans rfl⟩
  go_wp2_with fail
  (refine wp_region_held_drew (S := (fun Z => Z.cell? ⟨mb, 0, none⟩ = some (.pointer (some ⟨X.x, 0, none⟩)) ∧ Z.cell? ⟨mb, 2, none⟩ = some (.int .i64 src))) (by kernel_rfl) sx (fun hHeld => ?_); simp only [List.size_toArray, List.length_cons, List.length_nil, Nat.reduceAdd, Array.replicate_succ, Array.replicate_zero, List.push_toArray, List.append_toArray, List.nil_append, List.cons_append])
  clear sx
  refine rgT 0 (h := ?_)
  refine rgT 1 (h := ?_)
  refine rgT 2 (h := ?_)
  refine rgT 3 (h := ?_)
  refine rgT 4 (h := ?_)
  refine rgT 5 (h := ?_)
  refine rgT 6 (h := ?_)
  refine rgT 7 (h := ?_)
  (refine rgS 8 (h := fun K hK => ?_); go_simp)
  refine (HBB.out ()).mono ?_
  rintro e w1 ⟨rfl, hw1⟩
  rw [hw1]
  clear HBB hw1 w1
  (refine hK.out _ _ ⟨(HD.out.1.cell 0).trans rfl, (HD.out.1.cell 2).trans rfl⟩ (fun hHeld => ?_); clear hK K; try simp only [Act.put, List.setIfInBounds_toArray, List.set_cons_zero, List.set_cons_succ])
  refine rgT 9 (h := ?_)
  refine wpAnyH_done (by kernel_rfl) ?_ _
  clear hHeld
  clear hHeld
  generalize w.drew = w1 at *
  go_wp2_with fail
  refine (wlk_fail w1 mb X.x _ src own slot pend ended code 40 HD.out.1.m).mono ?_
  rintro e w9 ⟨rfl, hm9, k9⟩
  have H9 : Hid (CH w9 L Q (S) X (x) ∧ WlkH w9 mb X.x (failW ⟨0, src, own, slot, pend, ended, code⟩ 40) ∧ Keeps (mkF L X mb) w w9) := ⟨(HD.out.1.own hm9 k9).h, hm9, HD.out.2.trans (kM k9)⟩
  clear hm9 k9 HD
  go_wp2
  go_ret
  exact ⟨rfl, H9.out⟩
theorem wlk_head_in (w : World) (L : Lay) (Q : List Nat) (S : AS) (X : XL) (x : XS) (mb : Nat) (m : MW) (h : CH w L Q S X x) (hm : WlkH w mb X.x m) (hn : ¬ chF L X mb) (hs : m.st = 0) (hk : WdOk S x) (hb : inB x m.src = true) : Calls Tryz.prog 46 #[.pointer (some ⟨mb, 0, none⟩)] w (StpW w L Q X mb (wlkP S x m)) := by
  obtain ⟨st, src, own, slot, pend, ended, code⟩ := m
  obtain rfl : st = 0 := hs
  have H0 : MB w L Q S X x mb (wlkA mb X.x 46 src own slot pend ended code) 94 := ⟨h, hm, hn⟩
  have HD : Hid (MB w.drew L Q S X x mb (wlkA mb X.x 46 src own slot pend ended code) 94 ∧ Keeps (mkF L X mb) w w.drew) := ⟨H0.drew, (Keeps.refl _ _).drew⟩
  clear h hm hn H0
  have e1 : wlkP S x ⟨0, src, own, slot, pend, ended, code⟩ = ((lookW ⟨0, src, 4097 + src, slot, pend, ended, code⟩ (x.hd src.toNat / 2)).1, ⟨S, x.cn1⟩, (lookW ⟨0, src, 4097 + src, slot, pend, ended, code⟩ (x.hd src.toNat / 2)).2) := by
    have hb : inB x src = true := hb
    show (if inB x src then _ else _) = _
    rw [hb]
    rfl
  rw [e1]
  clear e1
  have HB := ix_has w.drew L.b X x src HD.out.1.h.i
  have hb' : inB x src = true := hb
  rw [hb'] at HB
  have HBB : Hid (∀ _ : Unit, _) := fun _ => HB
  clear HB hb'
  obtain ⟨b, hb1, hbb⟩ := inB_yes hb
  obtain rfl : src = (b : Int) := hbb
  have hz := HD.out.1.h.i.nb.2
  have HK : Hid (LkOk (x.hd b)) := hk.2 b hb1
  clear hb hk
  rw [show ((b : Int)).toNat = b from rfl]
  obtain ⟨v, hv⟩ : ∃ v, x.hd b = v := ⟨_, rfl⟩
  have HV : Hid (x.hd b = v) := hv
  rw [hv] at HK ⊢
  clear hv
  obtain ⟨n, hnn⟩ : ∃ n, v / 2 = n := ⟨_, rfl⟩
  rw [hnn]
  have HNN : Hid (v / 2 = n) := hnn
  obtain ⟨q, hq⟩ : ∃ q, lookW ⟨0, (b : Int), 4097 + (b : Int), slot, pend, ended, code⟩ n = q := ⟨_, rfl⟩
  have HLK : Hid (∀ W, WlkH W mb X.x ⟨0, (b : Int), 4097 + (b : Int), slot, pend, ended, code⟩ → Calls Tryz.prog 86 #[.pointer (some ⟨mb, 0, none⟩), .int .i64 n] W fun e w' => e = .returned (.bool q.1) ∧ WlkH w' mb X.x q.2 ∧ Keeps (fun g => g = mb) W w') := fun W hW => by
    have := wlk_look W mb X.x ⟨0, (b : Int), 4097 + (b : Int), slot, pend, ended, code⟩ n hW
    rw [hq] at this
    exact this
  rw [hq]
  clear hq hnn
  go_enter Tryz.func46, Tryz.ntmps46
  have sx : w.drew.cell? ⟨mb, 0, none⟩ = some (.pointer (some ⟨X.x, 0, none⟩)) ∧ w.drew.cell? ⟨mb, 2, none⟩ = some (.int .i64 (b : Int)) := ⟨(HD.out.1.cell 0).trans rfl, (HD.out.1.cell 2).trans rfl⟩
  go_wp2_with fail
  (refine wp_region_held_drew (S := (fun Z => Z.cell? ⟨mb, 0, none⟩ = some (.pointer (some ⟨X.x, 0, none⟩)) ∧ Z.cell? ⟨mb, 2, none⟩ = some (.int .i64 (b : Int)))) (by kernel_rfl) sx (fun hHeld => ?_); simp only [List.size_toArray, List.length_cons, List.length_nil, Nat.reduceAdd, Array.replicate_succ, Array.replicate_zero, List.push_toArray, List.append_toArray, List.nil_append, List.cons_append])
  clear sx
  refine rgT 0 (h := ?_)
  refine rgT 1 (h := ?_)
  refine rgT 2 (h := ?_)
  refine rgT 3 (h := ?_)
  refine rgT 4 (h := ?_)
  refine rgT 5 (h := ?_)
  refine rgT 6 (h := ?_)
  refine rgT 7 (h := ?_)
  (refine rgS 8 (h := fun K hK => ?_); go_simp)
  refine (HBB.out ()).mono ?_
  rintro e w1 ⟨rfl, hw1⟩
  rw [hw1]
  clear HBB hw1 w1
  (refine hK.out _ _ ⟨(HD.out.1.cell 0).trans rfl, (HD.out.1.cell 2).trans rfl⟩ (fun hHeld => ?_); clear hK K; try simp only [Act.put, List.setIfInBounds_toArray, List.set_cons_zero, List.set_cons_succ])
  refine rgT 9 (h := ?_)
  refine wpAnyH_done (by kernel_rfl) ?_ _
  clear hHeld
  clear hHeld
  generalize w.drew = w1 at *
  have c2 : w1.cell? ⟨mb, 2, none⟩ = some (.int .i64 (b : Int)) := (HD.out.1.cell 2).trans rfl
  have c3 : w1.cell? ⟨mb, 3, none⟩ = some (.int .i64 own) := (HD.out.1.cell 3).trans rfl
  have f3 := HD.out.1.fz 3
  have H1 : Hid (MB (w1.setCell ⟨mb, 3, none⟩ (.int .i64 (4097 + (b : Int)))) L Q S X x mb (wlkA mb X.x 46 (b : Int) (4097 + (b : Int)) slot pend ended code) 94 ∧ Keeps (mkF L X mb) w (w1.setCell ⟨mb, 3, none⟩ (.int .i64 (4097 + (b : Int))))) := ⟨(HD.out.1.set 3 _).1, HD.out.2.trans (kM (HD.out.1.set 3 _).2)⟩
  clear HD
  go_wp2_with fail
  refine (end_of (b : Int) w1 (by omega) (by omega)).mono ?_
  rintro e w2 ⟨rfl, hw2⟩
  rw [hw2]
  clear hw2 w2
  have H3 : Hid (MB (w1.setCell ⟨mb, 3, none⟩ (.int .i64 (4097 + (b : Int)))).drew L Q S X x mb (wlkA mb X.x 46 (b : Int) (4097 + (b : Int)) slot pend ended code) 94 ∧ Keeps (mkF L X mb) w (w1.setCell ⟨mb, 3, none⟩ (.int .i64 (4097 + (b : Int)))).drew) := ⟨H1.out.1.drew, H1.out.2.drew⟩
  have sx : (w1.setCell ⟨mb, 3, none⟩ (.int .i64 (4097 + (b : Int)))).drew.cell? ⟨mb, 0, none⟩ = some (.pointer (some ⟨X.x, 0, none⟩)) ∧ (w1.setCell ⟨mb, 3, none⟩ (.int .i64 (4097 + (b : Int)))).drew.cell? ⟨mb, 2, none⟩ = some (.int .i64 (b : Int)) := ⟨(H3.out.1.cell 0).trans rfl, (H3.out.1.cell 2).trans rfl⟩
  go_wp2_with fail
  clear c2 c3 f3 H1
  (refine wp_region_held_drew (S := (fun Z => Z.cell? ⟨mb, 0, none⟩ = some (.pointer (some ⟨X.x, 0, none⟩)) ∧ Z.cell? ⟨mb, 2, none⟩ = some (.int .i64 (b : Int)))) (by kernel_rfl) sx (fun hHeld => ?_); simp only [List.size_toArray, List.length_cons, List.length_nil, Nat.reduceAdd, Array.replicate_succ, Array.replicate_zero, List.push_toArray, List.append_toArray, List.nil_append, List.cons_append])
  clear sx
  refine rgT 0 (h := ?_)
  refine rgT 1 (h := ?_)
  refine rgT 2 (h := ?_)
  refine rgT 3 (h := ?_)
  refine rgT 4 (h := ?_)
  refine rgT 5 (h := ?_)
  refine rgT 6 (h := ?_)
  refine rgT 7 (h := ?_)
  (refine rgS 8 (h := fun K hK => ?_); go_simp)
  generalize (w1.setCell ⟨mb, 3, none⟩ (.int .i64 (4097 + (b : Int)))).drew = w3 at *
  refine (ix_loadHead w3 L.b X x b hb1 H3.out.1.h.i).mono ?_
  rintro e w4 ⟨rfl, hx, k4⟩
  rw [HV.out]
  have H4 : Hid (MB w4 L Q S X x.cn1 mb (wlkA mb X.x 46 (b : Int) (4097 + (b : Int)) slot pend ended code) 94 ∧ Keeps (mkF L X mb) w w4) := ⟨H3.out.1.callX hx k4 rfl, H3.out.2.trans (kX k4)⟩
  clear hx k4 H3 HV
  (refine hK.out _ _ ⟨(H4.out.1.cell 0).trans rfl, (H4.out.1.cell 2).trans rfl⟩ (fun hHeld => ?_); clear hK K; try simp only [Act.put, List.setIfInBounds_toArray, List.set_cons_zero, List.set_cons_succ])
  (refine rgS 9 (h := fun K hK => ?_); go_simp)
  refine (take_any v w4 HK.out).mono ?_
  rintro e w5 ⟨rfl, hw5⟩
  rw [hw5]
  clear hw5 w5
  (refine hK.out _ _ ⟨(H4.out.1.cell 0).trans rfl, (H4.out.1.cell 2).trans rfl⟩ (fun hHeld => ?_); clear hK K; try simp only [Act.put, List.setIfInBounds_toArray, List.set_cons_zero, List.set_cons_succ])
  refine rgT 10 (h := ?_)
  refine rgT 11 (h := ?_)
  refine rgT 12 (h := ?_)
  refine rgT 13 (h := ?_)
  refine rgT 14 (h := ?_)
  refine wpAnyH_done (by kernel_rfl) ?_ _
  clear hHeld
  clear hHeld
  clear hHeld
  rw [HNN.out]
  clear HNN
  go_wp2_with fail
  refine (HLK.out w4 H4.out.1.m).mono ?_
  rintro e w9 ⟨rfl, hm9, k9⟩
  have H9 : Hid (CH w9 L Q (S) X (x.cn1) ∧ WlkH w9 mb X.x q.2 ∧ Keeps (mkF L X mb) w w9) := ⟨(H4.out.1.own hm9 k9).h, hm9, H4.out.2.trans (kM k9)⟩
  clear hm9 k9 H4 HLK
  go_wp2
  go_ret
  exact ⟨rfl, H9.out⟩
theorem wlk_loadSource_dead (w : World) (L : Lay) (Q : List Nat) (S : AS) (X : XL) (x : XS) (mb : Nat) (m : MW) (h : CH w L Q S X x) (hm : WlkH w mb X.x m) (hn : ¬ chF L X mb) (hs : m.st = 1) (hk : WdOk S x) (hl : liv S m.src = false) : Calls Tryz.prog 185 #[.pointer (some ⟨mb, 0, none⟩)] w (StpW w L Q X mb (wlkP S x m)) := by
  obtain ⟨st, src, own, slot, pend, ended, code⟩ := m
  obtain rfl : st = 1 := hs
  have H0 : MB w L Q S X x mb (wlkA mb X.x 185 src own slot pend ended code) 94 := ⟨h, hm, hn⟩
  have HD : Hid (MB w.drew L Q S X x mb (wlkA mb X.x 185 src own slot pend ended code) 94 ∧ Keeps (mkF L X mb) w w.drew) := ⟨H0.drew, (Keeps.refl _ _).drew⟩
  clear h hm hn H0
  have hl : liv S src = false := hl
  have e1 : wlkP S x ⟨1, src, own, slot, pend, ended, code⟩ = (true, ⟨mis1 S, x⟩, failW ⟨1, src, own, slot, pend, ended, code⟩ 22) := by
    show (if liv S src then _ else _) = _
    rw [hl]
    rfl
  rw [e1]
  clear e1 hk
  have HL := ix_loadLink_no w.drew L Q S X x src HD.out.1.h hl
  have HLL : Hid (∀ _ : Unit, _) := fun _ => HL
  clear HL hl
  go_enter Tryz.func185, Tryz.ntmps185
  have sx : w.drew.cell? ⟨mb, 0, none⟩ = some (.pointer (some ⟨X.x, 0, none⟩)) ∧ w.drew.cell? ⟨mb, 2, none⟩ = some (.int .i64 src) := ⟨(HD.out.1.cell 0).trans rfl, (HD.out.1.cell 2).trans rfl⟩
  go_wp2_with fail
  (refine wp_region_held_drew (S := (fun Z => Z.cell? ⟨mb, 0, none⟩ = some (.pointer (some ⟨X.x, 0, none⟩)) ∧ Z.cell? ⟨mb, 2, none⟩ = some (.int .i64 src))) (by kernel_rfl) sx (fun hHeld => ?_); simp only [List.size_toArray, List.length_cons, List.length_nil, Nat.reduceAdd, Array.replicate_succ, Array.replicate_zero, List.push_toArray, List.append_toArray, List.nil_append, List.cons_append])
  clear sx
  refine rgT 0 (h := ?_)
  refine rgT 1 (h := ?_)
  refine rgT 2 (h := ?_)
  refine rgT 3 (h := ?_)
  refine rgT 4 (h := ?_)
  refine rgT 5 (h := ?_)
  refine rgT 6 (h := ?_)
  refine rgT 7 (h := ?_)
  (refine rgS 8 (h := fun K hK => ?_); go_simp)
  refine (HLL.out ()).mono ?_
  rintro e w2 ⟨rfl, hc2, k2⟩
  have H2 : Hid (MB w2 L Q (mis1 S) X x mb (wlkA mb X.x 185 src own slot pend ended code) 94 ∧ Keeps (mkF L X mb) w w2) := ⟨HD.out.1.call hc2 k2, HD.out.2.trans (kF k2)⟩
  clear hc2 k2 HD HLL
  (refine hK.out _ _ ⟨(H2.out.1.cell 0).trans rfl, (H2.out.1.cell 2).trans rfl⟩ (fun hHeld => ?_); clear hK K; try simp only [Act.put, List.setIfInBounds_toArray, List.set_cons_zero, List.set_cons_succ])
  refine rgT 9 (h := ?_)
  refine rgT 10 (h := ?_)
  refine rgT 11 (h := ?_)
  refine rgT 12 (h := ?_)
  refine rgT 13 (h := ?_)
  refine wpAnyH_done (by kernel_rfl) ?_ _
  clear hHeld
  clear hHeld
  go_wp2_with fail
  refine (wlk_fail w2 mb X.x _ src own slot pend ended code 22 H2.out.1.m).mono ?_
  rintro e w9 ⟨rfl, hm9, k9⟩
  have H9 : Hid (CH w9 L Q (mis1 S) X (x) ∧ WlkH w9 mb X.x (failW ⟨1, src, own, slot, pend, ended, code⟩ 22) ∧ Keeps (mkF L X mb) w w9) := ⟨(H2.out.1.own hm9 k9).h, hm9, H2.out.2.trans (kM k9)⟩
  clear hm9 k9 H2
  go_wp2
  go_ret
  exact ⟨rfl, H9.out⟩
theorem wlk_loadSource_go (w : World) (L : Lay) (Q : List Nat) (S : AS) (X : XL) (x : XS) (mb : Nat) (m : MW) (h : CH w L Q S X x) (hm : WlkH w mb X.x m) (hn : ¬ chF L X mb) (hs : m.st = 1) (hk : WdOk S x) (hl : liv S m.src = true) : Calls Tryz.prog 185 #[.pointer (some ⟨mb, 0, none⟩)] w (StpW w L Q X mb (wlkP S x m)) := by
  obtain ⟨st, src, own, slot, pend, ended, code⟩ := m
  obtain rfl : st = 1 := hs
  have H0 : MB w L Q S X x mb (wlkA mb X.x 185 src own slot pend ended code) 94 := ⟨h, hm, hn⟩
  have HD : Hid (MB w.drew L Q S X x mb (wlkA mb X.x 185 src own slot pend ended code) 94 ∧ Keeps (mkF L X mb) w w.drew) := ⟨H0.drew, (Keeps.refl _ _).drew⟩
  clear h hm hn H0
  have hl : liv S src = true := hl
  have e1 : wlkP S x ⟨1, src, own, slot, pend, ended, code⟩ = ((lookW ⟨1, src, own, slot, pend, ended, code⟩ (S.word (atC S src x.cell) / 2)).1, ⟨acc1 S, x⟩, (lookW ⟨1, src, own, slot, pend, ended, code⟩ (S.word (atC S src x.cell) / 2)).2) := by
    show (if liv S src then _ else _) = _
    rw [hl]
    rfl
  rw [e1]
  clear e1
  have HL := ix_loadLink w.drew L Q S X x src HD.out.1.h hl
  have HK : Hid (LkOk (S.word (atC S src x.cell))) := hk.1 _
  obtain ⟨v, hv⟩ : ∃ v, S.word (atC S src x.cell) = v := ⟨_, rfl⟩
  rw [hv] at HL HK ⊢
  have HLL : Hid (∀ _ : Unit, _) := fun _ => HL
  clear HL hl hv hk
  obtain ⟨n, hnn⟩ : ∃ n, v / 2 = n := ⟨_, rfl⟩
  rw [hnn]
  have HNN : Hid (v / 2 = n) := hnn
  obtain ⟨q, hq⟩ : ∃ q, lookW ⟨1, src, own, slot, pend, ended, code⟩ n = q := ⟨_, rfl⟩
  have HLK : Hid (∀ W, WlkH W mb X.x ⟨1, src, own, slot, pend, ended, code⟩ → Calls Tryz.prog 86 #[.pointer (some ⟨mb, 0, none⟩), .int .i64 n] W fun e w' => e = .returned (.bool q.1) ∧ WlkH w' mb X.x q.2 ∧ Keeps (fun g => g = mb) W w') := fun W hW => by
    have := wlk_look W mb X.x ⟨1, src, own, slot, pend, ended, code⟩ n hW
    rw [hq] at this
    exact this
  rw [hq]
  clear hq hnn
  go_enter Tryz.func185, Tryz.ntmps185
  have sx : w.drew.cell? ⟨mb, 0, none⟩ = some (.pointer (some ⟨X.x, 0, none⟩)) ∧ w.drew.cell? ⟨mb, 2, none⟩ = some (.int .i64 src) := ⟨(HD.out.1.cell 0).trans rfl, (HD.out.1.cell 2).trans rfl⟩
  go_wp2_with fail
  (refine wp_region_held_drew (S := (fun Z => Z.cell? ⟨mb, 0, none⟩ = some (.pointer (some ⟨X.x, 0, none⟩)) ∧ Z.cell? ⟨mb, 2, none⟩ = some (.int .i64 src))) (by kernel_rfl) sx (fun hHeld => ?_); simp only [List.size_toArray, List.length_cons, List.length_nil, Nat.reduceAdd, Array.replicate_succ, Array.replicate_zero, List.push_toArray, List.append_toArray, List.nil_append, List.cons_append])
  clear sx
  refine rgT 0 (h := ?_)
  refine rgT 1 (h := ?_)
  refine rgT 2 (h := ?_)
  refine rgT 3 (h := ?_)
  refine rgT 4 (h := ?_)
  refine rgT 5 (h := ?_)
  refine rgT 6 (h := ?_)
  refine rgT 7 (h := ?_)
  (refine rgS 8 (h := fun K hK => ?_); go_simp)
  refine (HLL.out ()).mono ?_
  rintro e w2 ⟨rfl, hc2, k2⟩
  have H2 : Hid (MB w2 L Q (acc1 S) X x mb (wlkA mb X.x 185 src own slot pend ended code) 94 ∧ Keeps (mkF L X mb) w w2) := ⟨HD.out.1.call hc2 k2, HD.out.2.trans (kF k2)⟩
  clear hc2 k2 HD HLL
  (refine hK.out _ _ ⟨(H2.out.1.cell 0).trans rfl, (H2.out.1.cell 2).trans rfl⟩ (fun hHeld => ?_); clear hK K; try simp only [Act.put, List.setIfInBounds_toArray, List.set_cons_zero, List.set_cons_succ])
  refine rgT 9 (h := ?_)
  refine rgT 10 (h := ?_)
  refine rgT 11 (h := ?_)
  refine rgT 12 (h := ?_)
  refine rgT 13 (h := ?_)
  refine wpAnyH_done (by kernel_rfl) ?_ _
  clear hHeld
  clear hHeld
  go_wp2_with fail
  refine (take_any v w2 HK.out).mono ?_
  rintro e w5 ⟨rfl, hw5⟩
  rw [hw5]
  clear hw5 w5 HK
  rw [HNN.out]
  clear HNN
  go_wp2_with fail
  refine (HLK.out w2 H2.out.1.m).mono ?_
  rintro e w9 ⟨rfl, hm9, k9⟩
  have H9 : Hid (CH w9 L Q (acc1 S) X (x) ∧ WlkH w9 mb X.x q.2 ∧ Keeps (mkF L X mb) w w9) := ⟨(H2.out.1.own hm9 k9).h, hm9, H2.out.2.trans (kM k9)⟩
  clear hm9 k9 H2 HLK
  go_wp2
  go_ret
  exact ⟨rfl, H9.out⟩
theorem wlk_loadPending_dead (w : World) (L : Lay) (Q : List Nat) (S : AS) (X : XL) (x : XS) (mb : Nat) (m : MW) (h : CH w L Q S X x) (hm : WlkH w mb X.x m) (hn : ¬ chF L X mb) (hs : m.st = 2) (hk : WdOk S x) (hl : liv S m.pend = false) : Calls Tryz.prog 133 #[.pointer (some ⟨mb, 0, none⟩)] w (StpW w L Q X mb (wlkP S x m)) := by
  obtain ⟨st, src, own, slot, pend, ended, code⟩ := m
  obtain rfl : st = 2 := hs
  have H0 : MB w L Q S X x mb (wlkA mb X.x 133 src own slot pend ended code) 94 := ⟨h, hm, hn⟩
  have HD : Hid (MB w.drew L Q S X x mb (wlkA mb X.x 133 src own slot pend ended code) 94 ∧ Keeps (mkF L X mb) w w.drew) := ⟨H0.drew, (Keeps.refl _ _).drew⟩
  clear h hm hn H0
  have hl : liv S pend = false := hl
  have e1 : wlkP S x ⟨2, src, own, slot, pend, ended, code⟩ = (true, ⟨mis1 S, x⟩, failW ⟨2, src, own, slot, pend, ended, code⟩ 22) := by
    show (if liv S pend then _ else _) = _
    rw [hl]
    rfl
  rw [e1]
  clear e1 hk
  have HL := ix_loadLink_no w.drew L Q S X x pend HD.out.1.h hl
  have HLL : Hid (∀ _ : Unit, _) := fun _ => HL
  clear HL hl
  go_enter Tryz.func133, Tryz.ntmps133
  have sx : w.drew.cell? ⟨mb, 0, none⟩ = some (.pointer (some ⟨X.x, 0, none⟩)) ∧ w.drew.cell? ⟨mb, 5, none⟩ = some (.int .i64 pend) := ⟨(HD.out.1.cell 0).trans rfl, (HD.out.1.cell 5).trans rfl⟩
  go_wp2_with fail
  (refine wp_region_held_drew (S := (fun Z => Z.cell? ⟨mb, 0, none⟩ = some (.pointer (some ⟨X.x, 0, none⟩)) ∧ Z.cell? ⟨mb, 5, none⟩ = some (.int .i64 pend))) (by kernel_rfl) sx (fun hHeld => ?_); simp only [List.size_toArray, List.length_cons, List.length_nil, Nat.reduceAdd, Array.replicate_succ, Array.replicate_zero, List.push_toArray, List.append_toArray, List.nil_append, List.cons_append])
  clear sx
  refine rgT 0 (h := ?_)
  refine rgT 1 (h := ?_)
  refine rgT 2 (h := ?_)
  refine rgT 3 (h := ?_)
  refine rgT 4 (h := ?_)
  refine rgT 5 (h := ?_)
  refine rgT 6 (h := ?_)
  refine rgT 7 (h := ?_)
  (refine rgS 8 (h := fun K hK => ?_); go_simp)
  refine (HLL.out ()).mono ?_
  rintro e w2 ⟨rfl, hc2, k2⟩
  have H2 : Hid (MB w2 L Q (mis1 S) X x mb (wlkA mb X.x 133 src own slot pend ended code) 94 ∧ Keeps (mkF L X mb) w w2) := ⟨HD.out.1.call hc2 k2, HD.out.2.trans (kF k2)⟩
  clear hc2 k2 HD HLL
  (refine hK.out _ _ ⟨(H2.out.1.cell 0).trans rfl, (H2.out.1.cell 5).trans rfl⟩ (fun hHeld => ?_); clear hK K; try simp only [Act.put, List.setIfInBounds_toArray, List.set_cons_zero, List.set_cons_succ])
  refine rgT 9 (h := ?_)
  refine rgT 10 (h := ?_)
  refine rgT 11 (h := ?_)
  refine rgT 12 (h := ?_)
  refine rgT 13 (h := ?_)
  refine wpAnyH_done (by kernel_rfl) ?_ _
  clear hHeld
  clear hHeld
  go_wp2_with fail
  refine (wlk_fail w2 mb X.x _ src own slot pend ended code 22 H2.out.1.m).mono ?_
  rintro e w9 ⟨rfl, hm9, k9⟩
  have H9 : Hid (CH w9 L Q (mis1 S) X (x) ∧ WlkH w9 mb X.x (failW ⟨2, src, own, slot, pend, ended, code⟩ 22) ∧ Keeps (mkF L X mb) w w9) := ⟨(H2.out.1.own hm9 k9).h, hm9, H2.out.2.trans (kM k9)⟩
  clear hm9 k9 H2
  go_wp2
  go_ret
  exact ⟨rfl, H9.out⟩
theorem wlk_loadPending_go (w : World) (L : Lay) (Q : List Nat) (S : AS) (X : XL) (x : XS) (mb : Nat) (m : MW) (h : CH w L Q S X x) (hm : WlkH w mb X.x m) (hn : ¬ chF L X mb) (hs : m.st = 2) (hk : WdOk S x) (hl : liv S m.pend = true) : Calls Tryz.prog 133 #[.pointer (some ⟨mb, 0, none⟩)] w (StpW w L Q X mb (wlkP S x m)) := by
  obtain ⟨st, src, own, slot, pend, ended, code⟩ := m
  obtain rfl : st = 2 := hs
  have H0 : MB w L Q S X x mb (wlkA mb X.x 133 src own slot pend ended code) 94 := ⟨h, hm, hn⟩
  have HD : Hid (MB w.drew L Q S X x mb (wlkA mb X.x 133 src own slot pend ended code) 94 ∧ Keeps (mkF L X mb) w w.drew) := ⟨H0.drew, (Keeps.refl _ _).drew⟩
  clear h hm hn H0
  have hl : liv S pend = true := hl
  have e1 : wlkP S x ⟨2, src, own, slot, pend, ended, code⟩ = ((lookW ⟨2, src, own, if S.word (atC S pend x.cell) % 2 == 1 then 0 else pend, pend, ended, code⟩ (S.word (atC S pend x.cell) / 2)).1, ⟨acc1 S, x⟩, (lookW ⟨2, src, own, if S.word (atC S pend x.cell) % 2 == 1 then 0 else pend, pend, ended, code⟩ (S.word (atC S pend x.cell) / 2)).2) := by
    show (if liv S pend then _ else _) = _
    rw [hl]
    rfl
  rw [e1]
  clear e1
  have HL := ix_loadLink w.drew L Q S X x pend HD.out.1.h hl
  have HK : Hid (LkOk (S.word (atC S pend x.cell))) := hk.1 _
  obtain ⟨v, hv⟩ : ∃ v, S.word (atC S pend x.cell) = v := ⟨_, rfl⟩
  rw [hv] at HL HK ⊢
  have HLL : Hid (∀ _ : Unit, _) := fun _ => HL
  clear HL hl hv hk
  obtain ⟨mk, hmk⟩ : ∃ mk, (v % 2 == 1) = mk := ⟨_, rfl⟩
  rw [hmk]
  have HMK : Hid ((v % 2 == 1) = mk) := hmk
  clear hmk
  obtain ⟨n, hnn⟩ : ∃ n, v / 2 = n := ⟨_, rfl⟩
  rw [hnn]
  have HNN : Hid (v / 2 = n) := hnn
  obtain ⟨q, hq⟩ : ∃ q, lookW ⟨2, src, own, if mk = true then 0 else pend, pend, ended, code⟩ n = q := ⟨_, rfl⟩
  have HLK : Hid (∀ W, WlkH W mb X.x ⟨2, src, own, if mk = true then 0 else pend, pend, ended, code⟩ → Calls Tryz.prog 86 #[.pointer (some ⟨mb, 0, none⟩), .int .i64 n] W fun e w' => e = .returned (.bool q.1) ∧ WlkH w' mb X.x q.2 ∧ Keeps (fun g => g = mb) W w') := fun W hW => by
    have := wlk_look W mb X.x ⟨2, src, own, if mk = true then 0 else pend, pend, ended, code⟩ n hW
    rw [hq] at this
    exact this
  rw [hq]
  clear hq hnn
  go_enter Tryz.func133, Tryz.ntmps133
  have sx : w.drew.cell? ⟨mb, 0, none⟩ = some (.pointer (some ⟨X.x, 0, none⟩)) ∧ w.drew.cell? ⟨mb, 5, none⟩ = some (.int .i64 pend) := ⟨(HD.out.1.cell 0).trans rfl, (HD.out.1.cell 5).trans rfl⟩
  go_wp2_with fail
  (refine wp_region_held_drew (S := (fun Z => Z.cell? ⟨mb, 0, none⟩ = some (.pointer (some ⟨X.x, 0, none⟩)) ∧ Z.cell? ⟨mb, 5, none⟩ = some (.int .i64 pend))) (by kernel_rfl) sx (fun hHeld => ?_); simp only [List.size_toArray, List.length_cons, List.length_nil, Nat.reduceAdd, Array.replicate_succ, Array.replicate_zero, List.push_toArray, List.append_toArray, List.nil_append, List.cons_append])
  clear sx
  refine rgT 0 (h := ?_)
  refine rgT 1 (h := ?_)
  refine rgT 2 (h := ?_)
  refine rgT 3 (h := ?_)
  refine rgT 4 (h := ?_)
  refine rgT 5 (h := ?_)
  refine rgT 6 (h := ?_)
  refine rgT 7 (h := ?_)
  (refine rgS 8 (h := fun K hK => ?_); go_simp)
  refine (HLL.out ()).mono ?_
  rintro e w2 ⟨rfl, hc2, k2⟩
  have H2 : Hid (MB w2 L Q (acc1 S) X x mb (wlkA mb X.x 133 src own slot pend ended code) 94 ∧ Keeps (mkF L X mb) w w2) := ⟨HD.out.1.call hc2 k2, HD.out.2.trans (kF k2)⟩
  clear hc2 k2 HD HLL
  (refine hK.out _ _ ⟨(H2.out.1.cell 0).trans rfl, (H2.out.1.cell 5).trans rfl⟩ (fun hHeld => ?_); clear hK K; try simp only [Act.put, List.setIfInBounds_toArray, List.set_cons_zero, List.set_cons_succ])
  refine rgT 9 (h := ?_)
  refine rgT 10 (h := ?_)
  refine rgT 11 (h := ?_)
  refine rgT 12 (h := ?_)
  refine rgT 13 (h := ?_)
  refine wpAnyH_done (by kernel_rfl) ?_ _
  clear hHeld
  clear hHeld
  go_wp2_with fail
  refine (take_any v w2 HK.out).mono ?_
  rintro e w5 ⟨rfl, hw5⟩
  rw [hw5]
  clear hw5 w5 HK
  rw [HMK.out, HNN.out]
  clear HMK HNN
  cases mk
  · have c5 : w2.cell? ⟨mb, 5, none⟩ = some (.int .i64 pend) := (H2.out.1.cell 5).trans rfl
    have c4 : w2.cell? ⟨mb, 4, none⟩ = some (.int .i64 slot) := (H2.out.1.cell 4).trans rfl
    have f4 := H2.out.1.fz 4
    have H3 : Hid (MB (w2.setCell ⟨mb, 4, none⟩ (.int .i64 pend)) L Q (acc1 S) X x mb (wlkA mb X.x 133 src own pend pend ended code) 94 ∧ Keeps (mkF L X mb) w (w2.setCell ⟨mb, 4, none⟩ (.int .i64 pend))) := ⟨(H2.out.1.set 4 _).1, H2.out.2.trans (kM (H2.out.1.set 4 _).2)⟩
    clear H2
    go_wp2_with fail
    clear c5 c4 f4
    refine (HLK.out (w2.setCell ⟨mb, 4, none⟩ (.int .i64 pend)) H3.out.1.m).mono ?_
    rintro e w9 ⟨rfl, hm9, k9⟩
    have H9 : Hid (CH w9 L Q (acc1 S) X x ∧ WlkH w9 mb X.x q.2 ∧ Keeps (mkF L X mb) w w9) := ⟨(H3.out.1.own hm9 k9).h, hm9, H3.out.2.trans (kM k9)⟩
    clear hm9 k9 H3 HLK
    go_wp2
    go_ret
    exact ⟨rfl, H9.out⟩
  · have c5 : w2.cell? ⟨mb, 5, none⟩ = some (.int .i64 pend) := (H2.out.1.cell 5).trans rfl
    have c4 : w2.cell? ⟨mb, 4, none⟩ = some (.int .i64 slot) := (H2.out.1.cell 4).trans rfl
    have f4 := H2.out.1.fz 4
    have H3 : Hid (MB ((w2.setCell ⟨mb, 4, none⟩ (.int .i64 pend)).setCell ⟨mb, 4, none⟩ (.int .i64 0)) L Q (acc1 S) X x mb (wlkA mb X.x 133 src own 0 pend ended code) 94 ∧ Keeps (mkF L X mb) w ((w2.setCell ⟨mb, 4, none⟩ (.int .i64 pend)).setCell ⟨mb, 4, none⟩ (.int .i64 0))) := ⟨((H2.out.1.set 4 _).1.set 4 _).1, (H2.out.2.trans (kM (H2.out.1.set 4 _).2)).trans (kM ((H2.out.1.set 4 _).1.set 4 _).2)⟩
    clear H2
    go_wp2_with fail
    clear c5 c4 f4
    refine (HLK.out ((w2.setCell ⟨mb, 4, none⟩ (.int .i64 pend)).setCell ⟨mb, 4, none⟩ (.int .i64 0)) H3.out.1.m).mono ?_
    rintro e w9 ⟨rfl, hm9, k9⟩
    have H9 : Hid (CH w9 L Q (acc1 S) X x ∧ WlkH w9 mb X.x q.2 ∧ Keeps (mkF L X mb) w w9) := ⟨(H3.out.1.own hm9 k9).h, hm9, H3.out.2.trans (kM k9)⟩
    clear hm9 k9 H3 HLK
    go_wp2
    go_ret
    exact ⟨rfl, H9.out⟩
end Go.Proofs.YteekompojgbkhaaGreat
