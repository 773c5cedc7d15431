import Derived.Test.YteekompojgbkhaaGreatKRbD
import Derived.Test.YteekompojgbkhaaGreatKChH
namespace Go.Proofs.YteekompojgbkhaaGreat
open Go.ChangeShapes Go.WideShapes Go.ChangeAt Go.RowKit Go.MuLone Go.RwLone
set_option linter.unusedVariables false
set_option maxRecDepth 100000
set_option maxHeartbeats 3200000
end Go.Proofs.YteekompojgbkhaaGreat

namespace Go.Proofs.YteekompojgbkhaaGreat
set_option linter.unusedSimpArgs false
open Go.ChangeShapes Go.WideShapes Go.ChangeAt Go.RowKit Go.MuLone Go.RwLone
set_option linter.unusedVariables false
set_option maxRecDepth 100000
set_option maxHeartbeats 3200000
/-- A Remove, plain. st 0: it begins, 1: its own link is to be loaded, 2: marked, 3: the head, 4: the present one's link, 5: unlinked, 6: done. -/
structure MR where
  st : Nat
  co : Int
  bu : Int
  sl : Int
  wd : Int
  ah : Int
  pr : Int
  be : Int
  ma : Bool
  he : Int
def remF : Nat → Nat
  | 0 => 72
  | 1 => 125
  | 2 => 172
  | 3 => 171
  | 4 => 220
  | 5 => 224
  | _ => 134
abbrev remA (mb xb f : Nat) (co bu sl wd ah pr be : Int) (ma : Bool) (he : Int) : Array Value := #[nxV f mb, .int .i64 co, .pointer (some ⟨xb, 0, none⟩), .int .i64 bu, .int .i64 sl, .int .u64 wd, .int .i64 ah, .int .i64 pr, .int .i64 be, .bool ma, .int .i64 he]
def RemH (w : World) (mb xb : Nat) (m : MR) : Prop := w.heap[mb]? = some (.cells (remA mb xb (remF m.st) m.co m.bu m.sl m.wd m.ah m.pr m.be m.ma m.he) 155)
def mvR (m : MR) (n : Int) : Bool × MR := if 4096 < n then (true, { m with st := 6, co := 0 }) else (false, { m with pr := n, st := 4 })
def ownR (S : AS) (x : XS) (m : MR) : Bool × CS × MR := if liv S m.sl then (if S.word (atC S m.sl x.cell) = 0 then (true, ⟨acc1 S, x⟩, { m with st := 6, co := 42 }) else if S.word (atC S m.sl x.cell) % 2 == 1 then (false, ⟨acc1 S, x⟩, { m with st := 3 }) else (false, ⟨acc1 S, x⟩, { m with st := 2, wd := S.word (atC S m.sl x.cell) })) else (true, ⟨mis1 S, x⟩, { m with st := 6, co := 22 })
def ahR (S : AS) (x : XS) (bu ah u y : Int) : Bool × Int × CS := if ah = 0 then (if x.hd bu.toNat = u then (true, 0, ⟨S, { x.cn1 with hd := upd x.hd bu.toNat y }⟩) else (false, 0, ⟨S, x.cn1⟩)) else (if liv S ah then (if S.word (atC S ah x.cell) = u then (true, 0, ⟨put1 S (atC S ah x.cell) y, x⟩) else (false, 0, ⟨acc1 S, x⟩)) else (false, 22, ⟨mis1 S, x⟩))
def unlR (m : MR) (q : Bool × Int × CS) : Bool × CS × MR := if q.2.1 = 0 then (if q.1 then (if m.pr = m.sl then (true, q.2.2, { m with st := 6, co := 0 }) else ((mvR { m with he := wrap64 (m.he + 1) } m.be).1, q.2.2, (mvR { m with he := wrap64 (m.he + 1) } m.be).2)) else (false, q.2.2, { m with st := 3 })) else (true, q.2.2, { m with st := 6, co := q.2.1 })
def remP (S : AS) (x : XS) (m : MR) : Bool × CS × MR := match m.st with
  | 0 => if inB x m.bu then ownR S x m else (true, ⟨S, x⟩, { m with st := 6, co := 40 })
  | 1 => ownR S x m
  | 2 => if liv S m.sl then (if S.word (atC S m.sl x.cell) = m.wd then (false, ⟨put1 S (atC S m.sl x.cell) (2 * (m.wd / 2) + 1), x⟩, { m with st := 3, ma := true }) else (false, ⟨acc1 S, x⟩, { m with st := 1 })) else (true, ⟨mis1 S, x⟩, { m with st := 6, co := 22 })
  | 3 => ((mvR { m with ah := 0 } (x.hd m.bu.toNat / 2)).1, ⟨S, x.cn1⟩, (mvR { m with ah := 0 } (x.hd m.bu.toNat / 2)).2)
  | 4 => if liv S m.pr then (if S.word (atC S m.pr x.cell) / 2 = 0 then (true, ⟨acc1 S, x⟩, { m with st := 6, co := 42 }) else if S.word (atC S m.pr x.cell) % 2 == 1 then (false, ⟨acc1 S, x⟩, { m with st := 5, be := S.word (atC S m.pr x.cell) / 2 }) else ((mvR { m with ah := m.pr } (S.word (atC S m.pr x.cell) / 2)).1, ⟨acc1 S, x⟩, (mvR { m with ah := m.pr } (S.word (atC S m.pr x.cell) / 2)).2)) else (true, ⟨mis1 S, x⟩, { m with st := 6, co := 22 })
  | 5 => unlR m (ahR S x m.bu m.ah (2 * m.pr) (2 * m.be))
  | _ => (true, ⟨S, x⟩, m)
def StpR (w : World) (L : Lay) (Q : List Nat) (X : XL) (mb : Nat) (p : Bool × CS × MR) (e : Ending) (w' : World) : Prop := e = .returned (.bool p.1) ∧ CH w' L Q p.2.1.S X p.2.1.x ∧ RemH w' mb X.x p.2.2 ∧ Keeps (mkF L X mb) w w'
theorem rem_move_end (w : World) (mb xb f : Nat) (co bu sl wd ah pr be : Int) (ma : Bool) (he : Int) (n : Int) (h : w.heap[mb]? = some (.cells (remA mb xb f co bu sl wd ah pr be ma he) 155)) (hE : 4096 < n) : Calls Tryz.prog 210 #[.pointer (some ⟨mb, 0, none⟩), .int .i64 n] w fun e w' => e = .returned (.bool true) ∧ w'.heap[mb]? = some (.cells (remA mb xb 134 0 bu sl wd ah pr be ma he) 155) ∧ Keeps (fun g => g = mb) w w' := by
  have HH : Hid (w.heap[mb]? = some (.cells (remA mb xb f co bu sl wd ah pr be ma he) 155)) := h
  have HE : Hid (decide (4096 < n) = true) := decide_eq_true hE
  clear h hE
  go_enter Tryz.func210, Tryz.ntmps210
  go_wp2_with fail
  refine (is_end n w).mono ?_
  rintro e w1 ⟨rfl, hw1⟩
  rw [hw1, HE.out]
  clear hw1 w1 HE
  go_wp2_with fail
  refine (job_done w mb 0 _ _ _ _ HH.out rfl rfl).mono ?_
  rintro e w2 ⟨rfl, h2, k2⟩
  have H2 : Hid (w2.heap[mb]? = some (.cells (remA mb xb 134 0 bu sl wd ah pr be ma he) 155) ∧ Keeps (fun g => g = mb) w w2) := ⟨h2, k2⟩
  clear h2 k2 HH
  go_wp2
  go_ret
  exact ⟨rfl, H2.out⟩
theorem rem_move_on (w : World) (mb xb f : Nat) (co bu sl wd ah pr be : Int) (ma : Bool) (he : Int) (n : Int) (h : w.heap[mb]? = some (.cells (remA mb xb f co bu sl wd ah pr be ma he) 155)) (hE : ¬ 4096 < n) : Calls Tryz.prog 210 #[.pointer (some ⟨mb, 0, none⟩), .int .i64 n] w fun e w' => e = .returned (.bool false) ∧ w'.heap[mb]? = some (.cells (remA mb xb 220 co bu sl wd ah n be ma he) 155) ∧ Keeps (fun g => g = mb) w w' := by
  have c7 : w.cell? ⟨mb, 7, none⟩ = some (.int .i64 pr) := (cell?_heap h 7).trans rfl
  have f7 := frozen?_heap h 7
  have HN : Hid ((w.setCell ⟨mb, 7, none⟩ (.int .i64 n)).heap[mb]? = some (.cells (remA mb xb f co bu sl wd ah n be ma he) 155) ∧ Keeps (fun g => g = mb) w (w.setCell ⟨mb, 7, none⟩ (.int .i64 n))) := ⟨heapSetC h 7 _, setK (Keeps.refl _ _)⟩
  have HE : Hid (decide (4096 < n) = false) := decide_eq_false hE
  clear h hE
  go_enter Tryz.func210, Tryz.ntmps210
  go_wp2_with fail
  refine (is_end n w).mono ?_
  rintro e w1 ⟨rfl, hw1⟩
  rw [hw1, HE.out]
  clear hw1 w1 HE
  go_wp2_with fail
  clear c7 f7
  refine (job_goOn (w.setCell ⟨mb, 7, none⟩ (.int .i64 n)) mb (nxV 220 mb) _ _ _ HN.out.1 rfl ⟨_, _, rfl⟩).mono ?_
  rintro e w2 ⟨rfl, h2, k2⟩
  have H2 : Hid (w2.heap[mb]? = some (.cells (remA mb xb 220 co bu sl wd ah n be ma he) 155) ∧ Keeps (fun g => g = mb) w w2) := ⟨h2, HN.out.2.trans k2⟩
  clear h2 k2 HN
  go_wp2
  go_ret
  exact ⟨rfl, H2.out⟩
theorem rem_moveA (w : World) (mb xb f : Nat) (co bu sl wd ah pr be : Int) (ma : Bool) (he : Int) (n : Int) (st : Nat) (h : w.heap[mb]? = some (.cells (remA mb xb f co bu sl wd ah pr be ma he) 155)) : Calls Tryz.prog 210 #[.pointer (some ⟨mb, 0, none⟩), .int .i64 n] w fun e w' => e = .returned (.bool (mvR ⟨st, co, bu, sl, wd, ah, pr, be, ma, he⟩ n).1) ∧ RemH w' mb xb (mvR ⟨st, co, bu, sl, wd, ah, pr, be, ma, he⟩ n).2 ∧ Keeps (fun g => g = mb) w w' := by
  unfold mvR
  by_cases hE : 4096 < n
  · rw [if_pos hE]
    exact rem_move_end w mb xb f co bu sl wd ah pr be ma he n h hE
  · rw [if_neg hE]
    exact rem_move_on w mb xb f co bu sl wd ah pr be ma he n h hE
theorem rem_own_dead (w : World) (L : Lay) (Q : List Nat) (S : AS) (X : XL) (x : XS) (mb ff : Nat) (co bu sl wd ah pr be : Int) (ma : Bool) (he : Int) (h : CH w L Q S X x) (hm : w.heap[mb]? = some (.cells (remA mb X.x ff co bu sl wd ah pr be ma he) 155)) (hn : ¬ chF L X mb) (hl : liv S sl = false) : Calls Tryz.prog 125 #[.pointer (some ⟨mb, 0, none⟩)] w (StpR w L Q X mb (true, ⟨mis1 S, x⟩, ⟨6, 22, bu, sl, wd, ah, pr, be, ma, he⟩)) := by
  have H0 : MB w L Q S X x mb (remA mb X.x ff co bu sl wd ah pr be ma he) 155 := ⟨h, hm, hn⟩
  have HD : Hid (MB w.drew L Q S X x mb (remA mb X.x ff co bu sl wd ah pr be ma he) 155 ∧ Keeps (mkF L X mb) w w.drew) := ⟨H0.drew, (Keeps.refl _ _).drew⟩
  have HP : Hid (MB w L Q S X x mb (remA mb X.x ff co bu sl wd ah pr be ma he) 155 ∧ Keeps (mkF L X mb) w w) := ⟨H0, Keeps.refl _ _⟩
  clear h hm hn H0
  have HL := ix_loadLink_no w.drew L Q S X x sl HD.out.1.h hl
  have HLL : Hid (∀ _ : Unit, _) := fun _ => HL
  clear HL hl
  go_enter Tryz.func125, Tryz.ntmps125
  have sx : w.drew.cell? ⟨mb, 2, none⟩ = some (.pointer (some ⟨X.x, 0, none⟩)) ∧ w.drew.cell? ⟨mb, 4, none⟩ = some (.int .i64 sl) := ⟨(HD.out.1.cell 2).trans rfl, (HD.out.1.cell 4).trans rfl⟩
  go_wp2_with fail
  (refine wp_region_held_drew (S := (fun Z => Z.cell? ⟨mb, 2, none⟩ = some (.pointer (some ⟨X.x, 0, none⟩)) ∧ Z.cell? ⟨mb, 4, none⟩ = some (.int .i64 sl))) (by kernel_rfl) sx (fun hHeld => ?_); simp only [List.size_toArray, List.length_cons, List.length_nil, Nat.reduceAdd, Array.replicate_succ, Array.replicate_zero, List.push_toArray, List.append_toArray, List.nil_append, List.cons_append])
  clear sx
  refine rgT 0 (h := ?_)
  refine rgT 1 (h := ?_)
  refine rgT 2 (h := ?_)
  refine rgT 3 (h := ?_)
  refine rgT 4 (h := ?_)
  refine rgT 5 (h := ?_)
  refine rgT 6 (h := ?_)
  refine rgT 7 (h := ?_)
  (refine rgS 8 (h := fun K hK => ?_); go_simp)
  refine (HLL.out ()).mono ?_
  rintro e w2 ⟨rfl, hc2, k2⟩
  have H2 : Hid (MB w2 L Q (mis1 S) X x mb (remA mb X.x ff co bu sl wd ah pr be ma he) 155 ∧ Keeps (mkF L X mb) w w2) := ⟨HD.out.1.call hc2 k2, HD.out.2.trans (kF k2)⟩
  clear hc2 k2 HD HLL HP
  (refine hK.out _ _ ⟨(H2.out.1.cell 2).trans rfl, (H2.out.1.cell 4).trans rfl⟩ (fun hHeld => ?_); clear hK K; try simp only [Act.put, List.setIfInBounds_toArray, List.set_cons_zero, List.set_cons_succ])
  refine rgT 9 (h := ?_)
  refine rgT 10 (h := ?_)
  refine rgT 11 (h := ?_)
  refine rgT 12 (h := ?_)
  refine rgT 13 (h := ?_)
  refine wpAnyH_done (by kernel_rfl) ?_ _
  clear hHeld
  clear hHeld
  go_wp2_with fail
  refine (job_done w2 mb 22 _ _ _ _ H2.out.1.m rfl rfl).mono ?_
  rintro e w9 ⟨rfl, hm9, k9⟩
  have H9 : Hid (CH w9 L Q (mis1 S) X (x) ∧ RemH w9 mb X.x ⟨6, 22, bu, sl, wd, ah, pr, be, ma, he⟩ ∧ Keeps (mkF L X mb) w w9) := ⟨(H2.out.1.own hm9 k9).h, hm9, H2.out.2.trans (kM k9)⟩
  clear hm9 k9 H2
  go_wp2
  go_ret
  exact ⟨rfl, H9.out⟩
theorem rem_own_zero (w : World) (L : Lay) (Q : List Nat) (S : AS) (X : XL) (x : XS) (mb ff : Nat) (co bu sl wd ah pr be : Int) (ma : Bool) (he : Int) (h : CH w L Q S X x) (hm : w.heap[mb]? = some (.cells (remA mb X.x ff co bu sl wd ah pr be ma he) 155)) (hn : ¬ chF L X mb) (v : Int) (hv : S.word (atC S sl x.cell) = v) (hk : LkOk v) (hl : liv S sl = true) (hz : v = 0) : Calls Tryz.prog 125 #[.pointer (some ⟨mb, 0, none⟩)] w (StpR w L Q X mb (true, ⟨acc1 S, x⟩, ⟨6, 42, bu, sl, wd, ah, pr, be, ma, he⟩)) := by
  have H0 : MB w L Q S X x mb (remA mb X.x ff co bu sl wd ah pr be ma he) 155 := ⟨h, hm, hn⟩
  have HD : Hid (MB w.drew L Q S X x mb (remA mb X.x ff co bu sl wd ah pr be ma he) 155 ∧ Keeps (mkF L X mb) w w.drew) := ⟨H0.drew, (Keeps.refl _ _).drew⟩
  have HP : Hid (MB w L Q S X x mb (remA mb X.x ff co bu sl wd ah pr be ma he) 155 ∧ Keeps (mkF L X mb) w w) := ⟨H0, Keeps.refl _ _⟩
  clear h hm hn H0
  subst hz
  have HL := ix_loadLink w.drew L Q S X x sl HD.out.1.h hl
  rw [hv] at HL
  have HLL : Hid (∀ _ : Unit, _) := fun _ => HL
  clear HL hl hv
  go_enter Tryz.func125, Tryz.ntmps125
  have sx : w.drew.cell? ⟨mb, 2, none⟩ = some (.pointer (some ⟨X.x, 0, none⟩)) ∧ w.drew.cell? ⟨mb, 4, none⟩ = some (.int .i64 sl) := ⟨(HD.out.1.cell 2).trans rfl, (HD.out.1.cell 4).trans rfl⟩
  go_wp2_with fail
  (refine wp_region_held_drew (S := (fun Z => Z.cell? ⟨mb, 2, none⟩ = some (.pointer (some ⟨X.x, 0, none⟩)) ∧ Z.cell? ⟨mb, 4, none⟩ = some (.int .i64 sl))) (by kernel_rfl) sx (fun hHeld => ?_); simp only [List.size_toArray, List.length_cons, List.length_nil, Nat.reduceAdd, Array.replicate_succ, Array.replicate_zero, List.push_toArray, List.append_toArray, List.nil_append, List.cons_append])
  clear sx
  refine rgT 0 (h := ?_)
  refine rgT 1 (h := ?_)
  refine rgT 2 (h := ?_)
  refine rgT 3 (h := ?_)
  refine rgT 4 (h := ?_)
  refine rgT 5 (h := ?_)
  refine rgT 6 (h := ?_)
  refine rgT 7 (h := ?_)
  (refine rgS 8 (h := fun K hK => ?_); go_simp)
  refine (HLL.out ()).mono ?_
  rintro e w2 ⟨rfl, hc2, k2⟩
  have H2 : Hid (MB w2 L Q (acc1 S) X x mb (remA mb X.x ff co bu sl wd ah pr be ma he) 155 ∧ Keeps (mkF L X mb) w w2) := ⟨HD.out.1.call hc2 k2, HD.out.2.trans (kF k2)⟩
  clear hc2 k2 HD HLL HP
  (refine hK.out _ _ ⟨(H2.out.1.cell 2).trans rfl, (H2.out.1.cell 4).trans rfl⟩ (fun hHeld => ?_); clear hK K; try simp only [Act.put, List.setIfInBounds_toArray, List.set_cons_zero, List.set_cons_succ])
  refine rgT 9 (h := ?_)
  refine rgT 10 (h := ?_)
  refine rgT 11 (h := ?_)
  refine rgT 12 (h := ?_)
  refine rgT 13 (h := ?_)
  refine wpAnyH_done (by kernel_rfl) ?_ _
  clear hHeld
  clear hHeld
  go_wp2_with fail
  refine (job_done w2 mb 42 _ _ _ _ H2.out.1.m rfl rfl).mono ?_
  rintro e w9 ⟨rfl, hm9, k9⟩
  have H9 : Hid (CH w9 L Q (acc1 S) X (x) ∧ RemH w9 mb X.x ⟨6, 42, bu, sl, wd, ah, pr, be, ma, he⟩ ∧ Keeps (mkF L X mb) w w9) := ⟨(H2.out.1.own hm9 k9).h, hm9, H2.out.2.trans (kM k9)⟩
  clear hm9 k9 H2
  go_wp2
  go_ret
  exact ⟨rfl, H9.out⟩
theorem rem_own_marked (w : World) (L : Lay) (Q : List Nat) (S : AS) (X : XL) (x : XS) (mb ff : Nat) (co bu sl wd ah pr be : Int) (ma : Bool) (he : Int) (h : CH w L Q S X x) (hm : w.heap[mb]? = some (.cells (remA mb X.x ff co bu sl wd ah pr be ma he) 155)) (hn : ¬ chF L X mb) (v : Int) (hv : S.word (atC S sl x.cell) = v) (hk : LkOk v) (hl : liv S sl = true) (hz : ¬ v = 0) (hm2 : (v % 2 == 1) = true) : Calls Tryz.prog 125 #[.pointer (some ⟨mb, 0, none⟩)] w (StpR w L Q X mb (false, ⟨acc1 S, x⟩, ⟨3, co, bu, sl, wd, ah, pr, be, ma, he⟩)) := by
  have H0 : MB w L Q S X x mb (remA mb X.x ff co bu sl wd ah pr be ma he) 155 := ⟨h, hm, hn⟩
  have HD : Hid (MB w.drew L Q S X x mb (remA mb X.x ff co bu sl wd ah pr be ma he) 155 ∧ Keeps (mkF L X mb) w w.drew) := ⟨H0.drew, (Keeps.refl _ _).drew⟩
  have HP : Hid (MB w L Q S X x mb (remA mb X.x ff co bu sl wd ah pr be ma he) 155 ∧ Keeps (mkF L X mb) w w) := ⟨H0, Keeps.refl _ _⟩
  clear h hm hn H0
  have HL := ix_loadLink w.drew L Q S X x sl HD.out.1.h hl
  rw [hv] at HL
  have HLL : Hid (∀ _ : Unit, _) := fun _ => HL
  clear HL hl hv
  have hz2 : (v == 0) = false := by simp [hz]
  have HK : Hid (LkOk v) := hk
  have HMK : Hid ((v % 2 == 1) = true) := hm2
  clear hk hm2 hz
  go_enter Tryz.func125, Tryz.ntmps125
  have sx : w.drew.cell? ⟨mb, 2, none⟩ = some (.pointer (some ⟨X.x, 0, none⟩)) ∧ w.drew.cell? ⟨mb, 4, none⟩ = some (.int .i64 sl) := ⟨(HD.out.1.cell 2).trans rfl, (HD.out.1.cell 4).trans rfl⟩
  go_wp2_with fail
  (refine wp_region_held_drew (S := (fun Z => Z.cell? ⟨mb, 2, none⟩ = some (.pointer (some ⟨X.x, 0, none⟩)) ∧ Z.cell? ⟨mb, 4, none⟩ = some (.int .i64 sl))) (by kernel_rfl) sx (fun hHeld => ?_); simp only [List.size_toArray, List.length_cons, List.length_nil, Nat.reduceAdd, Array.replicate_succ, Array.replicate_zero, List.push_toArray, List.append_toArray, List.nil_append, List.cons_append])
  clear sx
  refine rgT 0 (h := ?_)
  refine rgT 1 (h := ?_)
  refine rgT 2 (h := ?_)
  refine rgT 3 (h := ?_)
  refine rgT 4 (h := ?_)
  refine rgT 5 (h := ?_)
  refine rgT 6 (h := ?_)
  refine rgT 7 (h := ?_)
  (refine rgS 8 (h := fun K hK => ?_); go_simp)
  refine (HLL.out ()).mono ?_
  rintro e w2 ⟨rfl, hc2, k2⟩
  have H2 : Hid (MB w2 L Q (acc1 S) X x mb (remA mb X.x ff co bu sl wd ah pr be ma he) 155 ∧ Keeps (mkF L X mb) w w2) := ⟨HD.out.1.call hc2 k2, HD.out.2.trans (kF k2)⟩
  clear hc2 k2 HD HLL HP
  (refine hK.out _ _ ⟨(H2.out.1.cell 2).trans rfl, (H2.out.1.cell 4).trans rfl⟩ (fun hHeld => ?_); clear hK K; try simp only [Act.put, List.setIfInBounds_toArray, List.set_cons_zero, List.set_cons_succ])
  refine rgT 9 (h := ?_)
  refine rgT 10 (h := ?_)
  refine rgT 11 (h := ?_)
  refine rgT 12 (h := ?_)
  refine rgT 13 (h := ?_)
  refine wpAnyH_done (by kernel_rfl) ?_ _
  clear hHeld
  clear hHeld
  go_wp2_with fail
  refine (take_any v w2 HK.out).mono ?_
  rintro e w5 ⟨rfl, hw5⟩
  rw [hw5]
  clear hw5 w5 HK
  rw [HMK.out]
  clear HMK
  generalize v / 2 = n5
  go_wp2_with fail
  refine (job_goOn w2 mb (nxV 171 mb) _ _ _ H2.out.1.m rfl ⟨_, _, rfl⟩).mono ?_
  rintro e w9 ⟨rfl, hm9, k9⟩
  have H9 : Hid (CH w9 L Q (acc1 S) X (x) ∧ RemH w9 mb X.x ⟨3, co, bu, sl, wd, ah, pr, be, ma, he⟩ ∧ Keeps (mkF L X mb) w w9) := ⟨(H2.out.1.own hm9 k9).h, hm9, H2.out.2.trans (kM k9)⟩
  clear hm9 k9 H2
  go_wp2
  go_ret
  exact ⟨rfl, H9.out⟩
theorem rem_own_go (w : World) (L : Lay) (Q : List Nat) (S : AS) (X : XL) (x : XS) (mb ff : Nat) (co bu sl wd ah pr be : Int) (ma : Bool) (he : Int) (h : CH w L Q S X x) (hm : w.heap[mb]? = some (.cells (remA mb X.x ff co bu sl wd ah pr be ma he) 155)) (hn : ¬ chF L X mb) (v : Int) (hv : S.word (atC S sl x.cell) = v) (hk : LkOk v) (hl : liv S sl = true) (hz : ¬ v = 0) (hm2 : (v % 2 == 1) = false) : Calls Tryz.prog 125 #[.pointer (some ⟨mb, 0, none⟩)] w (StpR w L Q X mb (false, ⟨acc1 S, x⟩, ⟨2, co, bu, sl, v, ah, pr, be, ma, he⟩)) := by
  have H0 : MB w L Q S X x mb (remA mb X.x ff co bu sl wd ah pr be ma he) 155 := ⟨h, hm, hn⟩
  have HD : Hid (MB w.drew L Q S X x mb (remA mb X.x ff co bu sl wd ah pr be ma he) 155 ∧ Keeps (mkF L X mb) w w.drew) := ⟨H0.drew, (Keeps.refl _ _).drew⟩
  have HP : Hid (MB w L Q S X x mb (remA mb X.x ff co bu sl wd ah pr be ma he) 155 ∧ Keeps (mkF L X mb) w w) := ⟨H0, Keeps.refl _ _⟩
  clear h hm hn H0
  have HL := ix_loadLink w.drew L Q S X x sl HD.out.1.h hl
  rw [hv] at HL
  have HLL : Hid (∀ _ : Unit, _) := fun _ => HL
  clear HL hl hv
  have hz2 : (v == 0) = false := by simp [hz]
  have HK : Hid (LkOk v) := hk
  have HMK : Hid ((v % 2 == 1) = false) := hm2
  clear hk hm2 hz
  go_enter Tryz.func125, Tryz.ntmps125
  have sx : w.drew.cell? ⟨mb, 2, none⟩ = some (.pointer (some ⟨X.x, 0, none⟩)) ∧ w.drew.cell? ⟨mb, 4, none⟩ = some (.int .i64 sl) := ⟨(HD.out.1.cell 2).trans rfl, (HD.out.1.cell 4).trans rfl⟩
  go_wp2_with fail
  (refine wp_region_held_drew (S := (fun Z => Z.cell? ⟨mb, 2, none⟩ = some (.pointer (some ⟨X.x, 0, none⟩)) ∧ Z.cell? ⟨mb, 4, none⟩ = some (.int .i64 sl))) (by kernel_rfl) sx (fun hHeld => ?_); simp only [List.size_toArray, List.length_cons, List.length_nil, Nat.reduceAdd, Array.replicate_succ, Array.replicate_zero, List.push_toArray, List.append_toArray, List.nil_append, List.cons_append])
  clear sx
  refine rgT 0 (h := ?_)
  refine rgT 1 (h := ?_)
  refine rgT 2 (h := ?_)
  refine rgT 3 (h := ?_)
  refine rgT 4 (h := ?_)
  refine rgT 5 (h := ?_)
  refine rgT 6 (h := ?_)
  refine rgT 7 (h := ?_)
  (refine rgS 8 (h := fun K hK => ?_); go_simp)
  refine (HLL.out ()).mono ?_
  rintro e w2 ⟨rfl, hc2, k2⟩
  have H2 : Hid (MB w2 L Q (acc1 S) X x mb (remA mb X.x ff co bu sl wd ah pr be ma he) 155 ∧ Keeps (mkF L X mb) w w2) := ⟨HD.out.1.call hc2 k2, HD.out.2.trans (kF k2)⟩
  clear hc2 k2 HD HLL HP
  (refine hK.out _ _ ⟨(H2.out.1.cell 2).trans rfl, (H2.out.1.cell 4).trans rfl⟩ (fun hHeld => ?_); clear hK K; try simp only [Act.put, List.setIfInBounds_toArray, List.set_cons_zero, List.set_cons_succ])
  refine rgT 9 (h := ?_)
  refine rgT 10 (h := ?_)
  refine rgT 11 (h := ?_)
  refine rgT 12 (h := ?_)
  refine rgT 13 (h := ?_)
  refine wpAnyH_done (by kernel_rfl) ?_ _
  clear hHeld
  clear hHeld
  go_wp2_with fail
  refine (take_any v w2 HK.out).mono ?_
  rintro e w5 ⟨rfl, hw5⟩
  rw [hw5]
  clear hw5 w5 HK
  rw [HMK.out]
  clear HMK
  generalize v / 2 = n5
  have c5 : w2.cell? ⟨mb, 5, none⟩ = some (.int .u64 wd) := (H2.out.1.cell 5).trans rfl
  have f5 := H2.out.1.fz 5
  have H3 : Hid (MB (w2.setCell ⟨mb, 5, none⟩ (.int .u64 v)) L Q (acc1 S) X x mb (remA mb X.x ff co bu sl v ah pr be ma he) 155 ∧ Keeps (mkF L X mb) w (w2.setCell ⟨mb, 5, none⟩ (.int .u64 v))) := ⟨(H2.out.1.set 5 _).1, H2.out.2.trans (kM (H2.out.1.set 5 _).2)⟩
  clear H2
  go_wp2_with fail
  clear c5 f5
  generalize w2.setCell ⟨mb, 5, none⟩ (.int .u64 v) = w3 at *
  refine (job_goOn w3 mb (nxV 172 mb) _ _ _ H3.out.1.m rfl ⟨_, _, rfl⟩).mono ?_
  rintro e w9 ⟨rfl, hm9, k9⟩
  have H9 : Hid (CH w9 L Q (acc1 S) X (x) ∧ RemH w9 mb X.x ⟨2, co, bu, sl, v, ah, pr, be, ma, he⟩ ∧ Keeps (mkF L X mb) w w9) := ⟨(H3.out.1.own hm9 k9).h, hm9, H3.out.2.trans (kM k9)⟩
  clear hm9 k9 H3
  go_wp2
  go_ret
  exact ⟨rfl, H9.out⟩
theorem rem_head (w : World) (L : Lay) (Q : List Nat) (S : AS) (X : XL) (x : XS) (mb ff : Nat) (co bu sl wd ah pr be : Int) (ma : Bool) (he : Int) (h : CH w L Q S X x) (hm : w.heap[mb]? = some (.cells (remA mb X.x ff co bu sl wd ah pr be ma he) 155)) (hn : ¬ chF L X mb) (b : Nat) (hb : bu = (b : Int)) (hb1 : b < x.nb) (v : Int) (hv : x.hd b = v) (hk : LkOk v) : Calls Tryz.prog 171 #[.pointer (some ⟨mb, 0, none⟩)] w (StpR w L Q X mb ((mvR ⟨3, co, bu, sl, wd, 0, pr, be, ma, he⟩ (v / 2)).1, ⟨S, x.cn1⟩, (mvR ⟨3, co, bu, sl, wd, 0, pr, be, ma, he⟩ (v / 2)).2)) := by
  have H0 : MB w L Q S X x mb (remA mb X.x ff co bu sl wd ah pr be ma he) 155 := ⟨h, hm, hn⟩
  have HD : Hid (MB w.drew L Q S X x mb (remA mb X.x ff co bu sl wd ah pr be ma he) 155 ∧ Keeps (mkF L X mb) w w.drew) := ⟨H0.drew, (Keeps.refl _ _).drew⟩
  have HP : Hid (MB w L Q S X x mb (remA mb X.x ff co bu sl wd ah pr be ma he) 155 ∧ Keeps (mkF L X mb) w w) := ⟨H0, Keeps.refl _ _⟩
  clear h hm hn H0
  subst hb
  have HX := ix_loadHead w.drew L.b X x b hb1 HD.out.1.h.i
  rw [hv] at HX
  have HXX : Hid (∀ _ : Unit, _) := fun _ => HX
  have HK : Hid (LkOk v) := hk
  clear HX hv hk HP
  obtain ⟨n, hnn⟩ : ∃ n, v / 2 = n := ⟨_, rfl⟩
  rw [hnn]
  have HNN : Hid (v / 2 = n) := hnn
  obtain ⟨q, hq⟩ : ∃ q, mvR ⟨3, co, (b : Int), sl, wd, 0, pr, be, ma, he⟩ n = q := ⟨_, rfl⟩
  have HMV : Hid (∀ W, W.heap[mb]? = some (.cells (remA mb X.x ff co (b : Int) sl wd 0 pr be ma he) 155) → Calls Tryz.prog 210 #[.pointer (some ⟨mb, 0, none⟩), .int .i64 n] W fun e w' => e = .returned (.bool q.1) ∧ RemH w' mb X.x q.2 ∧ Keeps (fun g => g = mb) W w') := fun W hW => by
    rw [← hq]
    exact rem_moveA W mb X.x ff co (b : Int) sl wd 0 pr be ma he n 3 hW
  rw [hq]
  clear hq hnn
  go_enter Tryz.func171, Tryz.ntmps171
  have sx : w.drew.cell? ⟨mb, 2, none⟩ = some (.pointer (some ⟨X.x, 0, none⟩)) ∧ w.drew.cell? ⟨mb, 3, none⟩ = some (.int .i64 (b : Int)) := ⟨(HD.out.1.cell 2).trans rfl, (HD.out.1.cell 3).trans rfl⟩
  go_wp2_with fail
  (refine wp_region_held_drew (S := (fun Z => Z.cell? ⟨mb, 2, none⟩ = some (.pointer (some ⟨X.x, 0, none⟩)) ∧ Z.cell? ⟨mb, 3, none⟩ = some (.int .i64 (b : Int)))) (by kernel_rfl) sx (fun hHeld => ?_); simp only [List.size_toArray, List.length_cons, List.length_nil, Nat.reduceAdd, Array.replicate_succ, Array.replicate_zero, List.push_toArray, List.append_toArray, List.nil_append, List.cons_append])
  clear sx
  refine rgT 0 (h := ?_)
  refine rgT 1 (h := ?_)
  refine rgT 2 (h := ?_)
  refine rgT 3 (h := ?_)
  refine rgT 4 (h := ?_)
  refine rgT 5 (h := ?_)
  refine rgT 6 (h := ?_)
  refine rgT 7 (h := ?_)
  (refine rgS 8 (h := fun K hK => ?_); go_simp)
  refine (HXX.out ()).mono ?_
  rintro e w2 ⟨rfl, hx, k2⟩
  have H2 : Hid (MB w2 L Q S X x.cn1 mb (remA mb X.x ff co (b : Int) sl wd ah pr be ma he) 155 ∧ Keeps (mkF L X mb) w w2) := ⟨HD.out.1.callX hx k2 rfl, HD.out.2.trans (kX k2)⟩
  clear hx k2 HD HXX
  (refine hK.out _ _ ⟨(H2.out.1.cell 2).trans rfl, (H2.out.1.cell 3).trans rfl⟩ (fun hHeld => ?_); clear hK K; try simp only [Act.put, List.setIfInBounds_toArray, List.set_cons_zero, List.set_cons_succ])
  (refine rgS 9 (h := fun K hK => ?_); go_simp)
  refine (take_any v w2 HK.out).mono ?_
  rintro e w5 ⟨rfl, hw5⟩
  rw [hw5, HNN.out]
  clear hw5 w5 HK HNN
  generalize (v % 2 == 1) = b5
  (refine hK.out _ _ ⟨(H2.out.1.cell 2).trans rfl, (H2.out.1.cell 3).trans rfl⟩ (fun hHeld => ?_); clear hK K; try simp only [Act.put, List.setIfInBounds_toArray, List.set_cons_zero, List.set_cons_succ])
  refine rgT 10 (h := ?_)
  refine rgT 11 (h := ?_)
  refine rgT 12 (h := ?_)
  refine rgT 13 (h := ?_)
  refine rgT 14 (h := ?_)
  refine wpAnyH_done (by kernel_rfl) ?_ _
  clear hHeld
  clear hHeld
  clear hHeld
  have c6 : w2.cell? ⟨mb, 6, none⟩ = some (.int .i64 ah) := (H2.out.1.cell 6).trans rfl
  have f6 := H2.out.1.fz 6
  have H3 : Hid (MB (w2.setCell ⟨mb, 6, none⟩ (.int .i64 0)) L Q S X x.cn1 mb (remA mb X.x ff co (b : Int) sl wd 0 pr be ma he) 155 ∧ Keeps (mkF L X mb) w (w2.setCell ⟨mb, 6, none⟩ (.int .i64 0))) := ⟨(H2.out.1.set 6 _).1, H2.out.2.trans (kM (H2.out.1.set 6 _).2)⟩
  clear H2
  go_wp2_with fail
  clear c6 f6
  generalize w2.setCell ⟨mb, 6, none⟩ (.int .i64 0) = w3 at *
  refine (HMV.out w3 H3.out.1.m).mono ?_
  rintro e w9 ⟨rfl, hm9, k9⟩
  have H9 : Hid (CH w9 L Q S X x.cn1 ∧ RemH w9 mb X.x q.2 ∧ Keeps (mkF L X mb) w w9) := ⟨(H3.out.1.own hm9 k9).h, hm9, H3.out.2.trans (kM k9)⟩
  clear hm9 k9 H3 HMV
  go_wp2
  go_ret
  exact ⟨rfl, H9.out⟩
end Go.Proofs.YteekompojgbkhaaGreat
