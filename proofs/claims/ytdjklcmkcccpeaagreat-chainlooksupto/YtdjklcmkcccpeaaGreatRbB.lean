import Derived.Test.YtdjklcmkcccpeaaGreatRbA
import Derived.Test.YtdjklcmkcccpeaaGreatChD
namespace Go.Proofs.YtdjklcmkcccpeaaGreat
set_option linter.unusedSimpArgs false
open Go.ChangeShapes Go.WideShapes Go.ChangeAt Go.RowKit Go.MuLone Go.RwLone
set_option linter.unusedVariables false
set_option maxRecDepth 100000
set_option maxHeartbeats 3200000
abbrev rinA (xb : Nat) (bu sl at_ hd : Int) (dn : Bool) (co tr : Int) : Array Value := #[.pointer (some ⟨xb, 0, none⟩), .int .i64 bu, .int .i64 sl, .int .i64 at_, .int .u64 hd, .bool dn, .int .i64 co, .int .i64 tr]
/-- The document's Insert in its block. -/
def RinH (w : World) (mb xb : Nat) (m : MI) : Prop := ∃ (at_ : Int) (dn : Bool), w.heap[mb]? = some (.cells (rinA xb m.bu m.sl at_ m.hd dn m.code m.tr) 235) ∧ (m.st < 4 → at_ = (m.st : Int) + 1 ∧ dn = false) ∧ (4 ≤ m.st → dn = true)
def RstI (w : World) (R : RL) (cap : Nat) (qv : Value) (Q : List Nat) (X : XL) (hc : Nat) (mb : Nat) (S : AS) (p : Bool × CS × MI) (e : Ending) (w' : World) : Prop := e = .returned (.bool p.1) ∧ RC w' R cap qv Q p.2.1.S X hc p.2.1.x ∧ RinH w' mb X.x p.2.2 ∧ Keeps (mrF R qv S X mb) w w'
theorem rin_over (w : World) (mb xb : Nat) (bu sl at_ hd : Int) (dn : Bool) (co tr : Int) (c : Int) (h : w.heap[mb]? = some (.cells (rinA xb bu sl at_ hd dn co tr) 235)) : Calls Tryz.prog 191 #[.pointer (some ⟨mb, 0, none⟩), .int .i64 c] w fun e w' => e = .returned (.bool true) ∧ w'.heap[mb]? = some (.cells (rinA xb bu sl at_ hd true c tr) 235) ∧ Keeps (fun g => g = mb) w w' := by
  have c5 : w.cell? ⟨mb, 5, none⟩ = some (.bool dn) := (cell?_heap h 5).trans rfl
  have c6 : w.cell? ⟨mb, 6, none⟩ = some (.int .i64 co) := (cell?_heap h 6).trans rfl
  have f5 := frozen?_heap h 5
  have f6 := frozen?_heap h 6
  have HN : Hid (((w.setCell ⟨mb, 5, none⟩ (.bool true)).setCell ⟨mb, 6, none⟩ (.int .i64 c)).heap[mb]? = some (.cells (rinA xb bu sl at_ hd true c tr) 235) ∧ Keeps (fun g => g = mb) w ((w.setCell ⟨mb, 5, none⟩ (.bool true)).setCell ⟨mb, 6, none⟩ (.int .i64 c))) := ⟨heapSetC (heapSetC h 5 _) 6 _, setK setB⟩
  clear h
  go_enter Tryz.func191, Tryz.ntmps191
  go_wp2
  go_ret
  exact ⟨rfl, HN.out⟩
theorem rin_out (w : World) (R : RL) (cap : Nat) (qv : Value) (Q : List Nat) (S : AS) (X : XL) (hc : Nat) (x : XS) (mb : Nat) (bu sl hd co tr : Int) (h : RC w R cap qv Q S X hc x) (hm : w.heap[mb]? = some (.cells (rinA X.x bu sl 1 hd false co tr) 235)) (hn : ¬ rcF R qv S X mb) (hb : inB x bu = false) : Calls Tryz.prog 155 #[.pointer (some ⟨mb, 0, none⟩)] w (RstI w R cap qv Q X hc mb S (true, ⟨S, x⟩, ⟨4, 40, bu, sl, hd, tr⟩)) := by
  have H0 : RM w R cap qv Q S X hc x mb (rinA X.x bu sl 1 hd false co tr) 235 := ⟨h, hm, hn⟩
  have HP : Hid (RM w R cap qv Q S X hc x mb (rinA X.x bu sl 1 hd false co tr) 235 ∧ Keeps (mrF R qv S X mb) w w) := ⟨H0, Keeps.refl _ _⟩
  have HB := rx_has w R.b X hc x bu H0.h.i
  rw [show inB x bu = false from hb] at HB
  have HBB : Hid (∀ _ : Unit, _) := fun _ => HB
  have c0 : w.cell? ⟨mb, 0, none⟩ = some (.pointer (some ⟨X.x, 0, none⟩)) := (H0.cell 0).trans rfl
  have c1 : w.cell? ⟨mb, 1, none⟩ = some (.int .i64 bu) := (H0.cell 1).trans rfl
  have c3 : w.cell? ⟨mb, 3, none⟩ = some (.int .i64 1) := (H0.cell 3).trans rfl
  have c5 : w.cell? ⟨mb, 5, none⟩ = some (.bool false) := (H0.cell 5).trans rfl
  clear h hm hn H0 HB
  go_enter Tryz.func155, Tryz.ntmps155
  go_wp2_with fail
  refine (HBB.out ()).mono ?_
  rintro e w1 ⟨rfl, hw1⟩
  rw [hw1]
  clear hw1 w1 HBB
  go_wp2_with fail
  refine (rin_over w mb X.x bu sl 1 hd false co tr 40 HP.out.1.m).mono ?_
  rintro e w9 ⟨rfl, hm9, k9⟩
  have H9 : Hid (RC w9 R cap qv Q (S) X hc (x) ∧ RinH w9 mb X.x ⟨4, 40, bu, sl, hd, tr⟩ ∧ Keeps (mrF R qv S X mb) w w9) := ⟨(HP.out.1.own hm9 k9).h, ⟨1, true, hm9, ⟨fun e => absurd e (show ¬ 4 < 4 by decide), fun _ => rfl⟩⟩, HP.out.2.trans (rM k9)⟩
  clear hm9 k9 HP
  go_wp2
  go_ret
  exact ⟨rfl, H9.out⟩
theorem rin_dead (w : World) (R : RL) (cap : Nat) (qv : Value) (Q : List Nat) (S : AS) (X : XL) (hc : Nat) (x : XS) (mb : Nat) (bu sl hd co tr : Int) (h : RC w R cap qv Q S X hc x) (hm : w.heap[mb]? = some (.cells (rinA X.x bu sl 1 hd false co tr) 235)) (hn : ¬ rcF R qv S X mb) (hb : inB x bu = true) (hl : liv S sl = false) : Calls Tryz.prog 155 #[.pointer (some ⟨mb, 0, none⟩)] w (RstI w R cap qv Q X hc mb S (true, ⟨mis1 S, x⟩, ⟨4, 22, bu, sl, hd, tr⟩)) := by
  have H0 : RM w R cap qv Q S X hc x mb (rinA X.x bu sl 1 hd false co tr) 235 := ⟨h, hm, hn⟩
  have HP : Hid (RM w R cap qv Q S X hc x mb (rinA X.x bu sl 1 hd false co tr) 235 ∧ Keeps (mrF R qv S X mb) w w) := ⟨H0, Keeps.refl _ _⟩
  have HB := rx_has w R.b X hc x bu H0.h.i
  rw [show inB x bu = true from hb] at HB
  have HBB : Hid (∀ _ : Unit, _) := fun _ => HB
  have c0 : w.cell? ⟨mb, 0, none⟩ = some (.pointer (some ⟨X.x, 0, none⟩)) := (H0.cell 0).trans rfl
  have c1 : w.cell? ⟨mb, 1, none⟩ = some (.int .i64 bu) := (H0.cell 1).trans rfl
  have c3 : w.cell? ⟨mb, 3, none⟩ = some (.int .i64 1) := (H0.cell 3).trans rfl
  have c5 : w.cell? ⟨mb, 5, none⟩ = some (.bool false) := (H0.cell 5).trans rfl
  clear h hm hn H0 HB
  have HC : Hid (∀ W, RC W R cap qv Q S X hc x → Calls Tryz.prog 192 #[.pointer (some ⟨R.b, 0, none⟩), .int .i64 sl, .int .i64 (x.cell : Int)] W fun e w' => e = .returned (.tuple #[.int .u64 0, .int .i64 22]) ∧ RAr w' R cap qv Q (mis1 S) ∧ Keeps (raF R qv S) W w') := fun W hW => ra_load_no W R cap qv Q S sl (x.cell : Int) hW.a hl
  clear hl hb
  go_enter Tryz.func155, Tryz.ntmps155
  go_wp2_with fail
  refine (HBB.out ()).mono ?_
  rintro e w1 ⟨rfl, hw1⟩
  rw [hw1]
  clear hw1 w1 HBB
  have HD : Hid (RM w.drew R cap qv Q S X hc x mb (rinA X.x bu sl 1 hd false co tr) 235 ∧ Keeps (mrF R qv S X mb) w w.drew) := ⟨⟨HP.out.1.h.keeps (D := fun _ => False) (Keeps.refl _ _).drew (fun _ _ e => e), HP.out.1.m, HP.out.1.n⟩, (Keeps.refl _ _).drew⟩
  have sx : w.drew.cell? ⟨X.x, 0, none⟩ = some (.pointer (some ⟨R.b, 0, none⟩)) ∧ w.drew.cell? ⟨X.x, 1, none⟩ = some (.int .i64 (x.cell : Int)) ∧ w.drew.cell? ⟨mb, 2, none⟩ = some (.int .i64 sl) := ⟨HD.out.1.h.i.c0, HD.out.1.h.i.c1, (HD.out.1.cell 2).trans rfl⟩
  go_wp2_with fail
  clear c0 c1 c3 c5
  (refine wp_region_held_drew (S := (fun Z => Z.cell? ⟨X.x, 0, none⟩ = some (.pointer (some ⟨R.b, 0, none⟩)) ∧ Z.cell? ⟨X.x, 1, none⟩ = some (.int .i64 (x.cell : Int)) ∧ Z.cell? ⟨mb, 2, none⟩ = some (.int .i64 sl))) (by kernel_rfl) sx (fun hHeld => ?_); simp only [List.size_toArray, List.length_cons, List.length_nil, Nat.reduceAdd, Array.replicate_succ, Array.replicate_zero, List.push_toArray, List.append_toArray, List.nil_append, List.cons_append])
  clear sx
  refine rgT 0 (h := ?_)
  refine rgT 1 (h := ?_)
  refine rgT 2 (h := ?_)
  refine rgT 3 (h := ?_)
  refine rgT 4 (h := ?_)
  refine rgT 5 (h := ?_)
  refine rgT 6 (h := ?_)
  refine rgT 7 (h := ?_)
  refine rgT 8 (h := ?_)
  refine rgT 9 (h := ?_)
  refine rgT 10 (h := ?_)
  refine rgT 11 (h := ?_)
  (refine rgS 12 (h := fun K hK => ?_); go_simp)
  refine (HC.out w.drew HD.out.1.h).mono ?_
  rintro e w2 ⟨rfl, ha2, k2⟩
  have H2 : Hid (RM w2 R cap qv Q (mis1 S) X hc (x) mb (rinA X.x bu sl 1 hd false co tr) 235 ∧ Keeps (mrF R qv S X mb) w w2) := ⟨HD.out.1.callA ha2 k2 rfl (fun g e => e), HD.out.2.trans (rA k2)⟩
  clear ha2 k2 HD HC HP
  (refine hK.out _ _ ⟨H2.out.1.h.i.c0, H2.out.1.h.i.c1, (H2.out.1.cell 2).trans rfl⟩ (fun hHeld => ?_); clear hK K; try simp only [Act.put, List.setIfInBounds_toArray, List.set_cons_zero, List.set_cons_succ])
  refine rgT 13 (h := ?_)
  refine rgT 14 (h := ?_)
  refine rgT 15 (h := ?_)
  refine rgT 16 (h := ?_)
  refine rgT 17 (h := ?_)
  refine wpAnyH_done (by kernel_rfl) ?_ _
  clear hHeld
  clear hHeld
  go_wp2_with fail
  refine (rin_over w2 mb X.x bu sl 1 hd false co tr 22 H2.out.1.m).mono ?_
  rintro e w9 ⟨rfl, hm9, k9⟩
  have H9 : Hid (RC w9 R cap qv Q (mis1 S) X hc (x) ∧ RinH w9 mb X.x ⟨4, 22, bu, sl, hd, tr⟩ ∧ Keeps (mrF R qv S X mb) w w9) := ⟨(H2.out.1.own hm9 k9).h, ⟨1, true, hm9, ⟨fun e => absurd e (show ¬ 4 < 4 by decide), fun _ => rfl⟩⟩, H2.out.2.trans (rM k9)⟩
  clear hm9 k9 H2
  go_wp2
  go_ret
  exact ⟨rfl, H9.out⟩
theorem rin_full (w : World) (R : RL) (cap : Nat) (qv : Value) (Q : List Nat) (S : AS) (X : XL) (hc : Nat) (x : XS) (mb : Nat) (bu sl hd co tr : Int) (h : RC w R cap qv Q S X hc x) (hm : w.heap[mb]? = some (.cells (rinA X.x bu sl 1 hd false co tr) 235)) (hn : ¬ rcF R qv S X mb) (hb : inB x bu = true) (hl : liv S sl = true) (v : Int) (hv : S.word (atC S sl x.cell) = v) (hz : ¬ v = 0) : Calls Tryz.prog 155 #[.pointer (some ⟨mb, 0, none⟩)] w (RstI w R cap qv Q X hc mb S (true, ⟨acc1 S, x⟩, ⟨4, 41, bu, sl, hd, tr⟩)) := by
  have H0 : RM w R cap qv Q S X hc x mb (rinA X.x bu sl 1 hd false co tr) 235 := ⟨h, hm, hn⟩
  have HP : Hid (RM w R cap qv Q S X hc x mb (rinA X.x bu sl 1 hd false co tr) 235 ∧ Keeps (mrF R qv S X mb) w w) := ⟨H0, Keeps.refl _ _⟩
  have HB := rx_has w R.b X hc x bu H0.h.i
  rw [show inB x bu = true from hb] at HB
  have HBB : Hid (∀ _ : Unit, _) := fun _ => HB
  have c0 : w.cell? ⟨mb, 0, none⟩ = some (.pointer (some ⟨X.x, 0, none⟩)) := (H0.cell 0).trans rfl
  have c1 : w.cell? ⟨mb, 1, none⟩ = some (.int .i64 bu) := (H0.cell 1).trans rfl
  have c3 : w.cell? ⟨mb, 3, none⟩ = some (.int .i64 1) := (H0.cell 3).trans rfl
  have c5 : w.cell? ⟨mb, 5, none⟩ = some (.bool false) := (H0.cell 5).trans rfl
  clear h hm hn H0 HB
  have HC : Hid (∀ W, RC W R cap qv Q S X hc x → Calls Tryz.prog 192 #[.pointer (some ⟨R.b, 0, none⟩), .int .i64 sl, .int .i64 (x.cell : Int)] W fun e w' => e = .returned (.tuple #[.int .u64 v, .int .i64 0]) ∧ RAr w' R cap qv Q (acc1 S) ∧ Keeps (raF R qv S) W w') := fun W hW => ra_load W R cap qv Q S sl x.cell hW.a hl hW.c v hv
  have hz2 : (v != 0) = true := by simp [hz]
  clear hl hv hb hz
  go_enter Tryz.func155, Tryz.ntmps155
  go_wp2_with fail
  refine (HBB.out ()).mono ?_
  rintro e w1 ⟨rfl, hw1⟩
  rw [hw1]
  clear hw1 w1 HBB
  have HD : Hid (RM w.drew R cap qv Q S X hc x mb (rinA X.x bu sl 1 hd false co tr) 235 ∧ Keeps (mrF R qv S X mb) w w.drew) := ⟨⟨HP.out.1.h.keeps (D := fun _ => False) (Keeps.refl _ _).drew (fun _ _ e => e), HP.out.1.m, HP.out.1.n⟩, (Keeps.refl _ _).drew⟩
  have sx : w.drew.cell? ⟨X.x, 0, none⟩ = some (.pointer (some ⟨R.b, 0, none⟩)) ∧ w.drew.cell? ⟨X.x, 1, none⟩ = some (.int .i64 (x.cell : Int)) ∧ w.drew.cell? ⟨mb, 2, none⟩ = some (.int .i64 sl) := ⟨HD.out.1.h.i.c0, HD.out.1.h.i.c1, (HD.out.1.cell 2).trans rfl⟩
  go_wp2_with fail
  clear c0 c1 c3 c5
  (refine wp_region_held_drew (S := (fun Z => Z.cell? ⟨X.x, 0, none⟩ = some (.pointer (some ⟨R.b, 0, none⟩)) ∧ Z.cell? ⟨X.x, 1, none⟩ = some (.int .i64 (x.cell : Int)) ∧ Z.cell? ⟨mb, 2, none⟩ = some (.int .i64 sl))) (by kernel_rfl) sx (fun hHeld => ?_); simp only [List.size_toArray, List.length_cons, List.length_nil, Nat.reduceAdd, Array.replicate_succ, Array.replicate_zero, List.push_toArray, List.append_toArray, List.nil_append, List.cons_append])
  clear sx
  refine rgT 0 (h := ?_)
  refine rgT 1 (h := ?_)
  refine rgT 2 (h := ?_)
  refine rgT 3 (h := ?_)
  refine rgT 4 (h := ?_)
  refine rgT 5 (h := ?_)
  refine rgT 6 (h := ?_)
  refine rgT 7 (h := ?_)
  refine rgT 8 (h := ?_)
  refine rgT 9 (h := ?_)
  refine rgT 10 (h := ?_)
  refine rgT 11 (h := ?_)
  (refine rgS 12 (h := fun K hK => ?_); go_simp)
  refine (HC.out w.drew HD.out.1.h).mono ?_
  rintro e w2 ⟨rfl, ha2, k2⟩
  have H2 : Hid (RM w2 R cap qv Q (acc1 S) X hc (x) mb (rinA X.x bu sl 1 hd false co tr) 235 ∧ Keeps (mrF R qv S X mb) w w2) := ⟨HD.out.1.callA ha2 k2 rfl (fun g e => e), HD.out.2.trans (rA k2)⟩
  clear ha2 k2 HD HC HP
  (refine hK.out _ _ ⟨H2.out.1.h.i.c0, H2.out.1.h.i.c1, (H2.out.1.cell 2).trans rfl⟩ (fun hHeld => ?_); clear hK K; try simp only [Act.put, List.setIfInBounds_toArray, List.set_cons_zero, List.set_cons_succ])
  refine rgT 13 (h := ?_)
  refine rgT 14 (h := ?_)
  refine rgT 15 (h := ?_)
  refine rgT 16 (h := ?_)
  refine rgT 17 (h := ?_)
  refine wpAnyH_done (by kernel_rfl) ?_ _
  clear hHeld
  clear hHeld
  go_wp2_with fail
  refine (rin_over w2 mb X.x bu sl 1 hd false co tr 41 H2.out.1.m).mono ?_
  rintro e w9 ⟨rfl, hm9, k9⟩
  have H9 : Hid (RC w9 R cap qv Q (acc1 S) X hc (x) ∧ RinH w9 mb X.x ⟨4, 41, bu, sl, hd, tr⟩ ∧ Keeps (mrF R qv S X mb) w w9) := ⟨(H2.out.1.own hm9 k9).h, ⟨1, true, hm9, ⟨fun e => absurd e (show ¬ 4 < 4 by decide), fun _ => rfl⟩⟩, H2.out.2.trans (rM k9)⟩
  clear hm9 k9 H2
  go_wp2
  go_ret
  exact ⟨rfl, H9.out⟩
theorem rin_go (w : World) (R : RL) (cap : Nat) (qv : Value) (Q : List Nat) (S : AS) (X : XL) (hc : Nat) (x : XS) (mb : Nat) (bu sl hd co tr : Int) (h : RC w R cap qv Q S X hc x) (hm : w.heap[mb]? = some (.cells (rinA X.x bu sl 1 hd false co tr) 235)) (hn : ¬ rcF R qv S X mb) (hb : inB x bu = true) (hl : liv S sl = true) (hv : S.word (atC S sl x.cell) = 0) : Calls Tryz.prog 155 #[.pointer (some ⟨mb, 0, none⟩)] w (RstI w R cap qv Q X hc mb S (false, ⟨acc1 S, x⟩, ⟨1, co, bu, sl, hd, tr⟩)) := by
  have H0 : RM w R cap qv Q S X hc x mb (rinA X.x bu sl 1 hd false co tr) 235 := ⟨h, hm, hn⟩
  have HP : Hid (RM w R cap qv Q S X hc x mb (rinA X.x bu sl 1 hd false co tr) 235 ∧ Keeps (mrF R qv S X mb) w w) := ⟨H0, Keeps.refl _ _⟩
  have HB := rx_has w R.b X hc x bu H0.h.i
  rw [show inB x bu = true from hb] at HB
  have HBB : Hid (∀ _ : Unit, _) := fun _ => HB
  have c0 : w.cell? ⟨mb, 0, none⟩ = some (.pointer (some ⟨X.x, 0, none⟩)) := (H0.cell 0).trans rfl
  have c1 : w.cell? ⟨mb, 1, none⟩ = some (.int .i64 bu) := (H0.cell 1).trans rfl
  have c3 : w.cell? ⟨mb, 3, none⟩ = some (.int .i64 1) := (H0.cell 3).trans rfl
  have c5 : w.cell? ⟨mb, 5, none⟩ = some (.bool false) := (H0.cell 5).trans rfl
  clear h hm hn H0 HB
  have HC : Hid (∀ W, RC W R cap qv Q S X hc x → Calls Tryz.prog 192 #[.pointer (some ⟨R.b, 0, none⟩), .int .i64 sl, .int .i64 (x.cell : Int)] W fun e w' => e = .returned (.tuple #[.int .u64 0, .int .i64 0]) ∧ RAr w' R cap qv Q (acc1 S) ∧ Keeps (raF R qv S) W w') := fun W hW => ra_load W R cap qv Q S sl x.cell hW.a hl hW.c 0 hv
  clear hl hv hb
  go_enter Tryz.func155, Tryz.ntmps155
  go_wp2_with fail
  refine (HBB.out ()).mono ?_
  rintro e w1 ⟨rfl, hw1⟩
  rw [hw1]
  clear hw1 w1 HBB
  have HD : Hid (RM w.drew R cap qv Q S X hc x mb (rinA X.x bu sl 1 hd false co tr) 235 ∧ Keeps (mrF R qv S X mb) w w.drew) := ⟨⟨HP.out.1.h.keeps (D := fun _ => False) (Keeps.refl _ _).drew (fun _ _ e => e), HP.out.1.m, HP.out.1.n⟩, (Keeps.refl _ _).drew⟩
  have sx : w.drew.cell? ⟨X.x, 0, none⟩ = some (.pointer (some ⟨R.b, 0, none⟩)) ∧ w.drew.cell? ⟨X.x, 1, none⟩ = some (.int .i64 (x.cell : Int)) ∧ w.drew.cell? ⟨mb, 2, none⟩ = some (.int .i64 sl) := ⟨HD.out.1.h.i.c0, HD.out.1.h.i.c1, (HD.out.1.cell 2).trans rfl⟩
  go_wp2_with fail
  clear c0 c1 c3 c5
  (refine wp_region_held_drew (S := (fun Z => Z.cell? ⟨X.x, 0, none⟩ = some (.pointer (some ⟨R.b, 0, none⟩)) ∧ Z.cell? ⟨X.x, 1, none⟩ = some (.int .i64 (x.cell : Int)) ∧ Z.cell? ⟨mb, 2, none⟩ = some (.int .i64 sl))) (by kernel_rfl) sx (fun hHeld => ?_); simp only [List.size_toArray, List.length_cons, List.length_nil, Nat.reduceAdd, Array.replicate_succ, Array.replicate_zero, List.push_toArray, List.append_toArray, List.nil_append, List.cons_append])
  clear sx
  refine rgT 0 (h := ?_)
  refine rgT 1 (h := ?_)
  refine rgT 2 (h := ?_)
  refine rgT 3 (h := ?_)
  refine rgT 4 (h := ?_)
  refine rgT 5 (h := ?_)
  refine rgT 6 (h := ?_)
  refine rgT 7 (h := ?_)
  refine rgT 8 (h := ?_)
  refine rgT 9 (h := ?_)
  refine rgT 10 (h := ?_)
  refine rgT 11 (h := ?_)
  (refine rgS 12 (h := fun K hK => ?_); go_simp)
  refine (HC.out w.drew HD.out.1.h).mono ?_
  rintro e w2 ⟨rfl, ha2, k2⟩
  have H2 : Hid (RM w2 R cap qv Q (acc1 S) X hc (x) mb (rinA X.x bu sl 1 hd false co tr) 235 ∧ Keeps (mrF R qv S X mb) w w2) := ⟨HD.out.1.callA ha2 k2 rfl (fun g e => e), HD.out.2.trans (rA k2)⟩
  clear ha2 k2 HD HC HP
  (refine hK.out _ _ ⟨H2.out.1.h.i.c0, H2.out.1.h.i.c1, (H2.out.1.cell 2).trans rfl⟩ (fun hHeld => ?_); clear hK K; try simp only [Act.put, List.setIfInBounds_toArray, List.set_cons_zero, List.set_cons_succ])
  refine rgT 13 (h := ?_)
  refine rgT 14 (h := ?_)
  refine rgT 15 (h := ?_)
  refine rgT 16 (h := ?_)
  refine rgT 17 (h := ?_)
  refine wpAnyH_done (by kernel_rfl) ?_ _
  clear hHeld
  clear hHeld
  have d3 : w2.cell? ⟨mb, 3, none⟩ = some (.int .i64 1) := (H2.out.1.cell 3).trans rfl
  have g3 := H2.out.1.fz 3
  have H9 : Hid (RM (w2.setCell ⟨mb, 3, none⟩ (.int .i64 2)) R cap qv Q (acc1 S) X hc (x) mb (rinA X.x bu sl 2 hd false co tr) 235 ∧ Keeps (mrF R qv S X mb) w (w2.setCell ⟨mb, 3, none⟩ (.int .i64 2))) := ⟨(H2.out.1.set 3 _).1, (H2.out.2.trans (rM (H2.out.1.set 3 _).2))⟩
  clear H2
  go_wp2
  clear d3 g3
  go_ret
  exact ⟨rfl, H9.out.1.h, ⟨2, false, H9.out.1.m, ⟨fun _ => ⟨rfl, rfl⟩, fun e => absurd e (show ¬ 4 ≤ 1 by decide)⟩⟩, H9.out.2⟩
theorem rin_st_dead (w : World) (R : RL) (cap : Nat) (qv : Value) (Q : List Nat) (S : AS) (X : XL) (hc : Nat) (x : XS) (mb : Nat) (bu sl hd co tr : Int) (h : RC w R cap qv Q S X hc x) (hm : w.heap[mb]? = some (.cells (rinA X.x bu sl 3 hd false co tr) 235)) (hn : ¬ rcF R qv S X mb) (hb : inB x bu = true) (hl : liv S sl = false) : Calls Tryz.prog 155 #[.pointer (some ⟨mb, 0, none⟩)] w (RstI w R cap qv Q X hc mb S (true, ⟨mis1 S, x⟩, ⟨4, 22, bu, sl, hd, tr⟩)) := by
  have H0 : RM w R cap qv Q S X hc x mb (rinA X.x bu sl 3 hd false co tr) 235 := ⟨h, hm, hn⟩
  have HP : Hid (RM w R cap qv Q S X hc x mb (rinA X.x bu sl 3 hd false co tr) 235 ∧ Keeps (mrF R qv S X mb) w w) := ⟨H0, Keeps.refl _ _⟩
  have HB := rx_has w R.b X hc x bu H0.h.i
  rw [show inB x bu = true from hb] at HB
  have HBB : Hid (∀ _ : Unit, _) := fun _ => HB
  have c0 : w.cell? ⟨mb, 0, none⟩ = some (.pointer (some ⟨X.x, 0, none⟩)) := (H0.cell 0).trans rfl
  have c1 : w.cell? ⟨mb, 1, none⟩ = some (.int .i64 bu) := (H0.cell 1).trans rfl
  have c3 : w.cell? ⟨mb, 3, none⟩ = some (.int .i64 3) := (H0.cell 3).trans rfl
  have c5 : w.cell? ⟨mb, 5, none⟩ = some (.bool false) := (H0.cell 5).trans rfl
  clear h hm hn H0 HB
  have HC : Hid (∀ W, RC W R cap qv Q S X hc x → Calls Tryz.prog 194 #[.pointer (some ⟨R.b, 0, none⟩), .int .i64 sl, .int .i64 (x.cell : Int), .int .u64 hd] W fun e w' => e = .returned (.int .i64 22) ∧ RAr w' R cap qv Q (mis1 S) ∧ Keeps (raF R qv S) W w') := fun W hW => ra_store_no W R cap qv Q S sl (x.cell : Int) hd hW.a hl
  clear hl hb
  go_enter Tryz.func155, Tryz.ntmps155
  go_wp2_with fail
  refine (HBB.out ()).mono ?_
  rintro e w1 ⟨rfl, hw1⟩
  rw [hw1]
  clear hw1 w1 HBB
  have HD : Hid (RM w.drew R cap qv Q S X hc x mb (rinA X.x bu sl 3 hd false co tr) 235 ∧ Keeps (mrF R qv S X mb) w w.drew) := ⟨⟨HP.out.1.h.keeps (D := fun _ => False) (Keeps.refl _ _).drew (fun _ _ e => e), HP.out.1.m, HP.out.1.n⟩, (Keeps.refl _ _).drew⟩
  have sx : w.drew.cell? ⟨X.x, 0, none⟩ = some (.pointer (some ⟨R.b, 0, none⟩)) ∧ w.drew.cell? ⟨X.x, 1, none⟩ = some (.int .i64 (x.cell : Int)) ∧ w.drew.cell? ⟨mb, 2, none⟩ = some (.int .i64 sl) ∧ w.drew.cell? ⟨mb, 4, none⟩ = some (.int .u64 hd) := ⟨HD.out.1.h.i.c0, HD.out.1.h.i.c1, (HD.out.1.cell 2).trans rfl, (HD.out.1.cell 4).trans rfl⟩
  go_wp2_with fail
  clear c0 c1 c3 c5
  (refine wp_region_held_drew (S := (fun Z => Z.cell? ⟨X.x, 0, none⟩ = some (.pointer (some ⟨R.b, 0, none⟩)) ∧ Z.cell? ⟨X.x, 1, none⟩ = some (.int .i64 (x.cell : Int)) ∧ Z.cell? ⟨mb, 2, none⟩ = some (.int .i64 sl) ∧ Z.cell? ⟨mb, 4, none⟩ = some (.int .u64 hd))) (by kernel_rfl) sx (fun hHeld => ?_); simp only [List.size_toArray, List.length_cons, List.length_nil, Nat.reduceAdd, Array.replicate_succ, Array.replicate_zero, List.push_toArray, List.append_toArray, List.nil_append, List.cons_append])
  clear sx
  refine rgT 0 (h := ?_)
  refine rgT 1 (h := ?_)
  refine rgT 2 (h := ?_)
  refine rgT 3 (h := ?_)
  refine rgT 4 (h := ?_)
  refine rgT 5 (h := ?_)
  refine rgT 6 (h := ?_)
  refine rgT 7 (h := ?_)
  refine rgT 8 (h := ?_)
  refine rgT 9 (h := ?_)
  refine rgT 10 (h := ?_)
  refine rgT 11 (h := ?_)
  refine rgT 12 (h := ?_)
  refine rgT 13 (h := ?_)
  refine rgT 14 (h := ?_)
  refine rgT 15 (h := ?_)
  (refine rgS 16 (h := fun K hK => ?_); go_simp)
  refine (HC.out w.drew HD.out.1.h).mono ?_
  rintro e w2 ⟨rfl, ha2, k2⟩
  have H2 : Hid (RM w2 R cap qv Q (mis1 S) X hc (x) mb (rinA X.x bu sl 3 hd false co tr) 235 ∧ Keeps (mrF R qv S X mb) w w2) := ⟨HD.out.1.callA ha2 k2 rfl (fun g e => e), HD.out.2.trans (rA k2)⟩
  clear ha2 k2 HD HC HP
  (refine hK.out _ _ ⟨H2.out.1.h.i.c0, H2.out.1.h.i.c1, (H2.out.1.cell 2).trans rfl, (H2.out.1.cell 4).trans rfl⟩ (fun hHeld => ?_); clear hK K; try simp only [Act.put, List.setIfInBounds_toArray, List.set_cons_zero, List.set_cons_succ])
  refine rgT 17 (h := ?_)
  refine wpAnyH_done (by kernel_rfl) ?_ _
  clear hHeld
  clear hHeld
  go_wp2_with fail
  refine (rin_over w2 mb X.x bu sl 3 hd false co tr 22 H2.out.1.m).mono ?_
  rintro e w9 ⟨rfl, hm9, k9⟩
  have H9 : Hid (RC w9 R cap qv Q (mis1 S) X hc (x) ∧ RinH w9 mb X.x ⟨4, 22, bu, sl, hd, tr⟩ ∧ Keeps (mrF R qv S X mb) w w9) := ⟨(H2.out.1.own hm9 k9).h, ⟨3, true, hm9, ⟨fun e => absurd e (show ¬ 4 < 4 by decide), fun _ => rfl⟩⟩, H2.out.2.trans (rM k9)⟩
  clear hm9 k9 H2
  go_wp2
  go_ret
  exact ⟨rfl, H9.out⟩
theorem rin_st_go (w : World) (R : RL) (cap : Nat) (qv : Value) (Q : List Nat) (S : AS) (X : XL) (hc : Nat) (x : XS) (mb : Nat) (bu sl hd co tr : Int) (h : RC w R cap qv Q S X hc x) (hm : w.heap[mb]? = some (.cells (rinA X.x bu sl 3 hd false co tr) 235)) (hn : ¬ rcF R qv S X mb) (hb : inB x bu = true) (hl : liv S sl = true) (S2 : AS) (hS2 : put1 S (atC S sl x.cell) hd = S2) : Calls Tryz.prog 155 #[.pointer (some ⟨mb, 0, none⟩)] w (RstI w R cap qv Q X hc mb S (false, ⟨S2, x⟩, ⟨3, co, bu, sl, hd, tr⟩)) := by
  have H0 : RM w R cap qv Q S X hc x mb (rinA X.x bu sl 3 hd false co tr) 235 := ⟨h, hm, hn⟩
  have HP : Hid (RM w R cap qv Q S X hc x mb (rinA X.x bu sl 3 hd false co tr) 235 ∧ Keeps (mrF R qv S X mb) w w) := ⟨H0, Keeps.refl _ _⟩
  have HB := rx_has w R.b X hc x bu H0.h.i
  rw [show inB x bu = true from hb] at HB
  have HBB : Hid (∀ _ : Unit, _) := fun _ => HB
  have c0 : w.cell? ⟨mb, 0, none⟩ = some (.pointer (some ⟨X.x, 0, none⟩)) := (H0.cell 0).trans rfl
  have c1 : w.cell? ⟨mb, 1, none⟩ = some (.int .i64 bu) := (H0.cell 1).trans rfl
  have c3 : w.cell? ⟨mb, 3, none⟩ = some (.int .i64 3) := (H0.cell 3).trans rfl
  have c5 : w.cell? ⟨mb, 5, none⟩ = some (.bool false) := (H0.cell 5).trans rfl
  clear h hm hn H0 HB
  have HC : Hid (∀ W, RC W R cap qv Q S X hc x → Calls Tryz.prog 194 #[.pointer (some ⟨R.b, 0, none⟩), .int .i64 sl, .int .i64 (x.cell : Int), .int .u64 hd] W fun e w' => e = .returned (.int .i64 0) ∧ RAr w' R cap qv Q (S2) ∧ Keeps (raF R qv S) W w') := fun W hW => by rw [← hS2]; exact ra_store W R cap qv Q S sl x.cell hd hW.a hl hW.c
  have HW2 : Hid (S2.wd = S.wd ∧ ∀ g, raF R qv S2 g → raF R qv S g) := by rw [← hS2]; exact ⟨rfl, fun g e => e⟩
  clear hl hb hS2
  go_enter Tryz.func155, Tryz.ntmps155
  go_wp2_with fail
  refine (HBB.out ()).mono ?_
  rintro e w1 ⟨rfl, hw1⟩
  rw [hw1]
  clear hw1 w1 HBB
  have HD : Hid (RM w.drew R cap qv Q S X hc x mb (rinA X.x bu sl 3 hd false co tr) 235 ∧ Keeps (mrF R qv S X mb) w w.drew) := ⟨⟨HP.out.1.h.keeps (D := fun _ => False) (Keeps.refl _ _).drew (fun _ _ e => e), HP.out.1.m, HP.out.1.n⟩, (Keeps.refl _ _).drew⟩
  have sx : w.drew.cell? ⟨X.x, 0, none⟩ = some (.pointer (some ⟨R.b, 0, none⟩)) ∧ w.drew.cell? ⟨X.x, 1, none⟩ = some (.int .i64 (x.cell : Int)) ∧ w.drew.cell? ⟨mb, 2, none⟩ = some (.int .i64 sl) ∧ w.drew.cell? ⟨mb, 4, none⟩ = some (.int .u64 hd) := ⟨HD.out.1.h.i.c0, HD.out.1.h.i.c1, (HD.out.1.cell 2).trans rfl, (HD.out.1.cell 4).trans rfl⟩
  go_wp2_with fail
  clear c0 c1 c3 c5
  (refine wp_region_held_drew (S := (fun Z => Z.cell? ⟨X.x, 0, none⟩ = some (.pointer (some ⟨R.b, 0, none⟩)) ∧ Z.cell? ⟨X.x, 1, none⟩ = some (.int .i64 (x.cell : Int)) ∧ Z.cell? ⟨mb, 2, none⟩ = some (.int .i64 sl) ∧ Z.cell? ⟨mb, 4, none⟩ = some (.int .u64 hd))) (by kernel_rfl) sx (fun hHeld => ?_); simp only [List.size_toArray, List.length_cons, List.length_nil, Nat.reduceAdd, Array.replicate_succ, Array.replicate_zero, List.push_toArray, List.append_toArray, List.nil_append, List.cons_append])
  clear sx
  refine rgT 0 (h := ?_)
  refine rgT 1 (h := ?_)
  refine rgT 2 (h := ?_)
  refine rgT 3 (h := ?_)
  refine rgT 4 (h := ?_)
  refine rgT 5 (h := ?_)
  refine rgT 6 (h := ?_)
  refine rgT 7 (h := ?_)
  refine rgT 8 (h := ?_)
  refine rgT 9 (h := ?_)
  refine rgT 10 (h := ?_)
  refine rgT 11 (h := ?_)
  refine rgT 12 (h := ?_)
  refine rgT 13 (h := ?_)
  refine rgT 14 (h := ?_)
  refine rgT 15 (h := ?_)
  (refine rgS 16 (h := fun K hK => ?_); go_simp)
  refine (HC.out w.drew HD.out.1.h).mono ?_
  rintro e w2 ⟨rfl, ha2, k2⟩
  have H2 : Hid (RM w2 R cap qv Q (S2) X hc (x) mb (rinA X.x bu sl 3 hd false co tr) 235 ∧ Keeps (mrF R qv S X mb) w w2) := ⟨HD.out.1.callA ha2 k2 HW2.out.1 HW2.out.2, HD.out.2.trans (rA k2)⟩
  clear ha2 k2 HD HC HP
  (refine hK.out _ _ ⟨H2.out.1.h.i.c0, H2.out.1.h.i.c1, (H2.out.1.cell 2).trans rfl, (H2.out.1.cell 4).trans rfl⟩ (fun hHeld => ?_); clear hK K; try simp only [Act.put, List.setIfInBounds_toArray, List.set_cons_zero, List.set_cons_succ])
  refine rgT 17 (h := ?_)
  refine wpAnyH_done (by kernel_rfl) ?_ _
  clear hHeld
  clear hHeld
  have d3 : w2.cell? ⟨mb, 3, none⟩ = some (.int .i64 3) := (H2.out.1.cell 3).trans rfl
  have g3 := H2.out.1.fz 3
  have H9 : Hid (RM (w2.setCell ⟨mb, 3, none⟩ (.int .i64 4)) R cap qv Q (S2) X hc (x) mb (rinA X.x bu sl 4 hd false co tr) 235 ∧ Keeps (mrF R qv S X mb) w (w2.setCell ⟨mb, 3, none⟩ (.int .i64 4))) := ⟨(H2.out.1.set 3 _).1, (H2.out.2.trans (rM (H2.out.1.set 3 _).2))⟩
  clear H2
  go_wp2
  clear d3 g3
  go_ret
  exact ⟨rfl, H9.out.1.h, ⟨4, false, H9.out.1.m, ⟨fun _ => ⟨rfl, rfl⟩, fun e => absurd e (show ¬ 4 ≤ 3 by decide)⟩⟩, H9.out.2⟩
theorem rin_head (w : World) (R : RL) (cap : Nat) (qv : Value) (Q : List Nat) (S : AS) (X : XL) (hc : Nat) (x : XS) (mb : Nat) (bu sl hd co tr : Int) (h : RC w R cap qv Q S X hc x) (hm : w.heap[mb]? = some (.cells (rinA X.x bu sl 2 hd false co tr) 235)) (hn : ¬ rcF R qv S X mb) (hb : inB x bu = true) (b : Nat) (hbb : bu = (b : Int)) (hb1 : b < x.nb) (v : Int) (hv : x.hd b = v) : Calls Tryz.prog 155 #[.pointer (some ⟨mb, 0, none⟩)] w (RstI w R cap qv Q X hc mb S (false, ⟨S, x.cn1⟩, ⟨2, co, bu, sl, v, tr⟩)) := by
  have H0 : RM w R cap qv Q S X hc x mb (rinA X.x bu sl 2 hd false co tr) 235 := ⟨h, hm, hn⟩
  have HP : Hid (RM w R cap qv Q S X hc x mb (rinA X.x bu sl 2 hd false co tr) 235 ∧ Keeps (mrF R qv S X mb) w w) := ⟨H0, Keeps.refl _ _⟩
  have HB := rx_has w R.b X hc x bu H0.h.i
  rw [show inB x bu = true from hb] at HB
  have HBB : Hid (∀ _ : Unit, _) := fun _ => HB
  have c0 : w.cell? ⟨mb, 0, none⟩ = some (.pointer (some ⟨X.x, 0, none⟩)) := (H0.cell 0).trans rfl
  have c1 : w.cell? ⟨mb, 1, none⟩ = some (.int .i64 bu) := (H0.cell 1).trans rfl
  have c3 : w.cell? ⟨mb, 3, none⟩ = some (.int .i64 2) := (H0.cell 3).trans rfl
  have c5 : w.cell? ⟨mb, 5, none⟩ = some (.bool false) := (H0.cell 5).trans rfl
  clear h hm hn H0 HB
  subst hbb
  have HX := rx_loaded w R.b X hc x b hb1 HP.out.1.h.i
  rw [hv] at HX
  have HXX : Hid (∀ _ : Unit, _) := fun _ => HX
  clear HX hv hb
  go_enter Tryz.func155, Tryz.ntmps155
  go_wp2_with fail
  refine (HBB.out ()).mono ?_
  rintro e w1 ⟨rfl, hw1⟩
  rw [hw1]
  clear hw1 w1 HBB
  go_wp2_with fail
  clear c0 c1 c3 c5
  refine (HXX.out ()).mono ?_
  rintro e w2 ⟨rfl, hx, k2⟩
  have H2 : Hid (RM w2 R cap qv Q S X hc x.cn1 mb (rinA X.x (b : Int) sl 2 hd false co tr) 235 ∧ Keeps (mrF R qv S X mb) w w2) := ⟨HP.out.1.callX hx k2 rfl, rX k2⟩
  clear hx k2 HP HXX
  have d4 : w2.cell? ⟨mb, 4, none⟩ = some (.int .u64 hd) := (H2.out.1.cell 4).trans rfl
  have g4 := H2.out.1.fz 4
  have d3 : w2.cell? ⟨mb, 3, none⟩ = some (.int .i64 2) := (H2.out.1.cell 3).trans rfl
  have g3 := H2.out.1.fz 3
  have H9 : Hid (RM ((w2.setCell ⟨mb, 4, none⟩ (.int .u64 v)).setCell ⟨mb, 3, none⟩ (.int .i64 3)) R cap qv Q (S) X hc (x.cn1) mb (rinA X.x (b : Int) sl 3 v false co tr) 235 ∧ Keeps (mrF R qv S X mb) w ((w2.setCell ⟨mb, 4, none⟩ (.int .u64 v)).setCell ⟨mb, 3, none⟩ (.int .i64 3))) := ⟨((H2.out.1.set 4 _).1.set 3 _).1, ((H2.out.2.trans (rM (H2.out.1.set 4 _).2)).trans (rM ((H2.out.1.set 4 _).1.set 3 _).2))⟩
  clear H2
  go_wp2
  clear d4 g4 d3 g3
  go_ret
  exact ⟨rfl, H9.out.1.h, ⟨3, false, H9.out.1.m, ⟨fun _ => ⟨rfl, rfl⟩, fun e => absurd e (show ¬ 4 ≤ 2 by decide)⟩⟩, H9.out.2⟩
theorem rin_sw_hit (w : World) (R : RL) (cap : Nat) (qv : Value) (Q : List Nat) (S : AS) (X : XL) (hc : Nat) (x : XS) (mb : Nat) (bu sl hd co tr : Int) (h : RC w R cap qv Q S X hc x) (hm : w.heap[mb]? = some (.cells (rinA X.x bu sl 4 hd false co tr) 235)) (hn : ¬ rcF R qv S X mb) (hb : inB x bu = true) (b : Nat) (hbb : bu = (b : Int)) (hb1 : b < x.nb) (h1 : 1 ≤ sl) (h2 : sl ≤ 4096) (hu : x.hd b = hd) (x2 : XS) (hx2 : ({ x.cn1 with hd := upd x.hd b (2 * sl) } : XS) = x2) : Calls Tryz.prog 155 #[.pointer (some ⟨mb, 0, none⟩)] w (RstI w R cap qv Q X hc mb S (true, ⟨S, x2⟩, ⟨4, 0, bu, sl, hd, tr⟩)) := by
  have H0 : RM w R cap qv Q S X hc x mb (rinA X.x bu sl 4 hd false co tr) 235 := ⟨h, hm, hn⟩
  have HP : Hid (RM w R cap qv Q S X hc x mb (rinA X.x bu sl 4 hd false co tr) 235 ∧ Keeps (mrF R qv S X mb) w w) := ⟨H0, Keeps.refl _ _⟩
  have HB := rx_has w R.b X hc x bu H0.h.i
  rw [show inB x bu = true from hb] at HB
  have HBB : Hid (∀ _ : Unit, _) := fun _ => HB
  have c0 : w.cell? ⟨mb, 0, none⟩ = some (.pointer (some ⟨X.x, 0, none⟩)) := (H0.cell 0).trans rfl
  have c1 : w.cell? ⟨mb, 1, none⟩ = some (.int .i64 bu) := (H0.cell 1).trans rfl
  have c3 : w.cell? ⟨mb, 3, none⟩ = some (.int .i64 4) := (H0.cell 3).trans rfl
  have c5 : w.cell? ⟨mb, 5, none⟩ = some (.bool false) := (H0.cell 5).trans rfl
  clear h hm hn H0 HB
  subst hbb
  obtain ⟨y, hy⟩ : ∃ y, 2 * sl = y := ⟨_, rfl⟩
  have HK : Hid (∀ W, Calls Tryz.prog 146 #[.int .i64 sl] W fun e w' => e = .returned (.int .u64 y) ∧ w' = W) := fun W => by rw [← hy]; exact rword_any sl W (by omega) (by omega)
  have HX2 : Hid (x2.cell = x.cell) := by show _ = _; rw [← hx2]; rfl
  have HS : Hid (∀ W, RxH W R.b X hc x → Calls Tryz.prog 195 #[.pointer (some ⟨X.x, 0, none⟩), .int .i64 (b : Int), .int .u64 hd, .int .u64 y] W fun e w' => e = .returned (.bool true) ∧ RxH w' R.b X hc x2 ∧ Keeps X.has W w') := fun W hW => by
    rw [← hx2, hy]
    exact rx_swap_hit W R.b X hc x b hb1 hd _ hW hu
  clear hb hu hx2 hy h1 h2
  go_enter Tryz.func155, Tryz.ntmps155
  go_wp2_with fail
  refine (HBB.out ()).mono ?_
  rintro e w1 ⟨rfl, hw1⟩
  rw [hw1]
  clear hw1 w1 HBB
  have HD : Hid (RM w.drew R cap qv Q S X hc x mb (rinA X.x (b : Int) sl 4 hd false co tr) 235 ∧ Keeps (mrF R qv S X mb) w w.drew) := ⟨⟨HP.out.1.h.keeps (D := fun _ => False) (Keeps.refl _ _).drew (fun _ _ e => e), HP.out.1.m, HP.out.1.n⟩, (Keeps.refl _ _).drew⟩
  have sx : w.drew.cell? ⟨mb, 1, none⟩ = some (.int .i64 (b : Int)) ∧ w.drew.cell? ⟨mb, 4, none⟩ = some (.int .u64 hd) ∧ w.drew.cell? ⟨mb, 2, none⟩ = some (.int .i64 sl) := ⟨(HD.out.1.cell 1).trans rfl, (HD.out.1.cell 4).trans rfl, (HD.out.1.cell 2).trans rfl⟩
  go_wp2_with fail
  clear c0 c1 c3 c5 HP
  (refine wp_region_held_drew (S := (fun Z => Z.cell? ⟨mb, 1, none⟩ = some (.int .i64 (b : Int)) ∧ Z.cell? ⟨mb, 4, none⟩ = some (.int .u64 hd) ∧ Z.cell? ⟨mb, 2, none⟩ = some (.int .i64 sl))) (by kernel_rfl) sx (fun hHeld => ?_); simp only [List.size_toArray, List.length_cons, List.length_nil, Nat.reduceAdd, Array.replicate_succ, Array.replicate_zero, List.push_toArray, List.append_toArray, List.nil_append, List.cons_append])
  clear sx
  refine rgT 0 (h := ?_)
  refine rgT 1 (h := ?_)
  refine rgT 2 (h := ?_)
  refine rgT 3 (h := ?_)
  refine rgT 4 (h := ?_)
  refine rgT 5 (h := ?_)
  refine rgT 6 (h := ?_)
  refine rgT 7 (h := ?_)
  refine rgT 8 (h := ?_)
  refine rgT 9 (h := ?_)
  refine rgT 10 (h := ?_)
  refine rgT 11 (h := ?_)
  refine rgT 12 (h := ?_)
  (refine rgS 13 (h := fun K hK => ?_); go_simp)
  refine (HK.out _).mono ?_
  rintro e w1 ⟨rfl, hw1⟩
  rw [hw1]
  clear hw1 w1 HK
  (refine hK.out _ _ ⟨(HD.out.1.cell 1).trans rfl, (HD.out.1.cell 4).trans rfl, (HD.out.1.cell 2).trans rfl⟩ (fun hHeld => ?_); clear hK K; try simp only [Act.put, List.setIfInBounds_toArray, List.set_cons_zero, List.set_cons_succ])
  (refine rgS 14 (h := fun K hK => ?_); go_simp)
  refine (HS.out _ HD.out.1.h.i).mono ?_
  rintro e w2 ⟨rfl, hx, k2⟩
  have H2 : Hid (RM w2 R cap qv Q S X hc x2 mb (rinA X.x (b : Int) sl 4 hd false co tr) 235 ∧ Keeps (mrF R qv S X mb) w w2) := ⟨HD.out.1.callX hx k2 HX2.out, HD.out.2.trans (rX k2)⟩
  clear hx k2 HD HS
  (refine hK.out _ _ ⟨(H2.out.1.cell 1).trans rfl, (H2.out.1.cell 4).trans rfl, (H2.out.1.cell 2).trans rfl⟩ (fun hHeld => ?_); clear hK K; try simp only [Act.put, List.setIfInBounds_toArray, List.set_cons_zero, List.set_cons_succ])
  refine rgT 15 (h := ?_)
  refine wpAnyH_done (by kernel_rfl) ?_ _
  clear hHeld
  clear hHeld
  clear hHeld
  go_wp2_with fail
  refine (rin_over w2 mb X.x (b : Int) sl 4 hd false co tr 0 H2.out.1.m).mono ?_
  rintro e w9 ⟨rfl, hm9, k9⟩
  have H9 : Hid (RC w9 R cap qv Q (S) X hc (x2) ∧ RinH w9 mb X.x ⟨4, 0, (b : Int), sl, hd, tr⟩ ∧ Keeps (mrF R qv S X mb) w w9) := ⟨(H2.out.1.own hm9 k9).h, ⟨4, true, hm9, ⟨fun e => absurd e (show ¬ 4 < 4 by decide), fun _ => rfl⟩⟩, H2.out.2.trans (rM k9)⟩
  clear hm9 k9 H2
  go_wp2
  go_ret
  exact ⟨rfl, H9.out⟩
theorem rin_sw_miss (w : World) (R : RL) (cap : Nat) (qv : Value) (Q : List Nat) (S : AS) (X : XL) (hc : Nat) (x : XS) (mb : Nat) (bu sl hd co tr : Int) (h : RC w R cap qv Q S X hc x) (hm : w.heap[mb]? = some (.cells (rinA X.x bu sl 4 hd false co tr) 235)) (hn : ¬ rcF R qv S X mb) (hb : inB x bu = true) (b : Nat) (hbb : bu = (b : Int)) (hb1 : b < x.nb) (h1 : 1 ≤ sl) (h2 : sl ≤ 4096) (hu : ¬ x.hd b = hd) (x2 : XS) (hx2 : x.cn1 = x2) : Calls Tryz.prog 155 #[.pointer (some ⟨mb, 0, none⟩)] w (RstI w R cap qv Q X hc mb S (false, ⟨S, x2⟩, ⟨1, co, bu, sl, hd, wrap64 (tr + 1)⟩)) := by
  have H0 : RM w R cap qv Q S X hc x mb (rinA X.x bu sl 4 hd false co tr) 235 := ⟨h, hm, hn⟩
  have HP : Hid (RM w R cap qv Q S X hc x mb (rinA X.x bu sl 4 hd false co tr) 235 ∧ Keeps (mrF R qv S X mb) w w) := ⟨H0, Keeps.refl _ _⟩
  have HB := rx_has w R.b X hc x bu H0.h.i
  rw [show inB x bu = true from hb] at HB
  have HBB : Hid (∀ _ : Unit, _) := fun _ => HB
  have c0 : w.cell? ⟨mb, 0, none⟩ = some (.pointer (some ⟨X.x, 0, none⟩)) := (H0.cell 0).trans rfl
  have c1 : w.cell? ⟨mb, 1, none⟩ = some (.int .i64 bu) := (H0.cell 1).trans rfl
  have c3 : w.cell? ⟨mb, 3, none⟩ = some (.int .i64 4) := (H0.cell 3).trans rfl
  have c5 : w.cell? ⟨mb, 5, none⟩ = some (.bool false) := (H0.cell 5).trans rfl
  clear h hm hn H0 HB
  subst hbb
  obtain ⟨y, hy⟩ : ∃ y, 2 * sl = y := ⟨_, rfl⟩
  have HK : Hid (∀ W, Calls Tryz.prog 146 #[.int .i64 sl] W fun e w' => e = .returned (.int .u64 y) ∧ w' = W) := fun W => by rw [← hy]; exact rword_any sl W (by omega) (by omega)
  have HX2 : Hid (x2.cell = x.cell) := by show _ = _; rw [← hx2]; rfl
  have HS : Hid (∀ W, RxH W R.b X hc x → Calls Tryz.prog 195 #[.pointer (some ⟨X.x, 0, none⟩), .int .i64 (b : Int), .int .u64 hd, .int .u64 y] W fun e w' => e = .returned (.bool false) ∧ RxH w' R.b X hc x2 ∧ Keeps X.has W w') := fun W hW => by
    rw [← hx2]
    exact rx_swap_miss W R.b X hc x b hb1 hd _ hW hu
  clear hb hu hx2 hy h1 h2
  go_enter Tryz.func155, Tryz.ntmps155
  go_wp2_with fail
  refine (HBB.out ()).mono ?_
  rintro e w1 ⟨rfl, hw1⟩
  rw [hw1]
  clear hw1 w1 HBB
  have HD : Hid (RM w.drew R cap qv Q S X hc x mb (rinA X.x (b : Int) sl 4 hd false co tr) 235 ∧ Keeps (mrF R qv S X mb) w w.drew) := ⟨⟨HP.out.1.h.keeps (D := fun _ => False) (Keeps.refl _ _).drew (fun _ _ e => e), HP.out.1.m, HP.out.1.n⟩, (Keeps.refl _ _).drew⟩
  have sx : w.drew.cell? ⟨mb, 1, none⟩ = some (.int .i64 (b : Int)) ∧ w.drew.cell? ⟨mb, 4, none⟩ = some (.int .u64 hd) ∧ w.drew.cell? ⟨mb, 2, none⟩ = some (.int .i64 sl) := ⟨(HD.out.1.cell 1).trans rfl, (HD.out.1.cell 4).trans rfl, (HD.out.1.cell 2).trans rfl⟩
  go_wp2_with fail
  clear c0 c1 c3 c5 HP
  (refine wp_region_held_drew (S := (fun Z => Z.cell? ⟨mb, 1, none⟩ = some (.int .i64 (b : Int)) ∧ Z.cell? ⟨mb, 4, none⟩ = some (.int .u64 hd) ∧ Z.cell? ⟨mb, 2, none⟩ = some (.int .i64 sl))) (by kernel_rfl) sx (fun hHeld => ?_); simp only [List.size_toArray, List.length_cons, List.length_nil, Nat.reduceAdd, Array.replicate_succ, Array.replicate_zero, List.push_toArray, List.append_toArray, List.nil_append, List.cons_append])
  clear sx
  refine rgT 0 (h := ?_)
  refine rgT 1 (h := ?_)
  refine rgT 2 (h := ?_)
  refine rgT 3 (h := ?_)
  refine rgT 4 (h := ?_)
  refine rgT 5 (h := ?_)
  refine rgT 6 (h := ?_)
  refine rgT 7 (h := ?_)
  refine rgT 8 (h := ?_)
  refine rgT 9 (h := ?_)
  refine rgT 10 (h := ?_)
  refine rgT 11 (h := ?_)
  refine rgT 12 (h := ?_)
  (refine rgS 13 (h := fun K hK => ?_); go_simp)
  refine (HK.out _).mono ?_
  rintro e w1 ⟨rfl, hw1⟩
  rw [hw1]
  clear hw1 w1 HK
  (refine hK.out _ _ ⟨(HD.out.1.cell 1).trans rfl, (HD.out.1.cell 4).trans rfl, (HD.out.1.cell 2).trans rfl⟩ (fun hHeld => ?_); clear hK K; try simp only [Act.put, List.setIfInBounds_toArray, List.set_cons_zero, List.set_cons_succ])
  (refine rgS 14 (h := fun K hK => ?_); go_simp)
  refine (HS.out _ HD.out.1.h.i).mono ?_
  rintro e w2 ⟨rfl, hx, k2⟩
  have H2 : Hid (RM w2 R cap qv Q S X hc x2 mb (rinA X.x (b : Int) sl 4 hd false co tr) 235 ∧ Keeps (mrF R qv S X mb) w w2) := ⟨HD.out.1.callX hx k2 HX2.out, HD.out.2.trans (rX k2)⟩
  clear hx k2 HD HS
  (refine hK.out _ _ ⟨(H2.out.1.cell 1).trans rfl, (H2.out.1.cell 4).trans rfl, (H2.out.1.cell 2).trans rfl⟩ (fun hHeld => ?_); clear hK K; try simp only [Act.put, List.setIfInBounds_toArray, List.set_cons_zero, List.set_cons_succ])
  refine rgT 15 (h := ?_)
  refine wpAnyH_done (by kernel_rfl) ?_ _
  clear hHeld
  clear hHeld
  clear hHeld
  have d7 : w2.cell? ⟨mb, 7, none⟩ = some (.int .i64 tr) := (H2.out.1.cell 7).trans rfl
  have g7 := H2.out.1.fz 7
  have d3 : w2.cell? ⟨mb, 3, none⟩ = some (.int .i64 4) := (H2.out.1.cell 3).trans rfl
  have g3 := H2.out.1.fz 3
  have H9 : Hid (RM ((w2.setCell ⟨mb, 7, none⟩ (.int .i64 (wrap64 (tr + 1)))).setCell ⟨mb, 3, none⟩ (.int .i64 2)) R cap qv Q (S) X hc (x2) mb (rinA X.x (b : Int) sl 2 hd false co (wrap64 (tr + 1))) 235 ∧ Keeps (mrF R qv S X mb) w ((w2.setCell ⟨mb, 7, none⟩ (.int .i64 (wrap64 (tr + 1)))).setCell ⟨mb, 3, none⟩ (.int .i64 2))) := ⟨((H2.out.1.set 7 _).1.set 3 _).1, ((H2.out.2.trans (rM (H2.out.1.set 7 _).2)).trans (rM ((H2.out.1.set 7 _).1.set 3 _).2))⟩
  clear H2
  go_wp2
  clear d7 g7 d3 g3
  go_ret
  exact ⟨rfl, H9.out.1.h, ⟨2, false, H9.out.1.m, ⟨fun _ => ⟨rfl, rfl⟩, fun e => absurd e (show ¬ 4 ≤ 1 by decide)⟩⟩, H9.out.2⟩
theorem rin_done (w : World) (R : RL) (cap : Nat) (qv : Value) (Q : List Nat) (S : AS) (X : XL) (hc : Nat) (x : XS) (mb : Nat) (bu sl hd co tr : Int) (at_ : Int) (h : RC w R cap qv Q S X hc x) (hm : w.heap[mb]? = some (.cells (rinA X.x bu sl at_ hd true co tr) 235)) : Calls Tryz.prog 155 #[.pointer (some ⟨mb, 0, none⟩)] w fun e w' => e = .returned (.bool true) ∧ w' = w := by
  have c0 : w.cell? ⟨mb, 0, none⟩ = some (.pointer (some ⟨X.x, 0, none⟩)) := (cell?_heap hm 0).trans rfl
  have c5 : w.cell? ⟨mb, 5, none⟩ = some (.bool true) := (cell?_heap hm 5).trans rfl
  clear h hm
  go_enter Tryz.func155, Tryz.ntmps155
  go_wp2
  go_ret
  exact ⟨rfl, rfl⟩
theorem rin_step (w : World) (R : RL) (cap : Nat) (qv : Value) (Q : List Nat) (S : AS) (X : XL) (hc : Nat) (x : XS) (mb : Nat) (m : MI) (h : RC w R cap qv Q S X hc x) (hm : RinH w mb X.x m) (hn : ¬ rcF R qv S X mb) (ho : insOk x m) : Calls Tryz.prog 155 #[.pointer (some ⟨mb, 0, none⟩)] w (RstI w R cap qv Q X hc mb S (insP S x m)) := by
  obtain ⟨st, co, bu, sl, hd, tr⟩ := m
  obtain ⟨at_, dn, hm, h1, h2⟩ := hm
  match st with
  | 0 =>
    obtain ⟨e1, rfl⟩ := h1 (by show 0 < 4; omega)
    obtain rfl : at_ = 1 := e1
    unfold insP
    dsimp only
    cases hb : inB x bu
    · exact rin_out w R cap qv Q S X hc x mb bu sl hd co tr h hm hn hb
    · rw [if_pos rfl]
      cases hl : liv S sl
      · exact rin_dead w R cap qv Q S X hc x mb bu sl hd co tr h hm hn hb hl
      · rw [if_pos rfl]
        by_cases hw : S.word (atC S sl x.cell) = 0
        · rw [if_pos hw]
          exact rin_go w R cap qv Q S X hc x mb bu sl hd co tr h hm hn hb hl hw
        · rw [if_neg hw]
          exact rin_full w R cap qv Q S X hc x mb bu sl hd co tr h hm hn hb hl _ rfl hw
  | 1 =>
    obtain ⟨e1, rfl⟩ := h1 (by show 1 < 4; omega)
    obtain rfl : at_ = 2 := e1
    have hb := (ho (by show 1 ≤ 1; omega) (by show 1 ≤ 3; omega)).1
    obtain ⟨b, hb1, hbb⟩ := inB_yes hb
    have hbb : bu = (b : Int) := hbb
    unfold insP
    dsimp only
    rw [show bu.toNat = b from by omega]
    exact rin_head w R cap qv Q S X hc x mb bu sl hd co tr h hm hn hb b hbb hb1 _ rfl
  | 2 =>
    obtain ⟨e1, rfl⟩ := h1 (by show 2 < 4; omega)
    obtain rfl : at_ = 3 := e1
    have hb := (ho (by show 1 ≤ 2; omega) (by show 2 ≤ 3; omega)).1
    unfold insP
    dsimp only
    cases hl : liv S sl
    · exact rin_st_dead w R cap qv Q S X hc x mb bu sl hd co tr h hm hn hb hl
    · rw [if_pos rfl]
      exact rin_st_go w R cap qv Q S X hc x mb bu sl hd co tr h hm hn hb hl _ rfl
  | 3 =>
    obtain ⟨e1, rfl⟩ := h1 (by show 3 < 4; omega)
    obtain rfl : at_ = 4 := e1
    obtain ⟨hb, o2, o3⟩ := ho (by show 1 ≤ 3; omega) (by show 3 ≤ 3; omega)
    obtain ⟨b, hb1, hbb⟩ := inB_yes hb
    have hbb : bu = (b : Int) := hbb
    unfold insP
    dsimp only
    rw [show bu.toNat = b from by omega]
    by_cases hu : x.hd b = hd
    · rw [if_pos hu]
      exact rin_sw_hit w R cap qv Q S X hc x mb bu sl hd co tr h hm hn hb b hbb hb1 o2 o3 hu _ rfl
    · rw [if_neg hu]
      exact rin_sw_miss w R cap qv Q S X hc x mb bu sl hd co tr h hm hn hb b hbb hb1 o2 o3 hu _ rfl
  | n + 4 =>
    obtain rfl := h2 (by show 4 ≤ n + 4; omega)
    refine (rin_done w R cap qv Q S X hc x mb bu sl hd co tr at_ h hm).mono ?_
    rintro e w' ⟨rfl, rfl⟩
    exact ⟨rfl, h, ⟨at_, true, hm, fun e => absurd e (show ¬ n + 4 < 4 by omega), fun _ => rfl⟩, Keeps.refl _ _⟩
theorem rin_new (w : World) (xb : Nat) (bu sl : Int) : Calls Tryz.prog 150 #[.pointer (some ⟨xb, 0, none⟩), .int .i64 bu, .int .i64 sl] w fun e w' => e = .returned (.pointer (some ⟨w.heap.size, 0, none⟩)) ∧ RinH w' w.heap.size xb ⟨0, 0, bu, sl, 0, 0⟩ ∧ Keeps (fun _ => False) w w' ∧ w'.heap.size = w.heap.size + 1 := by
  go_enter Tryz.func150, Tryz.ntmps150
  go_wp2
  go_ret
  refine ⟨rfl, ⟨1, false, ?_, fun _ => ⟨rfl, rfl⟩, fun e => absurd e (show ¬ 4 ≤ 0 by decide)⟩, ?_, ?_⟩
  · exact heap_alloc_last _ _ _ rfl
  · exact (Keeps.refl _ _).alloc _
  · simp
end Go.Proofs.YtdjklcmkcccpeaaGreat
