import Derived.Test.YtdjklcmkcccpeaaGreatRbE
import Derived.Test.YtdjklcmkcccpeaaGreatChL
namespace Go.Proofs.YtdjklcmkcccpeaaGreat
set_option linter.unusedSimpArgs false
open Go.ChangeShapes Go.WideShapes Go.ChangeAt Go.RowKit Go.MuLone Go.RwLone
set_option linter.unusedVariables false
set_option maxRecDepth 100000
set_option maxHeartbeats 3200000
abbrev rrmA (xb : Nat) (bu sl at_ wv ah nw : Int) (dn : Bool) (co : Int) (ma : Bool) (he : Int) : Array Value := #[.pointer (some ⟨xb, 0, none⟩), .int .i64 bu, .int .i64 sl, .int .i64 at_, .int .u64 wv, .int .i64 ah, .int .i64 nw, .bool dn, .int .i64 co, .bool ma, .int .i64 he]
/-- The document's Remove in its block. -/
def RrmH (w : World) (mb xb : Nat) (m : MR) : Prop := ∃ (at_ wv ah nw : Int) (dn : Bool), w.heap[mb]? = some (.cells (rrmA xb m.bu m.sl at_ wv ah nw dn m.co m.ma m.he) 239) ∧ (m.st ≤ 5 → dn = false) ∧ (6 ≤ m.st → dn = true) ∧ (m.st ≤ 1 → at_ = 1) ∧ (2 ≤ m.st → m.st ≤ 5 → at_ = (m.st : Int)) ∧ (m.st = 2 → wv = m.wd ∧ m.wd % 2 = 0) ∧ (m.st = 4 ∨ m.st = 5 → ah = m.ah ∧ nw = m.pr) ∧ (m.st = 5 → LkOk wv ∧ m.be = wv / 2)
def RstR (w : World) (R : RL) (cap : Nat) (qv : Value) (Q : List Nat) (X : XL) (hc : Nat) (mb : Nat) (S : AS) (p : Bool × CS × MR) (e : Ending) (w' : World) : Prop := e = .returned (.bool p.1) ∧ RC w' R cap qv Q p.2.1.S X hc p.2.1.x ∧ RrmH w' mb X.x p.2.2 ∧ Keeps (mrF R qv S X mb) w w'
theorem rrm1 {w : World} {mb xb : Nat} {bu sl wv ah nw co : Int} {ma : Bool} {he : Int} {wd ah2 pr be : Int} (h : w.heap[mb]? = some (.cells (rrmA xb bu sl 1 wv ah nw false co ma he) 239)) : RrmH w mb xb ⟨1, co, bu, sl, wd, ah2, pr, be, ma, he⟩ := ⟨1, wv, ah, nw, false, h, fun _ => rfl, fun e => absurd e (by show ¬ 6 ≤ 1; decide), fun _ => rfl, fun e => absurd e (by show ¬ 2 ≤ 1; decide), fun e => absurd e (by show ¬ 1 = 2; decide), fun e => absurd e (by show ¬ (1 = 4 ∨ 1 = 5); decide), fun e => absurd e (by show ¬ 1 = 5; decide)⟩
theorem rrm2 {w : World} {mb xb : Nat} {bu sl wv ah nw co : Int} {ma : Bool} {he : Int} {ah2 pr be : Int} (h : w.heap[mb]? = some (.cells (rrmA xb bu sl 2 wv ah nw false co ma he) 239)) (h2 : wv % 2 = 0) : RrmH w mb xb ⟨2, co, bu, sl, wv, ah2, pr, be, ma, he⟩ := ⟨2, wv, ah, nw, false, h, fun _ => rfl, fun e => absurd e (by show ¬ 6 ≤ 2; decide), fun e => absurd e (by show ¬ 2 ≤ 1; decide), fun _ _ => rfl, fun _ => ⟨rfl, h2⟩, fun e => absurd e (by show ¬ (2 = 4 ∨ 2 = 5); decide), fun e => absurd e (by show ¬ 2 = 5; decide)⟩
theorem rrm3 {w : World} {mb xb : Nat} {bu sl wv ah nw co : Int} {ma : Bool} {he : Int} {wd ah2 pr be : Int} (h : w.heap[mb]? = some (.cells (rrmA xb bu sl 3 wv ah nw false co ma he) 239)) : RrmH w mb xb ⟨3, co, bu, sl, wd, ah2, pr, be, ma, he⟩ := ⟨3, wv, ah, nw, false, h, fun _ => rfl, fun e => absurd e (by show ¬ 6 ≤ 3; decide), fun e => absurd e (by show ¬ 3 ≤ 1; decide), fun _ _ => rfl, fun e => absurd e (by show ¬ 3 = 2; decide), fun e => absurd e (by show ¬ (3 = 4 ∨ 3 = 5); decide), fun e => absurd e (by show ¬ 3 = 5; decide)⟩
theorem rrm4 {w : World} {mb xb : Nat} {bu sl wv ah nw co : Int} {ma : Bool} {he : Int} {wd be : Int} (h : w.heap[mb]? = some (.cells (rrmA xb bu sl 4 wv ah nw false co ma he) 239)) : RrmH w mb xb ⟨4, co, bu, sl, wd, ah, nw, be, ma, he⟩ := ⟨4, wv, ah, nw, false, h, fun _ => rfl, fun e => absurd e (by show ¬ 6 ≤ 4; decide), fun e => absurd e (by show ¬ 4 ≤ 1; decide), fun _ _ => rfl, fun e => absurd e (by show ¬ 4 = 2; decide), fun _ => ⟨rfl, rfl⟩, fun e => absurd e (by show ¬ 4 = 5; decide)⟩
theorem rrm5 {w : World} {mb xb : Nat} {bu sl wv ah nw co : Int} {ma : Bool} {he : Int} {wd : Int} (h : w.heap[mb]? = some (.cells (rrmA xb bu sl 5 wv ah nw false co ma he) 239)) (h5 : LkOk wv) : RrmH w mb xb ⟨5, co, bu, sl, wd, ah, nw, wv / 2, ma, he⟩ := ⟨5, wv, ah, nw, false, h, fun _ => rfl, fun e => absurd e (by show ¬ 6 ≤ 5; decide), fun e => absurd e (by show ¬ 5 ≤ 1; decide), fun _ _ => rfl, fun e => absurd e (by show ¬ 5 = 2; decide), fun _ => ⟨rfl, rfl⟩, fun _ => ⟨h5, rfl⟩⟩
theorem rrm6 {w : World} {mb xb : Nat} {bu sl wv ah nw co : Int} {ma : Bool} {he : Int} {at_ wd ah2 pr be : Int} (h : w.heap[mb]? = some (.cells (rrmA xb bu sl at_ wv ah nw true co ma he) 239)) : RrmH w mb xb ⟨6, co, bu, sl, wd, ah2, pr, be, ma, he⟩ := ⟨at_, wv, ah, nw, true, h, fun e => absurd e (by show ¬ 6 ≤ 5; decide), fun _ => rfl, fun e => absurd e (by show ¬ 6 ≤ 1; decide), fun _ e => absurd e (by show ¬ 6 ≤ 5; decide), fun e => absurd e (by show ¬ 6 = 2; decide), fun e => absurd e (by show ¬ (6 = 4 ∨ 6 = 5); decide), fun e => absurd e (by show ¬ 6 = 5; decide)⟩
theorem rrm_over (w : World) (mb xb : Nat) (bu sl at_ wv ah nw : Int) (dn : Bool) (co : Int) (ma : Bool) (he : Int) (c : Int) (h : w.heap[mb]? = some (.cells (rrmA xb bu sl at_ wv ah nw dn co ma he) 239)) : Calls Tryz.prog 200 #[.pointer (some ⟨mb, 0, none⟩), .int .i64 c] w fun e w' => e = .returned (.bool true) ∧ w'.heap[mb]? = some (.cells (rrmA xb bu sl at_ wv ah nw true c ma he) 239) ∧ Keeps (fun g => g = mb) w w' := by
  have c7 : w.cell? ⟨mb, 7, none⟩ = some (.bool dn) := (cell?_heap h 7).trans rfl
  have c8 : w.cell? ⟨mb, 8, none⟩ = some (.int .i64 co) := (cell?_heap h 8).trans rfl
  have f7 := frozen?_heap h 7
  have f8 := frozen?_heap h 8
  have HN : Hid (((w.setCell ⟨mb, 7, none⟩ (.bool true)).setCell ⟨mb, 8, none⟩ (.int .i64 c)).heap[mb]? = some (.cells (rrmA xb bu sl at_ wv ah nw true c ma he) 239) ∧ Keeps (fun g => g = mb) w ((w.setCell ⟨mb, 7, none⟩ (.bool true)).setCell ⟨mb, 8, none⟩ (.int .i64 c))) := ⟨heapSetC (heapSetC h 7 _) 8 _, setK setB⟩
  clear h
  go_enter Tryz.func200, Tryz.ntmps200
  go_wp2
  go_ret
  exact ⟨rfl, HN.out⟩
theorem rrm_present_end (w : World) (mb xb : Nat) (bu sl at_ wv ah nw : Int) (co : Int) (ma : Bool) (he : Int) (n : Int) (h : w.heap[mb]? = some (.cells (rrmA xb bu sl at_ wv ah nw false co ma he) 239)) (hE : 4096 < n) : Calls Tryz.prog 203 #[.pointer (some ⟨mb, 0, none⟩), .int .i64 n] w fun e w' => e = .returned (.bool true) ∧ w'.heap[mb]? = some (.cells (rrmA xb bu sl 4 wv ah n true 0 ma he) 239) ∧ Keeps (fun g => g = mb) w w' := by
  have HE : Hid (decide (4096 < n) = true) := decide_eq_true hE
  have c6 : w.cell? ⟨mb, 6, none⟩ = some (.int .i64 nw) := (cell?_heap h 6).trans rfl
  have c3 : w.cell? ⟨mb, 3, none⟩ = some (.int .i64 at_) := (cell?_heap h 3).trans rfl
  have f6 := frozen?_heap h 6
  have f3 := frozen?_heap h 3
  have HN : Hid (((w.setCell ⟨mb, 6, none⟩ (.int .i64 n)).setCell ⟨mb, 3, none⟩ (.int .i64 4)).heap[mb]? = some (.cells (rrmA xb bu sl 4 wv ah n false co ma he) 239) ∧ Keeps (fun g => g = mb) w ((w.setCell ⟨mb, 6, none⟩ (.int .i64 n)).setCell ⟨mb, 3, none⟩ (.int .i64 4))) := ⟨heapSetC (heapSetC h 6 _) 3 _, setK setB⟩
  clear h hE
  go_enter Tryz.func203, Tryz.ntmps203
  go_wp2_with fail
  refine (rend_any n _).mono ?_
  rintro e w1 ⟨rfl, hw1⟩
  rw [hw1, HE.out]
  clear hw1 w1 HE
  go_wp2_with fail
  refine (rrm_over _ mb xb bu sl 4 wv ah n false co ma he 0 HN.out.1).mono ?_
  rintro e w2 ⟨rfl, h2, k2⟩
  have H2 : Hid (w2.heap[mb]? = some (.cells (rrmA xb bu sl 4 wv ah n true 0 ma he) 239) ∧ Keeps (fun g => g = mb) w w2) := ⟨h2, HN.out.2.trans k2⟩
  clear h2 k2 HN c6 c3 f6 f3
  go_wp2
  go_ret
  exact ⟨rfl, H2.out⟩
theorem rrm_present_on (w : World) (mb xb : Nat) (bu sl at_ wv ah nw : Int) (co : Int) (ma : Bool) (he : Int) (n : Int) (h : w.heap[mb]? = some (.cells (rrmA xb bu sl at_ wv ah nw false co ma he) 239)) (hE : ¬ 4096 < n) : Calls Tryz.prog 203 #[.pointer (some ⟨mb, 0, none⟩), .int .i64 n] w fun e w' => e = .returned (.bool false) ∧ w'.heap[mb]? = some (.cells (rrmA xb bu sl 4 wv ah n false co ma he) 239) ∧ Keeps (fun g => g = mb) w w' := by
  have HE : Hid (decide (4096 < n) = false) := decide_eq_false hE
  have c6 : w.cell? ⟨mb, 6, none⟩ = some (.int .i64 nw) := (cell?_heap h 6).trans rfl
  have c3 : w.cell? ⟨mb, 3, none⟩ = some (.int .i64 at_) := (cell?_heap h 3).trans rfl
  have f6 := frozen?_heap h 6
  have f3 := frozen?_heap h 3
  have HN : Hid (((w.setCell ⟨mb, 6, none⟩ (.int .i64 n)).setCell ⟨mb, 3, none⟩ (.int .i64 4)).heap[mb]? = some (.cells (rrmA xb bu sl 4 wv ah n false co ma he) 239) ∧ Keeps (fun g => g = mb) w ((w.setCell ⟨mb, 6, none⟩ (.int .i64 n)).setCell ⟨mb, 3, none⟩ (.int .i64 4))) := ⟨heapSetC (heapSetC h 6 _) 3 _, setK setB⟩
  clear h hE
  go_enter Tryz.func203, Tryz.ntmps203
  go_wp2_with fail
  refine (rend_any n _).mono ?_
  rintro e w1 ⟨rfl, hw1⟩
  rw [hw1, HE.out]
  clear hw1 w1 HE
  go_wp2
  go_ret
  exact ⟨rfl, HN.out⟩
theorem rrm_present (w : World) (mb xb : Nat) (bu sl at_ wv ah nw : Int) (co : Int) (ma : Bool) (he : Int) (n : Int) (st : Nat) (wd pr be : Int) (h : w.heap[mb]? = some (.cells (rrmA xb bu sl at_ wv ah nw false co ma he) 239)) : Calls Tryz.prog 203 #[.pointer (some ⟨mb, 0, none⟩), .int .i64 n] w fun e w' => e = .returned (.bool (mvR ⟨st, co, bu, sl, wd, ah, pr, be, ma, he⟩ n).1) ∧ RrmH w' mb xb (mvR ⟨st, co, bu, sl, wd, ah, pr, be, ma, he⟩ n).2 ∧ Keeps (fun g => g = mb) w w' := by
  unfold mvR
  dsimp only
  by_cases hE : 4096 < n
  · rw [if_pos hE]
    refine (rrm_present_end w mb xb bu sl at_ wv ah nw co ma he n h hE).mono ?_
    rintro e w' ⟨rfl, h2, k2⟩
    exact ⟨rfl, rrm6 h2, k2⟩
  · rw [if_neg hE]
    refine (rrm_present_on w mb xb bu sl at_ wv ah nw co ma he n h hE).mono ?_
    rintro e w' ⟨rfl, h2, k2⟩
    exact ⟨rfl, rrm4 h2, k2⟩
theorem rrf_dead (w : World) (R : RL) (cap : Nat) (qv : Value) (Q : List Nat) (S : AS) (X : XL) (hc : Nat) (x : XS) (mb : Nat) (bu sl wv ah nw co : Int) (ma : Bool) (he : Int) (wd pr be : Int) (h : RC w R cap qv Q S X hc x) (hm : w.heap[mb]? = some (.cells (rrmA X.x bu sl 1 wv ah nw false co ma he) 239)) (hn : ¬ rcF R qv S X mb) (hl : liv S sl = false) : Calls Tryz.prog 201 #[.pointer (some ⟨mb, 0, none⟩)] w (RstR w R cap qv Q X hc mb S (true, ⟨mis1 S, x⟩, ⟨6, 22, bu, sl, wd, ah, pr, be, ma, he⟩)) := by
  have HP : Hid (RM w R cap qv Q (S) X hc (x) mb (rrmA X.x bu sl 1 wv ah nw false co ma he) 239 ∧ Keeps (mrF R qv S X mb) w w) := ⟨⟨h, hm, hn⟩, Keeps.refl _ _⟩
  clear h hm hn
  have HC : Hid (∀ W, RC W R cap qv Q S X hc x → Calls Tryz.prog 192 #[.pointer (some ⟨R.b, 0, none⟩), .int .i64 sl, .int .i64 (x.cell : Int)] W fun e w' => e = .returned (.tuple #[.int .u64 0, .int .i64 22]) ∧ RAr w' R cap qv Q (mis1 S) ∧ Keeps (raF R qv S) W w') := fun W hW => ra_load_no W R cap qv Q S sl (x.cell : Int) hW.a hl
  clear hl
  go_enter Tryz.func201, Tryz.ntmps201
  have HD : Hid (RM w.drew R cap qv Q (S) X hc (x) mb (rrmA X.x bu sl 1 wv ah nw false co ma he) 239 ∧ Keeps (mrF R qv S X mb) w w.drew) := ⟨⟨HP.out.1.h.keeps (D := fun _ => False) (Keeps.refl _ _).drew (fun _ _ e => e), HP.out.1.m, HP.out.1.n⟩, (Keeps.refl _ _).drew⟩
  have sx : w.drew.cell? ⟨X.x, 0, none⟩ = some (.pointer (some ⟨R.b, 0, none⟩)) ∧ w.drew.cell? ⟨X.x, 1, none⟩ = some (.int .i64 (x.cell : Int)) ∧ w.drew.cell? ⟨mb, 0, none⟩ = some (.pointer (some ⟨X.x, 0, none⟩)) ∧ w.drew.cell? ⟨mb, 2, none⟩ = some (.int .i64 sl) := ⟨HD.out.1.h.i.c0, HD.out.1.h.i.c1, (HD.out.1.cell 0).trans rfl, (HD.out.1.cell 2).trans rfl⟩
  go_wp2_with fail
  (refine wp_region_held_drew (S := (fun Z => Z.cell? ⟨X.x, 0, none⟩ = some (.pointer (some ⟨R.b, 0, none⟩)) ∧ Z.cell? ⟨X.x, 1, none⟩ = some (.int .i64 (x.cell : Int)) ∧ Z.cell? ⟨mb, 0, none⟩ = some (.pointer (some ⟨X.x, 0, none⟩)) ∧ Z.cell? ⟨mb, 2, none⟩ = some (.int .i64 sl))) (by kernel_rfl) sx (fun hHeld => ?_); simp only [List.size_toArray, List.length_cons, List.length_nil, Nat.reduceAdd, Array.replicate_succ, Array.replicate_zero, List.push_toArray, List.append_toArray, List.nil_append, List.cons_append])
  clear sx HP 
  refine rgT 0 (h := ?_)
  refine rgT 1 (h := ?_)
  refine rgT 2 (h := ?_)
  refine rgT 3 (h := ?_)
  refine rgT 4 (h := ?_)
  refine rgT 5 (h := ?_)
  refine rgT 6 (h := ?_)
  refine rgT 7 (h := ?_)
  refine rgT 8 (h := ?_)
  refine rgT 9 (h := ?_)
  refine rgT 10 (h := ?_)
  refine rgT 11 (h := ?_)
  refine rgT 12 (h := ?_)
  refine rgT 13 (h := ?_)
  refine rgT 14 (h := ?_)
  refine rgT 15 (h := ?_)
  refine rgT 16 (h := ?_)
  refine rgT 17 (h := ?_)
  (refine rgS 18 (h := fun K hK => ?_); go_simp)
  refine (HC.out w.drew HD.out.1.h).mono ?_
  rintro e w2 ⟨rfl, ha2, k2⟩
  have H2 : Hid (RM w2 R cap qv Q (mis1 S) X hc (x) mb (rrmA X.x bu sl 1 wv ah nw false co ma he) 239 ∧ Keeps (mrF R qv S X mb) w w2) := ⟨HD.out.1.callA ha2 k2 rfl (fun g e => e), HD.out.2.trans (rA k2)⟩
  clear ha2 k2 HD HC
  (refine hK.out _ _ ⟨H2.out.1.h.i.c0, H2.out.1.h.i.c1, (H2.out.1.cell 0).trans rfl, (H2.out.1.cell 2).trans rfl⟩ (fun hHeld => ?_); clear hK K; try simp only [Act.put, List.setIfInBounds_toArray, List.set_cons_zero, List.set_cons_succ])
  refine rgT 19 (h := ?_)
  refine rgT 20 (h := ?_)
  refine rgT 21 (h := ?_)
  refine rgT 22 (h := ?_)
  refine rgT 23 (h := ?_)
  refine wpAnyH_done (by kernel_rfl) ?_ _
  clear hHeld
  clear hHeld
  go_wp2_with fail
  refine (rrm_over w2 mb X.x bu sl 1 wv ah nw false co ma he 22 H2.out.1.m).mono ?_
  rintro e w9 ⟨rfl, hm9, k9⟩
  have H9 : Hid (RC w9 R cap qv Q (mis1 S) X hc (x) ∧ RrmH w9 mb X.x ⟨6, 22, bu, sl, wd, ah, pr, be, ma, he⟩ ∧ Keeps (mrF R qv S X mb) w w9) := ⟨(H2.out.1.own hm9 k9).h, rrm6 hm9, H2.out.2.trans (rM k9)⟩
  clear hm9 k9 H2 
  go_wp2
  go_ret
  exact ⟨rfl, H9.out⟩
theorem rrf_zero (w : World) (R : RL) (cap : Nat) (qv : Value) (Q : List Nat) (S : AS) (X : XL) (hc : Nat) (x : XS) (mb : Nat) (bu sl wv ah nw co : Int) (ma : Bool) (he : Int) (wd pr be : Int) (h : RC w R cap qv Q S X hc x) (hm : w.heap[mb]? = some (.cells (rrmA X.x bu sl 1 wv ah nw false co ma he) 239)) (hn : ¬ rcF R qv S X mb) (hl : liv S sl = true) (hv : S.word (atC S sl x.cell) = 0) : Calls Tryz.prog 201 #[.pointer (some ⟨mb, 0, none⟩)] w (RstR w R cap qv Q X hc mb S (true, ⟨acc1 S, x⟩, ⟨6, 42, bu, sl, wd, ah, pr, be, ma, he⟩)) := by
  have HP : Hid (RM w R cap qv Q (S) X hc (x) mb (rrmA X.x bu sl 1 wv ah nw false co ma he) 239 ∧ Keeps (mrF R qv S X mb) w w) := ⟨⟨h, hm, hn⟩, Keeps.refl _ _⟩
  clear h hm hn
  have HC : Hid (∀ W, RC W R cap qv Q S X hc x → Calls Tryz.prog 192 #[.pointer (some ⟨R.b, 0, none⟩), .int .i64 sl, .int .i64 (x.cell : Int)] W fun e w' => e = .returned (.tuple #[.int .u64 0, .int .i64 0]) ∧ RAr w' R cap qv Q (acc1 S) ∧ Keeps (raF R qv S) W w') := fun W hW => ra_load W R cap qv Q S sl x.cell hW.a hl hW.c 0 hv
  clear hl hv
  go_enter Tryz.func201, Tryz.ntmps201
  have HD : Hid (RM w.drew R cap qv Q (S) X hc (x) mb (rrmA X.x bu sl 1 wv ah nw false co ma he) 239 ∧ Keeps (mrF R qv S X mb) w w.drew) := ⟨⟨HP.out.1.h.keeps (D := fun _ => False) (Keeps.refl _ _).drew (fun _ _ e => e), HP.out.1.m, HP.out.1.n⟩, (Keeps.refl _ _).drew⟩
  have sx : w.drew.cell? ⟨X.x, 0, none⟩ = some (.pointer (some ⟨R.b, 0, none⟩)) ∧ w.drew.cell? ⟨X.x, 1, none⟩ = some (.int .i64 (x.cell : Int)) ∧ w.drew.cell? ⟨mb, 0, none⟩ = some (.pointer (some ⟨X.x, 0, none⟩)) ∧ w.drew.cell? ⟨mb, 2, none⟩ = some (.int .i64 sl) := ⟨HD.out.1.h.i.c0, HD.out.1.h.i.c1, (HD.out.1.cell 0).trans rfl, (HD.out.1.cell 2).trans rfl⟩
  go_wp2_with fail
  (refine wp_region_held_drew (S := (fun Z => Z.cell? ⟨X.x, 0, none⟩ = some (.pointer (some ⟨R.b, 0, none⟩)) ∧ Z.cell? ⟨X.x, 1, none⟩ = some (.int .i64 (x.cell : Int)) ∧ Z.cell? ⟨mb, 0, none⟩ = some (.pointer (some ⟨X.x, 0, none⟩)) ∧ Z.cell? ⟨mb, 2, none⟩ = some (.int .i64 sl))) (by kernel_rfl) sx (fun hHeld => ?_); simp only [List.size_toArray, List.length_cons, List.length_nil, Nat.reduceAdd, Array.replicate_succ, Array.replicate_zero, List.push_toArray, List.append_toArray, List.nil_append, List.cons_append])
  clear sx HP 
  refine rgT 0 (h := ?_)
  refine rgT 1 (h := ?_)
  refine rgT 2 (h := ?_)
  refine rgT 3 (h := ?_)
  refine rgT 4 (h := ?_)
  refine rgT 5 (h := ?_)
  refine rgT 6 (h := ?_)
  refine rgT 7 (h := ?_)
  refine rgT 8 (h := ?_)
  refine rgT 9 (h := ?_)
  refine rgT 10 (h := ?_)
  refine rgT 11 (h := ?_)
  refine rgT 12 (h := ?_)
  refine rgT 13 (h := ?_)
  refine rgT 14 (h := ?_)
  refine rgT 15 (h := ?_)
  refine rgT 16 (h := ?_)
  refine rgT 17 (h := ?_)
  (refine rgS 18 (h := fun K hK => ?_); go_simp)
  refine (HC.out w.drew HD.out.1.h).mono ?_
  rintro e w2 ⟨rfl, ha2, k2⟩
  have H2 : Hid (RM w2 R cap qv Q (acc1 S) X hc (x) mb (rrmA X.x bu sl 1 wv ah nw false co ma he) 239 ∧ Keeps (mrF R qv S X mb) w w2) := ⟨HD.out.1.callA ha2 k2 rfl (fun g e => e), HD.out.2.trans (rA k2)⟩
  clear ha2 k2 HD HC
  (refine hK.out _ _ ⟨H2.out.1.h.i.c0, H2.out.1.h.i.c1, (H2.out.1.cell 0).trans rfl, (H2.out.1.cell 2).trans rfl⟩ (fun hHeld => ?_); clear hK K; try simp only [Act.put, List.setIfInBounds_toArray, List.set_cons_zero, List.set_cons_succ])
  refine rgT 19 (h := ?_)
  refine rgT 20 (h := ?_)
  refine rgT 21 (h := ?_)
  refine rgT 22 (h := ?_)
  refine rgT 23 (h := ?_)
  refine wpAnyH_done (by kernel_rfl) ?_ _
  clear hHeld
  clear hHeld
  go_wp2_with fail
  refine (rrm_over w2 mb X.x bu sl 1 wv ah nw false co ma he 42 H2.out.1.m).mono ?_
  rintro e w9 ⟨rfl, hm9, k9⟩
  have H9 : Hid (RC w9 R cap qv Q (acc1 S) X hc (x) ∧ RrmH w9 mb X.x ⟨6, 42, bu, sl, wd, ah, pr, be, ma, he⟩ ∧ Keeps (mrF R qv S X mb) w w9) := ⟨(H2.out.1.own hm9 k9).h, rrm6 hm9, H2.out.2.trans (rM k9)⟩
  clear hm9 k9 H2 
  go_wp2
  go_ret
  exact ⟨rfl, H9.out⟩
theorem rrf_mark (w : World) (R : RL) (cap : Nat) (qv : Value) (Q : List Nat) (S : AS) (X : XL) (hc : Nat) (x : XS) (mb : Nat) (bu sl wv ah nw co : Int) (ma : Bool) (he : Int) (wd pr be : Int) (h : RC w R cap qv Q S X hc x) (hm : w.heap[mb]? = some (.cells (rrmA X.x bu sl 1 wv ah nw false co ma he) 239)) (hn : ¬ rcF R qv S X mb) (hl : liv S sl = true) (v : Int) (hv : S.word (atC S sl x.cell) = v) (hk : LkOk v) (hz : ¬ v = 0) (hmk : (v % 2 == 1) = true) : Calls Tryz.prog 201 #[.pointer (some ⟨mb, 0, none⟩)] w (RstR w R cap qv Q X hc mb S (false, ⟨acc1 S, x⟩, ⟨3, co, bu, sl, wd, ah, pr, be, ma, he⟩)) := by
  have HP : Hid (RM w R cap qv Q (S) X hc (x) mb (rrmA X.x bu sl 1 wv ah nw false co ma he) 239 ∧ Keeps (mrF R qv S X mb) w w) := ⟨⟨h, hm, hn⟩, Keeps.refl _ _⟩
  clear h hm hn
  have HC : Hid (∀ W, RC W R cap qv Q S X hc x → Calls Tryz.prog 192 #[.pointer (some ⟨R.b, 0, none⟩), .int .i64 sl, .int .i64 (x.cell : Int)] W fun e w' => e = .returned (.tuple #[.int .u64 v, .int .i64 0]) ∧ RAr w' R cap qv Q (acc1 S) ∧ Keeps (raF R qv S) W w') := fun W hW => ra_load W R cap qv Q S sl x.cell hW.a hl hW.c v hv
  have hz2 : (v == 0) = false := by simp [hz]
  have HMA : Hid (∀ W, Calls Tryz.prog 199 #[.int .u64 v] W fun e w' => e = .returned (.bool true) ∧ w' = W) := fun W => by rw [← hmk]; exact rmarked_any v W hk
  clear hl hv hk hz hmk
  go_enter Tryz.func201, Tryz.ntmps201
  have HD : Hid (RM w.drew R cap qv Q (S) X hc (x) mb (rrmA X.x bu sl 1 wv ah nw false co ma he) 239 ∧ Keeps (mrF R qv S X mb) w w.drew) := ⟨⟨HP.out.1.h.keeps (D := fun _ => False) (Keeps.refl _ _).drew (fun _ _ e => e), HP.out.1.m, HP.out.1.n⟩, (Keeps.refl _ _).drew⟩
  have sx : w.drew.cell? ⟨X.x, 0, none⟩ = some (.pointer (some ⟨R.b, 0, none⟩)) ∧ w.drew.cell? ⟨X.x, 1, none⟩ = some (.int .i64 (x.cell : Int)) ∧ w.drew.cell? ⟨mb, 0, none⟩ = some (.pointer (some ⟨X.x, 0, none⟩)) ∧ w.drew.cell? ⟨mb, 2, none⟩ = some (.int .i64 sl) := ⟨HD.out.1.h.i.c0, HD.out.1.h.i.c1, (HD.out.1.cell 0).trans rfl, (HD.out.1.cell 2).trans rfl⟩
  go_wp2_with fail
  (refine wp_region_held_drew (S := (fun Z => Z.cell? ⟨X.x, 0, none⟩ = some (.pointer (some ⟨R.b, 0, none⟩)) ∧ Z.cell? ⟨X.x, 1, none⟩ = some (.int .i64 (x.cell : Int)) ∧ Z.cell? ⟨mb, 0, none⟩ = some (.pointer (some ⟨X.x, 0, none⟩)) ∧ Z.cell? ⟨mb, 2, none⟩ = some (.int .i64 sl))) (by kernel_rfl) sx (fun hHeld => ?_); simp only [List.size_toArray, List.length_cons, List.length_nil, Nat.reduceAdd, Array.replicate_succ, Array.replicate_zero, List.push_toArray, List.append_toArray, List.nil_append, List.cons_append])
  clear sx HP 
  refine rgT 0 (h := ?_)
  refine rgT 1 (h := ?_)
  refine rgT 2 (h := ?_)
  refine rgT 3 (h := ?_)
  refine rgT 4 (h := ?_)
  refine rgT 5 (h := ?_)
  refine rgT 6 (h := ?_)
  refine rgT 7 (h := ?_)
  refine rgT 8 (h := ?_)
  refine rgT 9 (h := ?_)
  refine rgT 10 (h := ?_)
  refine rgT 11 (h := ?_)
  refine rgT 12 (h := ?_)
  refine rgT 13 (h := ?_)
  refine rgT 14 (h := ?_)
  refine rgT 15 (h := ?_)
  refine rgT 16 (h := ?_)
  refine rgT 17 (h := ?_)
  (refine rgS 18 (h := fun K hK => ?_); go_simp)
  refine (HC.out w.drew HD.out.1.h).mono ?_
  rintro e w2 ⟨rfl, ha2, k2⟩
  have H2 : Hid (RM w2 R cap qv Q (acc1 S) X hc (x) mb (rrmA X.x bu sl 1 wv ah nw false co ma he) 239 ∧ Keeps (mrF R qv S X mb) w w2) := ⟨HD.out.1.callA ha2 k2 rfl (fun g e => e), HD.out.2.trans (rA k2)⟩
  clear ha2 k2 HD HC
  (refine hK.out _ _ ⟨H2.out.1.h.i.c0, H2.out.1.h.i.c1, (H2.out.1.cell 0).trans rfl, (H2.out.1.cell 2).trans rfl⟩ (fun hHeld => ?_); clear hK K; try simp only [Act.put, List.setIfInBounds_toArray, List.set_cons_zero, List.set_cons_succ])
  refine rgT 19 (h := ?_)
  refine rgT 20 (h := ?_)
  refine rgT 21 (h := ?_)
  refine rgT 22 (h := ?_)
  refine rgT 23 (h := ?_)
  refine wpAnyH_done (by kernel_rfl) ?_ _
  clear hHeld
  clear hHeld
  have d4 : w2.cell? ⟨mb, 4, none⟩ = some (.int .u64 wv) := (H2.out.1.cell 4).trans rfl
  have d3 : w2.cell? ⟨mb, 3, none⟩ = some (.int .i64 1) := (H2.out.1.cell 3).trans rfl
  have dz4 := H2.out.1.fz 4
  have dz3 := H2.out.1.fz 3
  have H3 : Hid (RM (((w2.setCell ⟨mb, 4, none⟩ (.int .u64 v)).setCell ⟨mb, 3, none⟩ (.int .i64 2)).setCell ⟨mb, 3, none⟩ (.int .i64 3)) R cap qv Q (acc1 S) X hc (x) mb (rrmA X.x bu sl 3 v ah nw false co ma he) 239 ∧ Keeps (mrF R qv S X mb) w (((w2.setCell ⟨mb, 4, none⟩ (.int .u64 v)).setCell ⟨mb, 3, none⟩ (.int .i64 2)).setCell ⟨mb, 3, none⟩ (.int .i64 3))) := ⟨(((H2.out.1.set 4 _).1.set 3 _).1.set 3 _).1, (((H2.out.2.trans (rM (H2.out.1.set 4 _).2)).trans (rM ((H2.out.1.set 4 _).1.set 3 _).2)).trans (rM (((H2.out.1.set 4 _).1.set 3 _).1.set 3 _).2))⟩
  clear H2
  go_wp2_with fail
  refine (HMA.out _).mono ?_
  rintro e w5 ⟨rfl, hw5⟩
  rw [hw5]
  clear hw5 w5 HMA
  go_wp2
  go_ret
  exact ⟨rfl, H3.out.1.h, rrm3 H3.out.1.m, H3.out.2⟩
theorem rrf_go (w : World) (R : RL) (cap : Nat) (qv : Value) (Q : List Nat) (S : AS) (X : XL) (hc : Nat) (x : XS) (mb : Nat) (bu sl wv ah nw co : Int) (ma : Bool) (he : Int) (wd pr be : Int) (h : RC w R cap qv Q S X hc x) (hm : w.heap[mb]? = some (.cells (rrmA X.x bu sl 1 wv ah nw false co ma he) 239)) (hn : ¬ rcF R qv S X mb) (hl : liv S sl = true) (v : Int) (hv : S.word (atC S sl x.cell) = v) (hk : LkOk v) (hz : ¬ v = 0) (hmk : (v % 2 == 1) = false) : Calls Tryz.prog 201 #[.pointer (some ⟨mb, 0, none⟩)] w (RstR w R cap qv Q X hc mb S (false, ⟨acc1 S, x⟩, ⟨2, co, bu, sl, v, ah, pr, be, ma, he⟩)) := by
  have HP : Hid (RM w R cap qv Q (S) X hc (x) mb (rrmA X.x bu sl 1 wv ah nw false co ma he) 239 ∧ Keeps (mrF R qv S X mb) w w) := ⟨⟨h, hm, hn⟩, Keeps.refl _ _⟩
  clear h hm hn
  have HC : Hid (∀ W, RC W R cap qv Q S X hc x → Calls Tryz.prog 192 #[.pointer (some ⟨R.b, 0, none⟩), .int .i64 sl, .int .i64 (x.cell : Int)] W fun e w' => e = .returned (.tuple #[.int .u64 v, .int .i64 0]) ∧ RAr w' R cap qv Q (acc1 S) ∧ Keeps (raF R qv S) W w') := fun W hW => ra_load W R cap qv Q S sl x.cell hW.a hl hW.c v hv
  have hz2 : (v == 0) = false := by simp [hz]
  have HMA : Hid (∀ W, Calls Tryz.prog 199 #[.int .u64 v] W fun e w' => e = .returned (.bool false) ∧ w' = W) := fun W => by rw [← hmk]; exact rmarked_any v W hk
  have HE2 : Hid (v % 2 = 0) := by
    show _ = _
    have : ¬ v % 2 = 1 := by simpa using hmk
    omega
  clear hl hv hk hz hmk
  go_enter Tryz.func201, Tryz.ntmps201
  have HD : Hid (RM w.drew R cap qv Q (S) X hc (x) mb (rrmA X.x bu sl 1 wv ah nw false co ma he) 239 ∧ Keeps (mrF R qv S X mb) w w.drew) := ⟨⟨HP.out.1.h.keeps (D := fun _ => False) (Keeps.refl _ _).drew (fun _ _ e => e), HP.out.1.m, HP.out.1.n⟩, (Keeps.refl _ _).drew⟩
  have sx : w.drew.cell? ⟨X.x, 0, none⟩ = some (.pointer (some ⟨R.b, 0, none⟩)) ∧ w.drew.cell? ⟨X.x, 1, none⟩ = some (.int .i64 (x.cell : Int)) ∧ w.drew.cell? ⟨mb, 0, none⟩ = some (.pointer (some ⟨X.x, 0, none⟩)) ∧ w.drew.cell? ⟨mb, 2, none⟩ = some (.int .i64 sl) := ⟨HD.out.1.h.i.c0, HD.out.1.h.i.c1, (HD.out.1.cell 0).trans rfl, (HD.out.1.cell 2).trans rfl⟩
  go_wp2_with fail
  (refine wp_region_held_drew (S := (fun Z => Z.cell? ⟨X.x, 0, none⟩ = some (.pointer (some ⟨R.b, 0, none⟩)) ∧ Z.cell? ⟨X.x, 1, none⟩ = some (.int .i64 (x.cell : Int)) ∧ Z.cell? ⟨mb, 0, none⟩ = some (.pointer (some ⟨X.x, 0, none⟩)) ∧ Z.cell? ⟨mb, 2, none⟩ = some (.int .i64 sl))) (by kernel_rfl) sx (fun hHeld => ?_); simp only [List.size_toArray, List.length_cons, List.length_nil, Nat.reduceAdd, Array.replicate_succ, Array.replicate_zero, List.push_toArray, List.append_toArray, List.nil_append, List.cons_append])
  clear sx HP 
  refine rgT 0 (h := ?_)
  refine rgT 1 (h := ?_)
  refine rgT 2 (h := ?_)
  refine rgT 3 (h := ?_)
  refine rgT 4 (h := ?_)
  refine rgT 5 (h := ?_)
  refine rgT 6 (h := ?_)
  refine rgT 7 (h := ?_)
  refine rgT 8 (h := ?_)
  refine rgT 9 (h := ?_)
  refine rgT 10 (h := ?_)
  refine rgT 11 (h := ?_)
  refine rgT 12 (h := ?_)
  refine rgT 13 (h := ?_)
  refine rgT 14 (h := ?_)
  refine rgT 15 (h := ?_)
  refine rgT 16 (h := ?_)
  refine rgT 17 (h := ?_)
  (refine rgS 18 (h := fun K hK => ?_); go_simp)
  refine (HC.out w.drew HD.out.1.h).mono ?_
  rintro e w2 ⟨rfl, ha2, k2⟩
  have H2 : Hid (RM w2 R cap qv Q (acc1 S) X hc (x) mb (rrmA X.x bu sl 1 wv ah nw false co ma he) 239 ∧ Keeps (mrF R qv S X mb) w w2) := ⟨HD.out.1.callA ha2 k2 rfl (fun g e => e), HD.out.2.trans (rA k2)⟩
  clear ha2 k2 HD HC
  (refine hK.out _ _ ⟨H2.out.1.h.i.c0, H2.out.1.h.i.c1, (H2.out.1.cell 0).trans rfl, (H2.out.1.cell 2).trans rfl⟩ (fun hHeld => ?_); clear hK K; try simp only [Act.put, List.setIfInBounds_toArray, List.set_cons_zero, List.set_cons_succ])
  refine rgT 19 (h := ?_)
  refine rgT 20 (h := ?_)
  refine rgT 21 (h := ?_)
  refine rgT 22 (h := ?_)
  refine rgT 23 (h := ?_)
  refine wpAnyH_done (by kernel_rfl) ?_ _
  clear hHeld
  clear hHeld
  have d4 : w2.cell? ⟨mb, 4, none⟩ = some (.int .u64 wv) := (H2.out.1.cell 4).trans rfl
  have d3 : w2.cell? ⟨mb, 3, none⟩ = some (.int .i64 1) := (H2.out.1.cell 3).trans rfl
  have dz4 := H2.out.1.fz 4
  have dz3 := H2.out.1.fz 3
  have H3 : Hid (RM ((w2.setCell ⟨mb, 4, none⟩ (.int .u64 v)).setCell ⟨mb, 3, none⟩ (.int .i64 2)) R cap qv Q (acc1 S) X hc (x) mb (rrmA X.x bu sl 2 v ah nw false co ma he) 239 ∧ Keeps (mrF R qv S X mb) w ((w2.setCell ⟨mb, 4, none⟩ (.int .u64 v)).setCell ⟨mb, 3, none⟩ (.int .i64 2))) := ⟨((H2.out.1.set 4 _).1.set 3 _).1, ((H2.out.2.trans (rM (H2.out.1.set 4 _).2)).trans (rM ((H2.out.1.set 4 _).1.set 3 _).2))⟩
  clear H2
  go_wp2_with fail
  refine (HMA.out _).mono ?_
  rintro e w5 ⟨rfl, hw5⟩
  rw [hw5]
  clear hw5 w5 HMA
  go_wp2
  go_ret
  exact ⟨rfl, H3.out.1.h, rrm2 H3.out.1.m HE2.out, H3.out.2⟩
theorem rrl_dead (w : World) (R : RL) (cap : Nat) (qv : Value) (Q : List Nat) (S : AS) (X : XL) (hc : Nat) (x : XS) (mb : Nat) (bu sl wv ah nw co : Int) (ma : Bool) (he : Int) (wd pr be : Int) (h : RC w R cap qv Q S X hc x) (hm : w.heap[mb]? = some (.cells (rrmA X.x bu sl 4 wv ah pr false co ma he) 239)) (hn : ¬ rcF R qv S X mb) (hl : liv S pr = false) : Calls Tryz.prog 204 #[.pointer (some ⟨mb, 0, none⟩)] w (RstR w R cap qv Q X hc mb S (true, ⟨mis1 S, x⟩, ⟨6, 22, bu, sl, wd, ah, pr, be, ma, he⟩)) := by
  have HP : Hid (RM w R cap qv Q (S) X hc (x) mb (rrmA X.x bu sl 4 wv ah pr false co ma he) 239 ∧ Keeps (mrF R qv S X mb) w w) := ⟨⟨h, hm, hn⟩, Keeps.refl _ _⟩
  clear h hm hn
  have HC : Hid (∀ W, RC W R cap qv Q S X hc x → Calls Tryz.prog 192 #[.pointer (some ⟨R.b, 0, none⟩), .int .i64 pr, .int .i64 (x.cell : Int)] W fun e w' => e = .returned (.tuple #[.int .u64 0, .int .i64 22]) ∧ RAr w' R cap qv Q (mis1 S) ∧ Keeps (raF R qv S) W w') := fun W hW => ra_load_no W R cap qv Q S pr (x.cell : Int) hW.a hl
  clear hl
  go_enter Tryz.func204, Tryz.ntmps204
  have HD : Hid (RM w.drew R cap qv Q (S) X hc (x) mb (rrmA X.x bu sl 4 wv ah pr false co ma he) 239 ∧ Keeps (mrF R qv S X mb) w w.drew) := ⟨⟨HP.out.1.h.keeps (D := fun _ => False) (Keeps.refl _ _).drew (fun _ _ e => e), HP.out.1.m, HP.out.1.n⟩, (Keeps.refl _ _).drew⟩
  have sx : w.drew.cell? ⟨X.x, 0, none⟩ = some (.pointer (some ⟨R.b, 0, none⟩)) ∧ w.drew.cell? ⟨X.x, 1, none⟩ = some (.int .i64 (x.cell : Int)) ∧ w.drew.cell? ⟨mb, 0, none⟩ = some (.pointer (some ⟨X.x, 0, none⟩)) ∧ w.drew.cell? ⟨mb, 6, none⟩ = some (.int .i64 pr) := ⟨HD.out.1.h.i.c0, HD.out.1.h.i.c1, (HD.out.1.cell 0).trans rfl, (HD.out.1.cell 6).trans rfl⟩
  go_wp2_with fail
  (refine wp_region_held_drew (S := (fun Z => Z.cell? ⟨X.x, 0, none⟩ = some (.pointer (some ⟨R.b, 0, none⟩)) ∧ Z.cell? ⟨X.x, 1, none⟩ = some (.int .i64 (x.cell : Int)) ∧ Z.cell? ⟨mb, 0, none⟩ = some (.pointer (some ⟨X.x, 0, none⟩)) ∧ Z.cell? ⟨mb, 6, none⟩ = some (.int .i64 pr))) (by kernel_rfl) sx (fun hHeld => ?_); simp only [List.size_toArray, List.length_cons, List.length_nil, Nat.reduceAdd, Array.replicate_succ, Array.replicate_zero, List.push_toArray, List.append_toArray, List.nil_append, List.cons_append])
  clear sx HP 
  refine rgT 0 (h := ?_)
  refine rgT 1 (h := ?_)
  refine rgT 2 (h := ?_)
  refine rgT 3 (h := ?_)
  refine rgT 4 (h := ?_)
  refine rgT 5 (h := ?_)
  refine rgT 6 (h := ?_)
  refine rgT 7 (h := ?_)
  refine rgT 8 (h := ?_)
  refine rgT 9 (h := ?_)
  refine rgT 10 (h := ?_)
  refine rgT 11 (h := ?_)
  refine rgT 12 (h := ?_)
  refine rgT 13 (h := ?_)
  refine rgT 14 (h := ?_)
  refine rgT 15 (h := ?_)
  refine rgT 16 (h := ?_)
  refine rgT 17 (h := ?_)
  (refine rgS 18 (h := fun K hK => ?_); go_simp)
  refine (HC.out w.drew HD.out.1.h).mono ?_
  rintro e w2 ⟨rfl, ha2, k2⟩
  have H2 : Hid (RM w2 R cap qv Q (mis1 S) X hc (x) mb (rrmA X.x bu sl 4 wv ah pr false co ma he) 239 ∧ Keeps (mrF R qv S X mb) w w2) := ⟨HD.out.1.callA ha2 k2 rfl (fun g e => e), HD.out.2.trans (rA k2)⟩
  clear ha2 k2 HD HC
  (refine hK.out _ _ ⟨H2.out.1.h.i.c0, H2.out.1.h.i.c1, (H2.out.1.cell 0).trans rfl, (H2.out.1.cell 6).trans rfl⟩ (fun hHeld => ?_); clear hK K; try simp only [Act.put, List.setIfInBounds_toArray, List.set_cons_zero, List.set_cons_succ])
  refine rgT 19 (h := ?_)
  refine rgT 20 (h := ?_)
  refine rgT 21 (h := ?_)
  refine rgT 22 (h := ?_)
  refine rgT 23 (h := ?_)
  refine wpAnyH_done (by kernel_rfl) ?_ _
  clear hHeld
  clear hHeld
  go_wp2_with fail
  refine (rrm_over w2 mb X.x bu sl 4 wv ah pr false co ma he 22 H2.out.1.m).mono ?_
  rintro e w9 ⟨rfl, hm9, k9⟩
  have H9 : Hid (RC w9 R cap qv Q (mis1 S) X hc (x) ∧ RrmH w9 mb X.x ⟨6, 22, bu, sl, wd, ah, pr, be, ma, he⟩ ∧ Keeps (mrF R qv S X mb) w w9) := ⟨(H2.out.1.own hm9 k9).h, rrm6 hm9, H2.out.2.trans (rM k9)⟩
  clear hm9 k9 H2 
  go_wp2
  go_ret
  exact ⟨rfl, H9.out⟩
theorem rrl_zero (w : World) (R : RL) (cap : Nat) (qv : Value) (Q : List Nat) (S : AS) (X : XL) (hc : Nat) (x : XS) (mb : Nat) (bu sl wv ah nw co : Int) (ma : Bool) (he : Int) (wd pr be : Int) (h : RC w R cap qv Q S X hc x) (hm : w.heap[mb]? = some (.cells (rrmA X.x bu sl 4 wv ah pr false co ma he) 239)) (hn : ¬ rcF R qv S X mb) (hl : liv S pr = true) (v : Int) (hv : S.word (atC S pr x.cell) = v) (hk : LkOk v) (n : Int) (hnn : v / 2 = n) (hz : n = 0) : Calls Tryz.prog 204 #[.pointer (some ⟨mb, 0, none⟩)] w (RstR w R cap qv Q X hc mb S (true, ⟨acc1 S, x⟩, ⟨6, 42, bu, sl, wd, ah, pr, be, ma, he⟩)) := by
  have HP : Hid (RM w R cap qv Q (S) X hc (x) mb (rrmA X.x bu sl 4 wv ah pr false co ma he) 239 ∧ Keeps (mrF R qv S X mb) w w) := ⟨⟨h, hm, hn⟩, Keeps.refl _ _⟩
  clear h hm hn
  have HC : Hid (∀ W, RC W R cap qv Q S X hc x → Calls Tryz.prog 192 #[.pointer (some ⟨R.b, 0, none⟩), .int .i64 pr, .int .i64 (x.cell : Int)] W fun e w' => e = .returned (.tuple #[.int .u64 v, .int .i64 0]) ∧ RAr w' R cap qv Q (acc1 S) ∧ Keeps (raF R qv S) W w') := fun W hW => ra_load W R cap qv Q S pr x.cell hW.a hl hW.c v hv
  have HNU : Hid (∀ W, Calls Tryz.prog 198 #[.int .u64 v] W fun e w' => e = .returned (.int .i64 n) ∧ w' = W) := fun W => by rw [← hnn]; exact rnumber_any v W hk
  subst hz
  clear hl hv hk hnn
  go_enter Tryz.func204, Tryz.ntmps204
  have HD : Hid (RM w.drew R cap qv Q (S) X hc (x) mb (rrmA X.x bu sl 4 wv ah pr false co ma he) 239 ∧ Keeps (mrF R qv S X mb) w w.drew) := ⟨⟨HP.out.1.h.keeps (D := fun _ => False) (Keeps.refl _ _).drew (fun _ _ e => e), HP.out.1.m, HP.out.1.n⟩, (Keeps.refl _ _).drew⟩
  have sx : w.drew.cell? ⟨X.x, 0, none⟩ = some (.pointer (some ⟨R.b, 0, none⟩)) ∧ w.drew.cell? ⟨X.x, 1, none⟩ = some (.int .i64 (x.cell : Int)) ∧ w.drew.cell? ⟨mb, 0, none⟩ = some (.pointer (some ⟨X.x, 0, none⟩)) ∧ w.drew.cell? ⟨mb, 6, none⟩ = some (.int .i64 pr) := ⟨HD.out.1.h.i.c0, HD.out.1.h.i.c1, (HD.out.1.cell 0).trans rfl, (HD.out.1.cell 6).trans rfl⟩
  go_wp2_with fail
  (refine wp_region_held_drew (S := (fun Z => Z.cell? ⟨X.x, 0, none⟩ = some (.pointer (some ⟨R.b, 0, none⟩)) ∧ Z.cell? ⟨X.x, 1, none⟩ = some (.int .i64 (x.cell : Int)) ∧ Z.cell? ⟨mb, 0, none⟩ = some (.pointer (some ⟨X.x, 0, none⟩)) ∧ Z.cell? ⟨mb, 6, none⟩ = some (.int .i64 pr))) (by kernel_rfl) sx (fun hHeld => ?_); simp only [List.size_toArray, List.length_cons, List.length_nil, Nat.reduceAdd, Array.replicate_succ, Array.replicate_zero, List.push_toArray, List.append_toArray, List.nil_append, List.cons_append])
  clear sx HP 
  refine rgT 0 (h := ?_)
  refine rgT 1 (h := ?_)
  refine rgT 2 (h := ?_)
  refine rgT 3 (h := ?_)
  refine rgT 4 (h := ?_)
  refine rgT 5 (h := ?_)
  refine rgT 6 (h := ?_)
  refine rgT 7 (h := ?_)
  refine rgT 8 (h := ?_)
  refine rgT 9 (h := ?_)
  refine rgT 10 (h := ?_)
  refine rgT 11 (h := ?_)
  refine rgT 12 (h := ?_)
  refine rgT 13 (h := ?_)
  refine rgT 14 (h := ?_)
  refine rgT 15 (h := ?_)
  refine rgT 16 (h := ?_)
  refine rgT 17 (h := ?_)
  (refine rgS 18 (h := fun K hK => ?_); go_simp)
  refine (HC.out w.drew HD.out.1.h).mono ?_
  rintro e w2 ⟨rfl, ha2, k2⟩
  have H2 : Hid (RM w2 R cap qv Q (acc1 S) X hc (x) mb (rrmA X.x bu sl 4 wv ah pr false co ma he) 239 ∧ Keeps (mrF R qv S X mb) w w2) := ⟨HD.out.1.callA ha2 k2 rfl (fun g e => e), HD.out.2.trans (rA k2)⟩
  clear ha2 k2 HD HC
  (refine hK.out _ _ ⟨H2.out.1.h.i.c0, H2.out.1.h.i.c1, (H2.out.1.cell 0).trans rfl, (H2.out.1.cell 6).trans rfl⟩ (fun hHeld => ?_); clear hK K; try simp only [Act.put, List.setIfInBounds_toArray, List.set_cons_zero, List.set_cons_succ])
  refine rgT 19 (h := ?_)
  refine rgT 20 (h := ?_)
  refine rgT 21 (h := ?_)
  refine rgT 22 (h := ?_)
  refine rgT 23 (h := ?_)
  refine wpAnyH_done (by kernel_rfl) ?_ _
  clear hHeld
  clear hHeld
  go_wp2_with fail
  refine (HNU.out _).mono ?_
  rintro e w5 ⟨rfl, hw5⟩
  rw [hw5]
  clear hw5 w5 HNU
  go_wp2_with fail
  refine (rrm_over w2 mb X.x bu sl 4 wv ah pr false co ma he 42 H2.out.1.m).mono ?_
  rintro e w9 ⟨rfl, hm9, k9⟩
  have H9 : Hid (RC w9 R cap qv Q (acc1 S) X hc (x) ∧ RrmH w9 mb X.x ⟨6, 42, bu, sl, wd, ah, pr, be, ma, he⟩ ∧ Keeps (mrF R qv S X mb) w w9) := ⟨(H2.out.1.own hm9 k9).h, rrm6 hm9, H2.out.2.trans (rM k9)⟩
  clear hm9 k9 H2 
  go_wp2
  go_ret
  exact ⟨rfl, H9.out⟩
theorem rrl_mark (w : World) (R : RL) (cap : Nat) (qv : Value) (Q : List Nat) (S : AS) (X : XL) (hc : Nat) (x : XS) (mb : Nat) (bu sl wv ah nw co : Int) (ma : Bool) (he : Int) (wd pr be : Int) (h : RC w R cap qv Q S X hc x) (hm : w.heap[mb]? = some (.cells (rrmA X.x bu sl 4 wv ah pr false co ma he) 239)) (hn : ¬ rcF R qv S X mb) (hl : liv S pr = true) (v : Int) (hv : S.word (atC S pr x.cell) = v) (hk : LkOk v) (n : Int) (hnn : v / 2 = n) (hz : ¬ n = 0) (hmk : (v % 2 == 1) = true) : Calls Tryz.prog 204 #[.pointer (some ⟨mb, 0, none⟩)] w (RstR w R cap qv Q X hc mb S (false, ⟨acc1 S, x⟩, ⟨5, co, bu, sl, wd, ah, pr, n, ma, he⟩)) := by
  have HP : Hid (RM w R cap qv Q (S) X hc (x) mb (rrmA X.x bu sl 4 wv ah pr false co ma he) 239 ∧ Keeps (mrF R qv S X mb) w w) := ⟨⟨h, hm, hn⟩, Keeps.refl _ _⟩
  clear h hm hn
  have HC : Hid (∀ W, RC W R cap qv Q S X hc x → Calls Tryz.prog 192 #[.pointer (some ⟨R.b, 0, none⟩), .int .i64 pr, .int .i64 (x.cell : Int)] W fun e w' => e = .returned (.tuple #[.int .u64 v, .int .i64 0]) ∧ RAr w' R cap qv Q (acc1 S) ∧ Keeps (raF R qv S) W w') := fun W hW => ra_load W R cap qv Q S pr x.cell hW.a hl hW.c v hv
  have HNU : Hid (∀ W, Calls Tryz.prog 198 #[.int .u64 v] W fun e w' => e = .returned (.int .i64 n) ∧ w' = W) := fun W => by rw [← hnn]; exact rnumber_any v W hk
  have HMA : Hid (∀ W, Calls Tryz.prog 199 #[.int .u64 v] W fun e w' => e = .returned (.bool true) ∧ w' = W) := fun W => by rw [← hmk]; exact rmarked_any v W hk
  have HLK : Hid (LkOk v) := hk
  have HNN : Hid (v / 2 = n) := hnn
  have hz2 : (n == 0) = false := by simp [hz]
  clear hl hv hk hnn hz hmk
  go_enter Tryz.func204, Tryz.ntmps204
  have HD : Hid (RM w.drew R cap qv Q (S) X hc (x) mb (rrmA X.x bu sl 4 wv ah pr false co ma he) 239 ∧ Keeps (mrF R qv S X mb) w w.drew) := ⟨⟨HP.out.1.h.keeps (D := fun _ => False) (Keeps.refl _ _).drew (fun _ _ e => e), HP.out.1.m, HP.out.1.n⟩, (Keeps.refl _ _).drew⟩
  have sx : w.drew.cell? ⟨X.x, 0, none⟩ = some (.pointer (some ⟨R.b, 0, none⟩)) ∧ w.drew.cell? ⟨X.x, 1, none⟩ = some (.int .i64 (x.cell : Int)) ∧ w.drew.cell? ⟨mb, 0, none⟩ = some (.pointer (some ⟨X.x, 0, none⟩)) ∧ w.drew.cell? ⟨mb, 6, none⟩ = some (.int .i64 pr) := ⟨HD.out.1.h.i.c0, HD.out.1.h.i.c1, (HD.out.1.cell 0).trans rfl, (HD.out.1.cell 6).trans rfl⟩
  go_wp2_with fail
  (refine wp_region_held_drew (S := (fun Z => Z.cell? ⟨X.x, 0, none⟩ = some (.pointer (some ⟨R.b, 0, none⟩)) ∧ Z.cell? ⟨X.x, 1, none⟩ = some (.int .i64 (x.cell : Int)) ∧ Z.cell? ⟨mb, 0, none⟩ = some (.pointer (some ⟨X.x, 0, none⟩)) ∧ Z.cell? ⟨mb, 6, none⟩ = some (.int .i64 pr))) (by kernel_rfl) sx (fun hHeld => ?_); simp only [List.size_toArray, List.length_cons, List.length_nil, Nat.reduceAdd, Array.replicate_succ, Array.replicate_zero, List.push_toArray, List.append_toArray, List.nil_append, List.cons_append])
  clear sx HP 
  refine rgT 0 (h := ?_)
  refine rgT 1 (h := ?_)
  refine rgT 2 (h := ?_)
  refine rgT 3 (h := ?_)
  refine rgT 4 (h := ?_)
  refine rgT 5 (h := ?_)
  refine rgT 6 (h := ?_)
  refine rgT 7 (h := ?_)
  refine rgT 8 (h := ?_)
  refine rgT 9 (h := ?_)
  refine rgT 10 (h := ?_)
  refine rgT 11 (h := ?_)
  refine rgT 12 (h := ?_)
  refine rgT 13 (h := ?_)
  refine rgT 14 (h := ?_)
  refine rgT 15 (h := ?_)
  refine rgT 16 (h := ?_)
  refine rgT 17 (h := ?_)
  (refine rgS 18 (h := fun K hK => ?_); go_simp)
  refine (HC.out w.drew HD.out.1.h).mono ?_
  rintro e w2 ⟨rfl, ha2, k2⟩
  have H2 : Hid (RM w2 R cap qv Q (acc1 S) X hc (x) mb (rrmA X.x bu sl 4 wv ah pr false co ma he) 239 ∧ Keeps (mrF R qv S X mb) w w2) := ⟨HD.out.1.callA ha2 k2 rfl (fun g e => e), HD.out.2.trans (rA k2)⟩
  clear ha2 k2 HD HC
  (refine hK.out _ _ ⟨H2.out.1.h.i.c0, H2.out.1.h.i.c1, (H2.out.1.cell 0).trans rfl, (H2.out.1.cell 6).trans rfl⟩ (fun hHeld => ?_); clear hK K; try simp only [Act.put, List.setIfInBounds_toArray, List.set_cons_zero, List.set_cons_succ])
  refine rgT 19 (h := ?_)
  refine rgT 20 (h := ?_)
  refine rgT 21 (h := ?_)
  refine rgT 22 (h := ?_)
  refine rgT 23 (h := ?_)
  refine wpAnyH_done (by kernel_rfl) ?_ _
  clear hHeld
  clear hHeld
  have d4 : w2.cell? ⟨mb, 4, none⟩ = some (.int .u64 wv) := (H2.out.1.cell 4).trans rfl
  have d3 : w2.cell? ⟨mb, 3, none⟩ = some (.int .i64 4) := (H2.out.1.cell 3).trans rfl
  have dz4 := H2.out.1.fz 4
  have dz3 := H2.out.1.fz 3
  have H3 : Hid (RM ((w2.setCell ⟨mb, 4, none⟩ (.int .u64 v)).setCell ⟨mb, 3, none⟩ (.int .i64 5)) R cap qv Q (acc1 S) X hc (x) mb (rrmA X.x bu sl 5 v ah pr false co ma he) 239 ∧ Keeps (mrF R qv S X mb) w ((w2.setCell ⟨mb, 4, none⟩ (.int .u64 v)).setCell ⟨mb, 3, none⟩ (.int .i64 5))) := ⟨((H2.out.1.set 4 _).1.set 3 _).1, ((H2.out.2.trans (rM (H2.out.1.set 4 _).2)).trans (rM ((H2.out.1.set 4 _).1.set 3 _).2))⟩
  clear H2
  go_wp2_with fail
  refine (HNU.out _).mono ?_
  rintro e w5 ⟨rfl, hw5⟩
  rw [hw5]
  clear hw5 w5 HNU
  go_wp2_with fail
  refine (HMA.out _).mono ?_
  rintro e w5 ⟨rfl, hw5⟩
  rw [hw5]
  clear hw5 w5 HMA
  go_wp2
  go_ret
  exact ⟨rfl, H3.out.1.h, by rw [← HNN.out]; exact rrm5 H3.out.1.m HLK.out, H3.out.2⟩
theorem rrl_go (w : World) (R : RL) (cap : Nat) (qv : Value) (Q : List Nat) (S : AS) (X : XL) (hc : Nat) (x : XS) (mb : Nat) (bu sl wv ah nw co : Int) (ma : Bool) (he : Int) (wd pr be : Int) (h : RC w R cap qv Q S X hc x) (hm : w.heap[mb]? = some (.cells (rrmA X.x bu sl 4 wv ah pr false co ma he) 239)) (hn : ¬ rcF R qv S X mb) (hl : liv S pr = true) (v : Int) (hv : S.word (atC S pr x.cell) = v) (hk : LkOk v) (n : Int) (hnn : v / 2 = n) (hz : ¬ n = 0) (hmk : (v % 2 == 1) = false) (q : Bool × MR) (hq : mvR ⟨4, co, bu, sl, wd, pr, pr, be, ma, he⟩ n = q) : Calls Tryz.prog 204 #[.pointer (some ⟨mb, 0, none⟩)] w (RstR w R cap qv Q X hc mb S (q.1, ⟨acc1 S, x⟩, q.2)) := by
  have HP : Hid (RM w R cap qv Q (S) X hc (x) mb (rrmA X.x bu sl 4 wv ah pr false co ma he) 239 ∧ Keeps (mrF R qv S X mb) w w) := ⟨⟨h, hm, hn⟩, Keeps.refl _ _⟩
  clear h hm hn
  have HC : Hid (∀ W, RC W R cap qv Q S X hc x → Calls Tryz.prog 192 #[.pointer (some ⟨R.b, 0, none⟩), .int .i64 pr, .int .i64 (x.cell : Int)] W fun e w' => e = .returned (.tuple #[.int .u64 v, .int .i64 0]) ∧ RAr w' R cap qv Q (acc1 S) ∧ Keeps (raF R qv S) W w') := fun W hW => ra_load W R cap qv Q S pr x.cell hW.a hl hW.c v hv
  have HNU : Hid (∀ W, Calls Tryz.prog 198 #[.int .u64 v] W fun e w' => e = .returned (.int .i64 n) ∧ w' = W) := fun W => by rw [← hnn]; exact rnumber_any v W hk
  have HMA : Hid (∀ W, Calls Tryz.prog 199 #[.int .u64 v] W fun e w' => e = .returned (.bool false) ∧ w' = W) := fun W => by rw [← hmk]; exact rmarked_any v W hk
  have HPR : Hid (∀ W, W.heap[mb]? = some (.cells (rrmA X.x bu sl 4 wv pr pr false co ma he) 239) → Calls Tryz.prog 203 #[.pointer (some ⟨mb, 0, none⟩), .int .i64 n] W fun e w' => e = .returned (.bool q.1) ∧ RrmH w' mb X.x q.2 ∧ Keeps (fun g => g = mb) W w') := fun W hW => by
    rw [← hq]
    exact rrm_present W mb X.x bu sl 4 wv pr pr co ma he n 4 wd pr be hW
  have hz2 : (n == 0) = false := by simp [hz]
  clear hl hv hk hnn hz hmk hq
  go_enter Tryz.func204, Tryz.ntmps204
  have HD : Hid (RM w.drew R cap qv Q (S) X hc (x) mb (rrmA X.x bu sl 4 wv ah pr false co ma he) 239 ∧ Keeps (mrF R qv S X mb) w w.drew) := ⟨⟨HP.out.1.h.keeps (D := fun _ => False) (Keeps.refl _ _).drew (fun _ _ e => e), HP.out.1.m, HP.out.1.n⟩, (Keeps.refl _ _).drew⟩
  have sx : w.drew.cell? ⟨X.x, 0, none⟩ = some (.pointer (some ⟨R.b, 0, none⟩)) ∧ w.drew.cell? ⟨X.x, 1, none⟩ = some (.int .i64 (x.cell : Int)) ∧ w.drew.cell? ⟨mb, 0, none⟩ = some (.pointer (some ⟨X.x, 0, none⟩)) ∧ w.drew.cell? ⟨mb, 6, none⟩ = some (.int .i64 pr) := ⟨HD.out.1.h.i.c0, HD.out.1.h.i.c1, (HD.out.1.cell 0).trans rfl, (HD.out.1.cell 6).trans rfl⟩
  go_wp2_with fail
  (refine wp_region_held_drew (S := (fun Z => Z.cell? ⟨X.x, 0, none⟩ = some (.pointer (some ⟨R.b, 0, none⟩)) ∧ Z.cell? ⟨X.x, 1, none⟩ = some (.int .i64 (x.cell : Int)) ∧ Z.cell? ⟨mb, 0, none⟩ = some (.pointer (some ⟨X.x, 0, none⟩)) ∧ Z.cell? ⟨mb, 6, none⟩ = some (.int .i64 pr))) (by kernel_rfl) sx (fun hHeld => ?_); simp only [List.size_toArray, List.length_cons, List.length_nil, Nat.reduceAdd, Array.replicate_succ, Array.replicate_zero, List.push_toArray, List.append_toArray, List.nil_append, List.cons_append])
  clear sx HP 
  refine rgT 0 (h := ?_)
  refine rgT 1 (h := ?_)
  refine rgT 2 (h := ?_)
  refine rgT 3 (h := ?_)
  refine rgT 4 (h := ?_)
  refine rgT 5 (h := ?_)
  refine rgT 6 (h := ?_)
  refine rgT 7 (h := ?_)
  refine rgT 8 (h := ?_)
  refine rgT 9 (h := ?_)
  refine rgT 10 (h := ?_)
  refine rgT 11 (h := ?_)
  refine rgT 12 (h := ?_)
  refine rgT 13 (h := ?_)
  refine rgT 14 (h := ?_)
  refine rgT 15 (h := ?_)
  refine rgT 16 (h := ?_)
  refine rgT 17 (h := ?_)
  (refine rgS 18 (h := fun K hK => ?_); go_simp)
  refine (HC.out w.drew HD.out.1.h).mono ?_
  rintro e w2 ⟨rfl, ha2, k2⟩
  have H2 : Hid (RM w2 R cap qv Q (acc1 S) X hc (x) mb (rrmA X.x bu sl 4 wv ah pr false co ma he) 239 ∧ Keeps (mrF R qv S X mb) w w2) := ⟨HD.out.1.callA ha2 k2 rfl (fun g e => e), HD.out.2.trans (rA k2)⟩
  clear ha2 k2 HD HC
  (refine hK.out _ _ ⟨H2.out.1.h.i.c0, H2.out.1.h.i.c1, (H2.out.1.cell 0).trans rfl, (H2.out.1.cell 6).trans rfl⟩ (fun hHeld => ?_); clear hK K; try simp only [Act.put, List.setIfInBounds_toArray, List.set_cons_zero, List.set_cons_succ])
  refine rgT 19 (h := ?_)
  refine rgT 20 (h := ?_)
  refine rgT 21 (h := ?_)
  refine rgT 22 (h := ?_)
  refine rgT 23 (h := ?_)
  refine wpAnyH_done (by kernel_rfl) ?_ _
  clear hHeld
  clear hHeld
  have d5 : w2.cell? ⟨mb, 5, none⟩ = some (.int .i64 ah) := (H2.out.1.cell 5).trans rfl
  have d6 : w2.cell? ⟨mb, 6, none⟩ = some (.int .i64 pr) := (H2.out.1.cell 6).trans rfl
  have dz5 := H2.out.1.fz 5
  have H3 : Hid (RM (w2.setCell ⟨mb, 5, none⟩ (.int .i64 pr)) R cap qv Q (acc1 S) X hc (x) mb (rrmA X.x bu sl 4 wv pr pr false co ma he) 239 ∧ Keeps (mrF R qv S X mb) w (w2.setCell ⟨mb, 5, none⟩ (.int .i64 pr))) := ⟨(H2.out.1.set 5 _).1, (H2.out.2.trans (rM (H2.out.1.set 5 _).2))⟩
  clear H2
  go_wp2_with fail
  refine (HNU.out _).mono ?_
  rintro e w5 ⟨rfl, hw5⟩
  rw [hw5]
  clear hw5 w5
  go_wp2_with fail
  refine (HMA.out _).mono ?_
  rintro e w5 ⟨rfl, hw5⟩
  rw [hw5]
  clear hw5 w5 HMA
  go_wp2_with fail
  refine (HNU.out _).mono ?_
  rintro e w5 ⟨rfl, hw5⟩
  rw [hw5]
  clear hw5 w5 HNU
  go_wp2_with fail
  refine (HPR.out _ H3.out.1.m).mono ?_
  rintro e w9 ⟨rfl, hm9, k9⟩
  have H9 : Hid (RC w9 R cap qv Q (acc1 S) X hc x ∧ RrmH w9 mb X.x q.2 ∧ Keeps (mrF R qv S X mb) w w9) := ⟨H3.out.1.kept k9, hm9, H3.out.2.trans (rM k9)⟩
  clear hm9 k9 H3 HPR d5 d6 dz5
  go_wp2
  go_ret
  exact ⟨rfl, H9.out⟩
end Go.Proofs.YtdjklcmkcccpeaaGreat
