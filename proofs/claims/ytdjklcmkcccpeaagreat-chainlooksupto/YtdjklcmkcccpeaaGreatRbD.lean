import Derived.Test.YtdjklcmkcccpeaaGreatRbC
namespace Go.Proofs.YtdjklcmkcccpeaaGreat
set_option linter.unusedSimpArgs false
open Go.ChangeShapes Go.WideShapes Go.ChangeAt Go.RowKit Go.MuLone Go.RwLone
set_option linter.unusedVariables false
set_option maxRecDepth 100000
set_option maxHeartbeats 3200000
theorem RM.kept {w w' : World} {R : RL} {cap : Nat} {qv : Value} {Q : List Nat} {S : AS} {X : XL} {hc : Nat} {x : XS} {mb : Nat} {c : Array Value} {t : TypeId} (h : RM w R cap qv Q S X hc x mb c t) (k : Keeps (fun g => g = mb) w w') : RC w' R cap qv Q S X hc x := h.h.keeps k (fun g hg e => h.n (by rw [← e]; exact hg))
def RstW (w : World) (R : RL) (cap : Nat) (qv : Value) (Q : List Nat) (X : XL) (hc : Nat) (mb : Nat) (S : AS) (p : Bool × CS × MW) (e : Ending) (w' : World) : Prop := e = .returned (.bool p.1) ∧ RC w' R cap qv Q p.2.1.S X hc p.2.1.x ∧ RwlH w' mb X.x p.2.2 ∧ Keeps (mrF R qv S X mb) w w'
theorem rwl_st_over (w : World) (R : RL) (cap : Nat) (qv : Value) (Q : List Nat) (S : AS) (X : XL) (hc : Nat) (x : XS) (mb : Nat) (bk fr : Int) (wh lo : Bool) (nx sl : Int) (src own pend : Int) (co : Int) (h : RC w R cap qv Q S X hc x) (hm : w.heap[mb]? = some (.cells (rwlA X.x bk fr wh lo nx sl true co) 237)) (hn : ¬ rcF R qv S X mb) : Calls Tryz.prog 156 #[.pointer (some ⟨mb, 0, none⟩)] w (RstW w R cap qv Q X hc mb S (true, ⟨S, x⟩, ⟨3, src, own, 0, pend, true, co⟩)) := by
  have H0 : RM w R cap qv Q (S) X hc (x) mb (rwlA X.x bk fr wh lo nx sl true co) 237 := ⟨h, hm, hn⟩
  have a0 : w.cell? ⟨mb, 0, none⟩ = some (.pointer (some ⟨X.x, 0, none⟩)) := (H0.cell 0).trans rfl
  have a6 : w.cell? ⟨mb, 6, none⟩ = some (.int .i64 sl) := (H0.cell 6).trans rfl
  have z6 := H0.fz 6
  have H1 : Hid (RM (w.setCell ⟨mb, 6, none⟩ (.int .i64 0)) R cap qv Q (S) X hc (x) mb (rwlA X.x bk fr wh lo nx 0 true co) 237 ∧ Keeps (mrF R qv S X mb) w (w.setCell ⟨mb, 6, none⟩ (.int .i64 0))) := ⟨(H0.set 6 _).1, rM (H0.set 6 _).2⟩
  have c1 : (w.setCell ⟨mb, 6, none⟩ (.int .i64 0)).cell? ⟨mb, 1, none⟩ = some (.int .i64 bk) := (H1.out.1.cell 1).trans rfl
  have c2 : (w.setCell ⟨mb, 6, none⟩ (.int .i64 0)).cell? ⟨mb, 2, none⟩ = some (.int .i64 fr) := (H1.out.1.cell 2).trans rfl
  have c3 : (w.setCell ⟨mb, 6, none⟩ (.int .i64 0)).cell? ⟨mb, 3, none⟩ = some (.bool wh) := (H1.out.1.cell 3).trans rfl
  have c4 : (w.setCell ⟨mb, 6, none⟩ (.int .i64 0)).cell? ⟨mb, 4, none⟩ = some (.bool lo) := (H1.out.1.cell 4).trans rfl
  have c5 : (w.setCell ⟨mb, 6, none⟩ (.int .i64 0)).cell? ⟨mb, 5, none⟩ = some (.int .i64 nx) := (H1.out.1.cell 5).trans rfl
  have c7 : (w.setCell ⟨mb, 6, none⟩ (.int .i64 0)).cell? ⟨mb, 7, none⟩ = some (.bool true) := (H1.out.1.cell 7).trans rfl
  have c8 : (w.setCell ⟨mb, 6, none⟩ (.int .i64 0)).cell? ⟨mb, 8, none⟩ = some (.int .i64 co) := (H1.out.1.cell 8).trans rfl
  have z4 := H1.out.1.fz 4
  clear h hm hn H0
  go_enter Tryz.func156, Tryz.ntmps156
  go_wp2
  go_ret
  exact ⟨rfl, H1.out.1.h, ⟨bk, fr, wh, lo, nx, H1.out.1.m, fun e => absurd e (show ¬ 3 = 0 by decide), fun e => absurd e (show ¬ 3 = 1 by decide), fun e => absurd e (show ¬ 3 = 2 by decide)⟩, H1.out.2⟩
theorem rwl_st0_out (w : World) (R : RL) (cap : Nat) (qv : Value) (Q : List Nat) (S : AS) (X : XL) (hc : Nat) (x : XS) (mb : Nat) (bk fr : Int) (wh lo : Bool) (nx sl : Int) (src own pend : Int) (h : RC w R cap qv Q S X hc x) (hm : w.heap[mb]? = some (.cells (rwlA X.x src fr true false nx sl false 0) 237)) (hn : ¬ rcF R qv S X mb) (hb : inB x src = false) : Calls Tryz.prog 156 #[.pointer (some ⟨mb, 0, none⟩)] w (RstW w R cap qv Q X hc mb S (true, ⟨S, x⟩, failW ⟨0, src, own, 0, pend, false, 0⟩ 40)) := by
  have H0 : RM w R cap qv Q (S) X hc (x) mb (rwlA X.x src fr true false nx sl false 0) 237 := ⟨h, hm, hn⟩
  have a0 : w.cell? ⟨mb, 0, none⟩ = some (.pointer (some ⟨X.x, 0, none⟩)) := (H0.cell 0).trans rfl
  have a6 : w.cell? ⟨mb, 6, none⟩ = some (.int .i64 sl) := (H0.cell 6).trans rfl
  have z6 := H0.fz 6
  have H1 : Hid (RM (w.setCell ⟨mb, 6, none⟩ (.int .i64 0)) R cap qv Q (S) X hc (x) mb (rwlA X.x src fr true false nx 0 false 0) 237 ∧ Keeps (mrF R qv S X mb) w (w.setCell ⟨mb, 6, none⟩ (.int .i64 0))) := ⟨(H0.set 6 _).1, rM (H0.set 6 _).2⟩
  have c1 : (w.setCell ⟨mb, 6, none⟩ (.int .i64 0)).cell? ⟨mb, 1, none⟩ = some (.int .i64 src) := (H1.out.1.cell 1).trans rfl
  have c2 : (w.setCell ⟨mb, 6, none⟩ (.int .i64 0)).cell? ⟨mb, 2, none⟩ = some (.int .i64 fr) := (H1.out.1.cell 2).trans rfl
  have c3 : (w.setCell ⟨mb, 6, none⟩ (.int .i64 0)).cell? ⟨mb, 3, none⟩ = some (.bool true) := (H1.out.1.cell 3).trans rfl
  have c4 : (w.setCell ⟨mb, 6, none⟩ (.int .i64 0)).cell? ⟨mb, 4, none⟩ = some (.bool false) := (H1.out.1.cell 4).trans rfl
  have c5 : (w.setCell ⟨mb, 6, none⟩ (.int .i64 0)).cell? ⟨mb, 5, none⟩ = some (.int .i64 nx) := (H1.out.1.cell 5).trans rfl
  have c7 : (w.setCell ⟨mb, 6, none⟩ (.int .i64 0)).cell? ⟨mb, 7, none⟩ = some (.bool false) := (H1.out.1.cell 7).trans rfl
  have c8 : (w.setCell ⟨mb, 6, none⟩ (.int .i64 0)).cell? ⟨mb, 8, none⟩ = some (.int .i64 0) := (H1.out.1.cell 8).trans rfl
  have z4 := H1.out.1.fz 4
  clear h hm hn H0
  have HB := rx_has (w.setCell ⟨mb, 6, none⟩ (.int .i64 0)) R.b X hc x src H1.out.1.h.i
  rw [show inB x src = false from hb] at HB
  have HBB : Hid (∀ _ : Unit, _) := fun _ => HB
  clear HB
  clear hb
  go_enter Tryz.func156, Tryz.ntmps156
  go_wp2_with fail
  refine (HBB.out ()).mono ?_
  rintro e w1 ⟨rfl, hw1⟩
  rw [hw1]
  clear hw1 w1 HBB
  go_wp2_with fail
  refine (rwl_stop (w.setCell ⟨mb, 6, none⟩ (.int .i64 0)) mb X.x src fr true false nx 0 false 0 40 H1.out.1.m).mono ?_
  rintro e w9 ⟨rfl, hm9, k9⟩
  have H9 : Hid (RC w9 R cap qv Q (S) X hc (x) ∧ RwlH w9 mb X.x (failW ⟨0, src, own, 0, pend, false, 0⟩ 40) ∧ Keeps (mrF R qv S X mb) w w9) := ⟨(H1.out.1.own hm9 k9).h, ⟨_, _, _, _, _, hm9, fun e => absurd e (show ¬ 3 = 0 by decide), fun e => absurd e (show ¬ 3 = 1 by decide), fun e => absurd e (show ¬ 3 = 2 by decide)⟩, H1.out.2.trans (rM k9)⟩
  clear hm9 k9 H1 a0 a6 z6 c1 c2 c3 c4 c5 c7 c8 z4
  go_wp2
  go_ret
  exact ⟨rfl, H9.out⟩
theorem rwl_st0_in (w : World) (R : RL) (cap : Nat) (qv : Value) (Q : List Nat) (S : AS) (X : XL) (hc : Nat) (x : XS) (mb : Nat) (bk fr : Int) (wh lo : Bool) (nx sl : Int) (src own pend : Int) (h : RC w R cap qv Q S X hc x) (hm : w.heap[mb]? = some (.cells (rwlA X.x src fr true false nx sl false 0) 237)) (hn : ¬ rcF R qv S X mb) (hb : inB x src = true) (b : Nat) (hbb : src = (b : Int)) (hb1 : b < x.nb) (hnb : x.nb ≤ 256) (v : Int) (hv : x.hd b = v) (hk : LkOk v) : Calls Tryz.prog 156 #[.pointer (some ⟨mb, 0, none⟩)] w (RstW w R cap qv Q X hc mb S ((lookW ⟨0, src, 4097 + src, 0, pend, false, 0⟩ (v / 2)).1, ⟨S, x.cn1⟩, (lookW ⟨0, src, 4097 + src, 0, pend, false, 0⟩ (v / 2)).2)) := by
  have H0 : RM w R cap qv Q (S) X hc (x) mb (rwlA X.x src fr true false nx sl false 0) 237 := ⟨h, hm, hn⟩
  have a0 : w.cell? ⟨mb, 0, none⟩ = some (.pointer (some ⟨X.x, 0, none⟩)) := (H0.cell 0).trans rfl
  have a6 : w.cell? ⟨mb, 6, none⟩ = some (.int .i64 sl) := (H0.cell 6).trans rfl
  have z6 := H0.fz 6
  have H1 : Hid (RM (w.setCell ⟨mb, 6, none⟩ (.int .i64 0)) R cap qv Q (S) X hc (x) mb (rwlA X.x src fr true false nx 0 false 0) 237 ∧ Keeps (mrF R qv S X mb) w (w.setCell ⟨mb, 6, none⟩ (.int .i64 0))) := ⟨(H0.set 6 _).1, rM (H0.set 6 _).2⟩
  have c1 : (w.setCell ⟨mb, 6, none⟩ (.int .i64 0)).cell? ⟨mb, 1, none⟩ = some (.int .i64 src) := (H1.out.1.cell 1).trans rfl
  have c2 : (w.setCell ⟨mb, 6, none⟩ (.int .i64 0)).cell? ⟨mb, 2, none⟩ = some (.int .i64 fr) := (H1.out.1.cell 2).trans rfl
  have c3 : (w.setCell ⟨mb, 6, none⟩ (.int .i64 0)).cell? ⟨mb, 3, none⟩ = some (.bool true) := (H1.out.1.cell 3).trans rfl
  have c4 : (w.setCell ⟨mb, 6, none⟩ (.int .i64 0)).cell? ⟨mb, 4, none⟩ = some (.bool false) := (H1.out.1.cell 4).trans rfl
  have c5 : (w.setCell ⟨mb, 6, none⟩ (.int .i64 0)).cell? ⟨mb, 5, none⟩ = some (.int .i64 nx) := (H1.out.1.cell 5).trans rfl
  have c7 : (w.setCell ⟨mb, 6, none⟩ (.int .i64 0)).cell? ⟨mb, 7, none⟩ = some (.bool false) := (H1.out.1.cell 7).trans rfl
  have c8 : (w.setCell ⟨mb, 6, none⟩ (.int .i64 0)).cell? ⟨mb, 8, none⟩ = some (.int .i64 0) := (H1.out.1.cell 8).trans rfl
  have z4 := H1.out.1.fz 4
  clear h hm hn H0
  have HB := rx_has (w.setCell ⟨mb, 6, none⟩ (.int .i64 0)) R.b X hc x src H1.out.1.h.i
  rw [show inB x src = true from hb] at HB
  have HBB : Hid (∀ _ : Unit, _) := fun _ => HB
  clear HB
  subst hbb
  clear hb
  obtain ⟨n, hnn⟩ : ∃ n, v / 2 = n := ⟨_, rfl⟩
  rw [hnn]
  have HNU : Hid (∀ W, Calls Tryz.prog 198 #[.int .u64 v] W fun e w' => e = .returned (.int .i64 n) ∧ w' = W) := fun W => by rw [← hnn]; exact rnumber_any v W hk
  have HMA : Hid (∀ W, Calls Tryz.prog 199 #[.int .u64 v] W fun e w' => e = .returned (.bool (v % 2 == 1)) ∧ w' = W) := fun W => rmarked_any v W hk
  clear hnn hk
  obtain ⟨q, hq⟩ : ∃ q, lookW ⟨0, (b : Int), 4097 + (b : Int), 0, pend, false, 0⟩ n = q := ⟨_, rfl⟩
  have HLK : Hid (∀ W, W.heap[mb]? = some (.cells (rwlA X.x (b : Int) fr true true nx 0 false 0) 237) → Calls Tryz.prog 197 #[.pointer (some ⟨mb, 0, none⟩), .int .i64 n] W fun e w' => e = .returned (.bool q.1) ∧ RwlH w' mb X.x q.2 ∧ Keeps (fun g => g = mb) W w') := fun W hW => by
    rw [← hq]
    exact rwl_ahead W mb X.x (b : Int) fr true nx n 0 (b : Int) (4097 + (b : Int)) 0 pend hW (.inl ⟨rfl, rfl, by omega, by omega⟩)
  rw [hq]
  clear hq
  have H2 : Hid (RM ((w.setCell ⟨mb, 6, none⟩ (.int .i64 0)).setCell ⟨mb, 4, none⟩ (.bool true)) R cap qv Q (S) X hc (x) mb (rwlA X.x (b : Int) fr true true nx 0 false 0) 237 ∧ Keeps (mrF R qv S X mb) w ((w.setCell ⟨mb, 6, none⟩ (.int .i64 0)).setCell ⟨mb, 4, none⟩ (.bool true))) := ⟨(H1.out.1.set 4 _).1, H1.out.2.trans (rM (H1.out.1.set 4 _).2)⟩
  have d1 : ((w.setCell ⟨mb, 6, none⟩ (.int .i64 0)).setCell ⟨mb, 4, none⟩ (.bool true)).cell? ⟨mb, 1, none⟩ = some (.int .i64 (b : Int)) := (H2.out.1.cell 1).trans rfl
  have HX := rx_loaded ((w.setCell ⟨mb, 6, none⟩ (.int .i64 0)).setCell ⟨mb, 4, none⟩ (.bool true)) R.b X hc x b hb1 H2.out.1.h.i
  rw [hv] at HX
  have HXX : Hid (∀ _ : Unit, _) := fun _ => HX
  clear HX hv H1
  go_enter Tryz.func156, Tryz.ntmps156
  go_wp2_with fail
  refine (HBB.out ()).mono ?_
  rintro e w1 ⟨rfl, hw1⟩
  rw [hw1]
  clear hw1 w1 HBB
  go_wp2_with fail
  refine (HXX.out ()).mono ?_
  rintro e w3 ⟨rfl, hx, k3⟩
  have H3 : Hid (RM w3 R cap qv Q (S) X hc (x.cn1) mb (rwlA X.x (b : Int) fr true true nx 0 false 0) 237 ∧ Keeps (mrF R qv S X mb) w w3) := ⟨H2.out.1.callX hx k3 rfl, H2.out.2.trans (rX k3)⟩
  clear hx k3 H2 HXX a0 a6 z6 c1 c2 c3 c4 c5 c7 c8 z4 d1 HMA
  go_wp2_with fail
  refine (HNU.out _).mono ?_
  rintro e w5 ⟨rfl, hw5⟩
  rw [hw5]
  clear hw5 w5 HNU
  go_wp2_with fail
  refine (HLK.out _ H3.out.1.m).mono ?_
  rintro e w9 ⟨rfl, hm9, k9⟩
  have H9 : Hid (RC w9 R cap qv Q (S) X hc (x.cn1) ∧ RwlH w9 mb X.x q.2 ∧ Keeps (mrF R qv S X mb) w w9) := ⟨H3.out.1.kept k9, hm9, H3.out.2.trans (rM k9)⟩
  clear hm9 k9 H3 HLK
  go_wp2
  go_ret
  exact ⟨rfl, H9.out⟩
theorem rwl_st1_dead (w : World) (R : RL) (cap : Nat) (qv : Value) (Q : List Nat) (S : AS) (X : XL) (hc : Nat) (x : XS) (mb : Nat) (bk fr : Int) (wh lo : Bool) (nx sl : Int) (src own pend : Int) (h : RC w R cap qv Q S X hc x) (hm : w.heap[mb]? = some (.cells (rwlA X.x bk src false false nx sl false 0) 237)) (hn : ¬ rcF R qv S X mb) (hl : liv S src = false) : Calls Tryz.prog 156 #[.pointer (some ⟨mb, 0, none⟩)] w (RstW w R cap qv Q X hc mb S (true, ⟨mis1 S, x⟩, failW ⟨1, src, own, 0, pend, false, 0⟩ 22)) := by
  have H0 : RM w R cap qv Q (S) X hc (x) mb (rwlA X.x bk src false false nx sl false 0) 237 := ⟨h, hm, hn⟩
  have a0 : w.cell? ⟨mb, 0, none⟩ = some (.pointer (some ⟨X.x, 0, none⟩)) := (H0.cell 0).trans rfl
  have a6 : w.cell? ⟨mb, 6, none⟩ = some (.int .i64 sl) := (H0.cell 6).trans rfl
  have z6 := H0.fz 6
  have H1 : Hid (RM (w.setCell ⟨mb, 6, none⟩ (.int .i64 0)) R cap qv Q (S) X hc (x) mb (rwlA X.x bk src false false nx 0 false 0) 237 ∧ Keeps (mrF R qv S X mb) w (w.setCell ⟨mb, 6, none⟩ (.int .i64 0))) := ⟨(H0.set 6 _).1, rM (H0.set 6 _).2⟩
  have c1 : (w.setCell ⟨mb, 6, none⟩ (.int .i64 0)).cell? ⟨mb, 1, none⟩ = some (.int .i64 bk) := (H1.out.1.cell 1).trans rfl
  have c2 : (w.setCell ⟨mb, 6, none⟩ (.int .i64 0)).cell? ⟨mb, 2, none⟩ = some (.int .i64 src) := (H1.out.1.cell 2).trans rfl
  have c3 : (w.setCell ⟨mb, 6, none⟩ (.int .i64 0)).cell? ⟨mb, 3, none⟩ = some (.bool false) := (H1.out.1.cell 3).trans rfl
  have c4 : (w.setCell ⟨mb, 6, none⟩ (.int .i64 0)).cell? ⟨mb, 4, none⟩ = some (.bool false) := (H1.out.1.cell 4).trans rfl
  have c5 : (w.setCell ⟨mb, 6, none⟩ (.int .i64 0)).cell? ⟨mb, 5, none⟩ = some (.int .i64 nx) := (H1.out.1.cell 5).trans rfl
  have c7 : (w.setCell ⟨mb, 6, none⟩ (.int .i64 0)).cell? ⟨mb, 7, none⟩ = some (.bool false) := (H1.out.1.cell 7).trans rfl
  have c8 : (w.setCell ⟨mb, 6, none⟩ (.int .i64 0)).cell? ⟨mb, 8, none⟩ = some (.int .i64 0) := (H1.out.1.cell 8).trans rfl
  have z4 := H1.out.1.fz 4
  clear h hm hn H0
  have HC : Hid (∀ W, RC W R cap qv Q S X hc x → Calls Tryz.prog 192 #[.pointer (some ⟨R.b, 0, none⟩), .int .i64 src, .int .i64 (x.cell : Int)] W fun e w' => e = .returned (.tuple #[.int .u64 0, .int .i64 22]) ∧ RAr w' R cap qv Q (mis1 S) ∧ Keeps (raF R qv S) W w') := fun W hW => ra_load_no W R cap qv Q S src (x.cell : Int) hW.a hl
  clear hl
  have HD : Hid (RM (w.setCell ⟨mb, 6, none⟩ (.int .i64 0)).drew R cap qv Q (S) X hc (x) mb (rwlA X.x bk src false false nx 0 false 0) 237 ∧ Keeps (mrF R qv S X mb) w (w.setCell ⟨mb, 6, none⟩ (.int .i64 0)).drew) := ⟨⟨H1.out.1.h.keeps (D := fun _ => False) (Keeps.refl _ _).drew (fun _ _ e => e), H1.out.1.m, H1.out.1.n⟩, H1.out.2.drew⟩
  have sx : (w.setCell ⟨mb, 6, none⟩ (.int .i64 0)).drew.cell? ⟨X.x, 0, none⟩ = some (.pointer (some ⟨R.b, 0, none⟩)) ∧ (w.setCell ⟨mb, 6, none⟩ (.int .i64 0)).drew.cell? ⟨X.x, 1, none⟩ = some (.int .i64 (x.cell : Int)) := ⟨HD.out.1.h.i.c0, HD.out.1.h.i.c1⟩
  go_enter Tryz.func156, Tryz.ntmps156
  go_wp2_with fail
  clear a0 a6 z6 c1 c2 c3 c4 c5 c7 c8 z4 H1
  (refine wp_region_held_drew (S := (fun Z => Z.cell? ⟨X.x, 0, none⟩ = some (.pointer (some ⟨R.b, 0, none⟩)) ∧ Z.cell? ⟨X.x, 1, none⟩ = some (.int .i64 (x.cell : Int)))) (by kernel_rfl) sx (fun hHeld => ?_); simp only [List.size_toArray, List.length_cons, List.length_nil, Nat.reduceAdd, Array.replicate_succ, Array.replicate_zero, List.push_toArray, List.append_toArray, List.nil_append, List.cons_append])
  clear sx
  refine rgT 0 (h := ?_)
  refine rgT 1 (h := ?_)
  refine rgT 2 (h := ?_)
  refine rgT 3 (h := ?_)
  refine rgT 4 (h := ?_)
  refine rgT 5 (h := ?_)
  refine rgT 6 (h := ?_)
  refine rgT 7 (h := ?_)
  refine rgT 8 (h := ?_)
  (refine rgS 9 (h := fun K hK => ?_); go_simp)
  refine (HC.out _ HD.out.1.h).mono ?_
  rintro e w2 ⟨rfl, ha2, k2⟩
  have H2 : Hid (RM w2 R cap qv Q (mis1 S) X hc (x) mb (rwlA X.x bk src false false nx 0 false 0) 237 ∧ Keeps (mrF R qv S X mb) w w2) := ⟨HD.out.1.callA ha2 k2 rfl (fun g e => e), HD.out.2.trans (rA k2)⟩
  clear ha2 k2 HD HC
  (refine hK.out _ _ ⟨H2.out.1.h.i.c0, H2.out.1.h.i.c1⟩ (fun hHeld => ?_); clear hK K; try simp only [Act.put, List.setIfInBounds_toArray, List.set_cons_zero, List.set_cons_succ])
  refine rgT 10 (h := ?_)
  refine rgT 11 (h := ?_)
  refine rgT 12 (h := ?_)
  refine rgT 13 (h := ?_)
  refine rgT 14 (h := ?_)
  refine wpAnyH_done (by kernel_rfl) ?_ _
  clear hHeld
  clear hHeld
  go_wp2_with fail
  refine (rwl_stop w2 mb X.x bk src false false nx 0 false 0 22 H2.out.1.m).mono ?_
  rintro e w9 ⟨rfl, hm9, k9⟩
  have H9 : Hid (RC w9 R cap qv Q (mis1 S) X hc (x) ∧ RwlH w9 mb X.x (failW ⟨1, src, own, 0, pend, false, 0⟩ 22) ∧ Keeps (mrF R qv S X mb) w w9) := ⟨(H2.out.1.own hm9 k9).h, ⟨_, _, _, _, _, hm9, fun e => absurd e (show ¬ 3 = 0 by decide), fun e => absurd e (show ¬ 3 = 1 by decide), fun e => absurd e (show ¬ 3 = 2 by decide)⟩, H2.out.2.trans (rM k9)⟩
  clear hm9 k9 H2
  go_wp2
  go_ret
  exact ⟨rfl, H9.out⟩
theorem rwl_st1_go (w : World) (R : RL) (cap : Nat) (qv : Value) (Q : List Nat) (S : AS) (X : XL) (hc : Nat) (x : XS) (mb : Nat) (bk fr : Int) (wh lo : Bool) (nx sl : Int) (src own pend : Int) (h : RC w R cap qv Q S X hc x) (hm : w.heap[mb]? = some (.cells (rwlA X.x bk src false false nx sl false 0) 237)) (hn : ¬ rcF R qv S X mb) (ho : (false = true ∧ own = 4097 + bk ∧ 0 ≤ bk ∧ bk ≤ 1000) ∨ (false = false ∧ own = 0)) (hl : liv S src = true) (v : Int) (hv : S.word (atC S src x.cell) = v) (hk : LkOk v) : Calls Tryz.prog 156 #[.pointer (some ⟨mb, 0, none⟩)] w (RstW w R cap qv Q X hc mb S ((lookW ⟨1, src, own, 0, pend, false, 0⟩ (v / 2)).1, ⟨acc1 S, x⟩, (lookW ⟨1, src, own, 0, pend, false, 0⟩ (v / 2)).2)) := by
  have H0 : RM w R cap qv Q (S) X hc (x) mb (rwlA X.x bk src false false nx sl false 0) 237 := ⟨h, hm, hn⟩
  have a0 : w.cell? ⟨mb, 0, none⟩ = some (.pointer (some ⟨X.x, 0, none⟩)) := (H0.cell 0).trans rfl
  have a6 : w.cell? ⟨mb, 6, none⟩ = some (.int .i64 sl) := (H0.cell 6).trans rfl
  have z6 := H0.fz 6
  have H1 : Hid (RM (w.setCell ⟨mb, 6, none⟩ (.int .i64 0)) R cap qv Q (S) X hc (x) mb (rwlA X.x bk src false false nx 0 false 0) 237 ∧ Keeps (mrF R qv S X mb) w (w.setCell ⟨mb, 6, none⟩ (.int .i64 0))) := ⟨(H0.set 6 _).1, rM (H0.set 6 _).2⟩
  have c1 : (w.setCell ⟨mb, 6, none⟩ (.int .i64 0)).cell? ⟨mb, 1, none⟩ = some (.int .i64 bk) := (H1.out.1.cell 1).trans rfl
  have c2 : (w.setCell ⟨mb, 6, none⟩ (.int .i64 0)).cell? ⟨mb, 2, none⟩ = some (.int .i64 src) := (H1.out.1.cell 2).trans rfl
  have c3 : (w.setCell ⟨mb, 6, none⟩ (.int .i64 0)).cell? ⟨mb, 3, none⟩ = some (.bool false) := (H1.out.1.cell 3).trans rfl
  have c4 : (w.setCell ⟨mb, 6, none⟩ (.int .i64 0)).cell? ⟨mb, 4, none⟩ = some (.bool false) := (H1.out.1.cell 4).trans rfl
  have c5 : (w.setCell ⟨mb, 6, none⟩ (.int .i64 0)).cell? ⟨mb, 5, none⟩ = some (.int .i64 nx) := (H1.out.1.cell 5).trans rfl
  have c7 : (w.setCell ⟨mb, 6, none⟩ (.int .i64 0)).cell? ⟨mb, 7, none⟩ = some (.bool false) := (H1.out.1.cell 7).trans rfl
  have c8 : (w.setCell ⟨mb, 6, none⟩ (.int .i64 0)).cell? ⟨mb, 8, none⟩ = some (.int .i64 0) := (H1.out.1.cell 8).trans rfl
  have z4 := H1.out.1.fz 4
  clear h hm hn H0
  have HC : Hid (∀ W, RC W R cap qv Q S X hc x → Calls Tryz.prog 192 #[.pointer (some ⟨R.b, 0, none⟩), .int .i64 src, .int .i64 (x.cell : Int)] W fun e w' => e = .returned (.tuple #[.int .u64 v, .int .i64 0]) ∧ RAr w' R cap qv Q (acc1 S) ∧ Keeps (raF R qv S) W w') := fun W hW => ra_load W R cap qv Q S src x.cell hW.a hl hW.c v hv
  clear hl hv
  obtain ⟨n, hnn⟩ : ∃ n, v / 2 = n := ⟨_, rfl⟩
  rw [hnn]
  have HNU : Hid (∀ W, Calls Tryz.prog 198 #[.int .u64 v] W fun e w' => e = .returned (.int .i64 n) ∧ w' = W) := fun W => by rw [← hnn]; exact rnumber_any v W hk
  have HMA : Hid (∀ W, Calls Tryz.prog 199 #[.int .u64 v] W fun e w' => e = .returned (.bool (v % 2 == 1)) ∧ w' = W) := fun W => rmarked_any v W hk
  clear hnn hk
  obtain ⟨q, hq⟩ : ∃ q, lookW ⟨1, src, own, 0, pend, false, 0⟩ n = q := ⟨_, rfl⟩
  have HLK : Hid (∀ W, W.heap[mb]? = some (.cells (rwlA X.x bk src false true nx 0 false 0) 237) → Calls Tryz.prog 197 #[.pointer (some ⟨mb, 0, none⟩), .int .i64 n] W fun e w' => e = .returned (.bool q.1) ∧ RwlH w' mb X.x q.2 ∧ Keeps (fun g => g = mb) W w') := fun W hW => by
    rw [← hq]
    exact rwl_ahead W mb X.x bk src false nx n 1 src own 0 pend hW ho
  rw [hq]
  clear hq
  have HD : Hid (RM (w.setCell ⟨mb, 6, none⟩ (.int .i64 0)).drew R cap qv Q (S) X hc (x) mb (rwlA X.x bk src false false nx 0 false 0) 237 ∧ Keeps (mrF R qv S X mb) w (w.setCell ⟨mb, 6, none⟩ (.int .i64 0)).drew) := ⟨⟨H1.out.1.h.keeps (D := fun _ => False) (Keeps.refl _ _).drew (fun _ _ e => e), H1.out.1.m, H1.out.1.n⟩, H1.out.2.drew⟩
  have sx : (w.setCell ⟨mb, 6, none⟩ (.int .i64 0)).drew.cell? ⟨X.x, 0, none⟩ = some (.pointer (some ⟨R.b, 0, none⟩)) ∧ (w.setCell ⟨mb, 6, none⟩ (.int .i64 0)).drew.cell? ⟨X.x, 1, none⟩ = some (.int .i64 (x.cell : Int)) := ⟨HD.out.1.h.i.c0, HD.out.1.h.i.c1⟩
  go_enter Tryz.func156, Tryz.ntmps156
  go_wp2_with fail
  clear a0 a6 z6 c1 c2 c3 c4 c5 c7 c8 z4 H1
  (refine wp_region_held_drew (S := (fun Z => Z.cell? ⟨X.x, 0, none⟩ = some (.pointer (some ⟨R.b, 0, none⟩)) ∧ Z.cell? ⟨X.x, 1, none⟩ = some (.int .i64 (x.cell : Int)))) (by kernel_rfl) sx (fun hHeld => ?_); simp only [List.size_toArray, List.length_cons, List.length_nil, Nat.reduceAdd, Array.replicate_succ, Array.replicate_zero, List.push_toArray, List.append_toArray, List.nil_append, List.cons_append])
  clear sx
  refine rgT 0 (h := ?_)
  refine rgT 1 (h := ?_)
  refine rgT 2 (h := ?_)
  refine rgT 3 (h := ?_)
  refine rgT 4 (h := ?_)
  refine rgT 5 (h := ?_)
  refine rgT 6 (h := ?_)
  refine rgT 7 (h := ?_)
  refine rgT 8 (h := ?_)
  (refine rgS 9 (h := fun K hK => ?_); go_simp)
  refine (HC.out _ HD.out.1.h).mono ?_
  rintro e w2 ⟨rfl, ha2, k2⟩
  have H2 : Hid (RM w2 R cap qv Q (acc1 S) X hc (x) mb (rwlA X.x bk src false false nx 0 false 0) 237 ∧ Keeps (mrF R qv S X mb) w w2) := ⟨HD.out.1.callA ha2 k2 rfl (fun g e => e), HD.out.2.trans (rA k2)⟩
  clear ha2 k2 HD HC
  (refine hK.out _ _ ⟨H2.out.1.h.i.c0, H2.out.1.h.i.c1⟩ (fun hHeld => ?_); clear hK K; try simp only [Act.put, List.setIfInBounds_toArray, List.set_cons_zero, List.set_cons_succ])
  refine rgT 10 (h := ?_)
  refine rgT 11 (h := ?_)
  refine rgT 12 (h := ?_)
  refine rgT 13 (h := ?_)
  refine rgT 14 (h := ?_)
  refine wpAnyH_done (by kernel_rfl) ?_ _
  clear hHeld
  clear hHeld
  have d4 : w2.cell? ⟨mb, 4, none⟩ = some (.bool false) := (H2.out.1.cell 4).trans rfl
  have g4 := H2.out.1.fz 4
  have d6 : w2.cell? ⟨mb, 6, none⟩ = some (.int .i64 0) := (H2.out.1.cell 6).trans rfl
  have g6 := H2.out.1.fz 6
  have H3 : Hid (RM (w2.setCell ⟨mb, 4, none⟩ (.bool true)) R cap qv Q (acc1 S) X hc (x) mb (rwlA X.x bk src false true nx 0 false 0) 237 ∧ Keeps (mrF R qv S X mb) w (w2.setCell ⟨mb, 4, none⟩ (.bool true))) := ⟨(H2.out.1.set 4 _).1, (H2.out.2.trans (rM (H2.out.1.set 4 _).2))⟩
  clear H2
  go_wp2_with fail
  clear HMA
  refine (HNU.out _).mono ?_
  rintro e w5 ⟨rfl, hw5⟩
  rw [hw5]
  clear hw5 w5 HNU
  go_wp2_with fail
  refine (HLK.out _ H3.out.1.m).mono ?_
  rintro e w9 ⟨rfl, hm9, k9⟩
  have H9 : Hid (RC w9 R cap qv Q (acc1 S) X hc (x) ∧ RwlH w9 mb X.x q.2 ∧ Keeps (mrF R qv S X mb) w w9) := ⟨H3.out.1.kept k9, hm9, H3.out.2.trans (rM k9)⟩
  clear hm9 k9 H3 HLK d4 g4 d6 g6
  go_wp2
  go_ret
  exact ⟨rfl, H9.out⟩
theorem rwl_st2t_dead (w : World) (R : RL) (cap : Nat) (qv : Value) (Q : List Nat) (S : AS) (X : XL) (hc : Nat) (x : XS) (mb : Nat) (bk fr : Int) (wh lo : Bool) (nx sl : Int) (src own pend : Int) (h : RC w R cap qv Q S X hc x) (hm : w.heap[mb]? = some (.cells (rwlA X.x bk fr true true pend sl false 0) 237)) (hn : ¬ rcF R qv S X mb) (hl : liv S pend = false) (sl0 : Int) : Calls Tryz.prog 156 #[.pointer (some ⟨mb, 0, none⟩)] w (RstW w R cap qv Q X hc mb S (true, ⟨mis1 S, x⟩, failW ⟨2, src, own, sl0, pend, false, 0⟩ 22)) := by
  have H0 : RM w R cap qv Q (S) X hc (x) mb (rwlA X.x bk fr true true pend sl false 0) 237 := ⟨h, hm, hn⟩
  have a0 : w.cell? ⟨mb, 0, none⟩ = some (.pointer (some ⟨X.x, 0, none⟩)) := (H0.cell 0).trans rfl
  have a6 : w.cell? ⟨mb, 6, none⟩ = some (.int .i64 sl) := (H0.cell 6).trans rfl
  have z6 := H0.fz 6
  have H1 : Hid (RM (w.setCell ⟨mb, 6, none⟩ (.int .i64 0)) R cap qv Q (S) X hc (x) mb (rwlA X.x bk fr true true pend 0 false 0) 237 ∧ Keeps (mrF R qv S X mb) w (w.setCell ⟨mb, 6, none⟩ (.int .i64 0))) := ⟨(H0.set 6 _).1, rM (H0.set 6 _).2⟩
  have c1 : (w.setCell ⟨mb, 6, none⟩ (.int .i64 0)).cell? ⟨mb, 1, none⟩ = some (.int .i64 bk) := (H1.out.1.cell 1).trans rfl
  have c2 : (w.setCell ⟨mb, 6, none⟩ (.int .i64 0)).cell? ⟨mb, 2, none⟩ = some (.int .i64 fr) := (H1.out.1.cell 2).trans rfl
  have c3 : (w.setCell ⟨mb, 6, none⟩ (.int .i64 0)).cell? ⟨mb, 3, none⟩ = some (.bool true) := (H1.out.1.cell 3).trans rfl
  have c4 : (w.setCell ⟨mb, 6, none⟩ (.int .i64 0)).cell? ⟨mb, 4, none⟩ = some (.bool true) := (H1.out.1.cell 4).trans rfl
  have c5 : (w.setCell ⟨mb, 6, none⟩ (.int .i64 0)).cell? ⟨mb, 5, none⟩ = some (.int .i64 pend) := (H1.out.1.cell 5).trans rfl
  have c7 : (w.setCell ⟨mb, 6, none⟩ (.int .i64 0)).cell? ⟨mb, 7, none⟩ = some (.bool false) := (H1.out.1.cell 7).trans rfl
  have c8 : (w.setCell ⟨mb, 6, none⟩ (.int .i64 0)).cell? ⟨mb, 8, none⟩ = some (.int .i64 0) := (H1.out.1.cell 8).trans rfl
  have z4 := H1.out.1.fz 4
  clear h hm hn H0
  have HC : Hid (∀ W, RC W R cap qv Q S X hc x → Calls Tryz.prog 192 #[.pointer (some ⟨R.b, 0, none⟩), .int .i64 pend, .int .i64 (x.cell : Int)] W fun e w' => e = .returned (.tuple #[.int .u64 0, .int .i64 22]) ∧ RAr w' R cap qv Q (mis1 S) ∧ Keeps (raF R qv S) W w') := fun W hW => ra_load_no W R cap qv Q S pend (x.cell : Int) hW.a hl
  clear hl
  have HD : Hid (RM (w.setCell ⟨mb, 6, none⟩ (.int .i64 0)).drew R cap qv Q (S) X hc (x) mb (rwlA X.x bk fr true true pend 0 false 0) 237 ∧ Keeps (mrF R qv S X mb) w (w.setCell ⟨mb, 6, none⟩ (.int .i64 0)).drew) := ⟨⟨H1.out.1.h.keeps (D := fun _ => False) (Keeps.refl _ _).drew (fun _ _ e => e), H1.out.1.m, H1.out.1.n⟩, H1.out.2.drew⟩
  have sx : (w.setCell ⟨mb, 6, none⟩ (.int .i64 0)).drew.cell? ⟨X.x, 0, none⟩ = some (.pointer (some ⟨R.b, 0, none⟩)) ∧ (w.setCell ⟨mb, 6, none⟩ (.int .i64 0)).drew.cell? ⟨X.x, 1, none⟩ = some (.int .i64 (x.cell : Int)) := ⟨HD.out.1.h.i.c0, HD.out.1.h.i.c1⟩
  go_enter Tryz.func156, Tryz.ntmps156
  go_wp2_with fail
  clear a0 a6 z6 c1 c2 c3 c4 c5 c7 c8 z4 H1
  (refine wp_region_held_drew (S := (fun Z => Z.cell? ⟨X.x, 0, none⟩ = some (.pointer (some ⟨R.b, 0, none⟩)) ∧ Z.cell? ⟨X.x, 1, none⟩ = some (.int .i64 (x.cell : Int)))) (by kernel_rfl) sx (fun hHeld => ?_); simp only [List.size_toArray, List.length_cons, List.length_nil, Nat.reduceAdd, Array.replicate_succ, Array.replicate_zero, List.push_toArray, List.append_toArray, List.nil_append, List.cons_append])
  clear sx
  refine rgT 0 (h := ?_)
  refine rgT 1 (h := ?_)
  refine rgT 2 (h := ?_)
  refine rgT 3 (h := ?_)
  refine rgT 4 (h := ?_)
  refine rgT 5 (h := ?_)
  refine rgT 6 (h := ?_)
  refine rgT 7 (h := ?_)
  refine rgT 8 (h := ?_)
  (refine rgS 9 (h := fun K hK => ?_); go_simp)
  refine (HC.out _ HD.out.1.h).mono ?_
  rintro e w2 ⟨rfl, ha2, k2⟩
  have H2 : Hid (RM w2 R cap qv Q (mis1 S) X hc (x) mb (rwlA X.x bk fr true true pend 0 false 0) 237 ∧ Keeps (mrF R qv S X mb) w w2) := ⟨HD.out.1.callA ha2 k2 rfl (fun g e => e), HD.out.2.trans (rA k2)⟩
  clear ha2 k2 HD HC
  (refine hK.out _ _ ⟨H2.out.1.h.i.c0, H2.out.1.h.i.c1⟩ (fun hHeld => ?_); clear hK K; try simp only [Act.put, List.setIfInBounds_toArray, List.set_cons_zero, List.set_cons_succ])
  refine rgT 10 (h := ?_)
  refine rgT 11 (h := ?_)
  refine rgT 12 (h := ?_)
  refine rgT 13 (h := ?_)
  refine rgT 14 (h := ?_)
  refine wpAnyH_done (by kernel_rfl) ?_ _
  clear hHeld
  clear hHeld
  go_wp2_with fail
  refine (rwl_stop w2 mb X.x bk fr true true pend 0 false 0 22 H2.out.1.m).mono ?_
  rintro e w9 ⟨rfl, hm9, k9⟩
  have H9 : Hid (RC w9 R cap qv Q (mis1 S) X hc (x) ∧ RwlH w9 mb X.x (failW ⟨2, src, own, sl0, pend, false, 0⟩ 22) ∧ Keeps (mrF R qv S X mb) w w9) := ⟨(H2.out.1.own hm9 k9).h, ⟨_, _, _, _, _, hm9, fun e => absurd e (show ¬ 3 = 0 by decide), fun e => absurd e (show ¬ 3 = 1 by decide), fun e => absurd e (show ¬ 3 = 2 by decide)⟩, H2.out.2.trans (rM k9)⟩
  clear hm9 k9 H2
  go_wp2
  go_ret
  exact ⟨rfl, H9.out⟩
theorem rwl_st2t_mark (w : World) (R : RL) (cap : Nat) (qv : Value) (Q : List Nat) (S : AS) (X : XL) (hc : Nat) (x : XS) (mb : Nat) (bk fr : Int) (wh lo : Bool) (nx sl : Int) (src own pend : Int) (h : RC w R cap qv Q S X hc x) (hm : w.heap[mb]? = some (.cells (rwlA X.x bk fr true true pend sl false 0) 237)) (hn : ¬ rcF R qv S X mb) (ho : (true = true ∧ own = 4097 + bk ∧ 0 ≤ bk ∧ bk ≤ 1000) ∨ (true = false ∧ own = 0)) (hl : liv S pend = true) (v : Int) (hv : S.word (atC S pend x.cell) = v) (hk : LkOk v) (hmk : (v % 2 == 1) = true) : Calls Tryz.prog 156 #[.pointer (some ⟨mb, 0, none⟩)] w (RstW w R cap qv Q X hc mb S ((lookW ⟨2, src, own, 0, pend, false, 0⟩ (v / 2)).1, ⟨acc1 S, x⟩, (lookW ⟨2, src, own, 0, pend, false, 0⟩ (v / 2)).2)) := by
  have H0 : RM w R cap qv Q (S) X hc (x) mb (rwlA X.x bk fr true true pend sl false 0) 237 := ⟨h, hm, hn⟩
  have a0 : w.cell? ⟨mb, 0, none⟩ = some (.pointer (some ⟨X.x, 0, none⟩)) := (H0.cell 0).trans rfl
  have a6 : w.cell? ⟨mb, 6, none⟩ = some (.int .i64 sl) := (H0.cell 6).trans rfl
  have z6 := H0.fz 6
  have H1 : Hid (RM (w.setCell ⟨mb, 6, none⟩ (.int .i64 0)) R cap qv Q (S) X hc (x) mb (rwlA X.x bk fr true true pend 0 false 0) 237 ∧ Keeps (mrF R qv S X mb) w (w.setCell ⟨mb, 6, none⟩ (.int .i64 0))) := ⟨(H0.set 6 _).1, rM (H0.set 6 _).2⟩
  have c1 : (w.setCell ⟨mb, 6, none⟩ (.int .i64 0)).cell? ⟨mb, 1, none⟩ = some (.int .i64 bk) := (H1.out.1.cell 1).trans rfl
  have c2 : (w.setCell ⟨mb, 6, none⟩ (.int .i64 0)).cell? ⟨mb, 2, none⟩ = some (.int .i64 fr) := (H1.out.1.cell 2).trans rfl
  have c3 : (w.setCell ⟨mb, 6, none⟩ (.int .i64 0)).cell? ⟨mb, 3, none⟩ = some (.bool true) := (H1.out.1.cell 3).trans rfl
  have c4 : (w.setCell ⟨mb, 6, none⟩ (.int .i64 0)).cell? ⟨mb, 4, none⟩ = some (.bool true) := (H1.out.1.cell 4).trans rfl
  have c5 : (w.setCell ⟨mb, 6, none⟩ (.int .i64 0)).cell? ⟨mb, 5, none⟩ = some (.int .i64 pend) := (H1.out.1.cell 5).trans rfl
  have c7 : (w.setCell ⟨mb, 6, none⟩ (.int .i64 0)).cell? ⟨mb, 7, none⟩ = some (.bool false) := (H1.out.1.cell 7).trans rfl
  have c8 : (w.setCell ⟨mb, 6, none⟩ (.int .i64 0)).cell? ⟨mb, 8, none⟩ = some (.int .i64 0) := (H1.out.1.cell 8).trans rfl
  have z4 := H1.out.1.fz 4
  clear h hm hn H0
  have HC : Hid (∀ W, RC W R cap qv Q S X hc x → Calls Tryz.prog 192 #[.pointer (some ⟨R.b, 0, none⟩), .int .i64 pend, .int .i64 (x.cell : Int)] W fun e w' => e = .returned (.tuple #[.int .u64 v, .int .i64 0]) ∧ RAr w' R cap qv Q (acc1 S) ∧ Keeps (raF R qv S) W w') := fun W hW => ra_load W R cap qv Q S pend x.cell hW.a hl hW.c v hv
  clear hl hv
  obtain ⟨n, hnn⟩ : ∃ n, v / 2 = n := ⟨_, rfl⟩
  rw [hnn]
  have HNU : Hid (∀ W, Calls Tryz.prog 198 #[.int .u64 v] W fun e w' => e = .returned (.int .i64 n) ∧ w' = W) := fun W => by rw [← hnn]; exact rnumber_any v W hk
  have HMA : Hid (∀ W, Calls Tryz.prog 199 #[.int .u64 v] W fun e w' => e = .returned (.bool true) ∧ w' = W) := fun W => by rw [← hmk]; exact rmarked_any v W hk
  clear hnn hk hmk
  obtain ⟨q, hq⟩ : ∃ q, lookW ⟨2, src, own, 0, pend, false, 0⟩ n = q := ⟨_, rfl⟩
  have HLK : Hid (∀ W, W.heap[mb]? = some (.cells (rwlA X.x bk fr true true pend 0 false 0) 237) → Calls Tryz.prog 197 #[.pointer (some ⟨mb, 0, none⟩), .int .i64 n] W fun e w' => e = .returned (.bool q.1) ∧ RwlH w' mb X.x q.2 ∧ Keeps (fun g => g = mb) W w') := fun W hW => by
    rw [← hq]
    exact rwl_ahead W mb X.x bk fr true pend n 2 src own 0 pend hW ho
  rw [hq]
  clear hq
  have HD : Hid (RM (w.setCell ⟨mb, 6, none⟩ (.int .i64 0)).drew R cap qv Q (S) X hc (x) mb (rwlA X.x bk fr true true pend 0 false 0) 237 ∧ Keeps (mrF R qv S X mb) w (w.setCell ⟨mb, 6, none⟩ (.int .i64 0)).drew) := ⟨⟨H1.out.1.h.keeps (D := fun _ => False) (Keeps.refl _ _).drew (fun _ _ e => e), H1.out.1.m, H1.out.1.n⟩, H1.out.2.drew⟩
  have sx : (w.setCell ⟨mb, 6, none⟩ (.int .i64 0)).drew.cell? ⟨X.x, 0, none⟩ = some (.pointer (some ⟨R.b, 0, none⟩)) ∧ (w.setCell ⟨mb, 6, none⟩ (.int .i64 0)).drew.cell? ⟨X.x, 1, none⟩ = some (.int .i64 (x.cell : Int)) := ⟨HD.out.1.h.i.c0, HD.out.1.h.i.c1⟩
  go_enter Tryz.func156, Tryz.ntmps156
  go_wp2_with fail
  clear a0 a6 z6 c1 c2 c3 c4 c5 c7 c8 z4 H1
  (refine wp_region_held_drew (S := (fun Z => Z.cell? ⟨X.x, 0, none⟩ = some (.pointer (some ⟨R.b, 0, none⟩)) ∧ Z.cell? ⟨X.x, 1, none⟩ = some (.int .i64 (x.cell : Int)))) (by kernel_rfl) sx (fun hHeld => ?_); simp only [List.size_toArray, List.length_cons, List.length_nil, Nat.reduceAdd, Array.replicate_succ, Array.replicate_zero, List.push_toArray, List.append_toArray, List.nil_append, List.cons_append])
  clear sx
  refine rgT 0 (h := ?_)
  refine rgT 1 (h := ?_)
  refine rgT 2 (h := ?_)
  refine rgT 3 (h := ?_)
  refine rgT 4 (h := ?_)
  refine rgT 5 (h := ?_)
  refine rgT 6 (h := ?_)
  refine rgT 7 (h := ?_)
  refine rgT 8 (h := ?_)
  (refine rgS 9 (h := fun K hK => ?_); go_simp)
  refine (HC.out _ HD.out.1.h).mono ?_
  rintro e w2 ⟨rfl, ha2, k2⟩
  have H2 : Hid (RM w2 R cap qv Q (acc1 S) X hc (x) mb (rwlA X.x bk fr true true pend 0 false 0) 237 ∧ Keeps (mrF R qv S X mb) w w2) := ⟨HD.out.1.callA ha2 k2 rfl (fun g e => e), HD.out.2.trans (rA k2)⟩
  clear ha2 k2 HD HC
  (refine hK.out _ _ ⟨H2.out.1.h.i.c0, H2.out.1.h.i.c1⟩ (fun hHeld => ?_); clear hK K; try simp only [Act.put, List.setIfInBounds_toArray, List.set_cons_zero, List.set_cons_succ])
  refine rgT 10 (h := ?_)
  refine rgT 11 (h := ?_)
  refine rgT 12 (h := ?_)
  refine rgT 13 (h := ?_)
  refine rgT 14 (h := ?_)
  refine wpAnyH_done (by kernel_rfl) ?_ _
  clear hHeld
  clear hHeld
  have d4 : w2.cell? ⟨mb, 4, none⟩ = some (.bool true) := (H2.out.1.cell 4).trans rfl
  have g4 := H2.out.1.fz 4
  have d6 : w2.cell? ⟨mb, 6, none⟩ = some (.int .i64 0) := (H2.out.1.cell 6).trans rfl
  have g6 := H2.out.1.fz 6
  have H3 : Hid (RM (w2.setCell ⟨mb, 4, none⟩ (.bool true)) R cap qv Q (acc1 S) X hc (x) mb (rwlA X.x bk fr true true pend 0 false 0) 237 ∧ Keeps (mrF R qv S X mb) w (w2.setCell ⟨mb, 4, none⟩ (.bool true))) := ⟨(H2.out.1.set 4 _).1, (H2.out.2.trans (rM (H2.out.1.set 4 _).2))⟩
  clear H2
  go_wp2_with fail
  refine (HMA.out _).mono ?_
  rintro e w5 ⟨rfl, hw5⟩
  rw [hw5]
  clear hw5 w5 HMA
  go_wp2_with fail
  refine (HNU.out _).mono ?_
  rintro e w5 ⟨rfl, hw5⟩
  rw [hw5]
  clear hw5 w5 HNU
  go_wp2_with fail
  refine (HLK.out _ H3.out.1.m).mono ?_
  rintro e w9 ⟨rfl, hm9, k9⟩
  have H9 : Hid (RC w9 R cap qv Q (acc1 S) X hc (x) ∧ RwlH w9 mb X.x q.2 ∧ Keeps (mrF R qv S X mb) w w9) := ⟨H3.out.1.kept k9, hm9, H3.out.2.trans (rM k9)⟩
  clear hm9 k9 H3 HLK d4 g4 d6 g6
  go_wp2
  go_ret
  exact ⟨rfl, H9.out⟩
theorem rwl_st2t_go (w : World) (R : RL) (cap : Nat) (qv : Value) (Q : List Nat) (S : AS) (X : XL) (hc : Nat) (x : XS) (mb : Nat) (bk fr : Int) (wh lo : Bool) (nx sl : Int) (src own pend : Int) (h : RC w R cap qv Q S X hc x) (hm : w.heap[mb]? = some (.cells (rwlA X.x bk fr true true pend sl false 0) 237)) (hn : ¬ rcF R qv S X mb) (ho : (true = true ∧ own = 4097 + bk ∧ 0 ≤ bk ∧ bk ≤ 1000) ∨ (true = false ∧ own = 0)) (hl : liv S pend = true) (v : Int) (hv : S.word (atC S pend x.cell) = v) (hk : LkOk v) (hmk : (v % 2 == 1) = false) : Calls Tryz.prog 156 #[.pointer (some ⟨mb, 0, none⟩)] w (RstW w R cap qv Q X hc mb S ((lookW ⟨2, src, own, pend, pend, false, 0⟩ (v / 2)).1, ⟨acc1 S, x⟩, (lookW ⟨2, src, own, pend, pend, false, 0⟩ (v / 2)).2)) := by
  have H0 : RM w R cap qv Q (S) X hc (x) mb (rwlA X.x bk fr true true pend sl false 0) 237 := ⟨h, hm, hn⟩
  have a0 : w.cell? ⟨mb, 0, none⟩ = some (.pointer (some ⟨X.x, 0, none⟩)) := (H0.cell 0).trans rfl
  have a6 : w.cell? ⟨mb, 6, none⟩ = some (.int .i64 sl) := (H0.cell 6).trans rfl
  have z6 := H0.fz 6
  have H1 : Hid (RM (w.setCell ⟨mb, 6, none⟩ (.int .i64 0)) R cap qv Q (S) X hc (x) mb (rwlA X.x bk fr true true pend 0 false 0) 237 ∧ Keeps (mrF R qv S X mb) w (w.setCell ⟨mb, 6, none⟩ (.int .i64 0))) := ⟨(H0.set 6 _).1, rM (H0.set 6 _).2⟩
  have c1 : (w.setCell ⟨mb, 6, none⟩ (.int .i64 0)).cell? ⟨mb, 1, none⟩ = some (.int .i64 bk) := (H1.out.1.cell 1).trans rfl
  have c2 : (w.setCell ⟨mb, 6, none⟩ (.int .i64 0)).cell? ⟨mb, 2, none⟩ = some (.int .i64 fr) := (H1.out.1.cell 2).trans rfl
  have c3 : (w.setCell ⟨mb, 6, none⟩ (.int .i64 0)).cell? ⟨mb, 3, none⟩ = some (.bool true) := (H1.out.1.cell 3).trans rfl
  have c4 : (w.setCell ⟨mb, 6, none⟩ (.int .i64 0)).cell? ⟨mb, 4, none⟩ = some (.bool true) := (H1.out.1.cell 4).trans rfl
  have c5 : (w.setCell ⟨mb, 6, none⟩ (.int .i64 0)).cell? ⟨mb, 5, none⟩ = some (.int .i64 pend) := (H1.out.1.cell 5).trans rfl
  have c7 : (w.setCell ⟨mb, 6, none⟩ (.int .i64 0)).cell? ⟨mb, 7, none⟩ = some (.bool false) := (H1.out.1.cell 7).trans rfl
  have c8 : (w.setCell ⟨mb, 6, none⟩ (.int .i64 0)).cell? ⟨mb, 8, none⟩ = some (.int .i64 0) := (H1.out.1.cell 8).trans rfl
  have z4 := H1.out.1.fz 4
  clear h hm hn H0
  have HC : Hid (∀ W, RC W R cap qv Q S X hc x → Calls Tryz.prog 192 #[.pointer (some ⟨R.b, 0, none⟩), .int .i64 pend, .int .i64 (x.cell : Int)] W fun e w' => e = .returned (.tuple #[.int .u64 v, .int .i64 0]) ∧ RAr w' R cap qv Q (acc1 S) ∧ Keeps (raF R qv S) W w') := fun W hW => ra_load W R cap qv Q S pend x.cell hW.a hl hW.c v hv
  clear hl hv
  obtain ⟨n, hnn⟩ : ∃ n, v / 2 = n := ⟨_, rfl⟩
  rw [hnn]
  have HNU : Hid (∀ W, Calls Tryz.prog 198 #[.int .u64 v] W fun e w' => e = .returned (.int .i64 n) ∧ w' = W) := fun W => by rw [← hnn]; exact rnumber_any v W hk
  have HMA : Hid (∀ W, Calls Tryz.prog 199 #[.int .u64 v] W fun e w' => e = .returned (.bool false) ∧ w' = W) := fun W => by rw [← hmk]; exact rmarked_any v W hk
  clear hnn hk hmk
  obtain ⟨q, hq⟩ : ∃ q, lookW ⟨2, src, own, pend, pend, false, 0⟩ n = q := ⟨_, rfl⟩
  have HLK : Hid (∀ W, W.heap[mb]? = some (.cells (rwlA X.x bk fr true true pend pend false 0) 237) → Calls Tryz.prog 197 #[.pointer (some ⟨mb, 0, none⟩), .int .i64 n] W fun e w' => e = .returned (.bool q.1) ∧ RwlH w' mb X.x q.2 ∧ Keeps (fun g => g = mb) W w') := fun W hW => by
    rw [← hq]
    exact rwl_ahead W mb X.x bk fr true pend n 2 src own pend pend hW ho
  rw [hq]
  clear hq
  have HD : Hid (RM (w.setCell ⟨mb, 6, none⟩ (.int .i64 0)).drew R cap qv Q (S) X hc (x) mb (rwlA X.x bk fr true true pend 0 false 0) 237 ∧ Keeps (mrF R qv S X mb) w (w.setCell ⟨mb, 6, none⟩ (.int .i64 0)).drew) := ⟨⟨H1.out.1.h.keeps (D := fun _ => False) (Keeps.refl _ _).drew (fun _ _ e => e), H1.out.1.m, H1.out.1.n⟩, H1.out.2.drew⟩
  have sx : (w.setCell ⟨mb, 6, none⟩ (.int .i64 0)).drew.cell? ⟨X.x, 0, none⟩ = some (.pointer (some ⟨R.b, 0, none⟩)) ∧ (w.setCell ⟨mb, 6, none⟩ (.int .i64 0)).drew.cell? ⟨X.x, 1, none⟩ = some (.int .i64 (x.cell : Int)) := ⟨HD.out.1.h.i.c0, HD.out.1.h.i.c1⟩
  go_enter Tryz.func156, Tryz.ntmps156
  go_wp2_with fail
  clear a0 a6 z6 c1 c2 c3 c4 c5 c7 c8 z4 H1
  (refine wp_region_held_drew (S := (fun Z => Z.cell? ⟨X.x, 0, none⟩ = some (.pointer (some ⟨R.b, 0, none⟩)) ∧ Z.cell? ⟨X.x, 1, none⟩ = some (.int .i64 (x.cell : Int)))) (by kernel_rfl) sx (fun hHeld => ?_); simp only [List.size_toArray, List.length_cons, List.length_nil, Nat.reduceAdd, Array.replicate_succ, Array.replicate_zero, List.push_toArray, List.append_toArray, List.nil_append, List.cons_append])
  clear sx
  refine rgT 0 (h := ?_)
  refine rgT 1 (h := ?_)
  refine rgT 2 (h := ?_)
  refine rgT 3 (h := ?_)
  refine rgT 4 (h := ?_)
  refine rgT 5 (h := ?_)
  refine rgT 6 (h := ?_)
  refine rgT 7 (h := ?_)
  refine rgT 8 (h := ?_)
  (refine rgS 9 (h := fun K hK => ?_); go_simp)
  refine (HC.out _ HD.out.1.h).mono ?_
  rintro e w2 ⟨rfl, ha2, k2⟩
  have H2 : Hid (RM w2 R cap qv Q (acc1 S) X hc (x) mb (rwlA X.x bk fr true true pend 0 false 0) 237 ∧ Keeps (mrF R qv S X mb) w w2) := ⟨HD.out.1.callA ha2 k2 rfl (fun g e => e), HD.out.2.trans (rA k2)⟩
  clear ha2 k2 HD HC
  (refine hK.out _ _ ⟨H2.out.1.h.i.c0, H2.out.1.h.i.c1⟩ (fun hHeld => ?_); clear hK K; try simp only [Act.put, List.setIfInBounds_toArray, List.set_cons_zero, List.set_cons_succ])
  refine rgT 10 (h := ?_)
  refine rgT 11 (h := ?_)
  refine rgT 12 (h := ?_)
  refine rgT 13 (h := ?_)
  refine rgT 14 (h := ?_)
  refine wpAnyH_done (by kernel_rfl) ?_ _
  clear hHeld
  clear hHeld
  have d4 : w2.cell? ⟨mb, 4, none⟩ = some (.bool true) := (H2.out.1.cell 4).trans rfl
  have g4 := H2.out.1.fz 4
  have d6 : w2.cell? ⟨mb, 6, none⟩ = some (.int .i64 0) := (H2.out.1.cell 6).trans rfl
  have g6 := H2.out.1.fz 6
  have H3 : Hid (RM ((w2.setCell ⟨mb, 6, none⟩ (.int .i64 pend)).setCell ⟨mb, 4, none⟩ (.bool true)) R cap qv Q (acc1 S) X hc (x) mb (rwlA X.x bk fr true true pend pend false 0) 237 ∧ Keeps (mrF R qv S X mb) w ((w2.setCell ⟨mb, 6, none⟩ (.int .i64 pend)).setCell ⟨mb, 4, none⟩ (.bool true))) := ⟨((H2.out.1.set 6 _).1.set 4 _).1, ((H2.out.2.trans (rM (H2.out.1.set 6 _).2)).trans (rM ((H2.out.1.set 6 _).1.set 4 _).2))⟩
  clear H2
  go_wp2_with fail
  refine (HMA.out _).mono ?_
  rintro e w5 ⟨rfl, hw5⟩
  rw [hw5]
  clear hw5 w5 HMA
  go_wp2_with fail
  refine (HNU.out _).mono ?_
  rintro e w5 ⟨rfl, hw5⟩
  rw [hw5]
  clear hw5 w5 HNU
  go_wp2_with fail
  refine (HLK.out _ H3.out.1.m).mono ?_
  rintro e w9 ⟨rfl, hm9, k9⟩
  have H9 : Hid (RC w9 R cap qv Q (acc1 S) X hc (x) ∧ RwlH w9 mb X.x q.2 ∧ Keeps (mrF R qv S X mb) w w9) := ⟨H3.out.1.kept k9, hm9, H3.out.2.trans (rM k9)⟩
  clear hm9 k9 H3 HLK d4 g4 d6 g6
  go_wp2
  go_ret
  exact ⟨rfl, H9.out⟩
theorem rwl_st2f_dead (w : World) (R : RL) (cap : Nat) (qv : Value) (Q : List Nat) (S : AS) (X : XL) (hc : Nat) (x : XS) (mb : Nat) (bk fr : Int) (wh lo : Bool) (nx sl : Int) (src own pend : Int) (h : RC w R cap qv Q S X hc x) (hm : w.heap[mb]? = some (.cells (rwlA X.x bk fr false true pend sl false 0) 237)) (hn : ¬ rcF R qv S X mb) (hl : liv S pend = false) (sl0 : Int) : Calls Tryz.prog 156 #[.pointer (some ⟨mb, 0, none⟩)] w (RstW w R cap qv Q X hc mb S (true, ⟨mis1 S, x⟩, failW ⟨2, src, own, sl0, pend, false, 0⟩ 22)) := by
  have H0 : RM w R cap qv Q (S) X hc (x) mb (rwlA X.x bk fr false true pend sl false 0) 237 := ⟨h, hm, hn⟩
  have a0 : w.cell? ⟨mb, 0, none⟩ = some (.pointer (some ⟨X.x, 0, none⟩)) := (H0.cell 0).trans rfl
  have a6 : w.cell? ⟨mb, 6, none⟩ = some (.int .i64 sl) := (H0.cell 6).trans rfl
  have z6 := H0.fz 6
  have H1 : Hid (RM (w.setCell ⟨mb, 6, none⟩ (.int .i64 0)) R cap qv Q (S) X hc (x) mb (rwlA X.x bk fr false true pend 0 false 0) 237 ∧ Keeps (mrF R qv S X mb) w (w.setCell ⟨mb, 6, none⟩ (.int .i64 0))) := ⟨(H0.set 6 _).1, rM (H0.set 6 _).2⟩
  have c1 : (w.setCell ⟨mb, 6, none⟩ (.int .i64 0)).cell? ⟨mb, 1, none⟩ = some (.int .i64 bk) := (H1.out.1.cell 1).trans rfl
  have c2 : (w.setCell ⟨mb, 6, none⟩ (.int .i64 0)).cell? ⟨mb, 2, none⟩ = some (.int .i64 fr) := (H1.out.1.cell 2).trans rfl
  have c3 : (w.setCell ⟨mb, 6, none⟩ (.int .i64 0)).cell? ⟨mb, 3, none⟩ = some (.bool false) := (H1.out.1.cell 3).trans rfl
  have c4 : (w.setCell ⟨mb, 6, none⟩ (.int .i64 0)).cell? ⟨mb, 4, none⟩ = some (.bool true) := (H1.out.1.cell 4).trans rfl
  have c5 : (w.setCell ⟨mb, 6, none⟩ (.int .i64 0)).cell? ⟨mb, 5, none⟩ = some (.int .i64 pend) := (H1.out.1.cell 5).trans rfl
  have c7 : (w.setCell ⟨mb, 6, none⟩ (.int .i64 0)).cell? ⟨mb, 7, none⟩ = some (.bool false) := (H1.out.1.cell 7).trans rfl
  have c8 : (w.setCell ⟨mb, 6, none⟩ (.int .i64 0)).cell? ⟨mb, 8, none⟩ = some (.int .i64 0) := (H1.out.1.cell 8).trans rfl
  have z4 := H1.out.1.fz 4
  clear h hm hn H0
  have HC : Hid (∀ W, RC W R cap qv Q S X hc x → Calls Tryz.prog 192 #[.pointer (some ⟨R.b, 0, none⟩), .int .i64 pend, .int .i64 (x.cell : Int)] W fun e w' => e = .returned (.tuple #[.int .u64 0, .int .i64 22]) ∧ RAr w' R cap qv Q (mis1 S) ∧ Keeps (raF R qv S) W w') := fun W hW => ra_load_no W R cap qv Q S pend (x.cell : Int) hW.a hl
  clear hl
  have HD : Hid (RM (w.setCell ⟨mb, 6, none⟩ (.int .i64 0)).drew R cap qv Q (S) X hc (x) mb (rwlA X.x bk fr false true pend 0 false 0) 237 ∧ Keeps (mrF R qv S X mb) w (w.setCell ⟨mb, 6, none⟩ (.int .i64 0)).drew) := ⟨⟨H1.out.1.h.keeps (D := fun _ => False) (Keeps.refl _ _).drew (fun _ _ e => e), H1.out.1.m, H1.out.1.n⟩, H1.out.2.drew⟩
  have sx : (w.setCell ⟨mb, 6, none⟩ (.int .i64 0)).drew.cell? ⟨X.x, 0, none⟩ = some (.pointer (some ⟨R.b, 0, none⟩)) ∧ (w.setCell ⟨mb, 6, none⟩ (.int .i64 0)).drew.cell? ⟨X.x, 1, none⟩ = some (.int .i64 (x.cell : Int)) := ⟨HD.out.1.h.i.c0, HD.out.1.h.i.c1⟩
  go_enter Tryz.func156, Tryz.ntmps156
  go_wp2_with fail
  clear a0 a6 z6 c1 c2 c3 c4 c5 c7 c8 z4 H1
  (refine wp_region_held_drew (S := (fun Z => Z.cell? ⟨X.x, 0, none⟩ = some (.pointer (some ⟨R.b, 0, none⟩)) ∧ Z.cell? ⟨X.x, 1, none⟩ = some (.int .i64 (x.cell : Int)))) (by kernel_rfl) sx (fun hHeld => ?_); simp only [List.size_toArray, List.length_cons, List.length_nil, Nat.reduceAdd, Array.replicate_succ, Array.replicate_zero, List.push_toArray, List.append_toArray, List.nil_append, List.cons_append])
  clear sx
  refine rgT 0 (h := ?_)
  refine rgT 1 (h := ?_)
  refine rgT 2 (h := ?_)
  refine rgT 3 (h := ?_)
  refine rgT 4 (h := ?_)
  refine rgT 5 (h := ?_)
  refine rgT 6 (h := ?_)
  refine rgT 7 (h := ?_)
  refine rgT 8 (h := ?_)
  (refine rgS 9 (h := fun K hK => ?_); go_simp)
  refine (HC.out _ HD.out.1.h).mono ?_
  rintro e w2 ⟨rfl, ha2, k2⟩
  have H2 : Hid (RM w2 R cap qv Q (mis1 S) X hc (x) mb (rwlA X.x bk fr false true pend 0 false 0) 237 ∧ Keeps (mrF R qv S X mb) w w2) := ⟨HD.out.1.callA ha2 k2 rfl (fun g e => e), HD.out.2.trans (rA k2)⟩
  clear ha2 k2 HD HC
  (refine hK.out _ _ ⟨H2.out.1.h.i.c0, H2.out.1.h.i.c1⟩ (fun hHeld => ?_); clear hK K; try simp only [Act.put, List.setIfInBounds_toArray, List.set_cons_zero, List.set_cons_succ])
  refine rgT 10 (h := ?_)
  refine rgT 11 (h := ?_)
  refine rgT 12 (h := ?_)
  refine rgT 13 (h := ?_)
  refine rgT 14 (h := ?_)
  refine wpAnyH_done (by kernel_rfl) ?_ _
  clear hHeld
  clear hHeld
  go_wp2_with fail
  refine (rwl_stop w2 mb X.x bk fr false true pend 0 false 0 22 H2.out.1.m).mono ?_
  rintro e w9 ⟨rfl, hm9, k9⟩
  have H9 : Hid (RC w9 R cap qv Q (mis1 S) X hc (x) ∧ RwlH w9 mb X.x (failW ⟨2, src, own, sl0, pend, false, 0⟩ 22) ∧ Keeps (mrF R qv S X mb) w w9) := ⟨(H2.out.1.own hm9 k9).h, ⟨_, _, _, _, _, hm9, fun e => absurd e (show ¬ 3 = 0 by decide), fun e => absurd e (show ¬ 3 = 1 by decide), fun e => absurd e (show ¬ 3 = 2 by decide)⟩, H2.out.2.trans (rM k9)⟩
  clear hm9 k9 H2
  go_wp2
  go_ret
  exact ⟨rfl, H9.out⟩
theorem rwl_st2f_mark (w : World) (R : RL) (cap : Nat) (qv : Value) (Q : List Nat) (S : AS) (X : XL) (hc : Nat) (x : XS) (mb : Nat) (bk fr : Int) (wh lo : Bool) (nx sl : Int) (src own pend : Int) (h : RC w R cap qv Q S X hc x) (hm : w.heap[mb]? = some (.cells (rwlA X.x bk fr false true pend sl false 0) 237)) (hn : ¬ rcF R qv S X mb) (ho : (false = true ∧ own = 4097 + bk ∧ 0 ≤ bk ∧ bk ≤ 1000) ∨ (false = false ∧ own = 0)) (hl : liv S pend = true) (v : Int) (hv : S.word (atC S pend x.cell) = v) (hk : LkOk v) (hmk : (v % 2 == 1) = true) : Calls Tryz.prog 156 #[.pointer (some ⟨mb, 0, none⟩)] w (RstW w R cap qv Q X hc mb S ((lookW ⟨2, src, own, 0, pend, false, 0⟩ (v / 2)).1, ⟨acc1 S, x⟩, (lookW ⟨2, src, own, 0, pend, false, 0⟩ (v / 2)).2)) := by
  have H0 : RM w R cap qv Q (S) X hc (x) mb (rwlA X.x bk fr false true pend sl false 0) 237 := ⟨h, hm, hn⟩
  have a0 : w.cell? ⟨mb, 0, none⟩ = some (.pointer (some ⟨X.x, 0, none⟩)) := (H0.cell 0).trans rfl
  have a6 : w.cell? ⟨mb, 6, none⟩ = some (.int .i64 sl) := (H0.cell 6).trans rfl
  have z6 := H0.fz 6
  have H1 : Hid (RM (w.setCell ⟨mb, 6, none⟩ (.int .i64 0)) R cap qv Q (S) X hc (x) mb (rwlA X.x bk fr false true pend 0 false 0) 237 ∧ Keeps (mrF R qv S X mb) w (w.setCell ⟨mb, 6, none⟩ (.int .i64 0))) := ⟨(H0.set 6 _).1, rM (H0.set 6 _).2⟩
  have c1 : (w.setCell ⟨mb, 6, none⟩ (.int .i64 0)).cell? ⟨mb, 1, none⟩ = some (.int .i64 bk) := (H1.out.1.cell 1).trans rfl
  have c2 : (w.setCell ⟨mb, 6, none⟩ (.int .i64 0)).cell? ⟨mb, 2, none⟩ = some (.int .i64 fr) := (H1.out.1.cell 2).trans rfl
  have c3 : (w.setCell ⟨mb, 6, none⟩ (.int .i64 0)).cell? ⟨mb, 3, none⟩ = some (.bool false) := (H1.out.1.cell 3).trans rfl
  have c4 : (w.setCell ⟨mb, 6, none⟩ (.int .i64 0)).cell? ⟨mb, 4, none⟩ = some (.bool true) := (H1.out.1.cell 4).trans rfl
  have c5 : (w.setCell ⟨mb, 6, none⟩ (.int .i64 0)).cell? ⟨mb, 5, none⟩ = some (.int .i64 pend) := (H1.out.1.cell 5).trans rfl
  have c7 : (w.setCell ⟨mb, 6, none⟩ (.int .i64 0)).cell? ⟨mb, 7, none⟩ = some (.bool false) := (H1.out.1.cell 7).trans rfl
  have c8 : (w.setCell ⟨mb, 6, none⟩ (.int .i64 0)).cell? ⟨mb, 8, none⟩ = some (.int .i64 0) := (H1.out.1.cell 8).trans rfl
  have z4 := H1.out.1.fz 4
  clear h hm hn H0
  have HC : Hid (∀ W, RC W R cap qv Q S X hc x → Calls Tryz.prog 192 #[.pointer (some ⟨R.b, 0, none⟩), .int .i64 pend, .int .i64 (x.cell : Int)] W fun e w' => e = .returned (.tuple #[.int .u64 v, .int .i64 0]) ∧ RAr w' R cap qv Q (acc1 S) ∧ Keeps (raF R qv S) W w') := fun W hW => ra_load W R cap qv Q S pend x.cell hW.a hl hW.c v hv
  clear hl hv
  obtain ⟨n, hnn⟩ : ∃ n, v / 2 = n := ⟨_, rfl⟩
  rw [hnn]
  have HNU : Hid (∀ W, Calls Tryz.prog 198 #[.int .u64 v] W fun e w' => e = .returned (.int .i64 n) ∧ w' = W) := fun W => by rw [← hnn]; exact rnumber_any v W hk
  have HMA : Hid (∀ W, Calls Tryz.prog 199 #[.int .u64 v] W fun e w' => e = .returned (.bool true) ∧ w' = W) := fun W => by rw [← hmk]; exact rmarked_any v W hk
  clear hnn hk hmk
  obtain ⟨q, hq⟩ : ∃ q, lookW ⟨2, src, own, 0, pend, false, 0⟩ n = q := ⟨_, rfl⟩
  have HLK : Hid (∀ W, W.heap[mb]? = some (.cells (rwlA X.x bk fr false true pend 0 false 0) 237) → Calls Tryz.prog 197 #[.pointer (some ⟨mb, 0, none⟩), .int .i64 n] W fun e w' => e = .returned (.bool q.1) ∧ RwlH w' mb X.x q.2 ∧ Keeps (fun g => g = mb) W w') := fun W hW => by
    rw [← hq]
    exact rwl_ahead W mb X.x bk fr false pend n 2 src own 0 pend hW ho
  rw [hq]
  clear hq
  have HD : Hid (RM (w.setCell ⟨mb, 6, none⟩ (.int .i64 0)).drew R cap qv Q (S) X hc (x) mb (rwlA X.x bk fr false true pend 0 false 0) 237 ∧ Keeps (mrF R qv S X mb) w (w.setCell ⟨mb, 6, none⟩ (.int .i64 0)).drew) := ⟨⟨H1.out.1.h.keeps (D := fun _ => False) (Keeps.refl _ _).drew (fun _ _ e => e), H1.out.1.m, H1.out.1.n⟩, H1.out.2.drew⟩
  have sx : (w.setCell ⟨mb, 6, none⟩ (.int .i64 0)).drew.cell? ⟨X.x, 0, none⟩ = some (.pointer (some ⟨R.b, 0, none⟩)) ∧ (w.setCell ⟨mb, 6, none⟩ (.int .i64 0)).drew.cell? ⟨X.x, 1, none⟩ = some (.int .i64 (x.cell : Int)) := ⟨HD.out.1.h.i.c0, HD.out.1.h.i.c1⟩
  go_enter Tryz.func156, Tryz.ntmps156
  go_wp2_with fail
  clear a0 a6 z6 c1 c2 c3 c4 c5 c7 c8 z4 H1
  (refine wp_region_held_drew (S := (fun Z => Z.cell? ⟨X.x, 0, none⟩ = some (.pointer (some ⟨R.b, 0, none⟩)) ∧ Z.cell? ⟨X.x, 1, none⟩ = some (.int .i64 (x.cell : Int)))) (by kernel_rfl) sx (fun hHeld => ?_); simp only [List.size_toArray, List.length_cons, List.length_nil, Nat.reduceAdd, Array.replicate_succ, Array.replicate_zero, List.push_toArray, List.append_toArray, List.nil_append, List.cons_append])
  clear sx
  refine rgT 0 (h := ?_)
  refine rgT 1 (h := ?_)
  refine rgT 2 (h := ?_)
  refine rgT 3 (h := ?_)
  refine rgT 4 (h := ?_)
  refine rgT 5 (h := ?_)
  refine rgT 6 (h := ?_)
  refine rgT 7 (h := ?_)
  refine rgT 8 (h := ?_)
  (refine rgS 9 (h := fun K hK => ?_); go_simp)
  refine (HC.out _ HD.out.1.h).mono ?_
  rintro e w2 ⟨rfl, ha2, k2⟩
  have H2 : Hid (RM w2 R cap qv Q (acc1 S) X hc (x) mb (rwlA X.x bk fr false true pend 0 false 0) 237 ∧ Keeps (mrF R qv S X mb) w w2) := ⟨HD.out.1.callA ha2 k2 rfl (fun g e => e), HD.out.2.trans (rA k2)⟩
  clear ha2 k2 HD HC
  (refine hK.out _ _ ⟨H2.out.1.h.i.c0, H2.out.1.h.i.c1⟩ (fun hHeld => ?_); clear hK K; try simp only [Act.put, List.setIfInBounds_toArray, List.set_cons_zero, List.set_cons_succ])
  refine rgT 10 (h := ?_)
  refine rgT 11 (h := ?_)
  refine rgT 12 (h := ?_)
  refine rgT 13 (h := ?_)
  refine rgT 14 (h := ?_)
  refine wpAnyH_done (by kernel_rfl) ?_ _
  clear hHeld
  clear hHeld
  have d4 : w2.cell? ⟨mb, 4, none⟩ = some (.bool true) := (H2.out.1.cell 4).trans rfl
  have g4 := H2.out.1.fz 4
  have d6 : w2.cell? ⟨mb, 6, none⟩ = some (.int .i64 0) := (H2.out.1.cell 6).trans rfl
  have g6 := H2.out.1.fz 6
  have H3 : Hid (RM (w2.setCell ⟨mb, 4, none⟩ (.bool true)) R cap qv Q (acc1 S) X hc (x) mb (rwlA X.x bk fr false true pend 0 false 0) 237 ∧ Keeps (mrF R qv S X mb) w (w2.setCell ⟨mb, 4, none⟩ (.bool true))) := ⟨(H2.out.1.set 4 _).1, (H2.out.2.trans (rM (H2.out.1.set 4 _).2))⟩
  clear H2
  go_wp2_with fail
  refine (HMA.out _).mono ?_
  rintro e w5 ⟨rfl, hw5⟩
  rw [hw5]
  clear hw5 w5 HMA
  go_wp2_with fail
  refine (HNU.out _).mono ?_
  rintro e w5 ⟨rfl, hw5⟩
  rw [hw5]
  clear hw5 w5 HNU
  go_wp2_with fail
  refine (HLK.out _ H3.out.1.m).mono ?_
  rintro e w9 ⟨rfl, hm9, k9⟩
  have H9 : Hid (RC w9 R cap qv Q (acc1 S) X hc (x) ∧ RwlH w9 mb X.x q.2 ∧ Keeps (mrF R qv S X mb) w w9) := ⟨H3.out.1.kept k9, hm9, H3.out.2.trans (rM k9)⟩
  clear hm9 k9 H3 HLK d4 g4 d6 g6
  go_wp2
  go_ret
  exact ⟨rfl, H9.out⟩
theorem rwl_st2f_go (w : World) (R : RL) (cap : Nat) (qv : Value) (Q : List Nat) (S : AS) (X : XL) (hc : Nat) (x : XS) (mb : Nat) (bk fr : Int) (wh lo : Bool) (nx sl : Int) (src own pend : Int) (h : RC w R cap qv Q S X hc x) (hm : w.heap[mb]? = some (.cells (rwlA X.x bk fr false true pend sl false 0) 237)) (hn : ¬ rcF R qv S X mb) (ho : (false = true ∧ own = 4097 + bk ∧ 0 ≤ bk ∧ bk ≤ 1000) ∨ (false = false ∧ own = 0)) (hl : liv S pend = true) (v : Int) (hv : S.word (atC S pend x.cell) = v) (hk : LkOk v) (hmk : (v % 2 == 1) = false) : Calls Tryz.prog 156 #[.pointer (some ⟨mb, 0, none⟩)] w (RstW w R cap qv Q X hc mb S ((lookW ⟨2, src, own, pend, pend, false, 0⟩ (v / 2)).1, ⟨acc1 S, x⟩, (lookW ⟨2, src, own, pend, pend, false, 0⟩ (v / 2)).2)) := by
  have H0 : RM w R cap qv Q (S) X hc (x) mb (rwlA X.x bk fr false true pend sl false 0) 237 := ⟨h, hm, hn⟩
  have a0 : w.cell? ⟨mb, 0, none⟩ = some (.pointer (some ⟨X.x, 0, none⟩)) := (H0.cell 0).trans rfl
  have a6 : w.cell? ⟨mb, 6, none⟩ = some (.int .i64 sl) := (H0.cell 6).trans rfl
  have z6 := H0.fz 6
  have H1 : Hid (RM (w.setCell ⟨mb, 6, none⟩ (.int .i64 0)) R cap qv Q (S) X hc (x) mb (rwlA X.x bk fr false true pend 0 false 0) 237 ∧ Keeps (mrF R qv S X mb) w (w.setCell ⟨mb, 6, none⟩ (.int .i64 0))) := ⟨(H0.set 6 _).1, rM (H0.set 6 _).2⟩
  have c1 : (w.setCell ⟨mb, 6, none⟩ (.int .i64 0)).cell? ⟨mb, 1, none⟩ = some (.int .i64 bk) := (H1.out.1.cell 1).trans rfl
  have c2 : (w.setCell ⟨mb, 6, none⟩ (.int .i64 0)).cell? ⟨mb, 2, none⟩ = some (.int .i64 fr) := (H1.out.1.cell 2).trans rfl
  have c3 : (w.setCell ⟨mb, 6, none⟩ (.int .i64 0)).cell? ⟨mb, 3, none⟩ = some (.bool false) := (H1.out.1.cell 3).trans rfl
  have c4 : (w.setCell ⟨mb, 6, none⟩ (.int .i64 0)).cell? ⟨mb, 4, none⟩ = some (.bool true) := (H1.out.1.cell 4).trans rfl
  have c5 : (w.setCell ⟨mb, 6, none⟩ (.int .i64 0)).cell? ⟨mb, 5, none⟩ = some (.int .i64 pend) := (H1.out.1.cell 5).trans rfl
  have c7 : (w.setCell ⟨mb, 6, none⟩ (.int .i64 0)).cell? ⟨mb, 7, none⟩ = some (.bool false) := (H1.out.1.cell 7).trans rfl
  have c8 : (w.setCell ⟨mb, 6, none⟩ (.int .i64 0)).cell? ⟨mb, 8, none⟩ = some (.int .i64 0) := (H1.out.1.cell 8).trans rfl
  have z4 := H1.out.1.fz 4
  clear h hm hn H0
  have HC : Hid (∀ W, RC W R cap qv Q S X hc x → Calls Tryz.prog 192 #[.pointer (some ⟨R.b, 0, none⟩), .int .i64 pend, .int .i64 (x.cell : Int)] W fun e w' => e = .returned (.tuple #[.int .u64 v, .int .i64 0]) ∧ RAr w' R cap qv Q (acc1 S) ∧ Keeps (raF R qv S) W w') := fun W hW => ra_load W R cap qv Q S pend x.cell hW.a hl hW.c v hv
  clear hl hv
  obtain ⟨n, hnn⟩ : ∃ n, v / 2 = n := ⟨_, rfl⟩
  rw [hnn]
  have HNU : Hid (∀ W, Calls Tryz.prog 198 #[.int .u64 v] W fun e w' => e = .returned (.int .i64 n) ∧ w' = W) := fun W => by rw [← hnn]; exact rnumber_any v W hk
  have HMA : Hid (∀ W, Calls Tryz.prog 199 #[.int .u64 v] W fun e w' => e = .returned (.bool false) ∧ w' = W) := fun W => by rw [← hmk]; exact rmarked_any v W hk
  clear hnn hk hmk
  obtain ⟨q, hq⟩ : ∃ q, lookW ⟨2, src, own, pend, pend, false, 0⟩ n = q := ⟨_, rfl⟩
  have HLK : Hid (∀ W, W.heap[mb]? = some (.cells (rwlA X.x bk fr false true pend pend false 0) 237) → Calls Tryz.prog 197 #[.pointer (some ⟨mb, 0, none⟩), .int .i64 n] W fun e w' => e = .returned (.bool q.1) ∧ RwlH w' mb X.x q.2 ∧ Keeps (fun g => g = mb) W w') := fun W hW => by
    rw [← hq]
    exact rwl_ahead W mb X.x bk fr false pend n 2 src own pend pend hW ho
  rw [hq]
  clear hq
  have HD : Hid (RM (w.setCell ⟨mb, 6, none⟩ (.int .i64 0)).drew R cap qv Q (S) X hc (x) mb (rwlA X.x bk fr false true pend 0 false 0) 237 ∧ Keeps (mrF R qv S X mb) w (w.setCell ⟨mb, 6, none⟩ (.int .i64 0)).drew) := ⟨⟨H1.out.1.h.keeps (D := fun _ => False) (Keeps.refl _ _).drew (fun _ _ e => e), H1.out.1.m, H1.out.1.n⟩, H1.out.2.drew⟩
  have sx : (w.setCell ⟨mb, 6, none⟩ (.int .i64 0)).drew.cell? ⟨X.x, 0, none⟩ = some (.pointer (some ⟨R.b, 0, none⟩)) ∧ (w.setCell ⟨mb, 6, none⟩ (.int .i64 0)).drew.cell? ⟨X.x, 1, none⟩ = some (.int .i64 (x.cell : Int)) := ⟨HD.out.1.h.i.c0, HD.out.1.h.i.c1⟩
  go_enter Tryz.func156, Tryz.ntmps156
  go_wp2_with fail
  clear a0 a6 z6 c1 c2 c3 c4 c5 c7 c8 z4 H1
  (refine wp_region_held_drew (S := (fun Z => Z.cell? ⟨X.x, 0, none⟩ = some (.pointer (some ⟨R.b, 0, none⟩)) ∧ Z.cell? ⟨X.x, 1, none⟩ = some (.int .i64 (x.cell : Int)))) (by kernel_rfl) sx (fun hHeld => ?_); simp only [List.size_toArray, List.length_cons, List.length_nil, Nat.reduceAdd, Array.replicate_succ, Array.replicate_zero, List.push_toArray, List.append_toArray, List.nil_append, List.cons_append])
  clear sx
  refine rgT 0 (h := ?_)
  refine rgT 1 (h := ?_)
  refine rgT 2 (h := ?_)
  refine rgT 3 (h := ?_)
  refine rgT 4 (h := ?_)
  refine rgT 5 (h := ?_)
  refine rgT 6 (h := ?_)
  refine rgT 7 (h := ?_)
  refine rgT 8 (h := ?_)
  (refine rgS 9 (h := fun K hK => ?_); go_simp)
  refine (HC.out _ HD.out.1.h).mono ?_
  rintro e w2 ⟨rfl, ha2, k2⟩
  have H2 : Hid (RM w2 R cap qv Q (acc1 S) X hc (x) mb (rwlA X.x bk fr false true pend 0 false 0) 237 ∧ Keeps (mrF R qv S X mb) w w2) := ⟨HD.out.1.callA ha2 k2 rfl (fun g e => e), HD.out.2.trans (rA k2)⟩
  clear ha2 k2 HD HC
  (refine hK.out _ _ ⟨H2.out.1.h.i.c0, H2.out.1.h.i.c1⟩ (fun hHeld => ?_); clear hK K; try simp only [Act.put, List.setIfInBounds_toArray, List.set_cons_zero, List.set_cons_succ])
  refine rgT 10 (h := ?_)
  refine rgT 11 (h := ?_)
  refine rgT 12 (h := ?_)
  refine rgT 13 (h := ?_)
  refine rgT 14 (h := ?_)
  refine wpAnyH_done (by kernel_rfl) ?_ _
  clear hHeld
  clear hHeld
  have d4 : w2.cell? ⟨mb, 4, none⟩ = some (.bool true) := (H2.out.1.cell 4).trans rfl
  have g4 := H2.out.1.fz 4
  have d6 : w2.cell? ⟨mb, 6, none⟩ = some (.int .i64 0) := (H2.out.1.cell 6).trans rfl
  have g6 := H2.out.1.fz 6
  have H3 : Hid (RM ((w2.setCell ⟨mb, 6, none⟩ (.int .i64 pend)).setCell ⟨mb, 4, none⟩ (.bool true)) R cap qv Q (acc1 S) X hc (x) mb (rwlA X.x bk fr false true pend pend false 0) 237 ∧ Keeps (mrF R qv S X mb) w ((w2.setCell ⟨mb, 6, none⟩ (.int .i64 pend)).setCell ⟨mb, 4, none⟩ (.bool true))) := ⟨((H2.out.1.set 6 _).1.set 4 _).1, ((H2.out.2.trans (rM (H2.out.1.set 6 _).2)).trans (rM ((H2.out.1.set 6 _).1.set 4 _).2))⟩
  clear H2
  go_wp2_with fail
  refine (HMA.out _).mono ?_
  rintro e w5 ⟨rfl, hw5⟩
  rw [hw5]
  clear hw5 w5 HMA
  go_wp2_with fail
  refine (HNU.out _).mono ?_
  rintro e w5 ⟨rfl, hw5⟩
  rw [hw5]
  clear hw5 w5 HNU
  go_wp2_with fail
  refine (HLK.out _ H3.out.1.m).mono ?_
  rintro e w9 ⟨rfl, hm9, k9⟩
  have H9 : Hid (RC w9 R cap qv Q (acc1 S) X hc (x) ∧ RwlH w9 mb X.x q.2 ∧ Keeps (mrF R qv S X mb) w w9) := ⟨H3.out.1.kept k9, hm9, H3.out.2.trans (rM k9)⟩
  clear hm9 k9 H3 HLK d4 g4 d6 g6
  go_wp2
  go_ret
  exact ⟨rfl, H9.out⟩
end Go.Proofs.YtdjklcmkcccpeaaGreat
