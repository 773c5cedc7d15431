import Derived.Test.YtdjklcmkcccpeaaGreatRbG
namespace Go.Proofs.YtdjklcmkcccpeaaGreat
open Go.ChangeShapes Go.WideShapes Go.ChangeAt Go.RowKit Go.MuLone Go.RwLone
set_option linter.unusedVariables false
set_option maxRecDepth 100000
set_option maxHeartbeats 3200000
theorem rrm_st_out (w : World) (R : RL) (cap : Nat) (qv : Value) (Q : List Nat) (S : AS) (X : XL) (hc : Nat) (x : XS) (mb : Nat) (bu sl wv ah nw co : Int) (ma : Bool) (he : Int) (wd pr be : Int) (h : RC w R cap qv Q S X hc x) (hm : w.heap[mb]? = some (.cells (rrmA X.x bu sl 1 wv ah nw false co ma he) 239)) (hn : ¬ rcF R qv S X mb) (hb : inB x bu = false) : Calls Tryz.prog 157 #[.pointer (some ⟨mb, 0, none⟩)] w (RstR w R cap qv Q X hc mb S (true, ⟨S, x⟩, ⟨6, 40, bu, sl, wd, ah, pr, be, ma, he⟩)) := by
  have HP : Hid (RM w R cap qv Q (S) X hc (x) mb (rrmA X.x bu sl 1 wv ah nw false co ma he) 239 ∧ Keeps (mrF R qv S X mb) w w) := ⟨⟨h, hm, hn⟩, Keeps.refl _ _⟩
  have HB := rx_has w R.b X hc x bu h.i
  rw [show inB x bu = false from hb] at HB
  have HBB : Hid (∀ _ : Unit, _) := fun _ => HB
  clear h hm hn HB
  have c0 : w.cell? ⟨mb, 0, none⟩ = some (.pointer (some ⟨X.x, 0, none⟩)) := (HP.out.1.cell 0).trans rfl
  have c1 : w.cell? ⟨mb, 1, none⟩ = some (.int .i64 bu) := (HP.out.1.cell 1).trans rfl
  have c3 : w.cell? ⟨mb, 3, none⟩ = some (.int .i64 1) := (HP.out.1.cell 3).trans rfl
  have c7 : w.cell? ⟨mb, 7, none⟩ = some (.bool false) := (HP.out.1.cell 7).trans rfl
  clear hb
  go_enter Tryz.func157, Tryz.ntmps157
  go_wp2_with fail
  refine (HBB.out ()).mono ?_
  rintro e w1 ⟨rfl, hw1⟩
  rw [hw1]
  clear hw1 w1 HBB
  go_wp2_with fail
  refine (rrm_over w mb X.x bu sl 1 wv ah nw false co ma he 40 HP.out.1.m).mono ?_
  rintro e w9 ⟨rfl, hm9, k9⟩
  have H9 : Hid (RC w9 R cap qv Q (S) X hc (x) ∧ RrmH w9 mb X.x ⟨6, 40, bu, sl, wd, ah, pr, be, ma, he⟩ ∧ Keeps (mrF R qv S X mb) w w9) := ⟨(HP.out.1.own hm9 k9).h, rrm6 hm9, HP.out.2.trans (rM k9)⟩
  clear hm9 k9 HP c0 c1 c3 c7
  go_wp2
  go_ret
  exact ⟨rfl, H9.out⟩
theorem rrm_st_first (w : World) (R : RL) (cap : Nat) (qv : Value) (Q : List Nat) (S : AS) (X : XL) (hc : Nat) (x : XS) (mb : Nat) (bu sl wv ah nw co : Int) (ma : Bool) (he : Int) (wd pr be : Int) (h : RC w R cap qv Q S X hc x) (hm : w.heap[mb]? = some (.cells (rrmA X.x bu sl 1 wv ah nw false co ma he) 239)) (hn : ¬ rcF R qv S X mb) (hb : inB x bu = true) (p : Bool × CS × MR) (hf : Calls Tryz.prog 201 #[.pointer (some ⟨mb, 0, none⟩)] w (RstR w R cap qv Q X hc mb S p)) : Calls Tryz.prog 157 #[.pointer (some ⟨mb, 0, none⟩)] w (RstR w R cap qv Q X hc mb S (p)) := by
  have HP : Hid (RM w R cap qv Q (S) X hc (x) mb (rrmA X.x bu sl 1 wv ah nw false co ma he) 239 ∧ Keeps (mrF R qv S X mb) w w) := ⟨⟨h, hm, hn⟩, Keeps.refl _ _⟩
  have HB := rx_has w R.b X hc x bu h.i
  rw [show inB x bu = true from hb] at HB
  have HBB : Hid (∀ _ : Unit, _) := fun _ => HB
  clear h hm hn HB
  have c0 : w.cell? ⟨mb, 0, none⟩ = some (.pointer (some ⟨X.x, 0, none⟩)) := (HP.out.1.cell 0).trans rfl
  have c1 : w.cell? ⟨mb, 1, none⟩ = some (.int .i64 bu) := (HP.out.1.cell 1).trans rfl
  have c3 : w.cell? ⟨mb, 3, none⟩ = some (.int .i64 1) := (HP.out.1.cell 3).trans rfl
  have c7 : w.cell? ⟨mb, 7, none⟩ = some (.bool false) := (HP.out.1.cell 7).trans rfl
  have HF : Hid (∀ _ : Unit, _) := fun _ => hf
  clear hf hb
  go_enter Tryz.func157, Tryz.ntmps157
  go_wp2_with fail
  refine (HBB.out ()).mono ?_
  rintro e w1 ⟨rfl, hw1⟩
  rw [hw1]
  clear hw1 w1 HBB
  go_wp2_with fail
  refine (HF.out ()).mono ?_
  rintro e w9 ⟨rfl, h9⟩
  have H9 : Hid (RC w9 R cap qv Q p.2.1.S X hc p.2.1.x ∧ RrmH w9 mb X.x p.2.2 ∧ Keeps (mrF R qv S X mb) w w9) := h9
  clear h9 HF HP c0 c1 c3 c7
  go_wp2
  go_ret
  exact ⟨rfl, H9.out⟩
theorem rrm_st_look (w : World) (R : RL) (cap : Nat) (qv : Value) (Q : List Nat) (S : AS) (X : XL) (hc : Nat) (x : XS) (mb : Nat) (bu sl wv ah nw co : Int) (ma : Bool) (he : Int) (wd pr be : Int) (h : RC w R cap qv Q S X hc x) (hm : w.heap[mb]? = some (.cells (rrmA X.x bu sl 4 wv ah nw false co ma he) 239)) (hn : ¬ rcF R qv S X mb) (hb : inB x bu = true) (p : Bool × CS × MR) (hf : Calls Tryz.prog 204 #[.pointer (some ⟨mb, 0, none⟩)] w (RstR w R cap qv Q X hc mb S p)) : Calls Tryz.prog 157 #[.pointer (some ⟨mb, 0, none⟩)] w (RstR w R cap qv Q X hc mb S (p)) := by
  have HP : Hid (RM w R cap qv Q (S) X hc (x) mb (rrmA X.x bu sl 4 wv ah nw false co ma he) 239 ∧ Keeps (mrF R qv S X mb) w w) := ⟨⟨h, hm, hn⟩, Keeps.refl _ _⟩
  have HB := rx_has w R.b X hc x bu h.i
  rw [show inB x bu = true from hb] at HB
  have HBB : Hid (∀ _ : Unit, _) := fun _ => HB
  clear h hm hn HB
  have c0 : w.cell? ⟨mb, 0, none⟩ = some (.pointer (some ⟨X.x, 0, none⟩)) := (HP.out.1.cell 0).trans rfl
  have c1 : w.cell? ⟨mb, 1, none⟩ = some (.int .i64 bu) := (HP.out.1.cell 1).trans rfl
  have c3 : w.cell? ⟨mb, 3, none⟩ = some (.int .i64 4) := (HP.out.1.cell 3).trans rfl
  have c7 : w.cell? ⟨mb, 7, none⟩ = some (.bool false) := (HP.out.1.cell 7).trans rfl
  have HF : Hid (∀ _ : Unit, _) := fun _ => hf
  clear hf hb
  go_enter Tryz.func157, Tryz.ntmps157
  go_wp2_with fail
  refine (HBB.out ()).mono ?_
  rintro e w1 ⟨rfl, hw1⟩
  rw [hw1]
  clear hw1 w1 HBB
  go_wp2_with fail
  refine (HF.out ()).mono ?_
  rintro e w9 ⟨rfl, h9⟩
  have H9 : Hid (RC w9 R cap qv Q p.2.1.S X hc p.2.1.x ∧ RrmH w9 mb X.x p.2.2 ∧ Keeps (mrF R qv S X mb) w w9) := h9
  clear h9 HF HP c0 c1 c3 c7
  go_wp2
  go_ret
  exact ⟨rfl, H9.out⟩
theorem rrm_st_swap (w : World) (R : RL) (cap : Nat) (qv : Value) (Q : List Nat) (S : AS) (X : XL) (hc : Nat) (x : XS) (mb : Nat) (bu sl wv ah nw co : Int) (ma : Bool) (he : Int) (wd pr be : Int) (h : RC w R cap qv Q S X hc x) (hm : w.heap[mb]? = some (.cells (rrmA X.x bu sl 5 wv ah nw false co ma he) 239)) (hn : ¬ rcF R qv S X mb) (hb : inB x bu = true) (p : Bool × CS × MR) (hf : Calls Tryz.prog 205 #[.pointer (some ⟨mb, 0, none⟩)] w (RstR w R cap qv Q X hc mb S p)) : Calls Tryz.prog 157 #[.pointer (some ⟨mb, 0, none⟩)] w (RstR w R cap qv Q X hc mb S (p)) := by
  have HP : Hid (RM w R cap qv Q (S) X hc (x) mb (rrmA X.x bu sl 5 wv ah nw false co ma he) 239 ∧ Keeps (mrF R qv S X mb) w w) := ⟨⟨h, hm, hn⟩, Keeps.refl _ _⟩
  have HB := rx_has w R.b X hc x bu h.i
  rw [show inB x bu = true from hb] at HB
  have HBB : Hid (∀ _ : Unit, _) := fun _ => HB
  clear h hm hn HB
  have c0 : w.cell? ⟨mb, 0, none⟩ = some (.pointer (some ⟨X.x, 0, none⟩)) := (HP.out.1.cell 0).trans rfl
  have c1 : w.cell? ⟨mb, 1, none⟩ = some (.int .i64 bu) := (HP.out.1.cell 1).trans rfl
  have c3 : w.cell? ⟨mb, 3, none⟩ = some (.int .i64 5) := (HP.out.1.cell 3).trans rfl
  have c7 : w.cell? ⟨mb, 7, none⟩ = some (.bool false) := (HP.out.1.cell 7).trans rfl
  have HF : Hid (∀ _ : Unit, _) := fun _ => hf
  clear hf hb
  go_enter Tryz.func157, Tryz.ntmps157
  go_wp2_with fail
  refine (HBB.out ()).mono ?_
  rintro e w1 ⟨rfl, hw1⟩
  rw [hw1]
  clear hw1 w1 HBB
  go_wp2_with fail
  refine (HF.out ()).mono ?_
  rintro e w9 ⟨rfl, h9⟩
  have H9 : Hid (RC w9 R cap qv Q p.2.1.S X hc p.2.1.x ∧ RrmH w9 mb X.x p.2.2 ∧ Keeps (mrF R qv S X mb) w w9) := h9
  clear h9 HF HP c0 c1 c3 c7
  go_wp2
  go_ret
  exact ⟨rfl, H9.out⟩
theorem rrm_st3 (w : World) (R : RL) (cap : Nat) (qv : Value) (Q : List Nat) (S : AS) (X : XL) (hc : Nat) (x : XS) (mb : Nat) (bu sl wv ah nw co : Int) (ma : Bool) (he : Int) (wd pr be : Int) (h : RC w R cap qv Q S X hc x) (hm : w.heap[mb]? = some (.cells (rrmA X.x bu sl 3 wv ah nw false co ma he) 239)) (hn : ¬ rcF R qv S X mb) (hb : inB x bu = true) (b : Nat) (hbb : bu = (b : Int)) (hb1 : b < x.nb) (v : Int) (hv : x.hd b = v) (hk : LkOk v) (n : Int) (hnn : v / 2 = n) (q : Bool × MR) (hq : mvR ⟨3, co, bu, sl, wd, 0, pr, be, ma, he⟩ n = q) : Calls Tryz.prog 157 #[.pointer (some ⟨mb, 0, none⟩)] w (RstR w R cap qv Q X hc mb S (q.1, ⟨S, x.cn1⟩, q.2)) := by
  have HP : Hid (RM w R cap qv Q (S) X hc (x) mb (rrmA X.x bu sl 3 wv ah nw false co ma he) 239 ∧ Keeps (mrF R qv S X mb) w w) := ⟨⟨h, hm, hn⟩, Keeps.refl _ _⟩
  have HB := rx_has w R.b X hc x bu h.i
  rw [show inB x bu = true from hb] at HB
  have HBB : Hid (∀ _ : Unit, _) := fun _ => HB
  clear h hm hn HB
  have c0 : w.cell? ⟨mb, 0, none⟩ = some (.pointer (some ⟨X.x, 0, none⟩)) := (HP.out.1.cell 0).trans rfl
  have c1 : w.cell? ⟨mb, 1, none⟩ = some (.int .i64 bu) := (HP.out.1.cell 1).trans rfl
  have c3 : w.cell? ⟨mb, 3, none⟩ = some (.int .i64 3) := (HP.out.1.cell 3).trans rfl
  have c7 : w.cell? ⟨mb, 7, none⟩ = some (.bool false) := (HP.out.1.cell 7).trans rfl
  subst hbb
  have HPR : Hid (∀ W, W.heap[mb]? = some (.cells (rrmA X.x (b : Int) sl 3 wv 0 nw false co ma he) 239) → Calls Tryz.prog 203 #[.pointer (some ⟨mb, 0, none⟩), .int .i64 n] W fun e w' => e = .returned (.bool q.1) ∧ RrmH w' mb X.x q.2 ∧ Keeps (fun g => g = mb) W w') := fun W hW => by
    rw [← hq]
    exact rrm_present W mb X.x (b : Int) sl 3 wv 0 nw co ma he n 3 wd pr be hW
  have HNU : Hid (∀ W, Calls Tryz.prog 198 #[.int .u64 v] W fun e w' => e = .returned (.int .i64 n) ∧ w' = W) := fun W => by rw [← hnn]; exact rnumber_any v W hk
  have H1 : Hid (RM (w.setCell ⟨mb, 5, none⟩ (.int .i64 0)) R cap qv Q (S) X hc (x) mb (rrmA X.x (b : Int) sl 3 wv 0 nw false co ma he) 239 ∧ Keeps (mrF R qv S X mb) w (w.setCell ⟨mb, 5, none⟩ (.int .i64 0))) := ⟨(HP.out.1.set 5 _).1, (HP.out.2.trans (rM (HP.out.1.set 5 _).2))⟩
  have HX := rx_loaded (w.setCell ⟨mb, 5, none⟩ (.int .i64 0)) R.b X hc x b hb1 H1.out.1.h.i
  rw [hv] at HX
  have HXX : Hid (∀ _ : Unit, _) := fun _ => HX
  clear HX hv hk hnn hq hb
  have c5 : w.cell? ⟨mb, 5, none⟩ = some (.int .i64 ah) := (HP.out.1.cell 5).trans rfl
  have cz5 := HP.out.1.fz 5
  have d1 : (w.setCell ⟨mb, 5, none⟩ (.int .i64 0)).cell? ⟨mb, 1, none⟩ = some (.int .i64 (b : Int)) := (H1.out.1.cell 1).trans rfl
  clear HP
  go_enter Tryz.func157, Tryz.ntmps157
  go_wp2_with fail
  refine (HBB.out ()).mono ?_
  rintro e w1 ⟨rfl, hw1⟩
  rw [hw1]
  clear hw1 w1 HBB
  go_wp2_with fail
  refine (HXX.out ()).mono ?_
  rintro e w2 ⟨rfl, hx, k2⟩
  have H2 : Hid (RM w2 R cap qv Q (S) X hc (x.cn1) mb (rrmA X.x (b : Int) sl 3 wv 0 nw false co ma he) 239 ∧ Keeps (mrF R qv S X mb) w w2) := ⟨H1.out.1.callX hx k2 rfl, H1.out.2.trans (rX k2)⟩
  clear hx k2 H1 HXX c0 c1 c3 c7 c5 cz5 d1
  go_wp2_with fail
  refine (HNU.out _).mono ?_
  rintro e w5 ⟨rfl, hw5⟩
  rw [hw5]
  clear hw5 w5 HNU
  go_wp2_with fail
  refine (HPR.out _ H2.out.1.m).mono ?_
  rintro e w9 ⟨rfl, hm9, k9⟩
  have H9 : Hid (RC w9 R cap qv Q S X hc x.cn1 ∧ RrmH w9 mb X.x q.2 ∧ Keeps (mrF R qv S X mb) w w9) := ⟨H2.out.1.kept k9, hm9, H2.out.2.trans (rM k9)⟩
  clear hm9 k9 H2 HPR
  go_wp2
  go_ret
  exact ⟨rfl, H9.out⟩
theorem rrm_done (w : World) (mb xb : Nat) (bu sl at_ wv ah nw : Int) (co : Int) (ma : Bool) (he : Int) (h : w.heap[mb]? = some (.cells (rrmA xb bu sl at_ wv ah nw true co ma he) 239)) : Calls Tryz.prog 157 #[.pointer (some ⟨mb, 0, none⟩)] w fun e w' => e = .returned (.bool true) ∧ w' = w := by
  have c0 : w.cell? ⟨mb, 0, none⟩ = some (.pointer (some ⟨xb, 0, none⟩)) := (cell?_heap h 0).trans rfl
  have c7 : w.cell? ⟨mb, 7, none⟩ = some (.bool true) := (cell?_heap h 7).trans rfl
  clear h
  go_enter Tryz.func157, Tryz.ntmps157
  go_wp2
  go_ret
  exact ⟨rfl, rfl⟩
theorem rrm_own (w : World) (R : RL) (cap : Nat) (qv : Value) (Q : List Nat) (S : AS) (X : XL) (hc : Nat) (x : XS) (mb : Nat) (bu sl wv ah nw co : Int) (ma : Bool) (he : Int) (wd pr be : Int) (h : RC w R cap qv Q S X hc x) (hm : w.heap[mb]? = some (.cells (rrmA X.x bu sl 1 wv ah nw false co ma he) 239)) (hn : ¬ rcF R qv S X mb) (hk : WdOk S x) (st : Nat) (ah2 : Int) : Calls Tryz.prog 201 #[.pointer (some ⟨mb, 0, none⟩)] w (RstR w R cap qv Q X hc mb S (ownR S x ⟨st, co, bu, sl, wd, ah, pr, be, ma, he⟩)) := by
  unfold ownR
  dsimp only
  cases hl : liv S sl
  · exact rrf_dead w R cap qv Q S X hc x mb bu sl wv ah nw co ma he wd pr be h hm hn hl
  · rw [if_pos rfl]
    by_cases hz : S.word (atC S sl x.cell) = 0
    · rw [if_pos hz]
      exact rrf_zero w R cap qv Q S X hc x mb bu sl wv ah nw co ma he wd pr be h hm hn hl hz
    · rw [if_neg hz]
      cases hmk : (S.word (atC S sl x.cell) % 2 == 1)
      · exact rrf_go w R cap qv Q S X hc x mb bu sl wv ah nw co ma he wd pr be h hm hn hl _ rfl (hk.1 _) hz hmk
      · exact rrf_mark w R cap qv Q S X hc x mb bu sl wv ah nw co ma he wd pr be h hm hn hl _ rfl (hk.1 _) hz hmk
end Go.Proofs.YtdjklcmkcccpeaaGreat
