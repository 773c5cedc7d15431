import Derived.Test.YtdjklcmkcccpeaaGreatRbD
namespace Go.Proofs.YtdjklcmkcccpeaaGreat
open Go.ChangeShapes Go.WideShapes Go.ChangeAt Go.RowKit Go.MuLone Go.RwLone
set_option linter.unusedVariables false
set_option maxRecDepth 100000
set_option maxHeartbeats 3200000
theorem rwl_step (w : World) (R : RL) (cap : Nat) (qv : Value) (Q : List Nat) (S : AS) (X : XL) (hc : Nat) (x : XS) (mb : Nat) (m : MW) (h : RC w R cap qv Q S X hc x) (hm : RwlH w mb X.x m) (hn : ¬ rcF R qv S X mb) (hk : WdOk S x) (ho : wlkOk m) : Calls Tryz.prog 156 #[.pointer (some ⟨mb, 0, none⟩)] w (RstW w R cap qv Q X hc mb S (wlkP S x m)) := by
  obtain ⟨st, src, own, slot, pend, ended, code⟩ := m
  obtain ⟨bk, fr, wh, lo, nx, hm, h0, h1, h2⟩ := hm
  obtain ⟨o1, o2, o3, o4⟩ := ho
  dsimp only at hm h0 h1 h2 o1 o2 o3 o4
  match st with
  | 0 =>
    obtain ⟨rfl, rfl, rfl⟩ := h0 rfl
    obtain rfl : ended = false := o1
    obtain rfl := o2 (by omega)
    obtain rfl := o3 (by omega)
    unfold wlkP
    dsimp only
    cases hb : inB x bk
    · exact rwl_st0_out w R cap qv Q S X hc x mb bk fr true false nx 0 bk own pend h hm hn hb
    · rw [if_pos rfl]
      obtain ⟨b, hb1, hbb⟩ := inB_yes hb
      rw [show bk.toNat = b from by omega]
      exact rwl_st0_in w R cap qv Q S X hc x mb bk fr true false nx 0 bk own pend h hm hn hb b hbb hb1 h.i.nb.2 _ rfl (hk.2 b hb1)
  | 1 =>
    obtain ⟨rfl, rfl, rfl⟩ := h1 rfl
    obtain rfl : ended = false := o1
    obtain rfl := o2 (by omega)
    obtain rfl := o3 (by omega)
    obtain rfl := o4 rfl
    unfold wlkP
    dsimp only
    cases hl : liv S fr
    · exact rwl_st1_dead w R cap qv Q S X hc x mb bk fr false false nx 0 fr 0 pend h hm hn hl
    · rw [if_pos rfl]
      exact rwl_st1_go w R cap qv Q S X hc x mb bk fr false false nx 0 fr 0 pend h hm hn (.inr ⟨rfl, rfl⟩) hl _ rfl (hk.1 _)
  | 2 =>
    obtain ⟨rfl, rfl, hw⟩ := h2 rfl
    obtain rfl : ended = false := o1
    obtain rfl := o2 (by omega)
    unfold wlkP
    dsimp only
    cases wh
    · cases hl : liv S nx
      · exact rwl_st2f_dead w R cap qv Q S X hc x mb bk fr false true nx slot src own nx h hm hn hl slot
      · rw [if_pos rfl]
        cases hmk : (S.word (atC S nx x.cell) % 2 == 1)
        · exact rwl_st2f_go w R cap qv Q S X hc x mb bk fr false true nx slot src own nx h hm hn hw hl _ rfl (hk.1 _) hmk
        · exact rwl_st2f_mark w R cap qv Q S X hc x mb bk fr false true nx slot src own nx h hm hn hw hl _ rfl (hk.1 _) hmk
    · cases hl : liv S nx
      · exact rwl_st2t_dead w R cap qv Q S X hc x mb bk fr true true nx slot src own nx h hm hn hl slot
      · rw [if_pos rfl]
        cases hmk : (S.word (atC S nx x.cell) % 2 == 1)
        · exact rwl_st2t_go w R cap qv Q S X hc x mb bk fr true true nx slot src own nx h hm hn hw hl _ rfl (hk.1 _) hmk
        · exact rwl_st2t_mark w R cap qv Q S X hc x mb bk fr true true nx slot src own nx h hm hn hw hl _ rfl (hk.1 _) hmk
  | n + 3 =>
    obtain rfl : ended = true := o1.trans (decide_eq_true (by omega))
    unfold wlkP
    dsimp only
    refine (rwl_st_over w R cap qv Q S X hc x mb bk fr wh lo nx slot src own pend code h hm hn).mono ?_
    rintro e w' ⟨he, h1, ⟨bk', fr', wh', lo', nx', h2, -⟩, k⟩
    exact ⟨he, h1, ⟨bk', fr', wh', lo', nx', h2, fun e => absurd e (show ¬ n + 3 = 0 by omega), fun e => absurd e (show ¬ n + 3 = 1 by omega), fun e => absurd e (show ¬ n + 3 = 2 by omega)⟩, k⟩
theorem rwl_newWalk (w : World) (xb : Nat) (src : Int) : Calls Tryz.prog 151 #[.pointer (some ⟨xb, 0, none⟩), .int .i64 src] w fun e w' => e = .returned (.pointer (some ⟨w.heap.size, 0, none⟩)) ∧ RwlH w' w.heap.size xb ⟨0, src, 0, 0, 0, false, 0⟩ ∧ Keeps (fun _ => False) w w' ∧ w'.heap.size = w.heap.size + 1 := by
  go_enter Tryz.func151, Tryz.ntmps151
  go_wp2
  go_ret
  refine ⟨rfl, ⟨src, 0, true, false, 0, ?_, fun _ => ⟨rfl, rfl, rfl⟩, fun e => absurd e (show ¬ 0 = 1 by decide), fun e => absurd e (show ¬ 0 = 2 by decide)⟩, ?_, ?_⟩
  · exact heap_alloc_last _ _ _ rfl
  · exact (Keeps.refl _ _).alloc _
  · simp
theorem rwl_newBehind (w : World) (xb : Nat) (src : Int) : Calls Tryz.prog 153 #[.pointer (some ⟨xb, 0, none⟩), .int .i64 src] w fun e w' => e = .returned (.pointer (some ⟨w.heap.size, 0, none⟩)) ∧ RwlH w' w.heap.size xb ⟨1, src, 0, 0, 0, false, 0⟩ ∧ Keeps (fun _ => False) w w' ∧ w'.heap.size = w.heap.size + 1 := by
  go_enter Tryz.func153, Tryz.ntmps153
  go_wp2
  go_ret
  refine ⟨rfl, ⟨0, src, false, false, 0, ?_, fun e => absurd e (show ¬ 1 = 0 by decide), fun _ => ⟨rfl, rfl, rfl⟩, fun e => absurd e (show ¬ 1 = 2 by decide)⟩, ?_, ?_⟩
  · exact heap_alloc_last _ _ _ rfl
  · exact (Keeps.refl _ _).alloc _
  · simp
end Go.Proofs.YtdjklcmkcccpeaaGreat
