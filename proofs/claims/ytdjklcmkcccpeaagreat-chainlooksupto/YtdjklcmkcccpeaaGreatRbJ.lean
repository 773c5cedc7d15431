import Derived.Test.YtdjklcmkcccpeaaGreatRbI
namespace Go.Proofs.YtdjklcmkcccpeaaGreat
open Go.ChangeShapes Go.WideShapes Go.ChangeAt Go.RowKit Go.MuLone Go.RwLone
set_option linter.unusedVariables false
set_option maxRecDepth 100000
set_option maxHeartbeats 3200000
theorem RstR.ah {w : World} {R : RL} {cap : Nat} {qv : Value} {Q : List Nat} {X : XL} {hc mb : Nat} {S : AS} {r : Bool} {c : CS} {st : Nat} {co bu sl wd ah pr be : Int} {ma : Bool} {he : Int} {e : Ending} {w' : World} (h : RstR w R cap qv Q X hc mb S (r, c, ⟨st, co, bu, sl, wd, ah, pr, be, ma, he⟩) e w') (ah2 : Int) (hs : ¬ (st = 4 ∨ st = 5)) : RstR w R cap qv Q X hc mb S (r, c, ⟨st, co, bu, sl, wd, ah2, pr, be, ma, he⟩) e w' := by
  obtain ⟨h0, h1, ⟨a1, a2, a3, a4, a5, h2, p1, p2, p3, p4, p5, p6, p7⟩, k⟩ := h
  exact ⟨h0, h1, ⟨a1, a2, a3, a4, a5, h2, p1, p2, p3, p4, p5, fun e => absurd e hs, p7⟩, k⟩
theorem rrm_own0 (w : World) (R : RL) (cap : Nat) (qv : Value) (Q : List Nat) (S : AS) (X : XL) (hc : Nat) (x : XS) (mb : Nat) (bu sl wv ah nw co : Int) (ma : Bool) (he : Int) (wd pr be : Int) (h : RC w R cap qv Q S X hc x) (hm : w.heap[mb]? = some (.cells (rrmA X.x bu sl 1 wv ah nw false co ma he) 239)) (hn : ¬ rcF R qv S X mb) (hk : WdOk S x) (st : Nat) (ah2 : Int) : Calls Tryz.prog 201 #[.pointer (some ⟨mb, 0, none⟩)] w (RstR w R cap qv Q X hc mb S (ownR S x ⟨st, co, bu, sl, wd, ah2, pr, be, ma, he⟩)) := by
  unfold ownR
  dsimp only
  cases hl : liv S sl
  · exact (rrf_dead w R cap qv Q S X hc x mb bu sl wv ah nw co ma he wd pr be h hm hn hl).mono (fun e w' p => p.ah ah2 (by decide))
  · rw [if_pos rfl]
    by_cases hz : S.word (atC S sl x.cell) = 0
    · rw [if_pos hz]
      exact (rrf_zero w R cap qv Q S X hc x mb bu sl wv ah nw co ma he wd pr be h hm hn hl hz).mono (fun e w' p => p.ah ah2 (by decide))
    · rw [if_neg hz]
      cases hmk : (S.word (atC S sl x.cell) % 2 == 1)
      · exact (rrf_go w R cap qv Q S X hc x mb bu sl wv ah nw co ma he wd pr be h hm hn hl _ rfl (hk.1 _) hz hmk).mono (fun e w' p => p.ah ah2 (by decide))
      · exact (rrf_mark w R cap qv Q S X hc x mb bu sl wv ah nw co ma he wd pr be h hm hn hl _ rfl (hk.1 _) hz hmk).mono (fun e w' p => p.ah ah2 (by decide))
theorem rrm_step (w : World) (R : RL) (cap : Nat) (qv : Value) (Q : List Nat) (S : AS) (X : XL) (hc : Nat) (x : XS) (mb : Nat) (m : MR) (h : RC w R cap qv Q S X hc x) (hm : RrmH w mb X.x m) (hn : ¬ rcF R qv S X mb) (hk : WdOk S x) (ho : remOk x m) : Calls Tryz.prog 157 #[.pointer (some ⟨mb, 0, none⟩)] w (RstR w R cap qv Q X hc mb S (remP S x m)) := by
  obtain ⟨st, co, bu, sl, wd, ah0, pr, be, ma, he⟩ := m
  obtain ⟨at_, wv, ah, nw, dn, hm, g1, g2, g3, g4, g5, g6, g7⟩ := hm
  obtain ⟨o1, o2, o3⟩ := ho
  dsimp only at hm g1 g2 g3 g4 g5 g6 g7 o1 o2 o3
  match st with
  | 0 =>
    obtain rfl := g1 (by omega)
    obtain rfl := g3 (by omega)
    unfold remP
    dsimp only
    cases hb : inB x bu
    · refine (rrm_st_out w R cap qv Q S X hc x mb bu sl wv ah nw co ma he wd pr be h hm hn hb).mono ?_
      rintro e w' ⟨he', h1, ⟨a1, a2, a3, a4, a5, h2, p1, p2, p3, p4, -⟩, k⟩
      exact ⟨he', h1, ⟨a1, a2, a3, a4, a5, h2, p1, p2, p3, p4, fun e => absurd e (show ¬ 6 = 2 by decide), fun e => absurd e (show ¬ (6 = 4 ∨ 6 = 5) by decide), fun e => absurd e (show ¬ 6 = 5 by decide)⟩, k⟩
    · rw [if_pos rfl]
      exact rrm_st_first w R cap qv Q S X hc x mb bu sl wv ah nw co ma he wd pr be h hm hn hb _ (rrm_own0 w R cap qv Q S X hc x mb bu sl wv ah nw co ma he wd pr be h hm hn hk 0 ah0)
  | 1 =>
    obtain rfl := g1 (by omega)
    obtain rfl := g3 (by omega)
    exact rrm_st_first w R cap qv Q S X hc x mb bu sl wv ah nw co ma he wd pr be h hm hn (o1 (by omega) (by omega)) _ (rrm_own0 w R cap qv Q S X hc x mb bu sl wv ah nw co ma he wd pr be h hm hn hk 1 ah0)
  | 2 =>
    obtain rfl := g1 (by omega)
    obtain rfl : at_ = 2 := g4 (by omega) (by omega)
    obtain ⟨rfl, ev⟩ := g5 rfl
    have hw := o2 rfl
    unfold remP
    dsimp only
    have hb := o1 (by omega) (by omega)
    rw [show 2 * (wv / 2) + 1 = wv + 1 from by omega]
    cases hl : liv S sl
    · exact (rrm_st2_dead w R cap qv Q S X hc x mb bu sl wv ah nw co ma he wv pr be h hm hn hb hw.1 hw.2 hl).mono (fun e w' p => p.ah ah0 (by show ¬ (6 = 4 ∨ 6 = 5); decide))
    · rw [if_pos rfl]
      by_cases hu : S.word (atC S sl x.cell) = wv
      · rw [if_pos hu]
        exact (rrm_st2_hit w R cap qv Q S X hc x mb bu sl wv ah nw co ma he wv pr be h hm hn hb hw.1 hw.2 hl hu _ rfl).mono (fun e w' p => p.ah ah0 (by show ¬ (3 = 4 ∨ 3 = 5); decide))
      · rw [if_neg hu]
        exact (rrm_st2_miss w R cap qv Q S X hc x mb bu sl wv ah nw co ma he wv pr be h hm hn hb hw.1 hw.2 hl hu).mono (fun e w' p => p.ah ah0 (by show ¬ (1 = 4 ∨ 1 = 5); decide))
  | 3 =>
    obtain rfl := g1 (by omega)
    obtain rfl : at_ = 3 := g4 (by omega) (by omega)
    have hb := o1 (by omega) (by omega)
    obtain ⟨b, hb1, hbb⟩ := inB_yes hb
    unfold remP
    dsimp only
    rw [show bu.toNat = b from by omega]
    exact rrm_st3 w R cap qv Q S X hc x mb bu sl wv ah nw co ma he wd pr be h hm hn hb b hbb hb1 _ rfl (hk.2 b hb1) _ rfl _ rfl
  | 4 =>
    obtain rfl := g1 (by omega)
    obtain rfl : at_ = 4 := g4 (by omega) (by omega)
    obtain ⟨rfl, rfl⟩ := g6 (.inl rfl)
    refine rrm_st_look w R cap qv Q S X hc x mb bu sl wv ah nw co ma he wd nw be h hm hn (o1 (by omega) (by omega)) _ ?_
    unfold remP
    dsimp only
    cases hl : liv S nw
    · exact rrl_dead w R cap qv Q S X hc x mb bu sl wv ah nw co ma he wd nw be h hm hn hl
    · rw [if_pos rfl]
      by_cases hz : S.word (atC S nw x.cell) / 2 = 0
      · rw [if_pos hz]
        exact rrl_zero w R cap qv Q S X hc x mb bu sl wv ah nw co ma he wd nw be h hm hn hl _ rfl (hk.1 _) _ rfl hz
      · rw [if_neg hz]
        cases hmk : (S.word (atC S nw x.cell) % 2 == 1)
        · exact rrl_go w R cap qv Q S X hc x mb bu sl wv ah nw co ma he wd nw be h hm hn hl _ rfl (hk.1 _) _ rfl hz hmk _ rfl
        · exact rrl_mark w R cap qv Q S X hc x mb bu sl wv ah nw co ma he wd nw be h hm hn hl _ rfl (hk.1 _) _ rfl hz hmk
  | 5 =>
    obtain rfl := g1 (by omega)
    obtain rfl : at_ = 5 := g4 (by omega) (by omega)
    obtain ⟨rfl, rfl⟩ := g6 (.inr rfl)
    obtain ⟨lk, rfl⟩ := g7 rfl
    obtain ⟨q1, q2⟩ := o3 rfl
    have hb := o1 (by omega) (by omega)
    refine rrm_st_swap w R cap qv Q S X hc x mb bu sl wv ah nw co ma he wd nw (wv / 2) h hm hn hb _ ?_
    unfold remP unlR ahR
    dsimp only
    by_cases ha : ah = 0
    · subst ha
      obtain ⟨b, hb1, hbb⟩ := inB_yes hb
      rw [if_pos rfl, show bu.toNat = b from by omega]
      by_cases hu : x.hd b = 2 * nw
      · rw [if_pos hu]
        dsimp only
        rw [if_pos rfl, if_pos rfl]
        by_cases hps : nw = sl
        · rw [if_pos hps]
          exact rrs_head_own w R cap qv Q S X hc x mb bu sl wv 0 nw co ma he wd nw (wv / 2) h hm hn lk rfl q1 q2 b hbb hb1 hu _ rfl (by simp [hps])
        · rw [if_neg hps]
          exact rrs_head_help w R cap qv Q S X hc x mb bu sl wv 0 nw co ma he wd nw (wv / 2) h hm hn lk rfl q1 q2 b hbb hb1 hu _ rfl (by simp [hps]) _ rfl
      · rw [if_neg hu]
        exact rrs_head_miss w R cap qv Q S X hc x mb bu sl wv 0 nw co ma he wd nw (wv / 2) h hm hn lk rfl q1 q2 b hbb hb1 hu _ rfl
    · rw [if_neg ha]
      cases hl : liv S ah
      · exact rrs_slot_dead w R cap qv Q S X hc x mb bu sl wv ah nw co ma he wd nw (wv / 2) h hm hn lk rfl q1 q2 ha hl
      · rw [if_pos rfl]
        by_cases hu : S.word (atC S ah x.cell) = 2 * nw
        · rw [if_pos hu]
          dsimp only
          rw [if_pos rfl, if_pos rfl]
          by_cases hps : nw = sl
          · rw [if_pos hps]
            exact rrs_slot_own w R cap qv Q S X hc x mb bu sl wv ah nw co ma he wd nw (wv / 2) h hm hn lk rfl q1 q2 ha hl hu _ rfl (by simp [hps])
          · rw [if_neg hps]
            exact rrs_slot_help w R cap qv Q S X hc x mb bu sl wv ah nw co ma he wd nw (wv / 2) h hm hn lk rfl q1 q2 ha hl hu _ rfl (by simp [hps]) _ rfl
        · rw [if_neg hu]
          exact rrs_slot_miss w R cap qv Q S X hc x mb bu sl wv ah nw co ma he wd nw (wv / 2) h hm hn lk rfl q1 q2 ha hl hu
  | n + 6 =>
    obtain rfl := g2 (by omega)
    refine (rrm_done w mb X.x bu sl at_ wv ah nw co ma he hm).mono ?_
    rintro e w' ⟨rfl, rfl⟩
    exact ⟨rfl, h, ⟨at_, wv, ah, nw, true, hm, g1, g2, g3, g4, g5, g6, g7⟩, Keeps.refl _ _⟩
theorem rrm_newRemove (w : World) (xb : Nat) (bu sl : Int) : Calls Tryz.prog 154 #[.pointer (some ⟨xb, 0, none⟩), .int .i64 bu, .int .i64 sl] w fun e w' => e = .returned (.pointer (some ⟨w.heap.size, 0, none⟩)) ∧ RrmH w' w.heap.size xb ⟨0, 0, bu, sl, 0, 0, 0, 0, false, 0⟩ ∧ Keeps (fun _ => False) w w' ∧ w'.heap.size = w.heap.size + 1 := by
  go_enter Tryz.func154, Tryz.ntmps154
  go_wp2
  go_ret
  refine ⟨rfl, ⟨1, 0, 0, 0, false, ?_, fun _ => rfl, fun e => absurd e (show ¬ 6 ≤ 0 by decide), fun _ => rfl, fun e => absurd e (show ¬ 2 ≤ 0 by decide), fun e => absurd e (show ¬ 0 = 2 by decide), fun e => absurd e (show ¬ (0 = 4 ∨ 0 = 5) by decide), fun e => absurd e (show ¬ 0 = 5 by decide)⟩, ?_, ?_⟩
  · exact heap_alloc_last _ _ _ rfl
  · exact (Keeps.refl _ _).alloc _
  · simp
end Go.Proofs.YtdjklcmkcccpeaaGreat
