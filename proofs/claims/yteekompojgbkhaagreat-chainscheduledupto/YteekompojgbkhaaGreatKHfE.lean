import Derived.Test.YteekompojgbkhaaGreatKHfD
namespace Go.Proofs.YteekompojgbkhaaGreat
open Go.ChangeShapes Go.WideShapes Go.ChangeAt Go.RowKit Go.MuLone Go.RwLone
set_option linter.unusedVariables false
set_option maxRecDepth 100000
set_option maxHeartbeats 3200000
/-- k workers from t on, a step each. -/
def roundN (M : Mc) : Nat → Nat → Nat → (Hp × M.σ) → Bool × Nat × (Hp × M.σ)
  | 0, t, left, a => (true, left, a)
  | k + 1, t, left, a => if (runP M (t : Int) left 1 a).1 then roundN M k (t + 1) (runP M (t : Int) left 1 a).2.1 (runP M (t : Int) left 1 a).2.2 else runP M (t : Int) left 1 a
def roundsF (M : Mc) : Nat → Int → Nat → (Hp × M.σ) → Bool × Nat × (Hp × M.σ)
  | 0, n, left, a => (true, left, a)
  | k + 1, n, left, a => if n ≤ 0 ∨ idleP a.1 = true then (true, left, a) else if (roundN M a.1.q.length 0 left a).1 then roundsF M k (n - 1) (roundN M a.1.q.length 0 left a).2.1 (roundN M a.1.q.length 0 left a).2.2 else roundN M a.1.q.length 0 left a
/-- Up to n rounds. -/
def roundsA (M : Mc) (n : Int) (left : Nat) (a : Hp × M.σ) : Bool × Nat × (Hp × M.σ) := roundsF M (left + 1) n left a
theorem runP_one {M : Mc} {x : Int} {left : Nat} {a : Hp × M.σ} : runP M x left 1 a = if pendP a.1 x = 0 then (true, left, a) else match left with | 0 => (false, 0, a) | l + 1 => (true, l, (stepP M a x.toNat).1) := by
  by_cases h : pendP a.1 x = 0
  · rw [if_pos h, runP_end (.inr h)]
  · rw [if_neg h]
    cases left with
    | zero => simp only [runP]; rw [if_neg (fun e => e.elim (fun e => by omega) h)]
    | succ l =>
      simp only [runP]
      rw [if_neg (fun e => e.elim (fun e => by omega) h)]
      exact runP_end (.inl (by omega))
theorem roundN_le {M : Mc} : ∀ (k t left : Nat) (a : Hp × M.σ), (roundN M k t left a).2.1 ≤ left
  | 0, t, left, a => Nat.le_refl _
  | k + 1, t, left, a => by
    have h1 : (runP M (t : Int) left 1 a).2.1 ≤ left := by
      rw [runP_one]
      split
      · exact Nat.le_refl _
      · cases left <;> simp
    unfold roundN
    split
    · exact Nat.le_trans (roundN_le k (t + 1) _ _) h1
    · exact h1
theorem roundN_some {M : Mc} : ∀ (k t left : Nat) (a : Hp × M.σ), (∃ j, t ≤ j ∧ j < t + k ∧ ¬ pendP a.1 (j : Int) = 0) → (roundN M k t left a).1 = true → (roundN M k t left a).2.1 < left
  | 0, t, left, a => by rintro ⟨j, h1, h2, _⟩; omega
  | k + 1, t, left, a => by
    rintro ⟨j, h1, h2, h3⟩ ht
    unfold roundN at ht ⊢
    by_cases hp : pendP a.1 (t : Int) = 0
    · have e : runP M (t : Int) left 1 a = (true, left, a) := by rw [runP_one, if_pos hp]
      rw [e] at ht ⊢
      exact roundN_some k (t + 1) left a ⟨j, (Nat.lt_or_eq_of_le h1).elim (fun e => e) (fun e => by subst e; exact absurd hp h3), by omega, h3⟩ ht
    · cases left with
      | zero =>
        have e : runP M (t : Int) 0 1 a = (false, 0, a) := by rw [runP_one, if_neg hp]
        rw [e] at ht
        cases ht
      | succ l =>
        have e : runP M (t : Int) (l + 1) 1 a = (true, l, (stepP M a t).1) := by rw [runP_one, if_neg hp]; rfl
        rw [e]
        exact Nat.lt_succ_of_le (roundN_le k (t + 1) l _)
theorem idle_some {h : Hp} (hi : ¬ idleP h = true) : ∃ j, 0 ≤ j ∧ j < 0 + h.q.length ∧ ¬ pendP h (j : Int) = 0 := by
  have : ∃ l ∈ h.q, ¬ l.isEmpty = true := by
    have h2 : idleP h = false := by simpa using hi
    unfold idleP at h2
    rw [List.all_eq_false] at h2
    exact h2
  obtain ⟨l, hl, hn⟩ := this
  obtain ⟨j, hj, rfl⟩ := List.getElem_of_mem hl
  refine ⟨j, Nat.zero_le _, by omega, fun e => hn ?_⟩
  unfold pendP at e
  rw [if_neg (by omega)] at e
  have e2 : ((j : Int)).toNat = j := by omega
  rw [e2, List.getElem?_eq_getElem hj] at e
  have : h.q[j] = [] := List.eq_nil_of_length_eq_zero e
  rw [this]; rfl
theorem rounds_fuel {M : Mc} : ∀ (b left k k' : Nat) (n : Int) (a : Hp × M.σ), left ≤ b → left < k → left < k' → roundsF M k n left a = roundsF M k' n left a := by
  intro b
  induction b with
  | zero =>
    intro left k k' n a hb hk hk'
    obtain ⟨k, rfl⟩ : ∃ m, k = m + 1 := ⟨k - 1, by omega⟩
    obtain ⟨k', rfl⟩ : ∃ m, k' = m + 1 := ⟨k' - 1, by omega⟩
    simp only [roundsF]
    by_cases h : n ≤ 0 ∨ idleP a.1 = true
    · rw [if_pos h, if_pos h]
    · rw [if_neg h, if_neg h]
      by_cases hr : (roundN M a.1.q.length 0 left a).1 = true
      · have := roundN_some a.1.q.length 0 left a (idle_some (fun e => h (.inr e))) hr
        omega
      · rw [if_neg hr, if_neg hr]
  | succ b ih =>
    intro left k k' n a hb hk hk'
    obtain ⟨k, rfl⟩ : ∃ m, k = m + 1 := ⟨k - 1, by omega⟩
    obtain ⟨k', rfl⟩ : ∃ m, k' = m + 1 := ⟨k' - 1, by omega⟩
    simp only [roundsF]
    by_cases h : n ≤ 0 ∨ idleP a.1 = true
    · rw [if_pos h, if_pos h]
    · rw [if_neg h, if_neg h]
      by_cases hr : (roundN M a.1.q.length 0 left a).1 = true
      · have := roundN_some a.1.q.length 0 left a (idle_some (fun e => h (.inr e))) hr
        rw [if_pos hr, if_pos hr]
        exact ih _ k k' (n - 1) _ (by omega) (by omega) (by omega)
      · rw [if_neg hr, if_neg hr]
theorem roundsA_end {M : Mc} {n : Int} {left : Nat} {a : Hp × M.σ} (h : n ≤ 0 ∨ idleP a.1 = true) : roundsA M n left a = (true, left, a) := by
  unfold roundsA; simp only [roundsF, if_pos h]
theorem roundsA_no {M : Mc} {n : Int} {left : Nat} {a : Hp × M.σ} (h : ¬ (n ≤ 0 ∨ idleP a.1 = true)) (hr : ¬ (roundN M a.1.q.length 0 left a).1 = true) : roundsA M n left a = roundN M a.1.q.length 0 left a := by
  unfold roundsA; simp only [roundsF, if_neg h, if_neg hr]
theorem roundsA_on {M : Mc} {n : Int} {left : Nat} {a : Hp × M.σ} (h : ¬ (n ≤ 0 ∨ idleP a.1 = true)) (hr : (roundN M a.1.q.length 0 left a).1 = true) : roundsA M n left a = roundsA M (n - 1) (roundN M a.1.q.length 0 left a).2.1 (roundN M a.1.q.length 0 left a).2.2 := by
  have := roundN_some a.1.q.length 0 left a (idle_some (fun e => h (.inr e))) hr
  unfold roundsA
  rw [roundsF, if_neg h, if_pos hr]
  exact rounds_fuel left _ _ _ _ _ (by omega) (by omega) (by omega)
theorem prounds_any {M : Mc} {w wr : World} {F : Nat → Prop} {hb qb g lf : Nat} {a : Hp × M.σ} (p : Pg M w wr F hb qb g lf a) (n : Int) (hn : n ≤ 9223372036854775807) :
    Calls Tryz.prog 93 #[.pointer (some ⟨g, 0, none⟩), .int .i64 n] wr fun e w' => e = .returned (.bool (roundsA M n lf a).1) ∧ Pg M w w' F hb qb g (roundsA M n lf a).2.1 (roundsA M n lf a).2.2 := by
  obtain ⟨r, hr⟩ : ∃ r, roundsA M n lf a = r := ⟨_, rfl⟩
  rw [hr]
  have HP : Hid (Pg M w wr F hb qb g lf a ∧ roundsA M n lf a = r) := ⟨p, hr⟩
  clear p hr
  go_enter Tryz.func93, Tryz.ntmps93
  go_wp2_with fail
  go_loopw [1] (fun c wq => ∃ (y : Int) (l' : Nat) (a' : Hp × M.σ), c = .int .i64 y ∧ y ≤ n ∧ Pg M w wq F hb qb g l' a' ∧ roundsA M y l' a' = r) (fun c _ => (intOf c).toNat)
  case atStart => exact ⟨n, lf, a, rfl, Int.le_refl _, HP.out.1, HP.out.2⟩
  case round =>
    obtain ⟨y, l', a', rfl, hy, hp, hr⟩ := hrel
    have c0 := hp.c0
    have HQ : Hid (Pg M w wr F hb qb g l' a' ∧ roundsA M y l' a' = r) := ⟨hp, hr⟩
    obtain ⟨F', qv, ev, en, m, -, -⟩ := hp.mid
    have HH : Hid (Hm wr F' M.pt hb qb qv ev en a'.1) := m
    have cq : wr.cell? ⟨hb, 0, none⟩ = some (.slice (some ⟨qb, 0, none⟩) a'.1.q.length a'.1.q.length) := (cell?_heap m.hc 0).trans rfl
    have n16 := m.n16
    clear hp hr m HP
    by_cases hy0 : 0 < y
    · go_wp2_with fail
      refine (hidle_any HH.out).mono ?_
      rintro e w1 ⟨rfl, rfl⟩
      by_cases hid : idleP a'.1 = true
      · have HE : Hid (roundsA M y l' a' = (true, l', a')) := roundsA_end (.inr hid)
        rw [hid]
        go_wp2
        go_ret
        rw [← HQ.out.2, HE.out]
        exact ⟨rfl, HQ.out.1⟩
      · have hid' : idleP a'.1 = false := by simpa using hid
        have HN : Hid (¬ (y ≤ 0 ∨ idleP a'.1 = true)) := fun e => e.elim (fun e => by omega) hid
        rw [hid']
        clear hid hid' HH
        obtain ⟨N, hN⟩ : ∃ N, a'.1.q.length = N := ⟨_, rfl⟩
        have HNN : Hid (a'.1.q.length = N) := hN
        rw [hN] at cq n16
        clear hN
        go_wp2_with fail
        go_loopw [26] (fun c wq => ∃ (t l2 : Nat) (a2 : Hp × M.σ), c = .int .i64 t ∧ t ≤ N ∧ Pg M w wq F hb qb g l2 a2 ∧ roundN M (N - t) t l2 a2 = roundN M N 0 l' a') (fun c _ => N - (intOf c).toNat)
        case atStart => exact ⟨0, l', a', rfl, by omega, HQ.out.1, rfl⟩
        case round =>
          obtain ⟨t, l2, a2, rfl, ht, hp2, hr2⟩ := hrel
          have H2 : Hid (Pg M w wr F hb qb g l2 a2 ∧ roundN M (N - t) t l2 a2 = roundN M N 0 l' a') := ⟨hp2, hr2⟩
          clear hp2 hr2 c0 cq
          by_cases h4 : t < N
          · have t1 : (t : Int) < (N : Int) := by omega
            obtain ⟨k, hk⟩ : ∃ k, N - t = k + 1 := ⟨N - t - 1, by omega⟩
            go_wp2_with fail
            refine (prun_any H2.out.1 t 1 (by omega)).mono ?_
            rintro e w3 ⟨rfl, p3⟩
            by_cases hok : (runP M (t : Int) l2 1 a2).1 = true
            · have H3 : Hid (Pg M w w3 F hb qb g (runP M (t : Int) l2 1 a2).2.1 (runP M (t : Int) l2 1 a2).2.2 ∧ roundN M (N - (t + 1)) (t + 1) (runP M (t : Int) l2 1 a2).2.1 (runP M (t : Int) l2 1 a2).2.2 = roundN M N 0 l' a') := ⟨p3, by
                rw [← H2.out.2, hk]
                conv => rhs; unfold roundN
                rw [if_pos hok, show N - (t + 1) = k by omega]⟩
              rw [hok]
              clear p3 hok H2
              go_wp2
              go_roundw
              case rel => exact ⟨t + 1, _, _, by go_num, by omega, H3.out.1, H3.out.2⟩
              case measure => simp [intOf]; omega
            · have hok' : (runP M (t : Int) l2 1 a2).1 = false := by simpa using hok
              have hrn : roundN M N 0 l' a' = runP M (t : Int) l2 1 a2 := by
                rw [← H2.out.2, hk]
                conv => lhs; unfold roundN
                rw [if_neg hok]
              have H3 : Hid (Pg M w w3 F hb qb g (runP M (t : Int) l2 1 a2).2.1 (runP M (t : Int) l2 1 a2).2.2 ∧ r = runP M (t : Int) l2 1 a2) := ⟨p3, by
                rw [← HQ.out.2, roundsA_no HN.out (by rw [HNN.out, hrn]; exact hok), HNN.out, hrn]⟩
              rw [hok']
              clear p3 hok H2 hrn
              go_wp2
              go_ret
              rw [H3.out.2]
              exact ⟨by rw [hok']; rfl, H3.out.1⟩
          · have hk : N - t = 0 := by omega
            have hrn : roundN M N 0 l' a' = (true, l2, a2) := by rw [← H2.out.2, hk]; rfl
            have H3 : Hid (Pg M w wr F hb qb g l2 a2 ∧ roundsA M (y - 1) l2 a2 = r) := ⟨H2.out.1, by
              rw [← HQ.out.2, roundsA_on HN.out (by rw [HNN.out, hrn]), HNN.out, hrn]⟩
            clear hrn H2
            have hyw : IntKind.i64.wrap (y - 1) = y - 1 := by rw [IntKind.wrap_i64]; omega
            go_wp2
            go_roundw
            case rel => exact ⟨y - 1, l2, a2, rfl, by omega, H3.out.1, H3.out.2⟩
            case measure => simp [intOf]; omega
    · have HE : Hid (roundsA M y l' a' = (true, l', a')) := roundsA_end (.inl (by omega))
      go_wp2
      go_ret
      rw [← HQ.out.2, HE.out]
      exact ⟨rfl, HQ.out.1⟩
/-- A pick, played. -/
def pickP (M : Mc) (p : Int × Int × Int) (lf : Nat) (a : Hp × M.σ) : Bool × Nat × (Hp × M.σ) :=
  if p.1 = 1 then runP M p.2.1 lf 1 a else if p.1 = 2 then runP M p.2.1 lf p.2.2 a else if p.1 = 5 then finA M p.2.1 lf a else if p.1 = 4 then roundsA M p.2.2 lf a else if p.1 = 6 then roundsA M 9223372036854775807 lf a else (true, lf, a)
theorem ppick_any {M : Mc} {w wr : World} {F : Nat → Prop} {hb qb g lf : Nat} {a : Hp × M.σ} (p : Pg M w wr F hb qb g lf a) (k x nn : Int) (hn : nn ≤ 9223372036854775807) :
    Calls Tryz.prog 49 #[.pointer (some ⟨g, 0, none⟩), .agg #[.int .i64 k, .int .i64 x, .int .i64 nn]] wr fun e w' => e = .returned (.bool (pickP M (k, x, nn) lf a).1) ∧ Pg M w w' F hb qb g (pickP M (k, x, nn) lf a).2.1 (pickP M (k, x, nn) lf a).2.2 := by
  have HP : Hid (Pg M w (wr.alloc (.cells #[.int .i64 k, .int .i64 x, .int .i64 nn] 110)) F hb qb g lf a) := p.still ((Keeps.refl _ _).alloc _)
  clear p
  by_cases k1 : k = 1
  · subst k1
    have e : pickP M (1, x, nn) lf a = runP M x lf 1 a := rfl
    rw [e]
    go_enter Tryz.func49, Tryz.ntmps49
    go_wp2_with fail
    refine (prun_any HP.out x 1 (by omega)).mono ?_
    rintro e w1 ⟨rfl, hw⟩
    have HW : Hid (Pg M w w1 F hb qb g (runP M x lf 1 a).2.1 (runP M x lf 1 a).2.2) := hw
    clear hw HP
    go_wp2
    go_ret
    exact ⟨rfl, HW.out⟩
  by_cases k2 : k = 2
  · subst k2
    have e : pickP M (2, x, nn) lf a = runP M x lf nn a := rfl
    rw [e]
    go_enter Tryz.func49, Tryz.ntmps49
    go_wp2_with fail
    refine (prun_any HP.out x nn hn).mono ?_
    rintro e w1 ⟨rfl, hw⟩
    have HW : Hid (Pg M w w1 F hb qb g (runP M x lf nn a).2.1 (runP M x lf nn a).2.2) := hw
    clear hw HP
    go_wp2
    go_ret
    exact ⟨rfl, HW.out⟩
  by_cases k5 : k = 5
  · subst k5
    have e : pickP M (5, x, nn) lf a = finA M x lf a := rfl
    rw [e]
    go_enter Tryz.func49, Tryz.ntmps49
    go_wp2_with fail
    refine (pfin_any HP.out x).mono ?_
    rintro e w1 ⟨rfl, hw⟩
    have HW : Hid (Pg M w w1 F hb qb g (finA M x lf a).2.1 (finA M x lf a).2.2) := hw
    clear hw HP
    go_wp2
    go_ret
    exact ⟨rfl, HW.out⟩
  by_cases k4 : k = 4
  · subst k4
    have e : pickP M (4, x, nn) lf a = roundsA M nn lf a := rfl
    rw [e]
    go_enter Tryz.func49, Tryz.ntmps49
    go_wp2_with fail
    refine (prounds_any HP.out nn hn).mono ?_
    rintro e w1 ⟨rfl, hw⟩
    have HW : Hid (Pg M w w1 F hb qb g (roundsA M nn lf a).2.1 (roundsA M nn lf a).2.2) := hw
    clear hw HP
    go_wp2
    go_ret
    exact ⟨rfl, HW.out⟩
  by_cases k6 : k = 6
  · subst k6
    have e : pickP M (6, x, nn) lf a = roundsA M 9223372036854775807 lf a := rfl
    rw [e]
    go_enter Tryz.func49, Tryz.ntmps49
    go_wp2_with fail
    refine (prounds_any HP.out 9223372036854775807 (by decide)).mono ?_
    rintro e w1 ⟨rfl, hw⟩
    have HW : Hid (Pg M w w1 F hb qb g (roundsA M 9223372036854775807 lf a).2.1 (roundsA M 9223372036854775807 lf a).2.2) := hw
    clear hw HP
    go_wp2
    go_ret
    exact ⟨rfl, HW.out⟩
  have e : pickP M (k, x, nn) lf a = (true, lf, a) := by simp [pickP, k1, k2, k5, k4, k6]
  rw [e]
  go_enter Tryz.func49, Tryz.ntmps49
  go_wp2
  go_ret
  exact ⟨rfl, HP.out⟩
end Go.Proofs.YteekompojgbkhaaGreat

namespace Go.Proofs.YteekompojgbkhaaGreat
open Go.ChangeShapes Go.WideShapes Go.ChangeAt Go.RowKit Go.MuLone Go.RwLone
set_option linter.unusedVariables false
set_option maxRecDepth 100000
set_option maxHeartbeats 3200000
/-- Picks, played. -/
def playP (M : Mc) : List (Int × Int × Int) → Nat → (Hp × M.σ) → Bool × Nat × (Hp × M.σ)
  | [], l, a => (true, l, a)
  | p :: ps, l, a => if (pickP M p l a).1 then playP M ps (pickP M p l a).2.1 (pickP M p l a).2.2 else pickP M p l a
/-- What Play answers. -/
def retP (b : Bool) (l bd : Nat) : Value := if b then .tuple #[.int .i64 ((bd : Int) - (l : Int)), .int .i64 0] else .tuple #[.int .i64 (bd : Int), .int .i64 34]
/-- A row of picks in sight, in a block that is none of Fb's. -/
def PkR (w : World) (Fb : Nat → Prop) (v : Value) (vs : List (Int × Int × Int)) : Prop :=
  ∃ ao cap, v = .slice ao vs.length cap ∧ vs.length ≤ 140737488355328 ∧ (∀ p ∈ vs, p.2.2 ≤ 9223372036854775807) ∧ ∀ i (hi : i < vs.length), ∃ b off, ao = some ⟨b, off, none⟩ ∧ ¬ Fb b ∧ b < w.heap.size ∧ w.cell? ⟨b, off + i * 3, none⟩ = some (.int .i64 vs[i].1) ∧ w.cell? ⟨b, off + i * 3 + 1, none⟩ = some (.int .i64 vs[i].2.1) ∧ w.cell? ⟨b, off + i * 3 + 2, none⟩ = some (.int .i64 vs[i].2.2)
theorem PkR.keeps {w w' : World} {Fb D : Nat → Prop} {v : Value} {vs : List (Int × Int × Int)} (h : PkR w Fb v vs) (k : Keeps D w w') (hD : ∀ x, D x → Fb x ∨ w.heap.size ≤ x) : PkR w' Fb v vs := by
  obtain ⟨ao, cap, e, h1, h2, h3⟩ := h
  refine ⟨ao, cap, e, h1, h2, fun i hi => ?_⟩
  obtain ⟨b, off, e1, e2, e3, e4, e5, e6⟩ := h3 i hi
  have hn : ¬ D b := fun e => (hD b e).elim e2 (fun e => by omega)
  exact ⟨b, off, e1, e2, Nat.lt_of_lt_of_le e3 k.size, (k.cell (p := ⟨b, off + i * 3, none⟩) e3 hn).trans e4, (k.cell (p := ⟨b, off + i * 3 + 1, none⟩) e3 hn).trans e5, (k.cell (p := ⟨b, off + i * 3 + 2, none⟩) e3 hn).trans e6⟩
theorem PkR.more {w : World} {F G : Nat → Prop} {v : Value} {vs : List (Int × Int × Int)} (h : PkR w (fun x => F x ∨ G x) v vs) (g : Nat) (hg : w.heap.size ≤ g) : PkR w (fun x => F x ∨ G x ∨ x = g) v vs := by
  obtain ⟨ao, cap, e, h1, h2, h3⟩ := h
  refine ⟨ao, cap, e, h1, h2, fun i hi => ?_⟩
  obtain ⟨b, off, e1, e2, e3, e4⟩ := h3 i hi
  refine ⟨b, off, e1, ?_, e3, e4⟩
  rintro (e | e | e)
  · exact e2 (.inl e)
  · exact e2 (.inr e)
  · omega
abbrev plW2 (w : World) (hb : Nat) (bd : Nat) : World := w.alloc (.cells #[.pointer (some ⟨hb, 0, none⟩), .int .i64 (bd : Int)] 108)
theorem Pg.start {M : Mc} {w : World} {F : Nat → Prop} {hb qb bd : Nat} {a : Hp × M.σ} {qv : Nat → Value} {ev en : Value} (m : Hm w F M.pt hb qb qv ev en a.1) (o : M.ok w a.2) (d : ∀ y, F y → ¬ M.F y) (iv : Iv M.N a.1) (hm : bd ≤ 9223372036854775807) : Pg M (plW2 w hb bd) (plW2 w hb bd) F hb qb w.heap.size bd a := by
  have k : Keeps (fun _ => False) w (plW2 w hb bd) := (Keeps.refl _ _).alloc _
  exact ⟨⟨F, qv, ev, en, m.still k, fun _ e => .inl e, d⟩, M.still o k, Keeps.refl _ _, heap_alloc_last _ _ _ rfl, by rw [szAl]; omega, fun e => by have := m.lt _ e; omega, fun e => by have := M.lt o e; omega, iv, hm⟩
/-- What a play leaves, told from the world ahead of it. -/
theorem Pg.mids {M : Mc} {w wr : World} {F : Nat → Prop} {hb qb lf bd : Nat} {a : Hp × M.σ} (p : Pg M (plW2 w hb bd) wr F hb qb w.heap.size lf a) : ∃ F' qv ev en, Mid M w wr F hb qb F' qv ev en a.1 a.2 := by
  obtain ⟨F', qv, ev, en, m, f, d⟩ := p.mid
  have sz : (plW2 w hb bd).heap.size = w.heap.size + 1 := szAl _ _
  refine ⟨F', qv, ev, en, m, p.o, ⟨p.k.os, p.k.tape, p.k.output, by have := p.k.size; omega, fun y hy hn => (p.k.block y (by omega) ?_).trans (Below.heap_alloc _ _ _ hy)⟩, fun y hy => (f y hy).elim .inl (fun e => .inr (by omega)), d⟩
  rintro (e | e | e)
  · exact hn (.inl e)
  · exact hn (.inr e)
  · omega
theorem hplay_any (M : Mc) (w : World) (F : Nat → Prop) (hb qb : Nat) (qv : Nat → Value) (ev en : Value) (a : Hp × M.σ) (m : Hm w F M.pt hb qb qv ev en a.1) (o : M.ok w a.2) (d : ∀ y, F y → ¬ M.F y) (iv : Iv M.N a.1) (bd : Nat) (hm : bd ≤ 9223372036854775807) (v : Value) (vs : List (Int × Int × Int)) (hv : PkR w (fun x => F x ∨ M.F x) v vs) :
    Calls Tryz.prog 26 #[.pointer (some ⟨hb, 0, none⟩), .int .i64 (bd : Int), v] w fun e w' => e = .returned (retP (playP M vs bd a).1 (playP M vs bd a).2.1 bd) ∧ Iv M.N (playP M vs bd a).2.2.1 ∧ ∃ F' qv' ev' en', Mid M w w' F hb qb F' qv' ev' en' (playP M vs bd a).2.2.1 (playP M vs bd a).2.2.2 := by
  obtain ⟨r, hr⟩ : ∃ r, playP M vs bd a = r := ⟨_, rfl⟩
  rw [hr]
  have HP : Hid (Pg M (plW2 w hb bd) (plW2 w hb bd) F hb qb w.heap.size bd a ∧ playP M vs bd a = r) := ⟨Pg.start m o d iv hm, hr⟩
  have HV : Hid (PkR (plW2 w hb bd) (fun x => F x ∨ M.F x ∨ x = w.heap.size) v vs) := (hv.more w.heap.size (Nat.le_refl _)).keeps (D := fun _ => False) ((Keeps.refl _ _).alloc _) (fun _ e => e.elim)
  obtain ⟨ao, cap, rfl, hlen, hnn, -⟩ := hv
  have HN : Hid (∀ p ∈ vs, p.2.2 ≤ 9223372036854775807) := hnn
  have hb0 : ¬ (bd : Int) < 0 := by omega
  have hsz : w.heap.size < (plW2 w hb bd).heap.size := by rw [szAl]; omega
  clear m o d iv hnn hr
  go_enter Tryz.func26, Tryz.ntmps26
  go_wp2_with fail
  go_loopw [20] (fun c wq => ∃ (t l' : Nat) (a' : Hp × M.σ), c = .int .i64 t ∧ t ≤ vs.length ∧ Pg M (plW2 w hb bd) wq F hb qb w.heap.size l' a' ∧ playP M (vs.drop t) l' a' = r) (fun c _ => vs.length - (intOf c).toNat)
  case atStart => exact ⟨0, bd, a, rfl, by omega, HP.out.1, HP.out.2⟩
  case round =>
    obtain ⟨t, l', a', rfl, ht, hp, hr⟩ := hrel
    have HQ : Hid (Pg M (plW2 w hb bd) wr F hb qb w.heap.size l' a' ∧ playP M (vs.drop t) l' a' = r) := ⟨hp, hr⟩
    clear hr HP
    by_cases h4 : t < vs.length
    · obtain ⟨ao', cap', e1, -, -, h3⟩ := HV.out.keeps hp.k (fun x e => .inl e)
      injection e1 with e1 e2 e3
      subst e1 e3
      obtain ⟨b, off, rfl, -, -, q0, q1, q2⟩ := h3 t h4
      have t0 : (0 : Int) ≤ (t : Int) := Int.natCast_nonneg _
      have t1 : (t : Int) < (vs.length : Int) := by omega
      have HK : Hid (vs[t].2.2 ≤ 9223372036854775807) := HN.out _ (List.getElem_mem h4)
      have HE : Hid (playP M (vs.drop t) l' a' = if (pickP M vs[t] l' a').1 then playP M (vs.drop (t + 1)) (pickP M vs[t] l' a').2.1 (pickP M vs[t] l' a').2.2 else pickP M vs[t] l' a') := by
        show _ = _
        rw [List.drop_eq_getElem_cons h4]
        rfl
      clear h3 e2 hp
      obtain ⟨⟨k, x, nn⟩, hp⟩ : ∃ p, vs[t] = p := ⟨_, rfl⟩
      rw [hp] at q0 q1 q2 HK HE
      dsimp only at q0 q1 q2 HK
      clear hp
      go_wp2_with fail
      have HQ2 : Hid (Pg M (plW2 w hb bd) (wr.alloc (.cells #[.int .i64 k, .int .i64 x, .int .i64 nn] 110)) F hb qb w.heap.size l' a') := HQ.out.1.still ((Keeps.refl _ _).alloc _)
      refine (ppick_any HQ2.out k x nn HK.out).mono ?_
      rintro e w5 ⟨rfl, p5⟩
      by_cases hok : (pickP M (k, x, nn) l' a').1 = true
      · have H5 : Hid (Pg M (plW2 w hb bd) w5 F hb qb w.heap.size (pickP M (k, x, nn) l' a').2.1 (pickP M (k, x, nn) l' a').2.2 ∧ playP M (vs.drop (t + 1)) (pickP M (k, x, nn) l' a').2.1 (pickP M (k, x, nn) l' a').2.2 = r) := ⟨p5, by rw [← HQ.out.2, HE.out, if_pos hok]⟩
        rw [hok]
        clear p5 HQ HQ2 HE HK q0 q1 q2 hok
        go_wp2
        go_roundw
        case rel => exact ⟨t + 1, _, _, by go_num, by omega, H5.out.1, H5.out.2⟩
        case measure => simp [intOf]; omega
      · have hok' : (pickP M (k, x, nn) l' a').1 = false := by simpa using hok
        have H5 : Hid (Pg M (plW2 w hb bd) w5 F hb qb w.heap.size (pickP M (k, x, nn) l' a').2.1 (pickP M (k, x, nn) l' a').2.2 ∧ r = pickP M (k, x, nn) l' a') := ⟨p5, by rw [← HQ.out.2, HE.out, if_neg hok]⟩
        rw [hok']
        clear p5 HQ HQ2 HE HK q0 q1 q2 hok
        go_wp2
        go_ret2
        rw [H5.out.2, hok']
        exact ⟨rfl, H5.out.1.iv, H5.out.1.mids⟩
    · have hr2 : r = (true, l', a') := by
        rw [← HQ.out.2, List.drop_of_length_le (by omega)]
        rfl
      have HR : Hid (r = (true, l', a')) := hr2
      have c1 := hp.c1
      have lm := hp.lm
      clear hp hr2
      have hw : IntKind.i64.wrap ((bd : Int) - (l' : Int)) = (bd : Int) - (l' : Int) := by rw [IntKind.wrap_i64]; omega
      go_wp2
      go_ret2
      rw [HR.out]
      exact ⟨rfl, HQ.out.1.iv, HQ.out.1.mids⟩
theorem hdrain_any (M : Mc) (w : World) (F : Nat → Prop) (hb qb : Nat) (qv : Nat → Value) (ev en : Value) (a : Hp × M.σ) (m : Hm w F M.pt hb qb qv ev en a.1) (o : M.ok w a.2) (d : ∀ y, F y → ¬ M.F y) (iv : Iv M.N a.1) (bd : Nat) (hm : bd ≤ 9223372036854775807) :
    Calls Tryz.prog 29 #[.pointer (some ⟨hb, 0, none⟩), .int .i64 (bd : Int)] w fun e w' => e = .returned (retP (playP M [(6, 0, 0)] bd a).1 (playP M [(6, 0, 0)] bd a).2.1 bd) ∧ Iv M.N (playP M [(6, 0, 0)] bd a).2.2.1 ∧ ∃ F' qv' ev' en', Mid M w w' F hb qb F' qv' ev' en' (playP M [(6, 0, 0)] bd a).2.2.1 (playP M [(6, 0, 0)] bd a).2.2.2 := by
  have k1 : Keeps (fun _ => False) w (w.alloc (.cells #[.int .i64 6, .int .i64 0, .int .i64 0] 110)) := (Keeps.refl _ _).alloc _
  have HV : Hid (PkR (w.alloc (.cells #[.int .i64 6, .int .i64 0, .int .i64 0] 110)) (fun x => F x ∨ M.F x) (.slice (some ⟨w.heap.size, 0, none⟩) 1 1) [(6, 0, 0)]) :=
    ⟨some ⟨w.heap.size, 0, none⟩, 1, rfl, by simp, by simp, fun i hi => by
      have : i = 0 := by simpa using hi
      subst this
      have hg := heap_alloc_last w (.cells #[.int .i64 6, .int .i64 0, .int .i64 0] 110) _ rfl
      exact ⟨w.heap.size, 0, rfl, fun e => e.elim (fun e => by have := m.lt _ e; omega) (fun e => by have := M.lt o e; omega), by simp, (cell?_heap hg 0).trans rfl, (cell?_heap hg 1).trans rfl, (cell?_heap hg 2).trans rfl⟩⟩
  have HP := hplay_any M (w.alloc (.cells #[.int .i64 6, .int .i64 0, .int .i64 0] 110)) F hb qb qv ev en a (m.still k1) (M.still o k1) d iv bd hm _ _ HV.out
  have HPP : Hid (∀ _ : Unit, _) := fun _ => HP
  have HS : Hid (Mid M w (w.alloc (.cells #[.int .i64 6, .int .i64 0, .int .i64 0] 110)) F hb qb F qv ev en a.1 a.2) := (Mid.start m o d).still k1
  clear HP m o d iv HV
  generalize playP M [(6, 0, 0)] bd a = r at *
  go_enter Tryz.func29, Tryz.ntmps29
  go_wp2_with fail
  refine (HPP.out ()).mono ?_
  rintro e w1 ⟨rfl, iv1, F1, qv1, ev1, en1, md⟩
  have HM : Hid (Iv M.N r.2.2.1 ∧ ∃ F' qv' ev' en', Mid M w w1 F hb qb F' qv' ev' en' r.2.2.1 r.2.2.2) := ⟨iv1, F1, qv1, ev1, en1, md.m, md.o, HS.out.k.trans md.k, fun y hy => (md.f y hy).elim .inl (fun e => .inr (by have := k1.size; omega)), md.d⟩
  clear iv1 md HPP HS
  have hret : ∃ x y, retP r.1 r.2.1 bd = .tuple #[.int .i64 x, .int .i64 y] := by unfold retP; split <;> exact ⟨_, _, rfl⟩
  obtain ⟨x, y, hxy⟩ := hret
  have HXY : Hid (retP r.1 r.2.1 bd = .tuple #[.int .i64 x, .int .i64 y]) := hxy
  rw [hxy]
  clear hxy
  go_wp2
  go_ret2
  rw [HXY.out]
  exact ⟨rfl, HM.out⟩
end Go.Proofs.YteekompojgbkhaaGreat
