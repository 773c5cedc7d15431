import Derived.Test.YtdjklcmkcccpeaaGreatRcA
namespace Go.Proofs.YtdjklcmkcccpeaaGreat
open Go.ChangeShapes Go.WideShapes Go.ChangeAt Go.RowKit Go.MuLone Go.RwLone
set_option linter.unusedVariables false
theorem rok6 (x : XS) (m : MR) (h : 6 ≤ m.st) : remOk x m := ⟨fun _ e => absurd e (by omega), fun e => absurd e (by omega), fun e => absurd e (by omega)⟩
theorem rokB (x : XS) (m : MR) (hb : inB x m.bu = true) (h2 : ¬ m.st = 2) (h5 : ¬ m.st = 5) : remOk x m := ⟨fun _ _ => hb, fun e => absurd e h2, fun e => absurd e h5⟩
theorem mv_ok (x : XS) (m : MR) (n : Int) (hb : inB x m.bu = true) : remOk x (mvR m n).2 := by
  by_cases h : 4096 < n
  · have e : mvR m n = (true, { m with st := 6, co := 0 }) := if_pos h
    rw [e]
    exact rok6 _ _ (Nat.le_refl 6)
  · have e : mvR m n = (false, { m with pr := n, st := 4 }) := if_neg h
    rw [e]
    exact rokB _ _ hb (show ¬ 4 = 2 by decide) (show ¬ 4 = 5 by decide)
def RKeep (S : AS) (x : XS) (p : Bool × CS × MR) : Prop := WdOk p.2.1.S p.2.1.x ∧ remOk p.2.1.x p.2.2 ∧ Same S x p.2.1
theorem own_keep (S : AS) (x : XS) (m : MR) (h : WdOk S x) (hb : inB x m.bu = true) : RKeep S x (ownR S x m) := by
  unfold ownR
  by_cases hl : liv S m.sl = true
  · rw [if_pos hl]
    by_cases hz : S.word (atC S m.sl x.cell) = 0
    · rw [if_pos hz]
      exact ⟨h.acc, rok6 _ _ (Nat.le_refl 6), rfl, rfl, rfl, rfl, rfl⟩
    · rw [if_neg hz]
      by_cases hm : (S.word (atC S m.sl x.cell) % 2 == 1) = true
      · rw [if_pos hm]
        exact ⟨h.acc, rokB _ _ hb (show ¬ 3 = 2 by decide) (show ¬ 3 = 5 by decide), rfl, rfl, rfl, rfl, rfl⟩
      · rw [if_neg hm]
        exact ⟨h.acc, ⟨fun _ _ => hb, fun _ => h.1 _, fun e => absurd e (show ¬ 2 = 5 by decide)⟩, rfl, rfl, rfl, rfl, rfl⟩
  · rw [if_neg hl]
    exact ⟨h.mis, rok6 _ _ (Nat.le_refl 6), rfl, rfl, rfl, rfl, rfl⟩
theorem ah_keep (S : AS) (x : XS) (bu ah u y : Int) (h : WdOk S x) (hy : LkOk y) : WdOk (ahR S x bu ah u y).2.2.S (ahR S x bu ah u y).2.2.x ∧ Same S x (ahR S x bu ah u y).2.2 := by
  unfold ahR
  by_cases ha : ah = 0
  · rw [if_pos ha]
    by_cases hu : x.hd bu.toNat = u
    · rw [if_pos hu]
      exact ⟨h.head hy, rfl, rfl, rfl, rfl, rfl⟩
    · rw [if_neg hu]
      exact ⟨h.cn, rfl, rfl, rfl, rfl, rfl⟩
  · rw [if_neg ha]
    by_cases hl : liv S ah = true
    · rw [if_pos hl]
      by_cases hu : S.word (atC S ah x.cell) = u
      · rw [if_pos hu]
        exact ⟨h.put hy, rfl, rfl, rfl, rfl, rfl⟩
      · rw [if_neg hu]
        exact ⟨h.acc, rfl, rfl, rfl, rfl, rfl⟩
    · rw [if_neg hl]
      exact ⟨h.mis, rfl, rfl, rfl, rfl, rfl⟩
theorem inB_same {S : AS} {x : XS} {c : CS} (h : Same S x c) (b : Int) : inB c.x b = inB x b := by
  unfold inB
  rw [h.2.2.2.2]
theorem unl_keep (S : AS) (x : XS) (m : MR) (q : Bool × Int × CS) (hb : inB x m.bu = true) (h : WdOk q.2.2.S q.2.2.x ∧ Same S x q.2.2) : RKeep S x (unlR m q) := by
  have hb2 : inB q.2.2.x m.bu = true := (inB_same h.2 m.bu).trans hb
  unfold unlR
  by_cases h0 : q.2.1 = 0
  · rw [if_pos h0]
    by_cases h1 : q.1 = true
    · rw [if_pos h1]
      by_cases h2 : m.pr = m.sl
      · rw [if_pos h2]
        exact ⟨h.1, rok6 _ _ (Nat.le_refl 6), h.2⟩
      · rw [if_neg h2]
        exact ⟨h.1, mv_ok _ _ _ hb2, h.2⟩
    · rw [if_neg h1]
      exact ⟨h.1, rokB _ _ hb2 (show ¬ 3 = 2 by decide) (show ¬ 3 = 5 by decide), h.2⟩
  · rw [if_neg h0]
    exact ⟨h.1, rok6 _ _ (Nat.le_refl 6), h.2⟩
theorem rem_keep (S : AS) (x : XS) (m : MR) (h : WdOk S x) (hn : S.n ≤ 4096) (ho : remOk x m) : RKeep S x (remP S x m) := by
  obtain ⟨st, co, bu, sl, wd, ah, pr, be, ma, he⟩ := m
  match st with
  | 0 =>
    by_cases hb : inB x bu = true
    · have e : remP S x ⟨0, co, bu, sl, wd, ah, pr, be, ma, he⟩ = ownR S x ⟨0, co, bu, sl, wd, ah, pr, be, ma, he⟩ := if_pos hb
      rw [e]
      exact own_keep S x _ h hb
    · have e : remP S x ⟨0, co, bu, sl, wd, ah, pr, be, ma, he⟩ = (true, ⟨S, x⟩, ⟨6, 40, bu, sl, wd, ah, pr, be, ma, he⟩) := if_neg hb
      rw [e]
      exact ⟨h, rok6 _ _ (Nat.le_refl 6), rfl, rfl, rfl, rfl, rfl⟩
  | 1 => exact own_keep S x _ h (ho.1 (show 1 ≤ 1 by decide) (show 1 ≤ 5 by decide))
  | 2 =>
    have hb := ho.1 (show 1 ≤ 2 by decide) (show 2 ≤ 5 by decide)
    have hw : LkOk wd := ho.2.1 rfl
    by_cases hl : liv S sl = true
    · by_cases hu : S.word (atC S sl x.cell) = wd
      · have e : remP S x ⟨2, co, bu, sl, wd, ah, pr, be, ma, he⟩ = (false, ⟨put1 S (atC S sl x.cell) (2 * (wd / 2) + 1), x⟩, ⟨3, co, bu, sl, wd, ah, pr, be, true, he⟩) := (if_pos hl).trans (if_pos hu)
        rw [e]
        exact ⟨h.put ⟨by have := hw.1; omega, by have := hw.2; omega⟩, rokB _ _ hb (show ¬ 3 = 2 by decide) (show ¬ 3 = 5 by decide), rfl, rfl, rfl, rfl, rfl⟩
      · have e : remP S x ⟨2, co, bu, sl, wd, ah, pr, be, ma, he⟩ = (false, ⟨acc1 S, x⟩, ⟨1, co, bu, sl, wd, ah, pr, be, ma, he⟩) := (if_pos hl).trans (if_neg hu)
        rw [e]
        exact ⟨h.acc, rokB _ _ hb (show ¬ 1 = 2 by decide) (show ¬ 1 = 5 by decide), rfl, rfl, rfl, rfl, rfl⟩
    · have e : remP S x ⟨2, co, bu, sl, wd, ah, pr, be, ma, he⟩ = (true, ⟨mis1 S, x⟩, ⟨6, 22, bu, sl, wd, ah, pr, be, ma, he⟩) := if_neg hl
      rw [e]
      exact ⟨h.mis, rok6 _ _ (Nat.le_refl 6), rfl, rfl, rfl, rfl, rfl⟩
  | 3 =>
    have hb := ho.1 (show 1 ≤ 3 by decide) (show 3 ≤ 5 by decide)
    exact ⟨h.cn, mv_ok _ _ _ hb, rfl, rfl, rfl, rfl, rfl⟩
  | 4 =>
    have hb := ho.1 (show 1 ≤ 4 by decide) (show 4 ≤ 5 by decide)
    by_cases hl : liv S pr = true
    · by_cases hz : S.word (atC S pr x.cell) / 2 = 0
      · have e : remP S x ⟨4, co, bu, sl, wd, ah, pr, be, ma, he⟩ = (true, ⟨acc1 S, x⟩, ⟨6, 42, bu, sl, wd, ah, pr, be, ma, he⟩) := (if_pos hl).trans (if_pos hz)
        rw [e]
        exact ⟨h.acc, rok6 _ _ (Nat.le_refl 6), rfl, rfl, rfl, rfl, rfl⟩
      · by_cases hm : (S.word (atC S pr x.cell) % 2 == 1) = true
        · have e : remP S x ⟨4, co, bu, sl, wd, ah, pr, be, ma, he⟩ = (false, ⟨acc1 S, x⟩, ⟨5, co, bu, sl, wd, ah, pr, S.word (atC S pr x.cell) / 2, ma, he⟩) := ((if_pos hl).trans (if_neg hz)).trans (if_pos hm)
          rw [e]
          have l1 := liv_le hl hn
          have l2 := h.1 (atC S pr x.cell)
          exact ⟨h.acc, ⟨fun _ _ => hb, fun e => absurd e (show ¬ 5 = 2 by decide), fun _ => ⟨⟨by show 0 ≤ pr; omega, by show pr ≤ 2147483647; omega⟩, ⟨by show 0 ≤ S.word (atC S pr x.cell) / 2; have := l2.1; omega, by show S.word (atC S pr x.cell) / 2 ≤ 2147483647; have := l2.2; omega⟩⟩⟩, rfl, rfl, rfl, rfl, rfl⟩
        · have e : remP S x ⟨4, co, bu, sl, wd, ah, pr, be, ma, he⟩ = ((mvR ⟨4, co, bu, sl, wd, pr, pr, be, ma, he⟩ (S.word (atC S pr x.cell) / 2)).1, ⟨acc1 S, x⟩, (mvR ⟨4, co, bu, sl, wd, pr, pr, be, ma, he⟩ (S.word (atC S pr x.cell) / 2)).2) := ((if_pos hl).trans (if_neg hz)).trans (if_neg hm)
          rw [e]
          exact ⟨h.acc, mv_ok _ _ _ hb, rfl, rfl, rfl, rfl, rfl⟩
    · have e : remP S x ⟨4, co, bu, sl, wd, ah, pr, be, ma, he⟩ = (true, ⟨mis1 S, x⟩, ⟨6, 22, bu, sl, wd, ah, pr, be, ma, he⟩) := if_neg hl
      rw [e]
      exact ⟨h.mis, rok6 _ _ (Nat.le_refl 6), rfl, rfl, rfl, rfl, rfl⟩
  | 5 =>
    have hb := ho.1 (show 1 ≤ 5 by decide) (show 5 ≤ 5 by decide)
    have hq : (0 ≤ pr ∧ pr ≤ 2147483647) ∧ (0 ≤ be ∧ be ≤ 2147483647) := ho.2.2 rfl
    exact unl_keep S x _ _ hb (ah_keep S x bu ah (2 * pr) (2 * be) h ⟨by omega, by omega⟩)
  | n + 6 => exact ⟨h, ho, rfl, rfl, rfl, rfl, rfl⟩
end Go.Proofs.YtdjklcmkcccpeaaGreat
