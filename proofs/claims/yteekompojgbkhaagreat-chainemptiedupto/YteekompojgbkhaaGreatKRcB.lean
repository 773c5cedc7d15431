import Derived.Test.YteekompojgbkhaaGreatKRbI
namespace Go.Proofs.YteekompojgbkhaaGreat
open Go.ChangeShapes Go.WideShapes Go.ChangeAt Go.RowKit Go.MuLone Go.RwLone
set_option linter.unusedVariables false
set_option maxRecDepth 100000
set_option maxHeartbeats 3200000
theorem RstR.ah {w : World} {R : RL} {cap : Nat} {qv : Value} {Q : List Nat} {X : XL} {hc mb : Nat} {S : AS} {r : Bool} {c : CS} {st : Nat} {co bu sl wd ah pr be : Int} {ma : Bool} {he : Int} {e : Ending} {w' : World} (h : RstR w R cap qv Q X hc mb S (r, c, ⟨st, co, bu, sl, wd, ah, pr, be, ma, he⟩) e w') (ah2 : Int) (hs : ¬ (st = 4 ∨ st = 5)) : RstR w R cap qv Q X hc mb S (r, c, ⟨st, co, bu, sl, wd, ah2, pr, be, ma, he⟩) e w' := by
  obtain ⟨h0, h1, ⟨a1, a2, a3, a4, a5, h2, p1, p2, p3, p4, p5, p6, p7⟩, k⟩ := h
  exact ⟨h0, h1, ⟨a1, a2, a3, a4, a5, h2, p1, p2, p3, p4, p5, fun e => absurd e hs, p7⟩, k⟩
end Go.Proofs.YteekompojgbkhaaGreat

namespace Go.Proofs.YteekompojgbkhaaGreat
open Go.ChangeShapes Go.WideShapes Go.ChangeAt Go.RowKit Go.MuLone Go.RwLone
set_option linter.unusedVariables false
/-- What the machines leave as it was. -/
def Same (S : AS) (x : XS) (c : CS) : Prop := c.S.n = S.n ∧ c.S.wd = S.wd ∧ c.S.use = S.use ∧ c.x.cell = x.cell ∧ c.x.nb = x.nb
theorem WdOk.put {S : AS} {x : XS} {i : Nat} {y : Int} (h : WdOk S x) (hy : LkOk y) : WdOk (put1 S i y) x := ⟨fun j => by
  show LkOk (upd S.word i y j)
  unfold upd
  split
  · exact hy
  · exact h.1 j, h.2⟩
theorem WdOk.head {S : AS} {x : XS} {b : Nat} {y : Int} (h : WdOk S x) (hy : LkOk y) : WdOk S { x.cn1 with hd := upd x.hd b y } := ⟨h.1, fun j hj => by
  show LkOk (upd x.hd b y j)
  unfold upd
  split
  · exact hy
  · exact h.2 j hj⟩
theorem WdOk.acc {S : AS} {x : XS} (h : WdOk S x) : WdOk (acc1 S) x := ⟨h.1, h.2⟩
theorem WdOk.mis {S : AS} {x : XS} (h : WdOk S x) : WdOk (mis1 S) x := ⟨h.1, h.2⟩
theorem WdOk.cn {S : AS} {x : XS} (h : WdOk S x) : WdOk S x.cn1 := ⟨h.1, h.2⟩
theorem liv_le {S : AS} {s : Int} (h : liv S s = true) (hn : S.n ≤ 4096) : 1 ≤ s ∧ s ≤ 4096 := by
  obtain ⟨k, h1, h2, -⟩ := liv_yes h
  omega
theorem ins_keep (S : AS) (x : XS) (m : MI) (h : WdOk S x) (hn : S.n ≤ 4096) (ho : insOk x m) (hd : m.st = 2 → LkOk m.hd) : WdOk (insP S x m).2.1.S (insP S x m).2.1.x ∧ insOk (insP S x m).2.1.x (insP S x m).2.2 ∧ ((insP S x m).2.2.st = 2 → LkOk (insP S x m).2.2.hd) ∧ Same S x (insP S x m).2.1 := by
  obtain ⟨st, code, bu, sl, hdv, tr⟩ := m
  match st with
  | 0 =>
    by_cases hb : inB x bu = true
    · by_cases hl : liv S sl = true
      · by_cases hz : S.word (atC S sl x.cell) = 0
        · have e : insP S x ⟨0, code, bu, sl, hdv, tr⟩ = (false, ⟨acc1 S, x⟩, ⟨1, code, bu, sl, hdv, tr⟩) := by
            show (if _ then _ else _) = _
            rw [if_pos hb, if_pos hl, if_pos hz]
          rw [e]
          exact ⟨h.acc, fun _ _ => ⟨hb, liv_le hl hn⟩, fun e => absurd e (show ¬ 1 = 2 by decide), rfl, rfl, rfl, rfl, rfl⟩
        · have e : insP S x ⟨0, code, bu, sl, hdv, tr⟩ = (true, ⟨acc1 S, x⟩, ⟨4, 41, bu, sl, hdv, tr⟩) := by
            show (if _ then _ else _) = _
            rw [if_pos hb, if_pos hl, if_neg hz]
          rw [e]
          exact ⟨h.acc, fun _ e => absurd e (show ¬ 4 ≤ 3 by decide), fun e => absurd e (show ¬ 4 = 2 by decide), rfl, rfl, rfl, rfl, rfl⟩
      · have e : insP S x ⟨0, code, bu, sl, hdv, tr⟩ = (true, ⟨mis1 S, x⟩, ⟨4, 22, bu, sl, hdv, tr⟩) := by
          show (if _ then _ else _) = _
          rw [if_pos hb, if_neg hl]
        rw [e]
        exact ⟨h.mis, fun _ e => absurd e (show ¬ 4 ≤ 3 by decide), fun e => absurd e (show ¬ 4 = 2 by decide), rfl, rfl, rfl, rfl, rfl⟩
    · have e : insP S x ⟨0, code, bu, sl, hdv, tr⟩ = (true, ⟨S, x⟩, ⟨4, 40, bu, sl, hdv, tr⟩) := by
        show (if _ then _ else _) = _
        rw [if_neg hb]
      rw [e]
      exact ⟨h, fun _ e => absurd e (show ¬ 4 ≤ 3 by decide), fun e => absurd e (show ¬ 4 = 2 by decide), rfl, rfl, rfl, rfl, rfl⟩
  | 1 =>
    have o := ho (show 1 ≤ 1 by decide) (show 1 ≤ 3 by decide)
    obtain ⟨b, hb1, hbb⟩ := inB_yes o.1
    have hbb : bu = (b : Int) := hbb
    exact ⟨h.cn, fun _ _ => o, fun _ => h.2 _ (by show bu.toNat < x.nb; omega), rfl, rfl, rfl, rfl, rfl⟩
  | 2 =>
    have o := ho (show 1 ≤ 2 by decide) (show 2 ≤ 3 by decide)
    by_cases hl : liv S sl = true
    · have e : insP S x ⟨2, code, bu, sl, hdv, tr⟩ = (false, ⟨put1 S (atC S sl x.cell) hdv, x⟩, ⟨3, code, bu, sl, hdv, tr⟩) := by
        show (if _ then _ else _) = _
        rw [if_pos hl]
      rw [e]
      exact ⟨h.put (hd rfl), fun _ _ => o, fun e => absurd e (show ¬ 3 = 2 by decide), rfl, rfl, rfl, rfl, rfl⟩
    · have e : insP S x ⟨2, code, bu, sl, hdv, tr⟩ = (true, ⟨mis1 S, x⟩, ⟨4, 22, bu, sl, hdv, tr⟩) := by
        show (if _ then _ else _) = _
        rw [if_neg hl]
      rw [e]
      exact ⟨h.mis, fun _ e => absurd e (show ¬ 4 ≤ 3 by decide), fun e => absurd e (show ¬ 4 = 2 by decide), rfl, rfl, rfl, rfl, rfl⟩
  | 3 =>
    have o := ho (show 1 ≤ 3 by decide) (show 3 ≤ 3 by decide)
    have o2 : 1 ≤ sl ∧ sl ≤ 4096 := o.2
    by_cases hu : x.hd bu.toNat = hdv
    · have e : insP S x ⟨3, code, bu, sl, hdv, tr⟩ = (true, ⟨S, { x.cn1 with hd := upd x.hd bu.toNat (2 * sl) }⟩, ⟨4, 0, bu, sl, hdv, tr⟩) := by
        show (if _ then _ else _) = _
        rw [if_pos hu]
      rw [e]
      exact ⟨h.head ⟨by omega, by omega⟩, fun _ e => absurd e (show ¬ 4 ≤ 3 by decide), fun e => absurd e (show ¬ 4 = 2 by decide), rfl, rfl, rfl, rfl, rfl⟩
    · have e : insP S x ⟨3, code, bu, sl, hdv, tr⟩ = (false, ⟨S, x.cn1⟩, ⟨1, code, bu, sl, hdv, wrap64 (tr + 1)⟩) := by
        show (if _ then _ else _) = _
        rw [if_neg hu]
      rw [e]
      exact ⟨h.cn, fun _ _ => o, fun e => absurd e (show ¬ 1 = 2 by decide), rfl, rfl, rfl, rfl, rfl⟩
  | n + 4 => exact ⟨h, ho, fun e => absurd e (show ¬ n + 4 = 2 by omega), rfl, rfl, rfl, rfl, rfl⟩
end Go.Proofs.YteekompojgbkhaaGreat

namespace Go.Proofs.YteekompojgbkhaaGreat
open Go.ChangeShapes Go.WideShapes Go.ChangeAt Go.RowKit Go.MuLone Go.RwLone
set_option linter.unusedVariables false
theorem rok6 (x : XS) (m : MR) (h : 6 ≤ m.st) : remOk x m := ⟨fun _ e => absurd e (by omega), fun e => absurd e (by omega), fun e => absurd e (by omega)⟩
theorem rokB (x : XS) (m : MR) (hb : inB x m.bu = true) (h2 : ¬ m.st = 2) (h5 : ¬ m.st = 5) : remOk x m := ⟨fun _ _ => hb, fun e => absurd e h2, fun e => absurd e h5⟩
theorem mv_ok (x : XS) (m : MR) (n : Int) (hb : inB x m.bu = true) : remOk x (mvR m n).2 := by
  by_cases h : 4096 < n
  · have e : mvR m n = (true, { m with st := 6, co := 0 }) := if_pos h
    rw [e]
    exact rok6 _ _ (Nat.le_refl 6)
  · have e : mvR m n = (false, { m with pr := n, st := 4 }) := if_neg h
    rw [e]
    exact rokB _ _ hb (show ¬ 4 = 2 by decide) (show ¬ 4 = 5 by decide)
def RKeep (S : AS) (x : XS) (p : Bool × CS × MR) : Prop := WdOk p.2.1.S p.2.1.x ∧ remOk p.2.1.x p.2.2 ∧ Same S x p.2.1
theorem own_keep (S : AS) (x : XS) (m : MR) (h : WdOk S x) (hb : inB x m.bu = true) : RKeep S x (ownR S x m) := by
  unfold ownR
  by_cases hl : liv S m.sl = true
  · rw [if_pos hl]
    by_cases hz : S.word (atC S m.sl x.cell) = 0
    · rw [if_pos hz]
      exact ⟨h.acc, rok6 _ _ (Nat.le_refl 6), rfl, rfl, rfl, rfl, rfl⟩
    · rw [if_neg hz]
      by_cases hm : (S.word (atC S m.sl x.cell) % 2 == 1) = true
      · rw [if_pos hm]
        exact ⟨h.acc, rokB _ _ hb (show ¬ 3 = 2 by decide) (show ¬ 3 = 5 by decide), rfl, rfl, rfl, rfl, rfl⟩
      · rw [if_neg hm]
        exact ⟨h.acc, ⟨fun _ _ => hb, fun _ => h.1 _, fun e => absurd e (show ¬ 2 = 5 by decide)⟩, rfl, rfl, rfl, rfl, rfl⟩
  · rw [if_neg hl]
    exact ⟨h.mis, rok6 _ _ (Nat.le_refl 6), rfl, rfl, rfl, rfl, rfl⟩
theorem ah_keep (S : AS) (x : XS) (bu ah u y : Int) (h : WdOk S x) (hy : LkOk y) : WdOk (ahR S x bu ah u y).2.2.S (ahR S x bu ah u y).2.2.x ∧ Same S x (ahR S x bu ah u y).2.2 := by
  unfold ahR
  by_cases ha : ah = 0
  · rw [if_pos ha]
    by_cases hu : x.hd bu.toNat = u
    · rw [if_pos hu]
      exact ⟨h.head hy, rfl, rfl, rfl, rfl, rfl⟩
    · rw [if_neg hu]
      exact ⟨h.cn, rfl, rfl, rfl, rfl, rfl⟩
  · rw [if_neg ha]
    by_cases hl : liv S ah = true
    · rw [if_pos hl]
      by_cases hu : S.word (atC S ah x.cell) = u
      · rw [if_pos hu]
        exact ⟨h.put hy, rfl, rfl, rfl, rfl, rfl⟩
      · rw [if_neg hu]
        exact ⟨h.acc, rfl, rfl, rfl, rfl, rfl⟩
    · rw [if_neg hl]
      exact ⟨h.mis, rfl, rfl, rfl, rfl, rfl⟩
theorem inB_same {S : AS} {x : XS} {c : CS} (h : Same S x c) (b : Int) : inB c.x b = inB x b := by
  unfold inB
  rw [h.2.2.2.2]
theorem unl_keep (S : AS) (x : XS) (m : MR) (q : Bool × Int × CS) (hb : inB x m.bu = true) (h : WdOk q.2.2.S q.2.2.x ∧ Same S x q.2.2) : RKeep S x (unlR m q) := by
  have hb2 : inB q.2.2.x m.bu = true := (inB_same h.2 m.bu).trans hb
  unfold unlR
  by_cases h0 : q.2.1 = 0
  · rw [if_pos h0]
    by_cases h1 : q.1 = true
    · rw [if_pos h1]
      by_cases h2 : m.pr = m.sl
      · rw [if_pos h2]
        exact ⟨h.1, rok6 _ _ (Nat.le_refl 6), h.2⟩
      · rw [if_neg h2]
        exact ⟨h.1, mv_ok _ _ _ hb2, h.2⟩
    · rw [if_neg h1]
      exact ⟨h.1, rokB _ _ hb2 (show ¬ 3 = 2 by decide) (show ¬ 3 = 5 by decide), h.2⟩
  · rw [if_neg h0]
    exact ⟨h.1, rok6 _ _ (Nat.le_refl 6), h.2⟩
theorem rem_keep (S : AS) (x : XS) (m : MR) (h : WdOk S x) (hn : S.n ≤ 4096) (ho : remOk x m) : RKeep S x (remP S x m) := by
  obtain ⟨st, co, bu, sl, wd, ah, pr, be, ma, he⟩ := m
  match st with
  | 0 =>
    by_cases hb : inB x bu = true
    · have e : remP S x ⟨0, co, bu, sl, wd, ah, pr, be, ma, he⟩ = ownR S x ⟨0, co, bu, sl, wd, ah, pr, be, ma, he⟩ := if_pos hb
      rw [e]
      exact own_keep S x _ h hb
    · have e : remP S x ⟨0, co, bu, sl, wd, ah, pr, be, ma, he⟩ = (true, ⟨S, x⟩, ⟨6, 40, bu, sl, wd, ah, pr, be, ma, he⟩) := if_neg hb
      rw [e]
      exact ⟨h, rok6 _ _ (Nat.le_refl 6), rfl, rfl, rfl, rfl, rfl⟩
  | 1 => exact own_keep S x _ h (ho.1 (show 1 ≤ 1 by decide) (show 1 ≤ 5 by decide))
  | 2 =>
    have hb := ho.1 (show 1 ≤ 2 by decide) (show 2 ≤ 5 by decide)
    have hw : LkOk wd := ho.2.1 rfl
    by_cases hl : liv S sl = true
    · by_cases hu : S.word (atC S sl x.cell) = wd
      · have e : remP S x ⟨2, co, bu, sl, wd, ah, pr, be, ma, he⟩ = (false, ⟨put1 S (atC S sl x.cell) (2 * (wd / 2) + 1), x⟩, ⟨3, co, bu, sl, wd, ah, pr, be, true, he⟩) := (if_pos hl).trans (if_pos hu)
        rw [e]
        exact ⟨h.put ⟨by have := hw.1; omega, by have := hw.2; omega⟩, rokB _ _ hb (show ¬ 3 = 2 by decide) (show ¬ 3 = 5 by decide), rfl, rfl, rfl, rfl, rfl⟩
      · have e : remP S x ⟨2, co, bu, sl, wd, ah, pr, be, ma, he⟩ = (false, ⟨acc1 S, x⟩, ⟨1, co, bu, sl, wd, ah, pr, be, ma, he⟩) := (if_pos hl).trans (if_neg hu)
        rw [e]
        exact ⟨h.acc, rokB _ _ hb (show ¬ 1 = 2 by decide) (show ¬ 1 = 5 by decide), rfl, rfl, rfl, rfl, rfl⟩
    · have e : remP S x ⟨2, co, bu, sl, wd, ah, pr, be, ma, he⟩ = (true, ⟨mis1 S, x⟩, ⟨6, 22, bu, sl, wd, ah, pr, be, ma, he⟩) := if_neg hl
      rw [e]
      exact ⟨h.mis, rok6 _ _ (Nat.le_refl 6), rfl, rfl, rfl, rfl, rfl⟩
  | 3 =>
    have hb := ho.1 (show 1 ≤ 3 by decide) (show 3 ≤ 5 by decide)
    exact ⟨h.cn, mv_ok _ _ _ hb, rfl, rfl, rfl, rfl, rfl⟩
  | 4 =>
    have hb := ho.1 (show 1 ≤ 4 by decide) (show 4 ≤ 5 by decide)
    by_cases hl : liv S pr = true
    · by_cases hz : S.word (atC S pr x.cell) / 2 = 0
      · have e : remP S x ⟨4, co, bu, sl, wd, ah, pr, be, ma, he⟩ = (true, ⟨acc1 S, x⟩, ⟨6, 42, bu, sl, wd, ah, pr, be, ma, he⟩) := (if_pos hl).trans (if_pos hz)
        rw [e]
        exact ⟨h.acc, rok6 _ _ (Nat.le_refl 6), rfl, rfl, rfl, rfl, rfl⟩
      · by_cases hm : (S.word (atC S pr x.cell) % 2 == 1) = true
        · have e : remP S x ⟨4, co, bu, sl, wd, ah, pr, be, ma, he⟩ = (false, ⟨acc1 S, x⟩, ⟨5, co, bu, sl, wd, ah, pr, S.word (atC S pr x.cell) / 2, ma, he⟩) := ((if_pos hl).trans (if_neg hz)).trans (if_pos hm)
          rw [e]
          have l1 := liv_le hl hn
          have l2 := h.1 (atC S pr x.cell)
          exact ⟨h.acc, ⟨fun _ _ => hb, fun e => absurd e (show ¬ 5 = 2 by decide), fun _ => ⟨⟨by show 0 ≤ pr; omega, by show pr ≤ 2147483647; omega⟩, ⟨by show 0 ≤ S.word (atC S pr x.cell) / 2; have := l2.1; omega, by show S.word (atC S pr x.cell) / 2 ≤ 2147483647; have := l2.2; omega⟩⟩⟩, rfl, rfl, rfl, rfl, rfl⟩
        · have e : remP S x ⟨4, co, bu, sl, wd, ah, pr, be, ma, he⟩ = ((mvR ⟨4, co, bu, sl, wd, pr, pr, be, ma, he⟩ (S.word (atC S pr x.cell) / 2)).1, ⟨acc1 S, x⟩, (mvR ⟨4, co, bu, sl, wd, pr, pr, be, ma, he⟩ (S.word (atC S pr x.cell) / 2)).2) := ((if_pos hl).trans (if_neg hz)).trans (if_neg hm)
          rw [e]
          exact ⟨h.acc, mv_ok _ _ _ hb, rfl, rfl, rfl, rfl, rfl⟩
    · have e : remP S x ⟨4, co, bu, sl, wd, ah, pr, be, ma, he⟩ = (true, ⟨mis1 S, x⟩, ⟨6, 22, bu, sl, wd, ah, pr, be, ma, he⟩) := if_neg hl
      rw [e]
      exact ⟨h.mis, rok6 _ _ (Nat.le_refl 6), rfl, rfl, rfl, rfl, rfl⟩
  | 5 =>
    have hb := ho.1 (show 1 ≤ 5 by decide) (show 5 ≤ 5 by decide)
    have hq : (0 ≤ pr ∧ pr ≤ 2147483647) ∧ (0 ≤ be ∧ be ≤ 2147483647) := ho.2.2 rfl
    exact unl_keep S x _ _ hb (ah_keep S x bu ah (2 * pr) (2 * be) h ⟨by omega, by omega⟩)
  | n + 6 => exact ⟨h, ho, rfl, rfl, rfl, rfl, rfl⟩
end Go.Proofs.YteekompojgbkhaaGreat
