import Derived.Test.YtdjklcmkcccpeaaGreatRbJ
namespace Go.Proofs.YtdjklcmkcccpeaaGreat
open Go.ChangeShapes Go.WideShapes Go.ChangeAt Go.RowKit Go.MuLone Go.RwLone
set_option linter.unusedVariables false
/-- What the machines leave as it was. -/
def Same (S : AS) (x : XS) (c : CS) : Prop := c.S.n = S.n ∧ c.S.wd = S.wd ∧ c.S.use = S.use ∧ c.x.cell = x.cell ∧ c.x.nb = x.nb
theorem WdOk.put {S : AS} {x : XS} {i : Nat} {y : Int} (h : WdOk S x) (hy : LkOk y) : WdOk (put1 S i y) x := ⟨fun j => by
  show LkOk (upd S.word i y j)
  unfold upd
  split
  · exact hy
  · exact h.1 j, h.2⟩
theorem WdOk.head {S : AS} {x : XS} {b : Nat} {y : Int} (h : WdOk S x) (hy : LkOk y) : WdOk S { x.cn1 with hd := upd x.hd b y } := ⟨h.1, fun j hj => by
  show LkOk (upd x.hd b y j)
  unfold upd
  split
  · exact hy
  · exact h.2 j hj⟩
theorem WdOk.acc {S : AS} {x : XS} (h : WdOk S x) : WdOk (acc1 S) x := ⟨h.1, h.2⟩
theorem WdOk.mis {S : AS} {x : XS} (h : WdOk S x) : WdOk (mis1 S) x := ⟨h.1, h.2⟩
theorem WdOk.cn {S : AS} {x : XS} (h : WdOk S x) : WdOk S x.cn1 := ⟨h.1, h.2⟩
theorem same0 (S : AS) (x : XS) : Same S x ⟨S, x⟩ := ⟨rfl, rfl, rfl, rfl, rfl⟩
theorem liv_le {S : AS} {s : Int} (h : liv S s = true) (hn : S.n ≤ 4096) : 1 ≤ s ∧ s ≤ 4096 := by
  obtain ⟨k, h1, h2, -⟩ := liv_yes h
  omega
theorem ins_keep (S : AS) (x : XS) (m : MI) (h : WdOk S x) (hn : S.n ≤ 4096) (ho : insOk x m) (hd : m.st = 2 → LkOk m.hd) : WdOk (insP S x m).2.1.S (insP S x m).2.1.x ∧ insOk (insP S x m).2.1.x (insP S x m).2.2 ∧ ((insP S x m).2.2.st = 2 → LkOk (insP S x m).2.2.hd) ∧ Same S x (insP S x m).2.1 := by
  obtain ⟨st, code, bu, sl, hdv, tr⟩ := m
  match st with
  | 0 =>
    by_cases hb : inB x bu = true
    · by_cases hl : liv S sl = true
      · by_cases hz : S.word (atC S sl x.cell) = 0
        · have e : insP S x ⟨0, code, bu, sl, hdv, tr⟩ = (false, ⟨acc1 S, x⟩, ⟨1, code, bu, sl, hdv, tr⟩) := by
            show (if _ then _ else _) = _
            rw [if_pos hb, if_pos hl, if_pos hz]
          rw [e]
          exact ⟨h.acc, fun _ _ => ⟨hb, liv_le hl hn⟩, fun e => absurd e (show ¬ 1 = 2 by decide), rfl, rfl, rfl, rfl, rfl⟩
        · have e : insP S x ⟨0, code, bu, sl, hdv, tr⟩ = (true, ⟨acc1 S, x⟩, ⟨4, 41, bu, sl, hdv, tr⟩) := by
            show (if _ then _ else _) = _
            rw [if_pos hb, if_pos hl, if_neg hz]
          rw [e]
          exact ⟨h.acc, fun _ e => absurd e (show ¬ 4 ≤ 3 by decide), fun e => absurd e (show ¬ 4 = 2 by decide), rfl, rfl, rfl, rfl, rfl⟩
      · have e : insP S x ⟨0, code, bu, sl, hdv, tr⟩ = (true, ⟨mis1 S, x⟩, ⟨4, 22, bu, sl, hdv, tr⟩) := by
          show (if _ then _ else _) = _
          rw [if_pos hb, if_neg hl]
        rw [e]
        exact ⟨h.mis, fun _ e => absurd e (show ¬ 4 ≤ 3 by decide), fun e => absurd e (show ¬ 4 = 2 by decide), rfl, rfl, rfl, rfl, rfl⟩
    · have e : insP S x ⟨0, code, bu, sl, hdv, tr⟩ = (true, ⟨S, x⟩, ⟨4, 40, bu, sl, hdv, tr⟩) := by
        show (if _ then _ else _) = _
        rw [if_neg hb]
      rw [e]
      exact ⟨h, fun _ e => absurd e (show ¬ 4 ≤ 3 by decide), fun e => absurd e (show ¬ 4 = 2 by decide), rfl, rfl, rfl, rfl, rfl⟩
  | 1 =>
    have o := ho (show 1 ≤ 1 by decide) (show 1 ≤ 3 by decide)
    obtain ⟨b, hb1, hbb⟩ := inB_yes o.1
    have hbb : bu = (b : Int) := hbb
    exact ⟨h.cn, fun _ _ => o, fun _ => h.2 _ (by show bu.toNat < x.nb; omega), rfl, rfl, rfl, rfl, rfl⟩
  | 2 =>
    have o := ho (show 1 ≤ 2 by decide) (show 2 ≤ 3 by decide)
    by_cases hl : liv S sl = true
    · have e : insP S x ⟨2, code, bu, sl, hdv, tr⟩ = (false, ⟨put1 S (atC S sl x.cell) hdv, x⟩, ⟨3, code, bu, sl, hdv, tr⟩) := by
        show (if _ then _ else _) = _
        rw [if_pos hl]
      rw [e]
      exact ⟨h.put (hd rfl), fun _ _ => o, fun e => absurd e (show ¬ 3 = 2 by decide), rfl, rfl, rfl, rfl, rfl⟩
    · have e : insP S x ⟨2, code, bu, sl, hdv, tr⟩ = (true, ⟨mis1 S, x⟩, ⟨4, 22, bu, sl, hdv, tr⟩) := by
        show (if _ then _ else _) = _
        rw [if_neg hl]
      rw [e]
      exact ⟨h.mis, fun _ e => absurd e (show ¬ 4 ≤ 3 by decide), fun e => absurd e (show ¬ 4 = 2 by decide), rfl, rfl, rfl, rfl, rfl⟩
  | 3 =>
    have o := ho (show 1 ≤ 3 by decide) (show 3 ≤ 3 by decide)
    have o2 : 1 ≤ sl ∧ sl ≤ 4096 := o.2
    by_cases hu : x.hd bu.toNat = hdv
    · have e : insP S x ⟨3, code, bu, sl, hdv, tr⟩ = (true, ⟨S, { x.cn1 with hd := upd x.hd bu.toNat (2 * sl) }⟩, ⟨4, 0, bu, sl, hdv, tr⟩) := by
        show (if _ then _ else _) = _
        rw [if_pos hu]
      rw [e]
      exact ⟨h.head ⟨by omega, by omega⟩, fun _ e => absurd e (show ¬ 4 ≤ 3 by decide), fun e => absurd e (show ¬ 4 = 2 by decide), rfl, rfl, rfl, rfl, rfl⟩
    · have e : insP S x ⟨3, code, bu, sl, hdv, tr⟩ = (false, ⟨S, x.cn1⟩, ⟨1, code, bu, sl, hdv, wrap64 (tr + 1)⟩) := by
        show (if _ then _ else _) = _
        rw [if_neg hu]
      rw [e]
      exact ⟨h.cn, fun _ _ => o, fun e => absurd e (show ¬ 1 = 2 by decide), rfl, rfl, rfl, rfl, rfl⟩
  | n + 4 => exact ⟨h, ho, fun e => absurd e (show ¬ n + 4 = 2 by omega), rfl, rfl, rfl, rfl, rfl⟩
theorem look_ok (m : MW) (n : Int) (h : m.ended = false) (hc : m.code = 0) : wlkOk (lookW m n).2 := by
  unfold lookW
  split
  · exact ⟨rfl, fun e => absurd e (show ¬ 3 ≤ 2 by decide), fun e => absurd e (show ¬ 3 ≤ 1 by decide), fun e => absurd e (show ¬ 3 = 1 by decide)⟩
  · split
    · split
      · exact ⟨rfl, fun e => absurd e (show ¬ 3 ≤ 2 by decide), fun e => absurd e (show ¬ 3 ≤ 1 by decide), fun e => absurd e (show ¬ 3 = 1 by decide)⟩
      · exact ⟨rfl, fun e => absurd e (show ¬ 3 ≤ 2 by decide), fun e => absurd e (show ¬ 3 ≤ 1 by decide), fun e => absurd e (show ¬ 3 = 1 by decide)⟩
    · exact ⟨h, fun _ => hc, fun e => absurd e (show ¬ 2 ≤ 1 by decide), fun e => absurd e (show ¬ 2 = 1 by decide)⟩
theorem fail_ok (m : MW) (c : Int) : wlkOk (failW m c) := ⟨rfl, fun e => absurd e (show ¬ 3 ≤ 2 by decide), fun e => absurd e (show ¬ 3 ≤ 1 by decide), fun e => absurd e (show ¬ 3 = 1 by decide)⟩
theorem wlk_keep (S : AS) (x : XS) (m : MW) (h : WdOk S x) (ho : wlkOk m) : WdOk (wlkP S x m).2.1.S (wlkP S x m).2.1.x ∧ wlkOk (wlkP S x m).2.2 ∧ Same S x (wlkP S x m).2.1 := by
  obtain ⟨st, src, own, slot, pend, ended, code⟩ := m
  match st with
  | 0 =>
    have e1 : ended = false := ho.1
    have e2 : code = 0 := ho.2.1 (show 0 ≤ 2 by decide)
    by_cases hb : inB x src = true
    · have e : wlkP S x ⟨0, src, own, slot, pend, ended, code⟩ = ((lookW ⟨0, src, 4097 + src, slot, pend, ended, code⟩ (x.hd src.toNat / 2)).1, ⟨S, x.cn1⟩, (lookW ⟨0, src, 4097 + src, slot, pend, ended, code⟩ (x.hd src.toNat / 2)).2) := by
        show (if _ then _ else _) = _
        rw [if_pos hb]
      rw [e]
      exact ⟨h.cn, look_ok _ _ e1 e2, rfl, rfl, rfl, rfl, rfl⟩
    · have e : wlkP S x ⟨0, src, own, slot, pend, ended, code⟩ = (true, ⟨S, x⟩, failW ⟨0, src, own, slot, pend, ended, code⟩ 40) := by
        show (if _ then _ else _) = _
        rw [if_neg hb]
      rw [e]
      exact ⟨h, fail_ok _ _, rfl, rfl, rfl, rfl, rfl⟩
  | 1 =>
    have e1 : ended = false := ho.1
    have e2 : code = 0 := ho.2.1 (show 1 ≤ 2 by decide)
    by_cases hb : liv S src = true
    · have e : wlkP S x ⟨1, src, own, slot, pend, ended, code⟩ = ((lookW ⟨1, src, own, slot, pend, ended, code⟩ (S.word (atC S src x.cell) / 2)).1, ⟨acc1 S, x⟩, (lookW ⟨1, src, own, slot, pend, ended, code⟩ (S.word (atC S src x.cell) / 2)).2) := by
        show (if _ then _ else _) = _
        rw [if_pos hb]
      rw [e]
      exact ⟨h.acc, look_ok _ _ e1 e2, rfl, rfl, rfl, rfl, rfl⟩
    · have e : wlkP S x ⟨1, src, own, slot, pend, ended, code⟩ = (true, ⟨mis1 S, x⟩, failW ⟨1, src, own, slot, pend, ended, code⟩ 22) := by
        show (if _ then _ else _) = _
        rw [if_neg hb]
      rw [e]
      exact ⟨h.mis, fail_ok _ _, rfl, rfl, rfl, rfl, rfl⟩
  | 2 =>
    have e1 : ended = false := ho.1
    have e2 : code = 0 := ho.2.1 (show 2 ≤ 2 by decide)
    by_cases hb : liv S pend = true
    · have e : wlkP S x ⟨2, src, own, slot, pend, ended, code⟩ = ((lookW ⟨2, src, own, if S.word (atC S pend x.cell) % 2 == 1 then 0 else pend, pend, ended, code⟩ (S.word (atC S pend x.cell) / 2)).1, ⟨acc1 S, x⟩, (lookW ⟨2, src, own, if S.word (atC S pend x.cell) % 2 == 1 then 0 else pend, pend, ended, code⟩ (S.word (atC S pend x.cell) / 2)).2) := by
        show (if _ then _ else _) = _
        rw [if_pos hb]
      rw [e]
      exact ⟨h.acc, look_ok _ _ e1 e2, rfl, rfl, rfl, rfl, rfl⟩
    · have e : wlkP S x ⟨2, src, own, slot, pend, ended, code⟩ = (true, ⟨mis1 S, x⟩, failW ⟨2, src, own, slot, pend, ended, code⟩ 22) := by
        show (if _ then _ else _) = _
        rw [if_neg hb]
      rw [e]
      exact ⟨h.mis, fail_ok _ _, rfl, rfl, rfl, rfl, rfl⟩
  | n + 3 => exact ⟨h, ⟨ho.1, ho.2.1, fun e => absurd e (show ¬ n + 3 ≤ 1 by omega), ho.2.2.2⟩, rfl, rfl, rfl, rfl, rfl⟩
end Go.Proofs.YtdjklcmkcccpeaaGreat
