import Derived.Test.YteekompojgbkhaaGreatKBqO
namespace Go.Proofs.YteekompojgbkhaaGreat
open Go.ChangeShapes Go.WideShapes Go.ChangeAt Go.RowKit Go.MuLone Go.RwLone
set_option linter.unusedVariables false
set_option linter.unusedSectionVars false
section
variable {N : Nat} {nb : Int} {bk : Int → Int} {S S' : AS} {x x' : XS} {G G' : Gb}
theorem frB_iff (G : Gb) (m : MR) : frB G m = true ↔ ((m.ah = 0 ∧ G.H m.bu = 2 * m.pr) ∨ (¬ m.ah = 0 ∧ G.W m.ah = 2 * m.pr)) := by
  unfold frB
  by_cases e : m.ah = 0
  · rw [if_pos e, decide_eq_true_eq]
    constructor
    · intro h; exact .inl ⟨e, h⟩
    · rintro (h | h)
      · exact h.2
      · exact absurd e h.1
  · rw [if_neg e, decide_eq_true_eq]
    constructor
    · intro h; exact .inr ⟨e, h⟩
    · rintro (h | h)
      · exact absurd h.1 e
      · exact h.2
/-- What a step of a Remove does to what is left of it. -/
def RPot (N : Nat) (nb : Int) (bk : Int → Int) (G G' : Gb) (m m' : MR) : Prop := Dsc N nb bk G G' ∧ (Still N nb G G' → rLf G' m' + 1 ≤ rLf G m) ∧ rAl G' m' + 1 ≤ rAl G m
/-- A move to a slot behind the head or behind a slot that is not marked. -/
theorem mv_pot (m : MR) (n : Int) (k : Nat) (rr : G'.ranks = G.ranks) (hn : ¬ 4096 < n → (G'.rank n).toNat + 1 ≤ k ∧ frB G' (mvR m n).2 = true) (r k1 : Nat) (a1 : k + 2 ≤ r) (a2 : 2 * k + 1 ≤ k1) (hr1 : 1 ≤ r) : rLf G' (mvR m n).2 + 1 ≤ r ∧ rAl G' (mvR m n).2 + 1 ≤ k1 := by
  by_cases h : 4096 < n
  · have e : mvR m n = (true, { m with st := 6, co := 0 }) := if_pos h
    rw [e]
    exact ⟨hr1, by show 0 + 1 ≤ k1; omega⟩
  · have e : mvR m n = (false, { m with pr := n, st := 4 }) := if_neg h
    have hn := hn h
    rw [e] at hn ⊢
    have hn2 : frB G' { m with pr := n, st := 4 } = true := hn.2
    constructor
    · show (if frB G' { m with pr := n, st := 4 } || decide (G'.W n % 2 = 0) then (G'.rank n).toNat + 2 else G'.ranks.toNat + 4) + 1 ≤ r
      rw [hn2, Bool.true_or, if_pos rfl]
      omega
    · show (if frB G' { m with pr := n, st := 4 } then 2 * (G'.rank n).toNat + 2 else 2 * (G'.rank n).toNat + 3 + 2 * G'.ranks.toNat) + 1 ≤ k1
      rw [hn2, if_pos rfl]
      omega
theorem own_pot (hl : Lnk N nb S x G) (h : GbInv N nb bk G) (hN : N ≤ 4096) (m : MR) (b0 : 0 ≤ m.bu) (hm : RemI N bk G m) (h1 : m.st ≤ 1) (hl' : Lnk N nb (ownR S x m).2.1.S (ownR S x m).2.1.x G') (f1 : G'.ins = G.ins) (f2 : G'.rank = G.rank) (f3 : G'.ranks = G.ranks) (f4 : (ownR S x m).2.2.ma = m.ma → G'.rem = G.rem) : RPot N nb bk G G' m (ownR S x m).2.2 := by
  have un := hm.un (by omega)
  have hv := hl.lv _ hm.g.1 hm.g.2.1
  have hw := hl.w _ hm.g.1 hm.g.2.1
  have n0 := ((h.nx _ _ hm.g).end_or (by omega) b0).2.2
  have z : ¬ S.word (atC S m.sl x.cell) = 0 := fun e => n0 (by rw [hw, e]; rfl)
  have k : ¬ (S.word (atC S m.sl x.cell) % 2 == 1) = true := fun e => by
    have := (h.mrk _ _ hm.g).1 (by rw [hw]; exact eq_of_beq e)
    have := un.2
    omega
  have e : ownR S x m = (false, ⟨acc1 S, x⟩, { m with st := 2, wd := S.word (atC S m.sl x.cell) }) := by
    unfold ownR
    rw [if_pos hv, if_neg z, if_neg k]
  rw [e] at hl' f4 ⊢
  have st := still_of hl hl' (fun _ => rfl) (fun t _ _ _ => rfl) f1 (f4 rfl) f2 f3
  have ew : G'.W m.sl = S.word (atC S m.sl x.cell) := by rw [st.W _ hm.g.1 hm.g.2.1 hm.g.2.2.1, hw]
  have l0 : rLf G m = 2 := by
    unfold rLf
    rcases (by omega : m.st = 0 ∨ m.st = 1) with e | e <;> simp only [e]
  have l1 : rAl G m = 2 * G.ranks.toNat + 3 := by
    unfold rAl
    rcases (by omega : m.st = 0 ∨ m.st = 1) with e | e <;> simp only [e]
  refine ⟨.inl st, fun _ => ?_, ?_⟩
  · rw [l0]
    show (if G'.W m.sl = S.word (atC S m.sl x.cell) then 1 else 3) + 1 ≤ 2
    rw [if_pos ew]
    exact Nat.le_refl 2
  · rw [l1]
    show (if G'.W m.sl = S.word (atC S m.sl x.cell) then 2 * G'.ranks.toNat + 2 else 2 * G'.ranks.toNat + 4) + 1 ≤ _
    rw [if_pos ew, f3]
    exact Nat.le_refl _
theorem rem_pot (hl : Lnk N nb S x G) (h : GbInv N nb bk G) (hN : N ≤ 4096) (hr : G.ranks ≤ 4096) (hb : ∀ s, 0 ≤ bk s ∧ bk s < nb) (m : MR) (hm : RemI N bk G m) (h5 : m.st ≤ 5) (hl' : Lnk N nb (remP S x m).2.1.S (remP S x m).2.1.x G') (f1 : G'.ins = G.ins) (f2 : G'.rank = G.rank) (f3 : G'.ranks = G.ranks) (f4 : ((remP S x m).2.2.ma = m.ma ∧ G'.rem = G.rem) ∨ (m.ma = false ∧ (remP S x m).2.2.ma = true ∧ G'.rem = updI G.rem m.sl 2)) : RPot N nb bk G G' m (remP S x m).2.2 := by
  have b0 : 0 ≤ m.bu := by rw [← hm.g.2.2.2]; exact (hb _).1
  have b1 : m.bu < nb := by rw [← hm.g.2.2.2]; exact (hb _).2
  have hi := hl.inb b0 b1
  have hv := hl.lv _ hm.g.1 hm.g.2.1
  have hw := hl.w _ hm.g.1 hm.g.2.1
  have fm : (remP S x m).2.2.ma = m.ma → G'.rem = G.rem := fun e => by
    rcases f4 with f | f
    · exact f.2
    · rw [f.1, f.2.1] at e
      cases e
  have hH := hl.h m.bu b0 b1
  have hx := h.hx m.bu b0 b1
  obtain ⟨st, co, bu, sl, wd, ah, pr, be, ma, he⟩ := m
  simp only at b0 b1 hi hv hw h5 hH hx
  match st with
  | 0 =>
    have e : remP S x ⟨0, co, bu, sl, wd, ah, pr, be, ma, he⟩ = ownR S x ⟨0, co, bu, sl, wd, ah, pr, be, ma, he⟩ := by
      show (if inB x bu then _ else _) = _
      rw [if_pos hi]
    rw [e] at hl' fm ⊢
    exact own_pot hl h hN _ b0 hm (Nat.zero_le _) hl' f1 f2 f3 fm
  | 1 => exact own_pot hl h hN _ b0 hm (Nat.le_refl _) hl' f1 f2 f3 fm
  | 2 =>
    have un : ma = false ∧ G.rem sl = 1 := hm.un (Nat.le_refl _)
    have g : Gin N bk G bu sl := hm.g
    by_cases e1 : S.word (atC S sl x.cell) = wd
    · have e : remP S x ⟨2, co, bu, sl, wd, ah, pr, be, ma, he⟩ = (false, ⟨put1 S (atC S sl x.cell) (2 * (wd / 2) + 1), x⟩, ⟨3, co, bu, sl, wd, ah, pr, be, true, he⟩) := by
        show (if liv S sl then (if S.word (atC S sl x.cell) = wd then _ else _) else _) = _
        rw [if_pos hv, if_pos e1]
      rw [e] at hl' f4 ⊢
      have fr : G'.rem = updI G.rem sl 2 := by
        rcases f4 with f | f
        · have : true = ma := f.1
          rw [un.1] at this
          cases this
        · exact f.2.2
      have ch : cG N bk G' + 1 ≤ cG N bk G := cG_mark h hN hb sl g.1 g.2.1 g.2.2.1 (by rw [un.2]; decide) (fun c c0 c1 => by rw [hl'.h c c0 c1, hl.h c c0 c1]) (fun t t1 t2 => by
        rw [hl'.w t t1 t2, hl.w t t1 t2]
        show upd S.word (atC S sl x.cell) (2 * (wd / 2) + 1) (atC S t x.cell) / 2 = _
        by_cases et : t = sl
        · subst et
          rw [upd_same, e1]
          omega
        · have := g.1
          rw [upd_other _ _ (fun e => by unfold atC at e; rw [hl.wd] at e; omega)]) f1 fr
      refine ⟨.inr ch, fun k => ?_, ?_⟩
      · have := k.rem
        rw [fr] at this
        have e2 : updI G.rem sl 2 sl = G.rem sl := by rw [this]
        rw [updI_at, un.2] at e2
        omega
      · show 2 * G'.ranks.toNat + 1 + 1 ≤ (if G.W sl = wd then 2 * G.ranks.toNat + 2 else 2 * G.ranks.toNat + 4)
        rw [f3]
        split <;> omega
    · have e : remP S x ⟨2, co, bu, sl, wd, ah, pr, be, ma, he⟩ = (false, ⟨acc1 S, x⟩, ⟨1, co, bu, sl, wd, ah, pr, be, ma, he⟩) := by
        show (if liv S sl then (if S.word (atC S sl x.cell) = wd then _ else _) else _) = _
        rw [if_pos hv, if_neg e1]
      rw [e] at hl' fm ⊢
      have k := still_of hl hl' (fun _ => rfl) (fun t _ _ _ => rfl) f1 (fm rfl) f2 f3
      refine ⟨.inl k, fun _ => ?_, ?_⟩
      · show 2 + 1 ≤ (if G.W sl = wd then 1 else 3)
        rw [if_neg (by rw [hw]; exact e1)]
        exact Nat.le_refl 3
      · show 2 * G'.ranks.toNat + 3 + 1 ≤ (if G.W sl = wd then 2 * G.ranks.toNat + 2 else 2 * G.ranks.toNat + 4)
        rw [if_neg (by rw [hw]; exact e1), f3]
        exact Nat.le_refl _
  | 3 =>
    have k := still_of (S' := S) (x' := x.cn1) hl hl' (fun _ => rfl) (fun t _ _ _ => rfl) f1 (fm (by show (mvR _ _).2.ma = ma; unfold mvR; split <;> rfl)) f2 f3
    rw [hH] at hx
    have eH : G'.H bu = x.hd bu.toNat := by rw [k.H bu b0 b1, hH]
    have mp := mv_pot (G := G) (G' := G') ⟨3, co, bu, sl, wd, 0, pr, be, ma, he⟩ (x.hd bu.toNat / 2) G.ranks.toNat f3 (fun hn => ?_) (G.ranks.toNat + 2) (2 * G.ranks.toNat + 1) (Nat.le_refl _) (Nat.le_refl _) (by omega)
    · exact ⟨.inl k, fun _ => mp.1, mp.2⟩
    · have g := (hx.1.end_or (by omega) b0).2.1 hn
      have := h.rk _ _ g
      rw [f2]
      refine ⟨by omega, ?_⟩
      have e : mvR ⟨3, co, bu, sl, wd, 0, pr, be, ma, he⟩ (x.hd bu.toNat / 2) = (false, ⟨4, co, bu, sl, wd, 0, x.hd bu.toNat / 2, be, ma, he⟩) := if_neg hn
      rw [e, frB_iff]
      exact .inl ⟨rfl, by show G'.H bu = 2 * (x.hd bu.toNat / 2); rw [eH]; omega⟩
  | 4 =>
    have gp : Gin N bk G bu pr := hm.pr (.inl rfl)
    have ga : ah = 0 ∨ Gin N bk G bu ah := hm.ah (.inl rfl)
    have pv := hl.lv _ gp.1 gp.2.1
    have pw := hl.w _ gp.1 gp.2.1
    have nx := h.nx bu pr gp
    have dn := h.dn bu pr gp
    have rk := h.rk bu pr gp
    have n0 := (nx.end_or (by omega) b0).2.2
    rw [pw] at nx n0 dn
    by_cases e1 : (S.word (atC S pr x.cell) % 2 == 1) = true
    · have e : remP S x ⟨4, co, bu, sl, wd, ah, pr, be, ma, he⟩ = (false, ⟨acc1 S, x⟩, ⟨5, co, bu, sl, wd, ah, pr, S.word (atC S pr x.cell) / 2, ma, he⟩) := by
        show (if liv S pr then (if S.word (atC S pr x.cell) / 2 = 0 then _ else if S.word (atC S pr x.cell) % 2 == 1 then _ else _) else _) = _
        rw [if_pos pv, if_neg n0, if_pos e1]
      rw [e] at hl' fm ⊢
      have k := still_of hl hl' (fun _ => rfl) (fun t _ _ _ => rfl) f1 (fm rfl) f2 f3
      have ef : frB G' ⟨5, co, bu, sl, wd, ah, pr, S.word (atC S pr x.cell) / 2, ma, he⟩ = frB G ⟨4, co, bu, sl, wd, ah, pr, be, ma, he⟩ := by
        unfold frB
        show (if ah = 0 then decide (G'.H bu = 2 * pr) else decide (G'.W ah = 2 * pr)) = (if ah = 0 then decide (G.H bu = 2 * pr) else decide (G.W ah = 2 * pr))
        by_cases e0 : ah = 0
        · rw [if_pos e0, if_pos e0, k.H bu b0 b1]
        · have ga := ga.resolve_left e0
          rw [if_neg e0, if_neg e0, k.W ah ga.1 ga.2.1 ga.2.2.1]
      have od : ¬ G.W pr % 2 = 0 := by
        have := eq_of_beq e1
        rw [pw]
        omega
      refine ⟨.inl k, fun _ => ?_, ?_⟩
      · show (if frB G' ⟨5, co, bu, sl, wd, ah, pr, S.word (atC S pr x.cell) / 2, ma, he⟩ then 1 else G'.ranks.toNat + 3) + 1 ≤ (if frB G ⟨4, co, bu, sl, wd, ah, pr, be, ma, he⟩ || decide (G.W pr % 2 = 0) then (G.rank pr).toNat + 2 else G.ranks.toNat + 4)
        rw [ef, f3, decide_eq_false od, Bool.or_false]
        split <;> omega
      · show (if frB G' ⟨5, co, bu, sl, wd, ah, pr, S.word (atC S pr x.cell) / 2, ma, he⟩ then 2 * (G'.rank pr).toNat + 1 else 2 * (G'.rank pr).toNat + 2 + 2 * G'.ranks.toNat) + 1 ≤ (if frB G ⟨4, co, bu, sl, wd, ah, pr, be, ma, he⟩ then 2 * (G.rank pr).toNat + 2 else 2 * (G.rank pr).toNat + 3 + 2 * G.ranks.toNat)
        rw [ef, f3, f2]
        split <;> omega
    · have e : remP S x ⟨4, co, bu, sl, wd, ah, pr, be, ma, he⟩ = ((mvR ⟨4, co, bu, sl, wd, pr, pr, be, ma, he⟩ (S.word (atC S pr x.cell) / 2)).1, ⟨acc1 S, x⟩, (mvR ⟨4, co, bu, sl, wd, pr, pr, be, ma, he⟩ (S.word (atC S pr x.cell) / 2)).2) := by
        show (if liv S pr then (if S.word (atC S pr x.cell) / 2 = 0 then _ else if S.word (atC S pr x.cell) % 2 == 1 then _ else _) else _) = _
        rw [if_pos pv, if_neg n0, if_neg e1]
      rw [e] at hl' fm ⊢
      have k := still_of hl hl' (fun _ => rfl) (fun t _ _ _ => rfl) f1 (fm (by show (mvR _ _).2.ma = ma; unfold mvR; split <;> rfl)) f2 f3
      have ev : G.W pr % 2 = 0 := by
        have h1 : ¬ S.word (atC S pr x.cell) % 2 = 1 := fun e => e1 (beq_iff_eq.2 e)
        rw [pw]
        omega
      have l0 : rLf G ⟨4, co, bu, sl, wd, ah, pr, be, ma, he⟩ = (G.rank pr).toNat + 2 := by
        show (if frB G ⟨4, co, bu, sl, wd, ah, pr, be, ma, he⟩ || decide (G.W pr % 2 = 0) then (G.rank pr).toNat + 2 else G.ranks.toNat + 4) = _
        rw [decide_eq_true ev, Bool.or_true, if_pos rfl]
      have l1 : 2 * (G.rank pr).toNat + 2 ≤ rAl G ⟨4, co, bu, sl, wd, ah, pr, be, ma, he⟩ := by
        show _ ≤ (if frB G ⟨4, co, bu, sl, wd, ah, pr, be, ma, he⟩ then 2 * (G.rank pr).toNat + 2 else 2 * (G.rank pr).toNat + 3 + 2 * G.ranks.toNat)
        split <;> omega
      have mp := mv_pot (G := G) (G' := G') ⟨4, co, bu, sl, wd, pr, pr, be, ma, he⟩ (S.word (atC S pr x.cell) / 2) (G.rank pr).toNat f3 (fun hn => ?_) ((G.rank pr).toNat + 2) (2 * (G.rank pr).toNat + 2) (Nat.le_refl _) (by omega) (by omega)
      · refine ⟨.inl k, fun _ => ?_, Nat.le_trans mp.2 l1⟩
        rw [l0]
        exact mp.1
      · have g := (nx.end_or (by omega) b0).2.1 hn
        have := h.rk _ _ g
        have := dn g
        rw [f2]
        refine ⟨by omega, ?_⟩
        have e : mvR ⟨4, co, bu, sl, wd, pr, pr, be, ma, he⟩ (S.word (atC S pr x.cell) / 2) = (false, ⟨4, co, bu, sl, wd, pr, S.word (atC S pr x.cell) / 2, be, ma, he⟩) := if_neg hn
        rw [e, frB_iff]
        have := gp.1
        exact .inr ⟨by show ¬ pr = 0; omega, by show G'.W pr = 2 * (S.word (atC S pr x.cell) / 2); rw [k.W pr gp.1 gp.2.1 gp.2.2.1, pw]; rw [pw] at ev; omega⟩
  | 5 =>
    have g : Gin N bk G bu sl := hm.g
    have gp : Gin N bk G bu pr := hm.pr (.inr rfl)
    have ga : ah = 0 ∨ Gin N bk G bu ah := hm.ah (.inr rfl)
    have gb : G.W pr % 2 = 1 ∧ be = G.W pr / 2 := hm.be rfl
    have ebp : bk pr = bu := gp.2.2.2
    have rk := h.rk bu pr gp
    have nx := h.nx bu pr gp
    have dn := h.dn bu pr gp
    rw [← gb.2] at nx dn
    have hlP : Lnk N nb (unlR ⟨5, co, bu, sl, wd, ah, pr, be, ma, he⟩ (ahR S x bu ah (2 * pr) (2 * be))).2.1.S (unlR ⟨5, co, bu, sl, wd, ah, pr, be, ma, he⟩ (ahR S x bu ah (2 * pr) (2 * be))).2.1.x G' := hl'
    have fmP : (unlR ⟨5, co, bu, sl, wd, ah, pr, be, ma, he⟩ (ahR S x bu ah (2 * pr) (2 * be))).2.2.ma = ma → G'.rem = G.rem := fm
    show RPot N nb bk G G' _ (unlR ⟨5, co, bu, sl, wd, ah, pr, be, ma, he⟩ (ahR S x bu ah (2 * pr) (2 * be))).2.2
    have ucs : ∀ q : Bool × Int × CS, (unlR ⟨5, co, bu, sl, wd, ah, pr, be, ma, he⟩ q).2.1 = q.2.2 := fun q => by
      unfold unlR
      split
      · split
        · split <;> rfl
        · rfl
      · rfl
    have uma : ∀ q : Bool × Int × CS, (unlR ⟨5, co, bu, sl, wd, ah, pr, be, ma, he⟩ q).2.2.ma = ma := fun q => by
      unfold unlR
      split
      · split
        · split
          · rfl
          · show (mvR _ _).2.ma = ma
            unfold mvR
            split <;> rfl
        · rfl
      · rfl
    have fr := fmP (uma _)
    rw [ucs] at hlP
    clear hl' fm fmP f4
    -- a failure: nothing is changed
    have miss : ahR S x bu ah (2 * pr) (2 * be) = (false, 0, (ahR S x bu ah (2 * pr) (2 * be)).2.2) → (∀ c : Nat, (ahR S x bu ah (2 * pr) (2 * be)).2.2.x.hd c = x.hd c) → (∀ t : Int, (ahR S x bu ah (2 * pr) (2 * be)).2.2.S.word (atC (ahR S x bu ah (2 * pr) (2 * be)).2.2.S t (ahR S x bu ah (2 * pr) (2 * be)).2.2.x.cell) = S.word (atC S t x.cell)) → ¬ frB G ⟨5, co, bu, sl, wd, ah, pr, be, ma, he⟩ = true → RPot N nb bk G G' ⟨5, co, bu, sl, wd, ah, pr, be, ma, he⟩ (unlR ⟨5, co, bu, sl, wd, ah, pr, be, ma, he⟩ (ahR S x bu ah (2 * pr) (2 * be))).2.2 := fun e k1 k2 nf => by
      have k := still_of hl hlP k1 (fun t _ _ _ => k2 t) f1 fr f2 f3
      have eu : (unlR ⟨5, co, bu, sl, wd, ah, pr, be, ma, he⟩ (ahR S x bu ah (2 * pr) (2 * be))).2.2 = ⟨3, co, bu, sl, wd, ah, pr, be, ma, he⟩ := by
        rw [e]
        rfl
      rw [eu]
      refine ⟨.inl k, fun _ => ?_, ?_⟩
      · show G'.ranks.toNat + 2 + 1 ≤ (if frB G ⟨5, co, bu, sl, wd, ah, pr, be, ma, he⟩ then 1 else G.ranks.toNat + 3)
        rw [if_neg nf, f3]
        exact Nat.le_refl _
      · show 2 * G'.ranks.toNat + 1 + 1 ≤ (if frB G ⟨5, co, bu, sl, wd, ah, pr, be, ma, he⟩ then 2 * (G.rank pr).toNat + 1 else 2 * (G.rank pr).toNat + 2 + 2 * G.ranks.toNat)
        rw [if_neg nf, f3]
        omega
    have hit : ahR S x bu ah (2 * pr) (2 * be) = (true, 0, (ahR S x bu ah (2 * pr) (2 * be)).2.2) → cG N bk G' + 1 ≤ cG N bk G → frB G ⟨5, co, bu, sl, wd, ah, pr, be, ma, he⟩ = true → (∀ n c, frB G' ⟨4, co, bu, sl, wd, ah, be, be, ma, n⟩ = c → c = true) → RPot N nb bk G G' ⟨5, co, bu, sl, wd, ah, pr, be, ma, he⟩ (unlR ⟨5, co, bu, sl, wd, ah, pr, be, ma, he⟩ (ahR S x bu ah (2 * pr) (2 * be))).2.2 := fun e ch hf hf2 => by
      have la : rAl G ⟨5, co, bu, sl, wd, ah, pr, be, ma, he⟩ = 2 * (G.rank pr).toNat + 1 := by
        show (if frB G ⟨5, co, bu, sl, wd, ah, pr, be, ma, he⟩ then 2 * (G.rank pr).toNat + 1 else 2 * (G.rank pr).toNat + 2 + 2 * G.ranks.toNat) = _
        rw [if_pos hf]
      refine ⟨.inr ch, fun k => ?_, ?_⟩
      · have := k.cG h hN hb
        omega
      · rw [la, e]
        by_cases es : pr = sl
        · have eu : (unlR ⟨5, co, bu, sl, wd, ah, pr, be, ma, he⟩ (true, 0, (ahR S x bu ah (2 * pr) (2 * be)).2.2)).2.2 = ⟨6, 0, bu, sl, wd, ah, pr, be, ma, he⟩ := by
            show (if (0 : Int) = 0 then (if true = true then (if pr = sl then _ else _) else _) else _ : Bool × CS × MR).2.2 = _
            rw [if_pos rfl, if_pos rfl, if_pos es]
          rw [eu]
          show 0 + 1 ≤ _
          omega
        · have eu : (unlR ⟨5, co, bu, sl, wd, ah, pr, be, ma, he⟩ (true, 0, (ahR S x bu ah (2 * pr) (2 * be)).2.2)).2.2 = (mvR ⟨5, co, bu, sl, wd, ah, pr, be, ma, wrap64 (he + 1)⟩ be).2 := by
            show (if (0 : Int) = 0 then (if true = true then (if pr = sl then _ else _) else _) else _ : Bool × CS × MR).2.2 = _
            rw [if_pos rfl, if_pos rfl, if_neg es]
          rw [eu]
          refine (mv_pot (G := G) (G' := G') ⟨5, co, bu, sl, wd, ah, pr, be, ma, wrap64 (he + 1)⟩ be (G.rank pr).toNat f3 (fun hn => ?_) ((G.rank pr).toNat + 2) (2 * (G.rank pr).toNat + 1) (Nat.le_refl _) (Nat.le_refl _) (by omega)).2
          have gb := (nx.end_or (by omega) b0).2.1 hn
          have := h.rk _ _ gb
          have := dn gb
          rw [f2]
          refine ⟨by omega, ?_⟩
          have em : mvR ⟨5, co, bu, sl, wd, ah, pr, be, ma, wrap64 (he + 1)⟩ be = (false, ⟨4, co, bu, sl, wd, ah, be, be, ma, wrap64 (he + 1)⟩) := if_neg hn
          rw [em]
          exact hf2 _ _ rfl
    by_cases e0 : ah = 0
    · subst e0
      by_cases e1 : x.hd bu.toNat = 2 * pr
      · have e : ahR S x bu 0 (2 * pr) (2 * be) = (true, 0, ⟨S, { x.cn1 with hd := upd x.hd bu.toNat (2 * be) }⟩) := by
          unfold ahR
          rw [if_pos rfl, if_pos e1]
        rw [e] at hit hlP
        rw [e]
        have hw' : G.H bu = 2 * pr := hH.trans e1
        have q1 : ∀ c, 0 ≤ c → c < nb → G'.H c = updI G.H bu (2 * (G.W pr / 2)) c := fun c c0 c1 => by
          rw [hlP.h c c0 c1]
          show upd x.hd bu.toNat (2 * be) c.toNat = _
          by_cases e : c = bu
          · rw [e, updI_at, upd_same, gb.2]
          · rw [updI_ne _ _ e, upd_other _ _ (by omega), hl.h c c0 c1]
        refine hit rfl (cG_off h hb pr gp.1 gp.2.1 gp.2.2.1 ?_ (fun c t c0 c1 => lk_unhead h hN hb hr bu pr gp hw' q1 (fun t t1 t2 => ?_) c t c0 c1) f1 fr) ?_ (fun n c hc => ?_)
        · rw [ebp]
          exact lk_front h bu pr gp hw'
        · rw [hlP.w t t1 t2, hl.w t t1 t2]
          rfl
        · exact (frB_iff _ _).2 (.inl ⟨rfl, hw'⟩)
        · rw [← hc]
          refine (frB_iff _ _).2 (.inl ⟨rfl, ?_⟩)
          show G'.H bu = 2 * be
          rw [q1 bu b0 b1, updI_at, gb.2]
      · have e : ahR S x bu 0 (2 * pr) (2 * be) = (false, 0, ⟨S, x.cn1⟩) := by
          unfold ahR
          rw [if_pos rfl, if_neg e1]
        rw [e] at miss
        rw [e]
        refine miss rfl (fun _ => rfl) (fun _ => rfl) (fun hf => ?_)
        rcases (frB_iff _ _).1 hf with hf | hf
        · exact e1 (hH.symm.trans hf.2)
        · exact hf.1 rfl
    · have ga := ga.resolve_left e0
      have hva := hl.lv ah ga.1 ga.2.1
      have hwa := hl.w ah ga.1 ga.2.1
      by_cases e1 : S.word (atC S ah x.cell) = 2 * pr
      · have e : ahR S x bu ah (2 * pr) (2 * be) = (true, 0, ⟨put1 S (atC S ah x.cell) (2 * be), x⟩) := by
          unfold ahR
          rw [if_neg e0, if_pos hva, if_pos e1]
        rw [e] at hit hlP
        rw [e]
        have hw' : G.W ah = 2 * pr := hwa.trans e1
        have q2 : ∀ t : Int, 1 ≤ t → t ≤ N → G'.W t = updI G.W ah (2 * (G.W pr / 2)) t := fun t t1 t2 => by
          rw [hlP.w t t1 t2]
          show upd S.word (atC S ah x.cell) (2 * be) (atC S t x.cell) = _
          by_cases e : t = ah
          · rw [e, updI_at, upd_same, gb.2]
          · have := ga.1
            rw [updI_ne _ _ e, upd_other _ _ (fun e => by unfold atC at e; rw [hl.wd] at e; omega), hl.w t t1 t2]
        refine hit rfl (cG_off h hb pr gp.1 gp.2.1 gp.2.2.1 ?_ (fun c t c0 c1 => lk_unlink h hN hb hr bu ah pr ga gp hw' (fun c c0 c1 => ?_) q2 c t c0 c1) f1 fr) ?_ (fun n c hc => ?_)
        · rw [ebp]
          exact lk_behind h hN hr bu ah pr b0 b1 ga gp hw'
        · rw [hlP.h c c0 c1, hl.h c c0 c1]
        · exact (frB_iff _ _).2 (.inr ⟨e0, hw'⟩)
        · rw [← hc]
          refine (frB_iff _ _).2 (.inr ⟨e0, ?_⟩)
          show G'.W ah = 2 * be
          rw [q2 ah ga.1 ga.2.1, updI_at, gb.2]
      · have e : ahR S x bu ah (2 * pr) (2 * be) = (false, 0, ⟨acc1 S, x⟩) := by
          unfold ahR
          rw [if_neg e0, if_pos hva, if_neg e1]
        rw [e] at miss
        rw [e]
        refine miss rfl (fun _ => rfl) (fun _ => rfl) (fun hf => ?_)
        rcases (frB_iff _ _).1 hf with hf | hf
        · exact e0 hf.1
        · exact e1 (hwa.symm.trans hf.2)
  | n + 6 => exact absurd h5 (by omega)
end
end Go.Proofs.YteekompojgbkhaaGreat
