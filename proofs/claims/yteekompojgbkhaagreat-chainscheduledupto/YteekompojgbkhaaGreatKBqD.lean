import Derived.Test.YteekompojgbkhaaGreatKBqC
namespace Go.Proofs.YteekompojgbkhaaGreat
open Go.ChangeShapes Go.WideShapes Go.ChangeAt Go.RowKit Go.MuLone Go.RwLone
set_option linter.unusedVariables false
set_option linter.unusedSectionVars false
/-- A Remove of the book. -/
structure RemI (N : Int) (bk : Int → Int) (G : Gb) (m : MR) : Prop where
  g : Gin N bk G m.bu m.sl
  st : m.st ≤ 6
  un : m.st ≤ 2 → m.ma = false ∧ G.rem m.sl = 1
  ob : 3 ≤ m.st → m.ma = true ∧ G.rem m.sl = 2
  pr : m.st = 4 ∨ m.st = 5 → Gin N bk G m.bu m.pr
  ah : m.st = 4 ∨ m.st = 5 → m.ah = 0 ∨ Gin N bk G m.bu m.ah
  be : m.st = 5 → G.W m.pr % 2 = 1 ∧ m.be = G.W m.pr / 2
  co : m.st = 6 → m.co = 0
/-- What neither a Remove nor a walk changes of the book. -/
def Bsm (G G' : Gb) : Prop := G'.ins = G.ins ∧ G'.rank = G.rank ∧ G'.ranks = G.ranks ∧ ∀ t, G.ins t ≠ 2 → G'.W t = G.W t
section
variable {N nb : Int} {bk : Int → Int} {S : AS} {x : XS} {G G' : Gb}
theorem Bsm.refl (G : Gb) : Bsm G G := ⟨rfl, rfl, rfl, fun t _ => rfl⟩
theorem Gin.bsm {b s : Int} (h : Gin N bk G b s) (k : Bsm G G') : Gin N bk G' b s := ⟨h.1, h.2.1, by rw [k.1]; exact h.2.2.1, h.2.2.2⟩
theorem mvR_ok (hN : N ≤ 4096) (m : MR) (n : Int) (b0 : 0 ≤ m.bu) (hg : Gin N bk G m.bu m.sl) (ma : m.ma = true) (hr : G.rem m.sl = 2) (ha : m.ah = 0 ∨ Gin N bk G m.bu m.ah) (hn : Gto N bk G m.bu n) : RemI N bk G (mvR m n).2 ∧ ((mvR m n).1 = true ↔ (mvR m n).2.st = 6) ∧ (mvR m n).2.sl = m.sl ∧ (mvR m n).2.bu = m.bu ∧ (mvR m n).2.ma = m.ma := by
  have e := hn.end_or hN b0
  unfold mvR
  by_cases h : 4096 < n
  · rw [if_pos h]
    exact ⟨⟨hg, Nat.le_refl _, fun h => (by have h : 6 ≤ 2 := h; omega), fun _ => ⟨ma, hr⟩, fun h => (by have h : 6 = 4 ∨ 6 = 5 := h; omega), fun h => (by have h : 6 = 4 ∨ 6 = 5 := h; omega), fun h => (by have h : 6 = 5 := h; omega), fun _ => rfl⟩, ⟨fun _ => rfl, fun _ => rfl⟩, rfl, rfl, rfl⟩
  · rw [if_neg h]
    exact ⟨⟨hg, (by show 4 ≤ 6; omega), fun h => (by have h : 4 ≤ 2 := h; omega), fun _ => ⟨ma, hr⟩, fun _ => e.2.1 h, fun _ => ha, fun h => (by have h : 4 = 5 := h; omega), fun h => (by have h : 4 = 6 := h; omega)⟩, ⟨fun h => (by cases h), fun h => (by have h : 4 = 6 := h; omega)⟩, rfl, rfl, rfl⟩
/-- The unlinking of a marked slot: it comes off, or nothing is changed. -/
theorem ahR_ok (hl : Lnk N nb S x G) (h : GbInv N nb bk G) (bu ah pr be : Int) (b0 : 0 ≤ bu) (b1 : bu < nb) (hp : Gin N bk G bu pr) (ha : ah = 0 ∨ Gin N bk G bu ah) (hm : G.W pr % 2 = 1) (hb : be = G.W pr / 2) : ∃ G', Lnk N nb (ahR S x bu ah (2 * pr) (2 * be)).2.2.S (ahR S x bu ah (2 * pr) (2 * be)).2.2.x G' ∧ GbInv N nb bk G' ∧ GbLe G G' ∧ Bsm G G' ∧ G'.rem = G.rem ∧ (ahR S x bu ah (2 * pr) (2 * be)).2.1 = 0 := by
  subst hb
  by_cases e0 : ah = 0
  · by_cases e1 : x.hd bu.toNat = 2 * pr
    · have e : ahR S x bu ah (2 * pr) (2 * (G.W pr / 2)) = (true, 0, ⟨S, { x.cn1 with hd := upd x.hd bu.toNat (2 * (G.W pr / 2)) }⟩) := by
        unfold ahR
        rw [if_pos e0, if_pos e1]
      rw [e]
      have k := h.unhead bu pr b0 b1 hp hm ((hl.h bu b0 b1).trans e1)
      exact ⟨{ G with H := updI G.H bu (2 * (G.W pr / 2)) }, hl.head b0 rfl rfl, k.1, k.2, Bsm.refl G, rfl, rfl⟩
    · have e : ahR S x bu ah (2 * pr) (2 * (G.W pr / 2)) = (false, 0, ⟨S, x.cn1⟩) := by
        unfold ahR
        rw [if_pos e0, if_neg e1]
      rw [e]
      exact ⟨G, hl.cn, h, GbLe.refl G, Bsm.refl G, rfl, rfl⟩
  · have ha := ha.resolve_left e0
    have hv := hl.lv ah ha.1 ha.2.1
    by_cases e1 : S.word (atC S ah x.cell) = 2 * pr
    · have e : ahR S x bu ah (2 * pr) (2 * (G.W pr / 2)) = (true, 0, ⟨put1 S (atC S ah x.cell) (2 * (G.W pr / 2)), x⟩) := by
        unfold ahR
        rw [if_neg e0, if_pos hv, if_pos e1]
      rw [e]
      have k := h.unlink bu ah pr ha hp hm ((hl.w ah ha.1 ha.2.1).trans e1)
      exact ⟨{ G with W := updI G.W ah (2 * (G.W pr / 2)) }, hl.put ha.1 rfl rfl, k.1, k.2, ⟨rfl, rfl, rfl, fun t ht => updI_ne _ _ (fun e => ht (by rw [e]; exact ha.2.2.1))⟩, rfl, rfl⟩
    · have e : ahR S x bu ah (2 * pr) (2 * (G.W pr / 2)) = (false, 0, ⟨acc1 S, x⟩) := by
        unfold ahR
        rw [if_neg e0, if_pos hv, if_neg e1]
      rw [e]
      exact ⟨G, hl.acc, h, GbLe.refl G, Bsm.refl G, rfl, rfl⟩
/-- What a step of a Remove is. -/
def RemGo (N nb : Int) (bk : Int → Int) (G : Gb) (m : MR) (r : Bool × CS × MR) : Prop := ∃ G', Lnk N nb r.2.1.S r.2.1.x G' ∧ GbInv N nb bk G' ∧ GbLe G G' ∧ RemI N bk G' r.2.2 ∧ Bsm G G' ∧ (r.1 = true ↔ r.2.2.st = 6) ∧ r.2.2.sl = m.sl ∧ r.2.2.bu = m.bu ∧ ((G'.rem = G.rem ∧ r.2.2.ma = m.ma) ∨ (m.ma = false ∧ r.2.2.ma = true ∧ G'.rem = updI G.rem m.sl 2))
theorem own_go (hl : Lnk N nb S x G) (h : GbInv N nb bk G) (hN : N ≤ 4096) (m : MR) (b0 : 0 ≤ m.bu) (hm : RemI N bk G m) (h1 : m.st ≤ 1) : RemGo N nb bk G m (ownR S x m) := by
  have un := hm.un (by omega)
  have hv := hl.lv _ hm.g.1 hm.g.2.1
  have hw := hl.w _ hm.g.1 hm.g.2.1
  have n0 := ((h.nx _ _ hm.g).end_or hN b0).2.2
  have z : ¬ S.word (atC S m.sl x.cell) = 0 := fun e => n0 (by rw [hw, e]; rfl)
  have k : ¬ (S.word (atC S m.sl x.cell) % 2 == 1) = true := fun e => by
    have := (h.mrk _ _ hm.g).1 (by rw [hw]; exact eq_of_beq e)
    have := un.2
    omega
  have e : ownR S x m = (false, ⟨acc1 S, x⟩, { m with st := 2, wd := S.word (atC S m.sl x.cell) }) := by
    unfold ownR
    rw [if_pos hv, if_neg z, if_neg k]
  rw [e]
  exact ⟨G, hl.acc, h, GbLe.refl G, ⟨hm.g, (by show 2 ≤ 6; omega), fun _ => un, fun h => (by have h : 3 ≤ 2 := h; omega), fun h => (by have h : 2 = 4 ∨ 2 = 5 := h; omega), fun h => (by have h : 2 = 4 ∨ 2 = 5 := h; omega), fun h => (by have h : 2 = 5 := h; omega), fun h => (by have h : 2 = 6 := h; omega)⟩, Bsm.refl G, ⟨fun h => (by cases h), fun h => (by have h : 2 = 6 := h; omega)⟩, rfl, rfl, .inl ⟨rfl, rfl⟩⟩
theorem rem_go (hl : Lnk N nb S x G) (h : GbInv N nb bk G) (hN : N ≤ 4096) (hb : ∀ s, 0 ≤ bk s ∧ bk s < nb) (m : MR) (hm : RemI N bk G m) : RemGo N nb bk G m (remP S x m) := by
  have b0 : 0 ≤ m.bu := by rw [← hm.g.2.2.2]; exact (hb _).1
  have b1 : m.bu < nb := by rw [← hm.g.2.2.2]; exact (hb _).2
  have hi := hl.inb b0 b1
  have hv := hl.lv _ hm.g.1 hm.g.2.1
  have hw := hl.w _ hm.g.1 hm.g.2.1
  obtain ⟨st, co, bu, sl, wd, ah, pr, be, ma, he⟩ := m
  simp only at b0 b1 hi hv hw
  match st with
  | 0 =>
    have e : remP S x ⟨0, co, bu, sl, wd, ah, pr, be, ma, he⟩ = ownR S x ⟨0, co, bu, sl, wd, ah, pr, be, ma, he⟩ := by
      show (if inB x bu then _ else _) = _
      rw [if_pos hi]
    rw [e]
    exact own_go hl h hN _ b0 hm (Nat.zero_le _)
  | 1 => exact own_go hl h hN _ b0 hm (Nat.le_refl _)
  | 2 =>
    have un : ma = false ∧ G.rem sl = 1 := hm.un (Nat.le_refl _)
    have g : Gin N bk G bu sl := hm.g
    by_cases e1 : S.word (atC S sl x.cell) = wd
    · have e : remP S x ⟨2, co, bu, sl, wd, ah, pr, be, ma, he⟩ = (false, ⟨put1 S (atC S sl x.cell) (2 * (wd / 2) + 1), x⟩, ⟨3, co, bu, sl, wd, ah, pr, be, true, he⟩) := by
        show (if liv S sl then (if S.word (atC S sl x.cell) = wd then _ else _) else _) = _
        rw [if_pos hv, if_pos e1]
      rw [e]
      have k := h.mark bu sl g
      have ev : G.W sl % 2 = 0 := by
        have := h.mrk bu sl g
        have h2 := un.2
        by_cases h3 : G.W sl % 2 = 1
        · have := this.1 h3
          omega
        · omega
      have ew : wd = G.W sl := (hw.trans e1).symm
      subst ew
      exact ⟨{ G with W := updI G.W sl (2 * (G.W sl / 2) + 1), rem := updI G.rem sl 2 }, hl.put g.1 rfl rfl, k.1, k.2 ev, ⟨g, (by show 3 ≤ 6; omega), fun h => (by have h : 3 ≤ 2 := h; omega), fun _ => ⟨rfl, updI_at _ _ _⟩, fun h => (by have h : 3 = 4 ∨ 3 = 5 := h; omega), fun h => (by have h : 3 = 4 ∨ 3 = 5 := h; omega), fun h => (by have h : 3 = 5 := h; omega), fun h => (by have h : 3 = 6 := h; omega)⟩, ⟨rfl, rfl, rfl, fun t ht => updI_ne _ _ (fun e => ht (by rw [e]; exact g.2.2.1))⟩, ⟨fun h => (by cases h), fun h => (by have h : 3 = 6 := h; omega)⟩, rfl, rfl, .inr ⟨un.1, rfl, rfl⟩⟩
    · have e : remP S x ⟨2, co, bu, sl, wd, ah, pr, be, ma, he⟩ = (false, ⟨acc1 S, x⟩, ⟨1, co, bu, sl, wd, ah, pr, be, ma, he⟩) := by
        show (if liv S sl then (if S.word (atC S sl x.cell) = wd then _ else _) else _) = _
        rw [if_pos hv, if_neg e1]
      rw [e]
      exact ⟨G, hl.acc, h, GbLe.refl G, ⟨g, (by show 1 ≤ 6; omega), fun _ => un, fun h => (by have h : 3 ≤ 1 := h; omega), fun h => (by have h : 1 = 4 ∨ 1 = 5 := h; omega), fun h => (by have h : 1 = 4 ∨ 1 = 5 := h; omega), fun h => (by have h : 1 = 5 := h; omega), fun h => (by have h : 1 = 6 := h; omega)⟩, Bsm.refl G, ⟨fun h => (by cases h), fun h => (by have h : 1 = 6 := h; omega)⟩, rfl, rfl, .inl ⟨rfl, rfl⟩⟩
  | 3 =>
    have ob : ma = true ∧ G.rem sl = 2 := hm.ob (Nat.le_refl _)
    have g : Gin N bk G bu sl := hm.g
    have hx := h.hx bu b0 b1
    rw [hl.h bu b0 b1] at hx
    have k := mvR_ok hN ⟨3, co, bu, sl, wd, 0, pr, be, ma, he⟩ (x.hd bu.toNat / 2) b0 g ob.1 ob.2 (.inl rfl) hx.1
    exact ⟨G, hl.cn, h, GbLe.refl G, k.1, Bsm.refl G, k.2.1, k.2.2.1, k.2.2.2.1, .inl ⟨rfl, k.2.2.2.2⟩⟩
  | 4 =>
    have ob : ma = true ∧ G.rem sl = 2 := hm.ob (by show 3 ≤ 4; omega)
    have g : Gin N bk G bu sl := hm.g
    have gp : Gin N bk G bu pr := hm.pr (.inl rfl)
    have ga : ah = 0 ∨ Gin N bk G bu ah := hm.ah (.inl rfl)
    have pv := hl.lv _ gp.1 gp.2.1
    have pw := hl.w _ gp.1 gp.2.1
    have nx := h.nx bu pr gp
    have n0 := (nx.end_or hN b0).2.2
    rw [pw] at nx n0
    by_cases e1 : (S.word (atC S pr x.cell) % 2 == 1) = true
    · have e : remP S x ⟨4, co, bu, sl, wd, ah, pr, be, ma, he⟩ = (false, ⟨acc1 S, x⟩, ⟨5, co, bu, sl, wd, ah, pr, S.word (atC S pr x.cell) / 2, ma, he⟩) := by
        show (if liv S pr then (if S.word (atC S pr x.cell) / 2 = 0 then _ else if S.word (atC S pr x.cell) % 2 == 1 then _ else _) else _) = _
        rw [if_pos pv, if_neg n0, if_pos e1]
      rw [e]
      exact ⟨G, hl.acc, h, GbLe.refl G, ⟨g, (by show 5 ≤ 6; omega), fun h => (by have h : 5 ≤ 2 := h; omega), fun _ => ob, fun _ => gp, fun _ => ga, fun _ => ⟨by show G.W pr % 2 = 1; rw [pw]; exact eq_of_beq e1, by show S.word (atC S pr x.cell) / 2 = G.W pr / 2; rw [pw]⟩, fun h => (by have h : 5 = 6 := h; omega)⟩, Bsm.refl G, ⟨fun h => (by cases h), fun h => (by have h : 5 = 6 := h; omega)⟩, rfl, rfl, .inl ⟨rfl, rfl⟩⟩
    · have e : remP S x ⟨4, co, bu, sl, wd, ah, pr, be, ma, he⟩ = ((mvR ⟨4, co, bu, sl, wd, pr, pr, be, ma, he⟩ (S.word (atC S pr x.cell) / 2)).1, ⟨acc1 S, x⟩, (mvR ⟨4, co, bu, sl, wd, pr, pr, be, ma, he⟩ (S.word (atC S pr x.cell) / 2)).2) := by
        show (if liv S pr then (if S.word (atC S pr x.cell) / 2 = 0 then _ else if S.word (atC S pr x.cell) % 2 == 1 then _ else _) else _) = _
        rw [if_pos pv, if_neg n0, if_neg e1]
      rw [e]
      have k := mvR_ok hN ⟨4, co, bu, sl, wd, pr, pr, be, ma, he⟩ (S.word (atC S pr x.cell) / 2) b0 g ob.1 ob.2 (.inr gp) nx
      exact ⟨G, hl.acc, h, GbLe.refl G, k.1, Bsm.refl G, k.2.1, k.2.2.1, k.2.2.2.1, .inl ⟨rfl, k.2.2.2.2⟩⟩
  | 5 =>
    have ob : ma = true ∧ G.rem sl = 2 := hm.ob (by show 3 ≤ 5; omega)
    have g : Gin N bk G bu sl := hm.g
    have gp : Gin N bk G bu pr := hm.pr (.inr rfl)
    have ga : ah = 0 ∨ Gin N bk G bu ah := hm.ah (.inr rfl)
    have gb : G.W pr % 2 = 1 ∧ be = G.W pr / 2 := hm.be rfl
    obtain ⟨G', k1, k2, k3, k4, k5, k6⟩ := ahR_ok hl h bu ah pr be b0 b1 gp ga gb.1 gb.2
    show RemGo N nb bk G _ (unlR ⟨5, co, bu, sl, wd, ah, pr, be, ma, he⟩ (ahR S x bu ah (2 * pr) (2 * be)))
    have g' := g.bsm k4
    have ob' : ma = true ∧ G'.rem sl = 2 := ⟨ob.1, by rw [k5]; exact ob.2⟩
    generalize hq : ahR S x bu ah (2 * pr) (2 * be) = q at k1 k6 ⊢
    obtain ⟨q0, q1, q2⟩ := q
    simp only at k1 k6
    subst k6
    cases q0 with
    | false => exact ⟨G', k1, k2, k3, ⟨g', (by show 3 ≤ 6; omega), fun h => (by have h : 3 ≤ 2 := h; omega), fun _ => ob', fun h => (by have h : 3 = 4 ∨ 3 = 5 := h; omega), fun h => (by have h : 3 = 4 ∨ 3 = 5 := h; omega), fun h => (by have h : 3 = 5 := h; omega), fun h => (by have h : 3 = 6 := h; omega)⟩, k4, ⟨fun h => (by cases h), fun h => (by have h : 3 = 6 := h; omega)⟩, rfl, rfl, .inl ⟨k5, rfl⟩⟩
    | true =>
      by_cases e1 : pr = sl
      · have e : unlR ⟨5, co, bu, sl, wd, ah, pr, be, ma, he⟩ (true, 0, q2) = (true, q2, ⟨6, 0, bu, sl, wd, ah, pr, be, ma, he⟩) := by
          show (if (0 : Int) = 0 then (if true = true then (if pr = sl then _ else _) else _) else _) = _
          rw [if_pos rfl, if_pos rfl, if_pos e1]
        rw [e]
        exact ⟨G', k1, k2, k3, ⟨g', (by show 6 ≤ 6; omega), fun h => (by have h : 6 ≤ 2 := h; omega), fun _ => ob', fun h => (by have h : 6 = 4 ∨ 6 = 5 := h; omega), fun h => (by have h : 6 = 4 ∨ 6 = 5 := h; omega), fun h => (by have h : 6 = 5 := h; omega), fun _ => rfl⟩, k4, ⟨fun _ => rfl, fun _ => rfl⟩, rfl, rfl, .inl ⟨k5, rfl⟩⟩
      · have e : unlR ⟨5, co, bu, sl, wd, ah, pr, be, ma, he⟩ (true, 0, q2) = ((mvR ⟨5, co, bu, sl, wd, ah, pr, be, ma, wrap64 (he + 1)⟩ be).1, q2, (mvR ⟨5, co, bu, sl, wd, ah, pr, be, ma, wrap64 (he + 1)⟩ be).2) := by
          show (if (0 : Int) = 0 then (if true = true then (if pr = sl then _ else _) else _) else _) = _
          rw [if_pos rfl, if_pos rfl, if_neg e1]
        rw [e]
        have tto : Gto N bk G' bu be := by
          rw [gb.2]
          exact (h.nx bu pr gp).imp id (fun h => h.bsm k4)
        have k := mvR_ok hN ⟨5, co, bu, sl, wd, ah, pr, be, ma, wrap64 (he + 1)⟩ be b0 g' ob'.1 ob'.2 (ga.imp id (fun h => h.bsm k4)) tto
        exact ⟨G', k1, k2, k3, k.1, k4, k.2.1, k.2.2.1, k.2.2.2.1, .inl ⟨k5, k.2.2.2.2⟩⟩
  | 6 => exact ⟨G, hl, h, GbLe.refl G, hm, Bsm.refl G, ⟨fun _ => rfl, fun _ => rfl⟩, rfl, rfl, .inl ⟨rfl, rfl⟩⟩
  | n + 7 => exact absurd hm.st (by show ¬ (n + 7 ≤ 6); omega)
end
end Go.Proofs.YteekompojgbkhaaGreat
