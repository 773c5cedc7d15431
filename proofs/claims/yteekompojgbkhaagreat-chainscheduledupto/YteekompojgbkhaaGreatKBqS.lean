import Derived.Test.YteekompojgbkhaaGreatKBqR
namespace Go.Proofs.YteekompojgbkhaaGreat
open Go.ChangeShapes Go.WideShapes Go.ChangeAt Go.RowKit Go.MuLone Go.RwLone
set_option linter.unusedVariables false
set_option linter.unusedSectionVars false
/-- Nothing whose Insert was done is linked anew. -/
def LkLe (N : Nat) (nb : Int) (bk : Int → Int) (G G' : Gb) : Prop := ∀ c t, 0 ≤ c → c < nb → Gin N bk G c t → Lk N G' c t → Lk N G c t
/-- What a Remove knows of what is linked. -/
def RmL (N : Nat) (G : Gb) (m : MR) : Prop := (m.st = 4 ∨ m.st = 5 → Lk N G m.bu m.sl → G.rank m.sl ≤ G.rank m.pr) ∧ (m.st = 6 → ¬ Lk N G m.bu m.sl)
theorem RmL.low {N : Nat} {G : Gb} {m : MR} (h : m.st ≤ 3) : RmL N G m := ⟨fun e => by omega, fun e => by omega⟩
section
variable {N : Nat} {nb : Int} {bk : Int → Int} {S S' : AS} {x x' : XS} {G G' : Gb} {rows rows' : Int → List Int} {all : List On}
theorem gin_ins (e : G'.ins = G.ins) (b u : Int) : Gin N bk G' b u ↔ Gin N bk G b u := by
  unfold Gin
  rw [e]
/-- A slot that nobody has marked is linked. -/
theorem lk_all (h : GbInv N nb bk G) (hN : N ≤ 4096) (hr : G.ranks ≤ 4096) (b a : Int) (b0 : 0 ≤ b) (b1 : b < nb) (ga : Gin N bk G b a) (ar : G.rem a ≠ 2) : Lk N G b a := by
  have hg : Gin N bk G b (G.H b / 2) ∧ G.rank a ≤ G.rank (G.H b / 2) := by
    by_cases h5 : Gin N bk G b (G.H b / 2) ∧ G.rank a ≤ G.rank (G.H b / 2)
    · exact h5
    · refine absurd (h.hgap b a b0 b1 ga (fun hi => ?_)) ar
      by_cases h6 : G.rank a ≤ G.rank (G.H b / 2)
      · exact absurd ⟨hi, h6⟩ h5
      · omega
  have hf : G.rank (G.H b / 2) < ((4097 : Nat) : Int) := by have := (h.rk _ _ hg.1).2; omega
  exact lk_un h (by omega) b b0 a ga ar 4097 _ hg.1 hf hg.2
theorem lk_top (h : GbInv N nb bk G) (hN : N ≤ 4096) (b s : Int) (b0 : 0 ≤ b) (b1 : b < nb) (hs : Lk N G b s) : Gin N bk G b s ∧ Gin N bk G b (G.H b / 2) ∧ G.rank s ≤ G.rank (G.H b / 2) :=
  lk_gin h (by omega) b b0 4097 _ (h.hx b b0 b1).1 s hs
theorem lk_down (h : GbInv N nb bk G) (hN : N ≤ 4096) (b p q : Int) (b0 : 0 ≤ b) (b1 : b < nb) (hp : Lk N G b p) (hq : Lk N G b q) (hlt : G.rank q < G.rank p) : Gin N bk G b (G.W p / 2) ∧ G.rank q ≤ G.rank (G.W p / 2) := by
  have gp := (lk_top h hN b p b0 b1 hp).1
  have r := lk_next h (by omega) b b0 p q 4097 _ (h.hx b b0 b1).1 hp hq hlt
  exact (lk_gin h (by omega) b b0 4097 _ (h.nx b p gp) q r).2
theorem Still.lkLe (k : Still N nb G G') (h : GbInv N nb bk G) (hN : N ≤ 4096) : LkLe N nb bk G G' := fun c t c0 c1 _ ht => (k.lk h hN c c0 c1 t).1 ht
theorem lk_push (h : GbInv N nb bk G) (hN : N ≤ 4096) (hb : ∀ s, 0 ≤ bk s ∧ bk s < nb) (s : Int) (h1 : 1 ≤ s) (h2 : s ≤ N) (hs : G.ins s = 1) (hw : G.W s / 2 = G.H (bk s) / 2) (hr : G.ranks ≤ 4096) (k1 : ∀ c, 0 ≤ c → c < nb → G'.H c = updI G.H (bk s) (2 * s) c) (k2 : ∀ t : Int, 1 ≤ t → t ≤ N → G'.W t = G.W t) : LkLe N nb bk G G' := by
  have like : ∀ (f : Nat) (n : Int), lkL N G'.W f n = lkL N G.W f n := by
    intro f
    induction f with
    | zero => intro n; rfl
    | succ f ih =>
      intro n
      by_cases hr : 1 ≤ n ∧ n ≤ (N : Int)
      · rw [lkL_yes hr.1 hr.2, lkL_yes hr.1 hr.2, k2 n hr.1 hr.2, ih]
      · rw [show lkL N G'.W (f + 1) n = [] from if_neg hr, show lkL N G.W (f + 1) n = [] from if_neg hr]
  intro c t c0 c1 gt ht
  have ne : t ≠ s := fun e => by have := gt.2.2.1; rw [e, hs] at this; omega
  unfold Lk at ht ⊢
  rw [like, k1 c c0 c1] at ht
  by_cases e : c = bk s
  · subst e
    rw [updI_at, show 2 * s / 2 = s from by omega, lkL_yes h1 h2, hw] at ht
    rcases List.mem_cons.1 ht with e | e
    · exact absurd e ne
    · have hx := (h.hx (bk s) c0 c1).1
      rw [lk_fuel h (by omega) (bk s) c0 4097 4096 _ hx (fun g => by have := (h.rk _ _ g).2; omega)]
      exact e
  · rw [updI_ne _ _ e] at ht
    exact ht
/-- A move along: what is known of the slot there. -/
theorem rml_mv (hN : N ≤ 4096) (m : MR) (n : Int) (hlk : Lk N G m.bu m.sl → Gin N bk G m.bu n ∧ G.rank m.sl ≤ G.rank n) : RmL N G (mvR m n).2 := by
  unfold mvR
  by_cases h : 4096 < n
  · rw [if_pos h]
    exact ⟨fun e => (by have e : 6 = 4 ∨ 6 = 5 := e; omega), fun _ hl => (by have := (hlk hl).1.2.1; omega)⟩
  · rw [if_neg h]
    exact ⟨fun _ hl => (hlk hl).2, fun e => (by have e : 4 = 6 := e; omega)⟩
theorem ins_lk (hl : Lnk N nb S x G) (h : GbInv N nb bk G) (hN : N ≤ 4096) (hr : G.ranks ≤ 4096) (hb : ∀ s, 0 ≤ bk s ∧ bk s < nb) (m : MI) (hm : InsI N bk G m) (h3 : m.st ≤ 3) (hl' : Lnk N nb (insP S x m).2.1.S (insP S x m).2.1.x G') (hf : ((insP S x m).1 = false ∧ G'.ins = G.ins ∧ G'.rem = G.rem ∧ G'.rank = G.rank ∧ G'.ranks = G.ranks) ∨ ((insP S x m).1 = true ∧ G'.ins = updI G.ins m.sl 2 ∧ G'.rem = G.rem)) : LkLe N nb bk G G' := by
  have hi : inB x m.bu = true := by rw [hm.bu]; exact hl.inb (hb _).1 (hb _).2
  have hv := hl.lv _ hm.lo hm.up
  have hw0 := hm.w0
  have hw3 := hm.w3
  have hw := hl.w _ hm.lo hm.up
  have hbu := hm.bu
  have hlo := hm.lo
  have hup := hm.up
  have on := hm.on h3
  obtain ⟨st, code, bu, sl, hd, tr⟩ := m
  simp only at hi hv h3 hw0 hw hw3 hbu hlo hup on
  subst hbu
  have hH := hl.h (bk sl) (hb sl).1 (hb sl).2
  match st with
  | 0 =>
    have e : insP S x ⟨0, code, bk sl, sl, hd, tr⟩ = (false, ⟨acc1 S, x⟩, ⟨1, code, bk sl, sl, hd, tr⟩) := by
      show (if inB x (bk sl) then (if liv S sl then (if S.word (atC S sl x.cell) = 0 then _ else _) else _) else _) = _
      rw [if_pos hi, if_pos hv, if_pos (hw.symm.trans (hw0 rfl))]
    rw [e] at hl' hf
    rcases hf with ⟨_, f1, f2, f3, f4⟩ | ⟨f, _⟩
    · have k := still_of hl hl' (fun _ => rfl) (fun t _ _ _ => rfl) f1 f2 f3 f4
      exact k.lkLe h hN
    · cases f
  | 1 =>
    have e : insP S x ⟨1, code, bk sl, sl, hd, tr⟩ = (false, ⟨S, x.cn1⟩, ⟨2, code, bk sl, sl, x.hd (bk sl).toNat, tr⟩) := rfl
    rw [e] at hl' hf
    rcases hf with ⟨_, f1, f2, f3, f4⟩ | ⟨f, _⟩
    · have k := still_of hl hl' (fun _ => rfl) (fun t _ _ _ => rfl) f1 f2 f3 f4
      exact k.lkLe h hN
    · cases f
  | 2 =>
    have e : insP S x ⟨2, code, bk sl, sl, hd, tr⟩ = (false, ⟨put1 S (atC S sl x.cell) hd, x⟩, ⟨3, code, bk sl, sl, hd, tr⟩) := by
      show (if liv S sl then _ else _) = _
      rw [if_pos hv]
    rw [e] at hl' hf
    rcases hf with ⟨_, f1, f2, f3, f4⟩ | ⟨f, _⟩
    · have k := still_of hl hl' (fun _ => rfl) (fun t t1 t2 t3 => by
        show upd S.word (atC S sl x.cell) hd (atC S t x.cell) = _
        refine upd_other _ _ (fun e => ?_)
        have : t ≠ sl := fun e => by rw [e, on] at t3; omega
        unfold atC at e
        rw [hl.wd] at e
        omega) f1 f2 f3 f4
      exact k.lkLe h hN
    · cases f
  | 3 =>
    by_cases hh : x.hd (bk sl).toNat = hd
    · have e : insP S x ⟨3, code, bk sl, sl, hd, tr⟩ = (true, ⟨S, { x.cn1 with hd := upd x.hd (bk sl).toNat (2 * sl) }⟩, ⟨4, 0, bk sl, sl, hd, tr⟩) := by
        show (if x.hd (bk sl).toNat = hd then _ else _) = _
        rw [if_pos hh]
      rw [e] at hl' hf
      rcases hf with ⟨f, _⟩ | ⟨_, f1, f2⟩
      · cases f
      · refine lk_push h hN hb sl hlo hup on (by rw [hw3 rfl, hH, hh]) hr (fun c c0 c1 => ?_) (fun t t1 t2 => ?_)
        · rw [hl'.h c c0 c1]
          show upd x.hd (bk sl).toNat (2 * sl) c.toNat = _
          by_cases e : c = bk sl
          · rw [e, updI_at, upd_same]
          · have := (hb sl).1
            rw [updI_ne _ _ e, upd_other _ _ (by omega), hl.h c c0 c1]
        · rw [hl'.w t t1 t2, hl.w t t1 t2]
          rfl
    · have e : insP S x ⟨3, code, bk sl, sl, hd, tr⟩ = (false, ⟨S, x.cn1⟩, ⟨1, code, bk sl, sl, hd, wrap64 (tr + 1)⟩) := by
        show (if x.hd (bk sl).toNat = hd then _ else _) = _
        rw [if_neg hh]
      rw [e] at hl' hf
      rcases hf with ⟨_, f1, f2, f3, f4⟩ | ⟨f, _⟩
      · have k := still_of hl hl' (fun _ => rfl) (fun t _ _ _ => rfl) f1 f2 f3 f4
        exact k.lkLe h hN
      · cases f
  | n + 4 => exact absurd h3 (by omega)
theorem own_lk (hl : Lnk N nb S x G) (h : GbInv N nb bk G) (hN : N ≤ 4096) (m : MR) (b0 : 0 ≤ m.bu) (hm : RemI N bk G m) (h1 : m.st ≤ 1) (hl' : Lnk N nb (ownR S x m).2.1.S (ownR S x m).2.1.x G') (f1 : G'.ins = G.ins) (f2 : G'.rank = G.rank) (f3 : G'.ranks = G.ranks) (f4 : (ownR S x m).2.2.ma = m.ma → G'.rem = G.rem) : LkLe N nb bk G G' ∧ RmL N G' (ownR S x m).2.2 := by
  have un := hm.un (by omega)
  have hv := hl.lv _ hm.g.1 hm.g.2.1
  have hw := hl.w _ hm.g.1 hm.g.2.1
  have n0 := ((h.nx _ _ hm.g).end_or (by omega) b0).2.2
  have z : ¬ S.word (atC S m.sl x.cell) = 0 := fun e => n0 (by rw [hw, e]; rfl)
  have k : ¬ (S.word (atC S m.sl x.cell) % 2 == 1) = true := fun e => by
    have := (h.mrk _ _ hm.g).1 (by rw [hw]; exact eq_of_beq e)
    have := un.2
    omega
  have e : ownR S x m = (false, ⟨acc1 S, x⟩, { m with st := 2, wd := S.word (atC S m.sl x.cell) }) := by
    unfold ownR
    rw [if_pos hv, if_neg z, if_neg k]
  rw [e] at hl' f4 ⊢
  have st := still_of hl hl' (fun _ => rfl) (fun t _ _ _ => rfl) f1 (f4 rfl) f2 f3
  exact ⟨st.lkLe h hN, RmL.low (by show 2 ≤ 3; omega)⟩
theorem rem_lk (hl : Lnk N nb S x G) (h : GbInv N nb bk G) (hN : N ≤ 4096) (hr : G.ranks ≤ 4096) (hb : ∀ s, 0 ≤ bk s ∧ bk s < nb) (m : MR) (hm : RemI N bk G m) (h5 : m.st ≤ 5) (hl' : Lnk N nb (remP S x m).2.1.S (remP S x m).2.1.x G') (f1 : G'.ins = G.ins) (f2 : G'.rank = G.rank) (f3 : G'.ranks = G.ranks) (f4 : ((remP S x m).2.2.ma = m.ma ∧ G'.rem = G.rem) ∨ (m.ma = false ∧ (remP S x m).2.2.ma = true ∧ G'.rem = updI G.rem m.sl 2)) (hL : RmL N G m) : LkLe N nb bk G G' ∧ RmL N G' (remP S x m).2.2 := by
  have b0 : 0 ≤ m.bu := by rw [← hm.g.2.2.2]; exact (hb _).1
  have b1 : m.bu < nb := by rw [← hm.g.2.2.2]; exact (hb _).2
  have hi := hl.inb b0 b1
  have hv := hl.lv _ hm.g.1 hm.g.2.1
  have hw := hl.w _ hm.g.1 hm.g.2.1
  have fm : (remP S x m).2.2.ma = m.ma → G'.rem = G.rem := fun e => by
    rcases f4 with f | f
    · exact f.2
    · rw [f.1, f.2.1] at e
      cases e
  have hH := hl.h m.bu b0 b1
  have hx := h.hx m.bu b0 b1
  obtain ⟨st, co, bu, sl, wd, ah, pr, be, ma, he⟩ := m
  simp only at b0 b1 hi hv hw h5 hH hx
  match st with
  | 0 =>
    have e : remP S x ⟨0, co, bu, sl, wd, ah, pr, be, ma, he⟩ = ownR S x ⟨0, co, bu, sl, wd, ah, pr, be, ma, he⟩ := by
      show (if inB x bu then _ else _) = _
      rw [if_pos hi]
    rw [e] at hl' fm ⊢
    exact own_lk hl h hN _ b0 hm (Nat.zero_le _) hl' f1 f2 f3 fm
  | 1 => exact own_lk hl h hN _ b0 hm (Nat.le_refl _) hl' f1 f2 f3 fm
  | 2 =>
    have un : ma = false ∧ G.rem sl = 1 := hm.un (Nat.le_refl _)
    have g : Gin N bk G bu sl := hm.g
    by_cases e1 : S.word (atC S sl x.cell) = wd
    · have e : remP S x ⟨2, co, bu, sl, wd, ah, pr, be, ma, he⟩ = (false, ⟨put1 S (atC S sl x.cell) (2 * (wd / 2) + 1), x⟩, ⟨3, co, bu, sl, wd, ah, pr, be, true, he⟩) := by
        show (if liv S sl then (if S.word (atC S sl x.cell) = wd then _ else _) else _) = _
        rw [if_pos hv, if_pos e1]
      rw [e] at hl' f4 ⊢
      have fr : G'.rem = updI G.rem sl 2 := by
        rcases f4 with f | f
        · have : true = ma := f.1
          rw [un.1] at this
          cases this
        · exact f.2.2
      refine ⟨fun c t c0 c1 _ ht => ?_, RmL.low (by show 3 ≤ 3; omega)⟩
      unfold Lk at ht ⊢
      rw [hl'.h c c0 c1, lk_like h (by omega) c c0 G'.W (fun t gt => ?_) _ _ (by have := (h.hx c c0 c1).1; rw [hl.h c c0 c1] at this; exact this)] at ht
      · rw [hl.h c c0 c1]
        exact ht
      · rw [hl'.w t gt.1 gt.2.1, hl.w t gt.1 gt.2.1]
        show upd S.word (atC S sl x.cell) (2 * (wd / 2) + 1) (atC S t x.cell) / 2 = _
        by_cases et : t = sl
        · subst et
          rw [upd_same, e1]
          omega
        · have := g.1
          have := gt.1
          rw [upd_other _ _ (fun e => by unfold atC at e; rw [hl.wd] at e; omega)]
    · have e : remP S x ⟨2, co, bu, sl, wd, ah, pr, be, ma, he⟩ = (false, ⟨acc1 S, x⟩, ⟨1, co, bu, sl, wd, ah, pr, be, ma, he⟩) := by
        show (if liv S sl then (if S.word (atC S sl x.cell) = wd then _ else _) else _) = _
        rw [if_pos hv, if_neg e1]
      rw [e] at hl' fm ⊢
      have k := still_of hl hl' (fun _ => rfl) (fun t _ _ _ => rfl) f1 (fm rfl) f2 f3
      exact ⟨k.lkLe h hN, RmL.low (by show 1 ≤ 3; omega)⟩
  | 3 =>
    have k := still_of (S' := S) (x' := x.cn1) hl hl' (fun _ => rfl) (fun t _ _ _ => rfl) f1 (fm (by show (mvR _ _).2.ma = ma; unfold mvR; split <;> rfl)) f2 f3
    refine ⟨k.lkLe h hN, rml_mv (bk := bk) hN ⟨3, co, bu, sl, wd, 0, pr, be, ma, he⟩ (x.hd bu.toNat / 2) (fun hk => ?_)⟩
    have := lk_top h hN bu sl b0 b1 ((k.lk h hN bu b0 b1 sl).1 hk)
    rw [hH] at this
    rw [gin_ins f1, f2]
    exact this.2
  | 4 =>
    have gp : Gin N bk G bu pr := hm.pr (.inl rfl)
    have ga : ah = 0 ∨ Gin N bk G bu ah := hm.ah (.inl rfl)
    have pv := hl.lv _ gp.1 gp.2.1
    have pw := hl.w _ gp.1 gp.2.1
    have nx := h.nx bu pr gp
    have dn := h.dn bu pr gp
    have rk := h.rk bu pr gp
    have n0 := (nx.end_or (by omega) b0).2.2
    rw [pw] at nx n0 dn
    by_cases e1 : (S.word (atC S pr x.cell) % 2 == 1) = true
    · have e : remP S x ⟨4, co, bu, sl, wd, ah, pr, be, ma, he⟩ = (false, ⟨acc1 S, x⟩, ⟨5, co, bu, sl, wd, ah, pr, S.word (atC S pr x.cell) / 2, ma, he⟩) := by
        show (if liv S pr then (if S.word (atC S pr x.cell) / 2 = 0 then _ else if S.word (atC S pr x.cell) % 2 == 1 then _ else _) else _) = _
        rw [if_pos pv, if_neg n0, if_pos e1]
      rw [e] at hl' fm ⊢
      have k := still_of hl hl' (fun _ => rfl) (fun t _ _ _ => rfl) f1 (fm rfl) f2 f3
      refine ⟨k.lkLe h hN, fun _ hk => ?_, fun e => (by have e : 5 = 6 := e; omega)⟩
      show G'.rank sl ≤ G'.rank pr
      rw [f2]
      exact hL.1 (.inl rfl) ((k.lk h hN bu b0 b1 sl).1 hk)
    · have e : remP S x ⟨4, co, bu, sl, wd, ah, pr, be, ma, he⟩ = ((mvR ⟨4, co, bu, sl, wd, pr, pr, be, ma, he⟩ (S.word (atC S pr x.cell) / 2)).1, ⟨acc1 S, x⟩, (mvR ⟨4, co, bu, sl, wd, pr, pr, be, ma, he⟩ (S.word (atC S pr x.cell) / 2)).2) := by
        show (if liv S pr then (if S.word (atC S pr x.cell) / 2 = 0 then _ else if S.word (atC S pr x.cell) % 2 == 1 then _ else _) else _) = _
        rw [if_pos pv, if_neg n0, if_neg e1]
      rw [e] at hl' fm ⊢
      have k := still_of hl hl' (fun _ => rfl) (fun t _ _ _ => rfl) f1 (fm (by show (mvR _ _).2.ma = ma; unfold mvR; split <;> rfl)) f2 f3
      refine ⟨k.lkLe h hN, rml_mv (bk := bk) hN ⟨4, co, bu, sl, wd, pr, pr, be, ma, he⟩ (S.word (atC S pr x.cell) / 2) (fun hk => ?_)⟩
      have hk := (k.lk h hN bu b0 b1 sl).1 hk
      have g : Gin N bk G bu sl := hm.g
      have le : G.rank sl ≤ G.rank pr := hL.1 (.inl rfl) hk
      have rs : G.rem sl = 2 := (hm.ob (by show 3 ≤ 4; omega)).2
      have pu : G.rem pr ≠ 2 := fun e => e1 (beq_iff_eq.2 (by rw [← pw]; exact (h.mrk bu pr gp).2 e))
      have ne : ¬ G.rank sl = G.rank pr := fun e => pu (by rw [← h.inj bu sl pr g gp e]; exact rs)
      have d := lk_down h hN bu pr sl b0 b1 (lk_all h hN hr bu pr b0 b1 gp pu) hk (by omega)
      rw [pw] at d
      rw [gin_ins f1, f2]
      exact d
  | 5 =>
    have g : Gin N bk G bu sl := hm.g
    have gp : Gin N bk G bu pr := hm.pr (.inr rfl)
    have ga : ah = 0 ∨ Gin N bk G bu ah := hm.ah (.inr rfl)
    have gb : G.W pr % 2 = 1 ∧ be = G.W pr / 2 := hm.be rfl
    have ebp : bk pr = bu := gp.2.2.2
    have rk := h.rk bu pr gp
    have nx := h.nx bu pr gp
    have dn := h.dn bu pr gp
    rw [← gb.2] at nx dn
    have hlP : Lnk N nb (unlR ⟨5, co, bu, sl, wd, ah, pr, be, ma, he⟩ (ahR S x bu ah (2 * pr) (2 * be))).2.1.S (unlR ⟨5, co, bu, sl, wd, ah, pr, be, ma, he⟩ (ahR S x bu ah (2 * pr) (2 * be))).2.1.x G' := hl'
    have fmP : (unlR ⟨5, co, bu, sl, wd, ah, pr, be, ma, he⟩ (ahR S x bu ah (2 * pr) (2 * be))).2.2.ma = ma → G'.rem = G.rem := fm
    show LkLe N nb bk G G' ∧ RmL N G' (unlR ⟨5, co, bu, sl, wd, ah, pr, be, ma, he⟩ (ahR S x bu ah (2 * pr) (2 * be))).2.2
    have ucs : ∀ q : Bool × Int × CS, (unlR ⟨5, co, bu, sl, wd, ah, pr, be, ma, he⟩ q).2.1 = q.2.2 := fun q => by
      unfold unlR
      split
      · split
        · split <;> rfl
        · rfl
      · rfl
    have uma : ∀ q : Bool × Int × CS, (unlR ⟨5, co, bu, sl, wd, ah, pr, be, ma, he⟩ q).2.2.ma = ma := fun q => by
      unfold unlR
      split
      · split
        · split
          · rfl
          · show (mvR _ _).2.ma = ma
            unfold mvR
            split <;> rfl
        · rfl
      · rfl
    have fr := fmP (uma _)
    rw [ucs] at hlP
    clear hl' fm fmP f4
    have le : Lk N G bu sl → G.rank sl ≤ G.rank pr := hL.1 (.inr rfl)
    have miss : ahR S x bu ah (2 * pr) (2 * be) = (false, 0, (ahR S x bu ah (2 * pr) (2 * be)).2.2) → (∀ c : Nat, (ahR S x bu ah (2 * pr) (2 * be)).2.2.x.hd c = x.hd c) → (∀ t : Int, (ahR S x bu ah (2 * pr) (2 * be)).2.2.S.word (atC (ahR S x bu ah (2 * pr) (2 * be)).2.2.S t (ahR S x bu ah (2 * pr) (2 * be)).2.2.x.cell) = S.word (atC S t x.cell)) → LkLe N nb bk G G' ∧ RmL N G' (unlR ⟨5, co, bu, sl, wd, ah, pr, be, ma, he⟩ (ahR S x bu ah (2 * pr) (2 * be))).2.2 := fun e k1 k2 => by
      have k := still_of hl hlP k1 (fun t _ _ _ => k2 t) f1 fr f2 f3
      have eu : (unlR ⟨5, co, bu, sl, wd, ah, pr, be, ma, he⟩ (ahR S x bu ah (2 * pr) (2 * be))).2.2 = ⟨3, co, bu, sl, wd, ah, pr, be, ma, he⟩ := by
        rw [e]
        rfl
      rw [eu]
      exact ⟨k.lkLe h hN, RmL.low (by show 3 ≤ 3; omega)⟩
    have hit : ahR S x bu ah (2 * pr) (2 * be) = (true, 0, (ahR S x bu ah (2 * pr) (2 * be)).2.2) → Lk N G bu pr → (∀ c t, 0 ≤ c → c < nb → (Lk N G' c t ↔ Lk N G c t ∧ ¬ (c = bk pr ∧ t = pr))) → LkLe N nb bk G G' ∧ RmL N G' (unlR ⟨5, co, bu, sl, wd, ah, pr, be, ma, he⟩ (ahR S x bu ah (2 * pr) (2 * be))).2.2 := fun e hp hk => by
      refine ⟨fun c t c0 c1 _ ht => ((hk c t c0 c1).1 ht).1, ?_⟩
      rw [e]
      by_cases es : pr = sl
      · have eu : (unlR ⟨5, co, bu, sl, wd, ah, pr, be, ma, he⟩ (true, 0, (ahR S x bu ah (2 * pr) (2 * be)).2.2)).2.2 = ⟨6, 0, bu, sl, wd, ah, pr, be, ma, he⟩ := by
          show (if (0 : Int) = 0 then (if true = true then (if pr = sl then _ else _) else _) else _ : Bool × CS × MR).2.2 = _
          rw [if_pos rfl, if_pos rfl, if_pos es]
        rw [eu]
        refine ⟨fun e => (by have e : 6 = 4 ∨ 6 = 5 := e; omega), fun _ ht => ?_⟩
        have ht : Lk N G' bu sl := ht
        exact ((hk bu sl b0 b1).1 ht).2 ⟨ebp.symm, es.symm⟩
      · have eu : (unlR ⟨5, co, bu, sl, wd, ah, pr, be, ma, he⟩ (true, 0, (ahR S x bu ah (2 * pr) (2 * be)).2.2)).2.2 = (mvR ⟨5, co, bu, sl, wd, ah, pr, be, ma, wrap64 (he + 1)⟩ be).2 := by
          show (if (0 : Int) = 0 then (if true = true then (if pr = sl then _ else _) else _) else _ : Bool × CS × MR).2.2 = _
          rw [if_pos rfl, if_pos rfl, if_neg es]
        rw [eu]
        refine rml_mv (bk := bk) hN ⟨5, co, bu, sl, wd, ah, pr, be, ma, wrap64 (he + 1)⟩ be (fun ht => ?_)
        have ht := ((hk bu sl b0 b1).1 ht).1
        have l1 := le ht
        have ne : ¬ G.rank sl = G.rank pr := fun e => es (h.inj bu sl pr g gp e).symm
        have d := lk_down h hN bu pr sl b0 b1 hp ht (by omega)
        rw [← gb.2] at d
        rw [gin_ins f1, f2]
        exact d
    by_cases e0 : ah = 0
    · subst e0
      by_cases e1 : x.hd bu.toNat = 2 * pr
      · have e : ahR S x bu 0 (2 * pr) (2 * be) = (true, 0, ⟨S, { x.cn1 with hd := upd x.hd bu.toNat (2 * be) }⟩) := by
          unfold ahR
          rw [if_pos rfl, if_pos e1]
        rw [e] at hit hlP
        rw [e]
        have hw' : G.H bu = 2 * pr := hH.trans e1
        have q1 : ∀ c, 0 ≤ c → c < nb → G'.H c = updI G.H bu (2 * (G.W pr / 2)) c := fun c c0 c1 => by
          rw [hlP.h c c0 c1]
          show upd x.hd bu.toNat (2 * be) c.toNat = _
          by_cases e : c = bu
          · rw [e, updI_at, upd_same, gb.2]
          · rw [updI_ne _ _ e, upd_other _ _ (by omega), hl.h c c0 c1]
        refine hit rfl (lk_front h bu pr gp hw') (fun c t c0 c1 => lk_unhead h hN hb hr bu pr gp hw' q1 (fun t t1 t2 => ?_) c t c0 c1)
        · rw [hlP.w t t1 t2, hl.w t t1 t2]
          rfl
      · have e : ahR S x bu 0 (2 * pr) (2 * be) = (false, 0, ⟨S, x.cn1⟩) := by
          unfold ahR
          rw [if_pos rfl, if_neg e1]
        rw [e] at miss
        rw [e]
        exact miss rfl (fun _ => rfl) (fun _ => rfl)
    · have ga := ga.resolve_left e0
      have hva := hl.lv ah ga.1 ga.2.1
      have hwa := hl.w ah ga.1 ga.2.1
      by_cases e1 : S.word (atC S ah x.cell) = 2 * pr
      · have e : ahR S x bu ah (2 * pr) (2 * be) = (true, 0, ⟨put1 S (atC S ah x.cell) (2 * be), x⟩) := by
          unfold ahR
          rw [if_neg e0, if_pos hva, if_pos e1]
        rw [e] at hit hlP
        rw [e]
        have hw' : G.W ah = 2 * pr := hwa.trans e1
        have q2 : ∀ t : Int, 1 ≤ t → t ≤ N → G'.W t = updI G.W ah (2 * (G.W pr / 2)) t := fun t t1 t2 => by
          rw [hlP.w t t1 t2]
          show upd S.word (atC S ah x.cell) (2 * be) (atC S t x.cell) = _
          by_cases e : t = ah
          · rw [e, updI_at, upd_same, gb.2]
          · have := ga.1
            rw [updI_ne _ _ e, upd_other _ _ (fun e => by unfold atC at e; rw [hl.wd] at e; omega), hl.w t t1 t2]
        refine hit rfl (lk_behind h hN hr bu ah pr b0 b1 ga gp hw') (fun c t c0 c1 => lk_unlink h hN hb hr bu ah pr ga gp hw' (fun c c0 c1 => ?_) q2 c t c0 c1)
        · rw [hlP.h c c0 c1, hl.h c c0 c1]
      · have e : ahR S x bu ah (2 * pr) (2 * be) = (false, 0, ⟨acc1 S, x⟩) := by
          unfold ahR
          rw [if_neg e0, if_pos hva, if_neg e1]
        rw [e] at miss
        rw [e]
        exact miss rfl (fun _ => rfl) (fun _ => rfl)
  | n + 6 => exact absurd h5 (by omega)
/-- What is known of all Removes: none whose slot came off is linked; every slot with a Remove has a machine. -/
structure RmAll (N : Nat) (G : Gb) (all : List On) : Prop where
  l : ∀ (i : Nat) (o : On), all[i]? = some o → o.kd = 1 → RmL N G o.mr
  e : ∀ s, 1 ≤ s → s ≤ (N : Int) → G.rem s ≠ 0 → ∃ (i : Nat) (o : On), all[i]? = some o ∧ o.kd = 1 ∧ o.sl = s
theorem RmL.le {m : MR} (h : RmL N G m) (hm : RemI N bk G m) (hb : ∀ s, 0 ≤ bk s ∧ bk s < nb) (k : LkLe N nb bk G G') (kr : ∀ t, G.ins t = 2 → G'.rank t = G.rank t) : RmL N G' m := by
  have b0 : 0 ≤ m.bu := by rw [← hm.g.2.2.2]; exact (hb _).1
  have b1 : m.bu < nb := by rw [← hm.g.2.2.2]; exact (hb _).2
  refine ⟨fun e ht => ?_, fun e ht => h.2 e (k _ _ b0 b1 hm.g ht)⟩
  rw [kr _ hm.g.2.2.1, kr _ (hm.pr e).2.2.1]
  exact h.1 e (k _ _ b0 b1 hm.g ht)
theorem RmAll.set (h : RmAll N G all) (hi : BkI N nb bk S x G rows all) (hb : ∀ s, 0 ≤ bk s ∧ bk s < nb) {i : Nat} {o o' : On} (ho : all[i]? = some o) (ek : o'.kd = o.kd) (es : o'.sl = o.sl) (k : LkLe N nb bk G G') (kr : ∀ t, G.ins t = 2 → G'.rank t = G.rank t) (er : ∀ s, G'.rem s ≠ 0 → G.rem s ≠ 0 ∨ (o.kd = 1 ∧ s = o.sl)) (own : o.kd = 1 → RmL N G' o'.mr) : RmAll N G' (all.set i o') := by
  have hlt := (List.getElem?_eq_some_iff.1 ho).1
  refine ⟨fun j p hp e => ?_, fun s s0 s1 hs => ?_⟩
  · by_cases e2 : j = i
    · subst e2
      rw [List.getElem?_set_self hlt] at hp
      cases hp
      exact own (ek.symm.trans e)
    · rw [List.getElem?_set_ne (fun e => e2 e.symm)] at hp
      exact (h.l j p hp e).le ((hi.ok j p hp).r e).1 hb k kr
  · have : ∃ (j : Nat) (p : On), all[j]? = some p ∧ p.kd = 1 ∧ p.sl = s := by
      rcases er s hs with f | f
      · exact h.e s s0 s1 f
      · exact ⟨i, o, ho, f.1, f.2.symm⟩
    obtain ⟨j, p, hp, e1, e2⟩ := this
    by_cases e3 : j = i
    · subst e3
      rw [ho] at hp
      cases hp
      exact ⟨j, o', List.getElem?_set_self hlt, ek.trans e1, es.trans e2⟩
    · exact ⟨j, p, by rw [List.getElem?_set_ne (fun e => e3 e.symm)]; exact hp, e1, e2⟩
/-- A machine more. -/
theorem RmAll.app (h : RmAll N G all) {o : On} (eW : G'.W = G.W) (eH : G'.H = G.H) (er : G'.rank = G.rank) (hr : ∀ s, G'.rem s ≠ 0 → G.rem s ≠ 0 ∨ (o.kd = 1 ∧ s = o.sl)) (own : o.kd = 1 → o.mr.st ≤ 3) : RmAll N G' (all ++ [o]) := by
  have lk : ∀ b s, Lk N G' b s ↔ Lk N G b s := fun b s => by
    unfold Lk
    rw [eW, eH]
  refine ⟨fun j p hp e => ?_, fun s s0 s1 hs => ?_⟩
  · rcases Nat.lt_or_ge j all.length with f | f
    · rw [List.getElem?_append_left f] at hp
      have := h.l j p hp e
      exact ⟨fun a b => by rw [er]; exact this.1 a ((lk _ _).1 b), fun a b => this.2 a ((lk _ _).1 b)⟩
    · rw [List.getElem?_append_right f] at hp
      have hj : j - all.length = 0 := by
        have := (List.getElem?_eq_some_iff.1 hp).1
        simp only [List.length_cons, List.length_nil] at this
        omega
      rw [hj] at hp
      have hp : o = p := by simpa using hp
      subst hp
      exact RmL.low (own e)
  · rcases hr s hs with f | f
    · obtain ⟨j, p, hp, e1, e2⟩ := h.e s s0 s1 f
      exact ⟨j, p, by rw [List.getElem?_append_left (List.getElem?_eq_some_iff.1 hp).1]; exact hp, e1, e2⟩
    · exact ⟨all.length, o, by rw [List.getElem?_append_right (Nat.le_refl _), Nat.sub_self]; rfl, f.1, f.2.symm⟩
theorem RmAll.new (N : Nat) : RmAll N Gb.new [] := ⟨fun i o ho => (by rw [List.getElem?_nil] at ho; cases ho), fun s _ _ hs => absurd rfl hs⟩
/-- What an Insert's move leaves linked. -/
theorem BkI.lkI (h : BkI N nb bk S x G rows all) (hN : N ≤ 4096) (hb : ∀ s, 0 ≤ bk s ∧ bk s < nb) {i : Nat} {o o' : On} (hi : all[i]? = some o) (h0 : o.kd = 0) (hl' : Lnk N nb (insP S x o.mi).2.1.S (insP S x o.mi).2.1.x G') (mv : MvP N nb bk S x G o (insP S x o.mi).2.1.S (insP S x o.mi).2.1.x G' o') (hf : ((insP S x o.mi).1 = o.dn ∧ G'.ins = G.ins ∧ G'.rem = G.rem ∧ G'.rank = G.rank ∧ G'.ranks = G.ranks) ∨ ((insP S x o.mi).1 = true ∧ G'.ins = updI G.ins o.sl 2 ∧ G'.rem = G.rem)) : LkLe N nb bk G G' := by
  cases hd : o.dn
  · obtain ⟨a1, a2, a3⟩ := (h.ok i o hi).i h0
    have h3 : o.mi.st ≤ 3 := by
      have := a1.st
      have : ¬ o.mi.st = 4 := fun e => by have := a3.2 e; rw [hd] at this; cases this
      omega
    refine ins_lk h.l h.g hN (by have := h.ranks; omega) hb o.mi a1 h3 hl' ?_
    rw [a2]
    rcases hf with f | f
    · exact .inl ⟨f.1.trans hd, f.2⟩
    · exact .inr f
  · exact (mv.1 hd).2.2.lkLe h.g hN
/-- What a Remove's move leaves linked. -/
theorem BkI.lkR (h : BkI N nb bk S x G rows all) (hN : N ≤ 4096) (hb : ∀ s, 0 ≤ bk s ∧ bk s < nb) {i : Nat} {o o' : On} (hi : all[i]? = some o) (h0 : o.kd = 1) (hl' : Lnk N nb (remP S x o.mr).2.1.S (remP S x o.mr).2.1.x G') (mv : MvP N nb bk S x G o (remP S x o.mr).2.1.S (remP S x o.mr).2.1.x G' o') (f1 : G'.ins = G.ins) (f2 : G'.rank = G.rank) (f3 : G'.ranks = G.ranks) (f4 : ((remP S x o.mr).2.2.ma = o.mq ∧ G'.rem = G.rem) ∨ (o.mq = false ∧ (remP S x o.mr).2.2.ma = true ∧ G'.rem = updI G.rem o.sl 2)) (hL : RmL N G o.mr) : LkLe N nb bk G G' ∧ RmL N G' (remP S x o.mr).2.2 := by
  obtain ⟨a1, a2, a4, a3⟩ := (h.ok i o hi).r h0
  cases hd : o.dn
  · have h5 : o.mr.st ≤ 5 := by
      have := a1.st
      have : ¬ o.mr.st = 6 := fun e => by have := a3.2 e; rw [hd] at this; cases this
      omega
    refine rem_lk h.l h.g hN (by have := h.ranks; omega) hb o.mr a1 h5 hl' f1 f2 f3 ?_ hL
    rw [a2, ← a4]
    exact f4
  · have k := (mv.1 hd).2.2
    have s6 := a3.1 hd
    have e : (remP S x o.mr).2.2 = o.mr := by
      have q : ∀ m : MR, m.st = 6 → (remP S x m).2.2 = m := fun m e => by
        obtain ⟨st, co, bu, sl, wd, ah, pr, be, ma, he⟩ := m
        cases e
        rfl
      exact q _ s6
    have b0 : 0 ≤ o.mr.bu := by rw [← a1.g.2.2.2]; exact (hb _).1
    have b1 : o.mr.bu < nb := by rw [← a1.g.2.2.2]; exact (hb _).2
    rw [e]
    exact ⟨k.lkLe h.g hN, fun e => by omega, fun e ht => hL.2 e ((k.lk h.g hN _ b0 b1 _).1 ht)⟩
/-- Once all are done what is linked is not marked. -/
theorem RmAll.none (h : RmAll N G all) (hi : BkI N nb bk S x G rows all) (hN : N ≤ 4096) (hd : ∀ (i : Nat) (o : On), all[i]? = some o → o.dn = true) (b s : Int) (b0 : 0 ≤ b) (b1 : b < nb) (hs : Lk N G b s) : Gin N bk G b s ∧ G.rem s ≠ 2 := by
  have g := (lk_top hi.g hN b s b0 b1 hs).1
  refine ⟨g, fun e => ?_⟩
  obtain ⟨i, o, ho, e1, e2⟩ := h.e s g.1 g.2.1 (by rw [e]; decide)
  have r := (hi.ok i o ho).r e1
  have s6 := r.2.2.2.1 (hd i o ho)
  refine (h.l i o ho e1).2 s6 ?_
  have eb : o.mr.bu = b := by rw [← r.1.g.2.2.2, r.2.1, e2]; exact g.2.2.2
  rw [eb, r.2.1, e2]
  exact hs
/-- Two lists in falling order with the same members are one list. -/
theorem pw_uniq (f : Int → Int) : ∀ (l l' : List Int), l.Pairwise (fun u v => f v < f u) → l'.Pairwise (fun u v => f v < f u) → (∀ u, u ∈ l ↔ u ∈ l') → l = l'
  | [], [], _, _, _ => rfl
  | [], b :: l', _, _, h => absurd ((h b).2 List.mem_cons_self) (by simp)
  | a :: l, [], _, _, h => absurd ((h a).1 List.mem_cons_self) (by simp)
  | a :: l, b :: l', h1, h2, h => by
    obtain ⟨a1, a2⟩ := List.pairwise_cons.1 h1
    obtain ⟨b1, b2⟩ := List.pairwise_cons.1 h2
    have e : a = b := by
      rcases List.mem_cons.1 ((h a).1 List.mem_cons_self) with e | e
      · exact e
      · rcases List.mem_cons.1 ((h b).2 List.mem_cons_self) with f | f
        · exact f.symm
        · have := a1 b f
          have := b1 a e
          omega
    subst e
    rw [pw_uniq f l l' a2 b2 (fun u => ⟨fun hu => ?_, fun hu => ?_⟩)]
    · rcases List.mem_cons.1 ((h u).1 (List.mem_cons_of_mem _ hu)) with e | e
      · have := a1 u hu
        rw [e] at this
        omega
      · exact e
    · rcases List.mem_cons.1 ((h u).2 (List.mem_cons_of_mem _ hu)) with e | e
      · have := b1 u hu
        rw [e] at this
        omega
      · exact e
theorem lkL_pw (h : GbInv N nb bk G) (hN : N ≤ 4096) (b : Int) (b0 : 0 ≤ b) : ∀ (f : Nat) (n : Int), Gto N bk G b n → (lkL N G.W f n).Pairwise (fun u v => G.rank v < G.rank u)
  | 0, n, hn => List.Pairwise.nil
  | f + 1, n, hn => by
    rcases hn with hn | hn
    · rw [lkL_no (by omega)]
      exact List.Pairwise.nil
    · rw [lkL_yes hn.1 hn.2.1]
      refine List.pairwise_cons.2 ⟨fun u hu => ?_, lkL_pw h hN b b0 f _ (h.nx b n hn)⟩
      have := lk_gin h (by omega) b b0 f _ (h.nx b n hn) u hu
      have := h.dn b n hn this.2.1
      omega
/-- Once all are done a bucket's links are the book's row. -/
theorem RmAll.row (h : RmAll N G all) (hi : BkI N nb bk S x G rows all) (hN : N ≤ 4096) (hd : ∀ (i : Nat) (o : On), all[i]? = some o → o.dn = true) (b : Int) (b0 : 0 ≤ b) (b1 : b < nb) : lkL N G.W 4097 (G.H b / 2) = rows b := by
  have hr := hi.ranks
  have r := hi.r b b0 b1
  refine pw_uniq G.rank _ _ (lkL_pw hi.g hN b b0 4097 _ (hi.g.hx b b0 b1).1) r.2 (fun u => ?_)
  rw [r.1 u]
  exact ⟨fun hu => h.none hi hN hd b u b0 b1 hu, fun hu => lk_all hi.g hN (by omega) b u b0 b1 hu.1 hu.2⟩
end
end Go.Proofs.YteekompojgbkhaaGreat
