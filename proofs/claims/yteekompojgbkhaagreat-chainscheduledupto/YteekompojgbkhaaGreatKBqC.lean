import Derived.Test.YteekompojgbkhaaGreatKBqA
namespace Go.Proofs.YteekompojgbkhaaGreat
open Go.ChangeShapes Go.WideShapes Go.ChangeAt Go.RowKit Go.MuLone Go.RwLone
set_option linter.unusedVariables false
set_option linter.unusedSectionVars false
/-- An Insert is linked: what the list and the book are then. -/
def Gb.push (G : Gb) (b s : Int) : Gb := { G with H := updI G.H b (2 * s), ins := updI G.ins s 2, rank := updI G.rank s G.ranks, ranks := G.ranks + 1 }
section
variable {N nb : Int} {bk : Int → Int} {G G' : Gb}
theorem gin_push {s c t : Int} (b : Int) (h : Gin N bk (G.push b s) c t) (e : t ≠ s) : Gin N bk G c t := ⟨h.1, h.2.1, by
  have := h.2.2.1
  have e2 : updI G.ins s 2 t = 2 := this
  rwa [updI_ne _ _ e] at e2, h.2.2.2⟩
theorem push_gin {s c t : Int} (b : Int) (h : Gin N bk G c t) : Gin N bk (G.push b s) c t := ⟨h.1, h.2.1, by
  show updI G.ins s 2 t = 2
  by_cases e : t = s
  · rw [e, updI_at]
  · rw [updI_ne _ _ e]
    exact h.2.2.1, h.2.2.2⟩
theorem push_rank {s t : Int} (b : Int) (e : t ≠ s) : (G.push b s).rank t = G.rank t := updI_ne _ _ e
theorem push_rank_at {s : Int} (b : Int) : (G.push b s).rank s = G.ranks := updI_at _ _ _
theorem GbInv.push (h : GbInv N nb bk G) (s : Int) (hN : N ≤ 4096) (h1 : 1 ≤ s) (h2 : s ≤ N) (hs : G.ins s = 1) (b0 : 0 ≤ bk s) (b1 : bk s < nb) (hw : G.W s = G.H (bk s)) : GbInv N nb bk (G.push (bk s) s) ∧ GbLe G (G.push (bk s) s) := by
  have ne : ∀ {c t : Int}, Gin N bk G c t → t ≠ s := fun {c t} ht e => by have := ht.2.2.1; rw [e, hs] at this; omega
  have hb := h.hx (bk s) b0 b1
  have he := hb.1.end_or hN b0
  have tto : ∀ {c n : Int}, Gto N bk G c n → Gto N bk (G.push (bk s) s) c n := fun {c n} ht => ht.imp id (push_gin (bk s))
  have nes : ∀ {c n : Int}, 0 ≤ c → Gto N bk G c n → Gin N bk (G.push (bk s) s) c n → Gin N bk G c n := fun {c n} hc ht hi => by
    rcases ht with e | e
    · have := hi.2.1
      omega
    · exact e
  have me : Gin N bk (G.push (bk s) s) (bk s) s := ⟨h1, h2, updI_at _ _ _, rfl⟩
  have bs : ∀ {c : Int}, Gin N bk (G.push (bk s) s) c s → c = bk s := fun {c} hi => hi.2.2.2.symm
  have ov : ∀ {c n u : Int}, u ≠ s → Gov N bk (G.push (bk s) s) c n u → Gov N bk G c n u := fun {c n u} eu ho hi => by
    have := ho (push_gin (bk s) hi)
    rwa [push_rank _ (ne hi), push_rank _ eu] at this
  refine ⟨⟨fun c t ht => ?_, fun c t ht h3 => ?_, fun c t ht => ?_, fun c h3 h4 => ?_, fun c t u ht hu h3 ho => ?_, fun c u h3 h4 hu ho => ?_, fun c t ht => ?_, fun c t u ht hu h3 => ?_, fun t h3 h4 h5 => ?_, fun t ht => ?_, ?_⟩, ⟨fun t ht => ?_, fun t ht => ?_, fun t ht => ht, ?_, fun t _ _ => rfl, fun t h3 h4 => ?_⟩⟩
  · by_cases e : t = s
    · subst e
      show Gto N bk _ c (G.W t / 2)
      rw [bs ht, hw]
      exact tto hb.1
    · exact tto (h.nx c t (gin_push _ ht e))
  · have h3 : Gin N bk (G.push (bk s) s) c (G.W t / 2) := h3
    show (G.push (bk s) s).rank (G.W t / 2) < _
    by_cases e : t = s
    · subst e
      rw [bs ht, hw] at h3
      have h5 := nes b0 hb.1 h3
      rw [hw, push_rank _ (ne h5), push_rank_at]
      exact (h.rk _ _ h5).2
    · have h4 := gin_push _ ht e
      by_cases hc : 0 ≤ c
      · have h5 := nes hc (h.nx c t h4) h3
        rw [push_rank _ (ne h5), push_rank _ e]
        exact h.dn c t h4 h5
      · rcases h.nx c t h4 with h5 | h5
        · by_cases e6 : G.W t / 2 = s
          · rw [e6] at h3
            have := bs h3
            omega
          · have h7 := gin_push _ h3 e6
            rw [push_rank _ e6, push_rank _ e]
            exact h.dn c t h4 h7
        · rw [push_rank _ (ne h5), push_rank _ e]
          exact h.dn c t h4 h5
  · by_cases e : t = s
    · subst e
      show G.W t % 2 = 1 ↔ G.rem t = 2
      rw [hw, hb.2]
      constructor
      · intro h3
        omega
      · intro h3
        exact absurd h3 (h.rm t (by rw [hs]; decide))
    · exact h.mrk c t (gin_push _ ht e)
  · show Gto N bk _ c (updI G.H (bk s) (2 * s) c / 2) ∧ updI G.H (bk s) (2 * s) c % 2 = 0
    by_cases e : c = bk s
    · rw [e, updI_at, show 2 * s / 2 = s from by omega]
      exact ⟨.inr me, by omega⟩
    · rw [updI_ne _ _ e]
      exact ⟨tto (h.hx c h3 h4).1, (h.hx c h3 h4).2⟩
  · have ho : Gov N bk (G.push (bk s) s) c (G.W t / 2) u := ho
    show G.rem u = 2
    by_cases eu : u = s
    · subst eu
      rw [push_rank_at] at h3
      by_cases e : t = u
      · rw [e, push_rank_at] at h3
        omega
      · rw [push_rank _ e] at h3
        have := (h.rk _ _ (gin_push _ ht e)).2
        omega
    · have gu := gin_push _ hu eu
      by_cases e : t = s
      · subst e
        rw [bs ht] at gu ho
        rw [hw] at ho
        exact h.hgap (bk t) u b0 b1 gu (ov eu ho)
      · rw [push_rank _ e, push_rank _ eu] at h3
        exact h.gap c t u (gin_push _ ht e) gu h3 (ov eu ho)
  · have ho : Gov N bk (G.push (bk s) s) c (updI G.H (bk s) (2 * s) c / 2) u := ho
    show G.rem u = 2
    by_cases e : c = bk s
    · rw [e, updI_at, show 2 * s / 2 = s from by omega] at ho
      have h5 := ho me
      rw [push_rank_at] at h5
      by_cases eu : u = s
      · rw [eu, push_rank_at] at h5
        omega
      · rw [push_rank _ eu] at h5
        have := (h.rk _ _ (gin_push _ hu eu)).2
        omega
    · have eu : u ≠ s := fun eu => by rw [eu] at hu; exact e (bs hu)
      rw [updI_ne _ _ e] at ho
      exact h.hgap c u h3 h4 (gin_push _ hu eu) (ov eu ho)
  · show 0 ≤ (G.push (bk s) s).rank t ∧ (G.push (bk s) s).rank t < G.ranks + 1
    by_cases e : t = s
    · rw [e, push_rank_at]
      have := h.r0
      omega
    · rw [push_rank _ e]
      have := h.rk _ _ (gin_push _ ht e)
      omega
  · by_cases e : t = s
    · by_cases eu : u = s
      · rw [e, eu]
      · rw [e, push_rank_at, push_rank _ eu] at h3
        have := (h.rk _ _ (gin_push _ hu eu)).2
        omega
    · by_cases eu : u = s
      · rw [eu, push_rank_at, push_rank _ e] at h3
        have := (h.rk _ _ (gin_push _ ht e)).2
        omega
      · rw [push_rank _ e, push_rank _ eu] at h3
        exact h.inj c t u (gin_push _ ht e) (gin_push _ hu eu) h3
  · have h5 : updI G.ins s 2 t = 0 := h5
    have e : t ≠ s := fun e => by rw [e, updI_at] at h5; omega
    rw [updI_ne _ _ e] at h5
    exact h.w0 t h3 h4 h5
  · have ht : updI G.ins s 2 t ≠ 2 := ht
    have e : t ≠ s := fun e => ht (by rw [e, updI_at])
    rw [updI_ne _ _ e] at ht
    exact h.rm t ht
  · show 0 ≤ G.ranks + 1
    have := h.r0
    omega
  · have e : t ≠ s := fun e => by rw [e, hs] at ht; omega
    exact ⟨(updI_ne _ _ e).trans ht, push_rank _ e⟩
  · show updI G.ins s 2 t = 1 ∨ updI G.ins s 2 t = 2
    by_cases e : t = s
    · rw [e, updI_at]
      exact .inr rfl
    · rw [updI_ne _ _ e]
      exact .inl ht
  · show G.ranks ≤ G.ranks + 1
    omega
  · have h4 : updI G.ins s 2 t = 2 := h4
    by_cases e : t = s
    · rw [e, push_rank_at]
      exact Int.le_refl _
    · rw [updI_ne _ _ e] at h4
      exact absurd h4 h3
/-- The lists that the book has: of each bucket those done and not marked, the one done last in front. -/
def RwOk (N nb : Int) (bk : Int → Int) (G : Gb) (rows : Int → List Int) : Prop := ∀ b, 0 ≤ b → b < nb → (∀ u, u ∈ rows b ↔ Gin N bk G b u ∧ G.rem u ≠ 2) ∧ (rows b).Pairwise (fun u v => G.rank v < G.rank u)
/-- Two lists in that order that hold the same are the same. -/
theorem pair_uniq (r : Int → Int) : ∀ (l m : List Int), l.Pairwise (fun u v => r v < r u) → m.Pairwise (fun u v => r v < r u) → (∀ u, u ∈ l ↔ u ∈ m) → l = m
  | [], [], _, _, _ => rfl
  | [], b :: m, _, _, h => absurd ((h b).2 List.mem_cons_self) (by simp)
  | a :: l, [], _, _, h => absurd ((h a).1 List.mem_cons_self) (by simp)
  | a :: l, b :: m, h1, h2, h => by
    have h1' := List.pairwise_cons.1 h1
    have h2' := List.pairwise_cons.1 h2
    have e : a = b := by
      rcases List.mem_cons.1 ((h a).1 List.mem_cons_self) with e | e
      · exact e
      · rcases List.mem_cons.1 ((h b).2 List.mem_cons_self) with e2 | e2
        · exact e2.symm
        · have := h1'.1 b e2
          have := h2'.1 a e
          omega
    subst e
    have na : a ∉ l := fun hm => by have := h1'.1 a hm; omega
    have nb : a ∉ m := fun hm => by have := h2'.1 a hm; omega
    refine congrArg (a :: ·) (pair_uniq r l m h1'.2 h2'.2 fun u => ⟨fun hu => ?_, fun hu => ?_⟩)
    · rcases List.mem_cons.1 ((h u).1 (List.mem_cons_of_mem _ hu)) with e | e
      · exact absurd (e ▸ hu) na
      · exact e
    · rcases List.mem_cons.1 ((h u).2 (List.mem_cons_of_mem _ hu)) with e | e
      · exact absurd (e ▸ hu) nb
      · exact e
end
end Go.Proofs.YteekompojgbkhaaGreat

namespace Go.Proofs.YteekompojgbkhaaGreat
open Go.ChangeShapes Go.WideShapes Go.ChangeAt Go.RowKit Go.MuLone Go.RwLone
set_option linter.unusedVariables false
set_option linter.unusedSectionVars false
/-- The arena and the index are the list of which the book is kept. -/
structure Lnk (N nb : Int) (S : AS) (x : XS) (G : Gb) : Prop where
  n : (S.n : Int) = N
  wd : S.wd = 1
  cl : x.cell = 0
  b : (x.nb : Int) = nb
  lv : ∀ s, 1 ≤ s → s ≤ N → liv S s = true
  w : ∀ s, 1 ≤ s → s ≤ N → G.W s = S.word (atC S s x.cell)
  h : ∀ c, 0 ≤ c → c < nb → G.H c = x.hd c.toNat
section
variable {N nb : Int} {bk : Int → Int} {S : AS} {x : XS} {G G' : Gb}
theorem Lnk.acc (h : Lnk N nb S x G) : Lnk N nb (acc1 S) x G := ⟨h.n, h.wd, h.cl, h.b, h.lv, h.w, h.h⟩
theorem Lnk.cn (h : Lnk N nb S x G) : Lnk N nb S x.cn1 G := ⟨h.n, h.wd, h.cl, h.b, h.lv, h.w, h.h⟩
theorem Lnk.same (h : Lnk N nb S x G) (hW : G'.W = G.W) (hH : G'.H = G.H) : Lnk N nb S x G' := ⟨h.n, h.wd, h.cl, h.b, h.lv, by rw [hW]; exact h.w, by rw [hH]; exact h.h⟩
theorem Lnk.inb (h : Lnk N nb S x G) {c : Int} (h0 : 0 ≤ c) (h1 : c < nb) : inB x c = true := by
  have := h.b
  unfold inB
  rw [decide_eq_true h0, decide_eq_true (by omega)]
  rfl
theorem Lnk.put (h : Lnk N nb S x G) {s y : Int} (h1 : 1 ≤ s) (hW : G'.W = updI G.W s y) (hH : G'.H = G.H) : Lnk N nb (put1 S (atC S s x.cell) y) x G' := by
  refine ⟨h.n, h.wd, h.cl, h.b, h.lv, fun t h3 h4 => ?_, by rw [hH]; exact h.h⟩
  show G'.W t = upd S.word (atC S s x.cell) y (atC S t x.cell)
  rw [hW]
  by_cases e : t = s
  · rw [e, updI_at]
    unfold upd
    rw [if_pos rfl]
  · rw [updI_ne _ _ e]
    unfold upd
    rw [if_neg, h.w t h3 h4]
    intro e2
    unfold atC at e2
    rw [h.wd] at e2
    omega
theorem Lnk.head (h : Lnk N nb S x G) {b y : Int} (h0 : 0 ≤ b) (hW : G'.W = G.W) (hH : G'.H = updI G.H b y) : Lnk N nb S { x.cn1 with hd := upd x.hd b.toNat y } G' := by
  refine ⟨h.n, h.wd, h.cl, h.b, h.lv, by rw [hW]; exact h.w, fun c h3 h4 => ?_⟩
  show G'.H c = upd x.hd b.toNat y c.toNat
  rw [hH]
  by_cases e : c = b
  · rw [e, updI_at]
    unfold upd
    rw [if_pos rfl]
  · rw [updI_ne _ _ e]
    unfold upd
    rw [if_neg (by omega), h.h c h3 h4]
/-- An Insert of the book. -/
structure InsI (N : Int) (bk : Int → Int) (G : Gb) (m : MI) : Prop where
  lo : 1 ≤ m.sl
  up : m.sl ≤ N
  bu : m.bu = bk m.sl
  st : m.st ≤ 4
  on : m.st ≤ 3 → G.ins m.sl = 1
  w0 : m.st = 0 → G.W m.sl = 0
  w3 : m.st = 3 → G.W m.sl = m.hd
  dn : m.st = 4 → m.code = 0 ∧ G.ins m.sl = 2
/-- What a step of an Insert is: the list's own business, or the linking. -/
theorem ins_go (hl : Lnk N nb S x G) (h : GbInv N nb bk G) (hN : N ≤ 4096) (hb : ∀ s, 0 ≤ bk s ∧ bk s < nb) (m : MI) (hm : InsI N bk G m) : ∃ G', Lnk N nb (insP S x m).2.1.S (insP S x m).2.1.x G' ∧ GbInv N nb bk G' ∧ GbLe G G' ∧ InsI N bk G' (insP S x m).2.2 ∧ (∀ t, t ≠ m.sl → G'.W t = G.W t) ∧ (((insP S x m).1 = false ∧ m.st ≤ 3 ∧ (insP S x m).2.2.st ≤ 3 ∧ (∃ y, G' = { G with W := updI G.W m.sl y } ∨ G' = G)) ∨ ((insP S x m).1 = true ∧ m.st = 4 ∧ (insP S x m).2.2.st = 4 ∧ G' = G) ∨ ((insP S x m).1 = true ∧ m.st = 3 ∧ (insP S x m).2.2.st = 4 ∧ G' = G.push (bk m.sl) m.sl)) ∧ (insP S x m).2.2.sl = m.sl := by
  obtain ⟨st, code, bu, sl, hd, tr⟩ := m
  obtain ⟨lo, up, bu', hst, on, w0, w3, dn⟩ := hm
  simp only at lo up bu' hst on w0 w3 dn
  subst bu'
  have hi := hl.inb (hb sl).1 (hb sl).2
  have hv := hl.lv sl lo up
  match st with
  | 0 =>
    have e : insP S x ⟨0, code, bk sl, sl, hd, tr⟩ = (false, ⟨acc1 S, x⟩, ⟨1, code, bk sl, sl, hd, tr⟩) := by
      show (if inB x (bk sl) then (if liv S sl then (if S.word (atC S sl x.cell) = 0 then _ else _) else _) else _) = _
      rw [if_pos hi, if_pos hv, if_pos ((hl.w sl lo up).symm.trans (w0 rfl))]
    rw [e]
    exact ⟨G, hl.acc, h, GbLe.refl G, ⟨lo, up, rfl, Nat.le_of_ble_eq_true rfl, fun _ => on (Nat.le_of_ble_eq_true rfl), fun e => (by cases e), fun e => (by cases e), fun e => (by cases e)⟩, fun t _ => rfl, .inl ⟨rfl, (by decide : (0 : Nat) ≤ 3), (by decide : (1 : Nat) ≤ 3), 0, .inr rfl⟩, rfl⟩
  | 1 =>
    exact ⟨G, hl.cn, h, GbLe.refl G, ⟨lo, up, rfl, Nat.le_of_ble_eq_true rfl, fun _ => on (Nat.le_of_ble_eq_true rfl), fun e => (by cases e), fun e => (by cases e), fun e => (by cases e)⟩, fun t _ => rfl, .inl ⟨rfl, (by decide : (1 : Nat) ≤ 3), (by decide : (2 : Nat) ≤ 3), 0, .inr rfl⟩, rfl⟩
  | 2 =>
    have e : insP S x ⟨2, code, bk sl, sl, hd, tr⟩ = (false, ⟨put1 S (atC S sl x.cell) hd, x⟩, ⟨3, code, bk sl, sl, hd, tr⟩) := by
      show (if liv S sl then _ else _) = _
      rw [if_pos hv]
    rw [e]
    have hs := on (by decide)
    have hp := h.store sl hd hs
    exact ⟨{ G with W := updI G.W sl hd }, hl.put lo rfl rfl, hp.1, hp.2, ⟨lo, up, rfl, Nat.le_of_ble_eq_true rfl, fun _ => hs, fun e => (by cases e), fun _ => updI_at _ _ _, fun e => (by cases e)⟩, fun t ht => updI_ne _ _ ht, .inl ⟨rfl, (by decide : (2 : Nat) ≤ 3), (by decide : (3 : Nat) ≤ 3), hd, .inl rfl⟩, rfl⟩
  | 3 =>
    have hs := on (by decide)
    by_cases hh : x.hd (bk sl).toNat = hd
    · have e : insP S x ⟨3, code, bk sl, sl, hd, tr⟩ = (true, ⟨S, { x.cn1 with hd := upd x.hd (bk sl).toNat (2 * sl) }⟩, ⟨4, 0, bk sl, sl, hd, tr⟩) := by
        show (if x.hd (bk sl).toNat = hd then _ else _) = _
        rw [if_pos hh]
      rw [e]
      have hp := h.push sl hN lo up hs (hb sl).1 (hb sl).2 ((w3 rfl).trans (hh.symm.trans (hl.h _ (hb sl).1 (hb sl).2).symm))
      exact ⟨G.push (bk sl) sl, hl.head (hb sl).1 rfl rfl, hp.1, hp.2, ⟨lo, up, rfl, Nat.le_of_ble_eq_true rfl, fun e => (by have e : 4 ≤ 3 := e; omega), fun e => (by cases e), fun e => (by cases e), fun _ => ⟨rfl, updI_at _ _ _⟩⟩, fun t _ => rfl, .inr (.inr ⟨rfl, rfl, rfl, rfl⟩), rfl⟩
    · have e : insP S x ⟨3, code, bk sl, sl, hd, tr⟩ = (false, ⟨S, x.cn1⟩, ⟨1, code, bk sl, sl, hd, wrap64 (tr + 1)⟩) := by
        show (if x.hd (bk sl).toNat = hd then _ else _) = _
        rw [if_neg hh]
      rw [e]
      exact ⟨G, hl.cn, h, GbLe.refl G, ⟨lo, up, rfl, Nat.le_of_ble_eq_true rfl, fun _ => hs, fun e => (by cases e), fun e => (by cases e), fun e => (by cases e)⟩, fun t _ => rfl, .inl ⟨rfl, (by decide : (3 : Nat) ≤ 3), (by decide : (1 : Nat) ≤ 3), 0, .inr rfl⟩, rfl⟩
  | 4 => exact ⟨G, hl, h, GbLe.refl G, ⟨lo, up, rfl, hst, fun e => (by have e : 4 ≤ 3 := e; omega), fun e => (by cases e), fun e => (by cases e), dn⟩, fun t _ => rfl, .inr (.inl ⟨rfl, rfl, rfl, rfl⟩), rfl⟩
  | n + 5 => exact absurd hst (by omega)
end
end Go.Proofs.YteekompojgbkhaaGreat
