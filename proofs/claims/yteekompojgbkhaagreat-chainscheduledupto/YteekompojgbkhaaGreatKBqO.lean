import Derived.Test.YteekompojgbkhaaGreatKBqM
namespace Go.Proofs.YteekompojgbkhaaGreat
open Go.ChangeShapes Go.WideShapes Go.ChangeAt Go.RowKit Go.MuLone Go.RwLone
set_option linter.unusedVariables false
set_option linter.unusedSectionVars false
/-- A sum over the slots 1 to n. -/
def sumF (f : Int → Nat) : Nat → Nat
  | 0 => 0
  | n + 1 => sumF f n + f ((n : Int) + 1)
theorem sum_le (f f' : Int → Nat) : ∀ n : Nat, (∀ s : Int, 1 ≤ s → s ≤ (n : Int) → f' s ≤ f s) → sumF f' n ≤ sumF f n
  | 0, _ => Nat.le_refl _
  | n + 1, h => by
    have := sum_le f f' n (fun s h1 h2 => h s h1 (by omega))
    have := h ((n : Int) + 1) (by omega) (by omega)
    show sumF f' n + f' _ ≤ sumF f n + f _
    omega
theorem sum_lt (f f' : Int → Nat) (t : Int) : ∀ n : Nat, (∀ s : Int, 1 ≤ s → s ≤ (n : Int) → f' s ≤ f s) → 1 ≤ t → t ≤ (n : Int) → f' t + 1 ≤ f t → sumF f' n + 1 ≤ sumF f n
  | 0, _, h1, h2, _ => by omega
  | n + 1, h, h1, h2, h3 => by
    show sumF f' n + f' _ + 1 ≤ sumF f n + f _
    by_cases e : t = (n : Int) + 1
    · have := sum_le f f' n (fun s h1 h2 => h s h1 (by omega))
      rw [e] at h3
      omega
    · have := sum_lt f f' t n (fun s h1 h2 => h s h1 (by omega)) h1 (by omega) h3
      have := h ((n : Int) + 1) (by omega) (by omega)
      omega
theorem sum_eq (f f' : Int → Nat) : ∀ n : Nat, (∀ s : Int, 1 ≤ s → s ≤ (n : Int) → f' s = f s) → sumF f' n = sumF f n
  | 0, _ => rfl
  | n + 1, h => by
    have := sum_eq f f' n (fun s h1 h2 => h s h1 (by omega))
    have := h ((n : Int) + 1) (by omega) (by omega)
    show sumF f' n + f' _ = sumF f n + f _
    omega
theorem sum_most (f : Int → Nat) (k : Nat) (h : ∀ s, f s ≤ k) : ∀ n : Nat, sumF f n ≤ k * n
  | 0 => Nat.le_refl _
  | n + 1 => by
    have := sum_most f k h n
    have := h ((n : Int) + 1)
    show sumF f n + f _ ≤ k * (n + 1)
    rw [Nat.mul_add, Nat.mul_one]
    omega
def lkN (N : Int) (G : Gb) (b s : Int) : Nat := if Lk N G b s then 1 else 0
theorem lkN_yes {N : Int} {G : Gb} {b s : Int} (h : Lk N G b s) : lkN N G b s = 1 := if_pos h
theorem lkN_no {N : Int} {G : Gb} {b s : Int} (h : ¬ Lk N G b s) : lkN N G b s = 0 := if_neg h
theorem lkN_most (N : Int) (G : Gb) (b s : Int) : lkN N G b s ≤ 1 := by
  unfold lkN
  split <;> omega
theorem lkN_iff {N : Int} {G G' : Gb} {b s : Int} (h : Lk N G' b s ↔ Lk N G b s) : lkN N G' b s = lkN N G b s := by
  by_cases e : Lk N G b s
  · rw [lkN_yes e, lkN_yes (h.2 e)]
  · rw [lkN_no e, lkN_no (fun e2 => e (h.1 e2))]
/-- How many changes of links a slot can still bring about: its linking, its mark, its being taken off. -/
def cS (N : Int) (bk : Int → Int) (G : Gb) (s : Int) : Nat := if G.ins s = 2 then (if G.rem s = 2 then 0 else 1) + lkN N G (bk s) s else 3
/-- How many all can. -/
def cG (N : Nat) (bk : Int → Int) (G : Gb) : Nat := sumF (cS N bk G) N
theorem cS_most (N : Int) (bk : Int → Int) (G : Gb) (s : Int) : cS N bk G s ≤ 3 := by
  have := lkN_most N G (bk s) s
  unfold cS
  split
  · split <;> omega
  · omega
theorem cG_most (N : Nat) (bk : Int → Int) (G : Gb) : cG N bk G ≤ 3 * N := sum_most _ 3 (cS_most _ _ _) N
/-- No link was changed. -/
structure Still (N nb : Int) (G G' : Gb) : Prop where
  H : ∀ b, 0 ≤ b → b < nb → G'.H b = G.H b
  W : ∀ t, 1 ≤ t → t ≤ N → G.ins t = 2 → G'.W t = G.W t
  ins : G'.ins = G.ins
  rem : G'.rem = G.rem
  rank : G'.rank = G.rank
  ranks : G'.ranks = G.ranks
/-- A link was changed, or none. -/
def Dsc (N : Nat) (nb : Int) (bk : Int → Int) (G G' : Gb) : Prop := Still N nb G G' ∨ cG N bk G' + 1 ≤ cG N bk G
section
variable {N : Nat} {nb : Int} {bk : Int → Int} {S : AS} {x : XS} {G G' : Gb}
theorem Still.lk (k : Still N nb G G') (h : GbInv N nb bk G) (hN : N ≤ 4096) (b : Int) (b0 : 0 ≤ b) (b1 : b < nb) (s : Int) : Lk N G' b s ↔ Lk N G b s := by
  show _ ∈ _ ↔ _ ∈ _
  rw [k.H b b0 b1, lk_like h (by omega) b b0 G'.W (fun t ht => by rw [k.W t ht.1 ht.2.1 ht.2.2.1]) _ _ (h.hx b b0 b1).1]
theorem Still.cG (k : Still N nb G G') (h : GbInv N nb bk G) (hN : N ≤ 4096) (hb : ∀ s, 0 ≤ bk s ∧ bk s < nb) : cG N bk G' = cG N bk G := by
  refine sum_eq _ _ N (fun s h1 h2 => ?_)
  unfold cS
  rw [k.ins, k.rem]
  rw [lkN_iff (k.lk h hN (bk s) (hb s).1 (hb s).2 s)]
/-- An Insert is linked. -/
theorem cG_push (h : GbInv N nb bk G) (hN : N ≤ 4096) (hb : ∀ s, 0 ≤ bk s ∧ bk s < nb) (s : Int) (h1 : 1 ≤ s) (h2 : s ≤ N) (hs : G.ins s = 1) (hw : G.W s / 2 = G.H (bk s) / 2) (hr : G.ranks ≤ 4096) (k1 : ∀ c, 0 ≤ c → c < nb → G'.H c = updI G.H (bk s) (2 * s) c) (k2 : ∀ t : Int, 1 ≤ t → t ≤ N → G'.W t = G.W t) (k3 : G'.ins = updI G.ins s 2) (k4 : G'.rem = G.rem) : cG N bk G' + 1 ≤ cG N bk G := by
  have like : ∀ (f : Nat) (n : Int), lkL N G'.W f n = lkL N G.W f n := by
    intro f
    induction f with
    | zero => intro n; rfl
    | succ f ih =>
      intro n
      by_cases hr : 1 ≤ n ∧ n ≤ (N : Int)
      · rw [lkL_yes hr.1 hr.2, lkL_yes hr.1 hr.2, k2 n hr.1 hr.2, ih]
      · rw [show lkL N G'.W (f + 1) n = [] from if_neg hr, show lkL N G.W (f + 1) n = [] from if_neg hr]
  have hd : ∀ c t, 0 ≤ c → c < nb → t ≠ s → Lk N G' c t → Lk N G c t := fun c t c0 c1 ne ht => by
    unfold Lk at ht ⊢
    rw [like, k1 c c0 c1] at ht
    by_cases e : c = bk s
    · subst e
      rw [updI_at, show 2 * s / 2 = s from by omega, lkL_yes h1 h2, hw] at ht
      rcases List.mem_cons.1 ht with e | e
      · exact absurd e ne
      · have hx := (h.hx (bk s) c0 c1).1
        rw [lk_fuel h (by omega) (bk s) c0 4097 4096 _ hx (fun g => by have := (h.rk _ _ g).2; omega)]
        exact e
    · rw [updI_ne _ _ e] at ht
      exact ht
  refine sum_lt _ _ s N (fun t t1 t2 => ?_) h1 h2 ?_
  · by_cases e : t = s
    · rw [e]
      unfold cS
      have := lkN_most N G' (bk s) s
      rw [k3, k4, updI_at, if_pos rfl, if_neg (show ¬ G.ins s = 2 by omega)]
      split <;> omega
    · unfold cS
      rw [k3, k4, updI_ne _ _ e]
      split
      · by_cases e2 : Lk N G' (bk t) t
        · rw [lkN_yes e2, lkN_yes (hd (bk t) t (hb t).1 (hb t).2 e e2)]
          exact Nat.le_refl _
        · rw [lkN_no e2]
          omega
      · exact Nat.le_refl _
  · unfold cS
    have := lkN_most N G' (bk s) s
    rw [k3, k4, updI_at, if_pos rfl, if_neg (show ¬ G.ins s = 2 by omega)]
    split <;> omega
/-- A slot is marked. -/
theorem cG_mark (h : GbInv N nb bk G) (hN : N ≤ 4096) (hb : ∀ s, 0 ≤ bk s ∧ bk s < nb) (s : Int) (h1 : 1 ≤ s) (h2 : s ≤ N) (hs : G.ins s = 2) (hr : G.rem s ≠ 2) (k1 : ∀ c, 0 ≤ c → c < nb → G'.H c = G.H c) (k2 : ∀ t : Int, 1 ≤ t → t ≤ N → G'.W t / 2 = G.W t / 2) (k3 : G'.ins = G.ins) (k4 : G'.rem = updI G.rem s 2) : cG N bk G' + 1 ≤ cG N bk G := by
  have lk : ∀ t, Lk N G' (bk t) t ↔ Lk N G (bk t) t := fun t => by
    unfold Lk
    rw [k1 _ (hb t).1 (hb t).2, lk_like h (by omega) (bk t) (hb t).1 G'.W (fun u hu => k2 u hu.1 hu.2.1) _ _ (h.hx _ (hb t).1 (hb t).2).1]
  refine sum_lt _ _ s N (fun t t1 t2 => ?_) h1 h2 ?_
  · unfold cS
    rw [k3, k4]
    rw [lkN_iff (lk t)]
    by_cases e : t = s
    · rw [e, updI_at, if_pos hs, if_pos hs, if_pos rfl, if_neg hr]
      omega
    · rw [updI_ne _ _ e]
      exact Nat.le_refl _
  · unfold cS
    rw [k3, k4]
    rw [lkN_iff (lk s)]
    rw [updI_at, if_pos hs, if_pos hs, if_pos rfl, if_neg hr]
    omega
/-- A slot p comes off the list of its bucket: what is linked then. -/
theorem cG_off (h : GbInv N nb bk G) (hb : ∀ s, 0 ≤ bk s ∧ bk s < nb) (p : Int) (h1 : 1 ≤ p) (h2 : p ≤ N) (hs : G.ins p = 2) (hp : Lk N G (bk p) p) (k : ∀ c t, 0 ≤ c → c < nb → (Lk N G' c t ↔ Lk N G c t ∧ ¬ (c = bk p ∧ t = p))) (k3 : G'.ins = G.ins) (k4 : G'.rem = G.rem) : cG N bk G' + 1 ≤ cG N bk G := by
  refine sum_lt _ _ p N (fun t t1 t2 => ?_) h1 h2 ?_
  · unfold cS
    rw [k3, k4]
    split
    · by_cases e : Lk N G' (bk t) t
      · rw [lkN_yes e, lkN_yes ((k _ _ (hb t).1 (hb t).2).1 e).1]
        exact Nat.le_refl _
      · rw [lkN_no e]
        omega
    · exact Nat.le_refl _
  · unfold cS
    rw [k3, k4, if_pos hs, if_pos hs, lkN_yes hp, lkN_no (fun e => ((k _ _ (hb p).1 (hb p).2).1 e).2 ⟨rfl, rfl⟩)]
    omega
end
end Go.Proofs.YteekompojgbkhaaGreat

namespace Go.Proofs.YteekompojgbkhaaGreat
open Go.ChangeShapes Go.WideShapes Go.ChangeAt Go.RowKit Go.MuLone Go.RwLone
set_option linter.unusedVariables false
set_option linter.unusedSectionVars false
section
variable {N : Nat} {nb : Int} {bk : Int → Int} {S S' : AS} {x x' : XS} {G G' : Gb}
/-- What is linked when a slot comes off the head. -/
theorem lk_unhead (h : GbInv N nb bk G) (hN : N ≤ 4096) (hb : ∀ s, 0 ≤ bk s ∧ bk s < nb) (hr : G.ranks ≤ 4096) (b p : Int) (gp : Gin N bk G b p) (hw : G.H b = 2 * p) (k1 : ∀ c, 0 ≤ c → c < nb → G'.H c = updI G.H b (2 * (G.W p / 2)) c) (k2 : ∀ t : Int, 1 ≤ t → t ≤ N → G'.W t = G.W t) (c t : Int) (c0 : 0 ≤ c) (c1 : c < nb) : Lk N G' c t ↔ Lk N G c t ∧ ¬ (c = bk p ∧ t = p) := by
  have npp := h.nx b p gp
  have b0 : 0 ≤ b := by rw [← gp.2.2.2]; exact (hb p).1
  unfold Lk
  by_cases e : c = b
  · subst e
    rw [k1 c c0 c1, updI_at, show 2 * (G.W p / 2) / 2 = G.W p / 2 from by omega, lk_like h (by omega) c c0 G'.W (fun u hu => by rw [k2 u hu.1 hu.2.1]) _ _ npp, hw, show 2 * p / 2 = p from by omega, lkL_yes gp.1 gp.2.1, lk_fuel h (by omega) c c0 4097 4096 _ npp (fun g => by have := (h.rk _ _ g).2; omega), List.mem_cons]
    have np : p ∉ lkL N G.W 4096 (G.W p / 2) := fun hp => by
      have := lk_gin h (by omega) c c0 _ _ npp p hp
      have := h.dn c p gp this.2.1
      omega
    constructor
    · intro ht
      exact ⟨.inr ht, fun e => by obtain ⟨_, e⟩ := e; subst e; exact np ht⟩
    · rintro ⟨ht | ht, e⟩
      · exact absurd ⟨gp.2.2.2.symm, ht⟩ e
      · exact ht
  · rw [k1 c c0 c1, updI_ne _ _ e, lk_like h (by omega) c c0 G'.W (fun u hu => by rw [k2 u hu.1 hu.2.1]) _ _ (h.hx c c0 c1).1]
    exact ⟨fun ht => ⟨ht, fun e2 => e (e2.1.trans gp.2.2.2)⟩, fun ht => ht.1⟩
/-- What is linked when a slot comes off another. -/
theorem lk_unlink (h : GbInv N nb bk G) (hN : N ≤ 4096) (hb : ∀ s, 0 ≤ bk s ∧ bk s < nb) (hr : G.ranks ≤ 4096) (b a p : Int) (ga : Gin N bk G b a) (gp : Gin N bk G b p) (hw : G.W a = 2 * p) (k1 : ∀ c, 0 ≤ c → c < nb → G'.H c = G.H c) (k2 : ∀ t : Int, 1 ≤ t → t ≤ N → G'.W t = updI G.W a (2 * (G.W p / 2)) t) (c t : Int) (c0 : 0 ≤ c) (c1 : c < nb) : Lk N G' c t ↔ Lk N G c t ∧ ¬ (c = bk p ∧ t = p) := by
  have b0 : 0 ≤ b := by rw [← gp.2.2.2]; exact (hb p).1
  have b1 : b < nb := by rw [← gp.2.2.2]; exact (hb p).2
  have lw : ∀ (f : Nat) (n : Int), lkL N G'.W f n = lkL N (updI G.W a (2 * (G.W p / 2))) f n := by
    intro f
    induction f with
    | zero => intro n; rfl
    | succ f ih =>
      intro n
      by_cases hr : 1 ≤ n ∧ n ≤ (N : Int)
      · rw [lkL_yes hr.1 hr.2, lkL_yes hr.1 hr.2, k2 n hr.1 hr.2, ih]
      · rw [show lkL N G'.W (f + 1) n = [] from if_neg hr, show lkL N (updI G.W a (2 * (G.W p / 2))) (f + 1) n = [] from if_neg hr]
  unfold Lk
  rw [k1 c c0 c1, lw]
  by_cases e : c = b
  · subst e
    have ar : G.rem a ≠ 2 := fun e => by
      have := (h.mrk c a ga).2 e
      omega
    have hg : Gin N bk G c (G.H c / 2) ∧ G.rank a ≤ G.rank (G.H c / 2) := by
      by_cases h5 : Gin N bk G c (G.H c / 2) ∧ G.rank a ≤ G.rank (G.H c / 2)
      · exact h5
      · refine absurd (h.hgap c a c0 c1 ga (fun hi => ?_)) ar
        by_cases h6 : G.rank a ≤ G.rank (G.H c / 2)
        · exact absurd ⟨hi, h6⟩ h5
        · omega
    have hf : G.rank (G.H c / 2) < ((4097 : Nat) : Int) := by have := (h.rk _ _ hg.1).2; omega
    rw [lk_off h (by omega) c c0 a p ga gp hw t 4097 _ hg.1 hf (lk_un h (by omega) c c0 a ga ar 4097 _ hg.1 hf hg.2)]
    exact ⟨fun ht => ⟨ht.1, fun e => ht.2 e.2⟩, fun ht => ⟨ht.1, fun e => ht.2 ⟨gp.2.2.2.symm, e⟩⟩⟩
  · rw [lk_like h (by omega) c c0 _ (fun u hu => by rw [updI_ne _ _ (fun e2 => e (by rw [← hu.2.2.2, e2]; exact ga.2.2.2))]) _ _ (h.hx c c0 c1).1]
    exact ⟨fun ht => ⟨ht, fun e2 => e (e2.1.trans gp.2.2.2)⟩, fun ht => ht.1⟩
/-- A slot to which an unmarked slot of the list leads, or the head, is linked. -/
theorem lk_behind (h : GbInv N nb bk G) (hN : N ≤ 4096) (hr : G.ranks ≤ 4096) (b a p : Int) (b0 : 0 ≤ b) (b1 : b < nb) (ga : Gin N bk G b a) (gp : Gin N bk G b p) (hw : G.W a = 2 * p) : Lk N G b p := by
  have ar : G.rem a ≠ 2 := fun e => by
    have := (h.mrk b a ga).2 e
    omega
  have hg : Gin N bk G b (G.H b / 2) ∧ G.rank a ≤ G.rank (G.H b / 2) := by
    by_cases h5 : Gin N bk G b (G.H b / 2) ∧ G.rank a ≤ G.rank (G.H b / 2)
    · exact h5
    · refine absurd (h.hgap b a b0 b1 ga (fun hi => ?_)) ar
      by_cases h6 : G.rank a ≤ G.rank (G.H b / 2)
      · exact absurd ⟨hi, h6⟩ h5
      · omega
  have k : ∀ (f : Nat) (n : Int), Gin N bk G b n → G.rank n < (f : Int) → a ∈ lkL N G.W f n → p ∈ lkL N G.W f n := by
    intro f
    induction f with
    | zero => intro n hn hf ha; cases ha
    | succ f ih =>
      intro n hn hf ha
      rw [lkL_yes hn.1 hn.2.1] at ha ⊢
      by_cases e : n = a
      · subst e
        have e2 : G.W n / 2 = p := by omega
        have d := h.dn b n hn (by rw [e2]; exact gp)
        rw [e2] at d ⊢
        refine List.mem_cons_of_mem _ ?_
        rw [lk_fuel h (by omega) b b0 f (f + 1) p (.inr gp) (fun _ => by omega), lkL_yes gp.1 gp.2.1]
        exact List.mem_cons_self
      · rcases List.mem_cons.1 ha with e2 | ha2
        · exact absurd e2.symm e
        · have g := lk_gin h (by omega) b b0 f _ (h.nx b n hn) a ha2
          have := h.dn b n hn g.2.1
          exact List.mem_cons_of_mem _ (ih _ g.2.1 (by omega) ha2)
  have hf : G.rank (G.H b / 2) < ((4097 : Nat) : Int) := by have := (h.rk _ _ hg.1).2; omega
  exact k 4097 _ hg.1 hf (lk_un h (by omega) b b0 a ga ar 4097 _ hg.1 hf hg.2)
theorem lk_front (h : GbInv N nb bk G) (b p : Int) (gp : Gin N bk G b p) (hw : G.H b = 2 * p) : Lk N G b p := by
  unfold Lk
  rw [hw, show 2 * p / 2 = p from by omega, lkL_yes gp.1 gp.2.1]
  exact List.mem_cons_self
/-- Words and heads that stay. -/
theorem still_of (hl : Lnk N nb S x G) (hl' : Lnk N nb S' x' G') (hx : ∀ b : Nat, x'.hd b = x.hd b) (hS : ∀ t : Int, 1 ≤ t → t ≤ N → G.ins t = 2 → S'.word (atC S' t x'.cell) = S.word (atC S t x.cell)) (e1 : G'.ins = G.ins) (e2 : G'.rem = G.rem) (e3 : G'.rank = G.rank) (e4 : G'.ranks = G.ranks) : Still N nb G G' :=
  ⟨fun b b0 b1 => by rw [hl'.h b b0 b1, hl.h b b0 b1, hx], fun t t1 t2 t3 => by rw [hl'.w t t1 t2, hl.w t t1 t2]; exact hS t t1 t2 t3, e1, e2, e3, e4⟩
/-- How many steps an Insert has left at most till a link is changed. -/
def iLf (G : Gb) (m : MI) : Nat := match m.st with
  | 0 => 4
  | 1 => 3
  | 2 => if G.H m.bu = m.hd then 2 else 5
  | 3 => if G.H m.bu = m.hd then 1 else 4
  | _ => 0
def frB (G : Gb) (m : MR) : Bool := if m.ah = 0 then decide (G.H m.bu = 2 * m.pr) else decide (G.W m.ah = 2 * m.pr)
/-- How many a Remove has. -/
def rLf (G : Gb) (m : MR) : Nat := match m.st with
  | 0 => 2
  | 1 => 2
  | 2 => if G.W m.sl = m.wd then 1 else 3
  | 3 => G.ranks.toNat + 2
  | 4 => if frB G m || decide (G.W m.pr % 2 = 0) then (G.rank m.pr).toNat + 2 else G.ranks.toNat + 4
  | 5 => if frB G m then 1 else G.ranks.toNat + 3
  | _ => 0
/-- How many it has if nobody else steps. -/
def rAl (G : Gb) (m : MR) : Nat := match m.st with
  | 0 => 2 * G.ranks.toNat + 3
  | 1 => 2 * G.ranks.toNat + 3
  | 2 => if G.W m.sl = m.wd then 2 * G.ranks.toNat + 2 else 2 * G.ranks.toNat + 4
  | 3 => 2 * G.ranks.toNat + 1
  | 4 => if frB G m then 2 * (G.rank m.pr).toNat + 2 else 2 * (G.rank m.pr).toNat + 3 + 2 * G.ranks.toNat
  | 5 => if frB G m then 2 * (G.rank m.pr).toNat + 1 else 2 * (G.rank m.pr).toNat + 2 + 2 * G.ranks.toNat
  | _ => 0
theorem ins_pot (hl : Lnk N nb S x G) (h : GbInv N nb bk G) (hN : N ≤ 4096) (hr : G.ranks ≤ 4096) (hb : ∀ s, 0 ≤ bk s ∧ bk s < nb) (m : MI) (hm : InsI N bk G m) (h3 : m.st ≤ 3) (hl' : Lnk N nb (insP S x m).2.1.S (insP S x m).2.1.x G') (hf : ((insP S x m).1 = false ∧ G'.ins = G.ins ∧ G'.rem = G.rem ∧ G'.rank = G.rank ∧ G'.ranks = G.ranks) ∨ ((insP S x m).1 = true ∧ G'.ins = updI G.ins m.sl 2 ∧ G'.rem = G.rem)) : Dsc N nb bk G G' ∧ (Still N nb G G' → iLf G' (insP S x m).2.2 + 1 ≤ iLf G m) := by
  have hi : inB x m.bu = true := by rw [hm.bu]; exact hl.inb (hb _).1 (hb _).2
  have hv := hl.lv _ hm.lo hm.up
  have hw0 := hm.w0
  have hw3 := hm.w3
  have hw := hl.w _ hm.lo hm.up
  have hbu := hm.bu
  have hlo := hm.lo
  have hup := hm.up
  have on := hm.on h3
  obtain ⟨st, code, bu, sl, hd, tr⟩ := m
  simp only at hi hv h3 hw0 hw hw3 hbu hlo hup on
  subst hbu
  have hH := hl.h (bk sl) (hb sl).1 (hb sl).2
  match st with
  | 0 =>
    have e : insP S x ⟨0, code, bk sl, sl, hd, tr⟩ = (false, ⟨acc1 S, x⟩, ⟨1, code, bk sl, sl, hd, tr⟩) := by
      show (if inB x (bk sl) then (if liv S sl then (if S.word (atC S sl x.cell) = 0 then _ else _) else _) else _) = _
      rw [if_pos hi, if_pos hv, if_pos (hw.symm.trans (hw0 rfl))]
    rw [e] at hl' hf ⊢
    rcases hf with ⟨_, f1, f2, f3, f4⟩ | ⟨f, _⟩
    · have k := still_of hl hl' (fun _ => rfl) (fun t _ _ _ => rfl) f1 f2 f3 f4
      exact ⟨.inl k, fun _ => Nat.le_refl 4⟩
    · cases f
  | 1 =>
    have e : insP S x ⟨1, code, bk sl, sl, hd, tr⟩ = (false, ⟨S, x.cn1⟩, ⟨2, code, bk sl, sl, x.hd (bk sl).toNat, tr⟩) := rfl
    rw [e] at hl' hf ⊢
    rcases hf with ⟨_, f1, f2, f3, f4⟩ | ⟨f, _⟩
    · have k := still_of hl hl' (fun _ => rfl) (fun t _ _ _ => rfl) f1 f2 f3 f4
      refine ⟨.inl k, fun _ => ?_⟩
      show (if G'.H (bk sl) = x.hd (bk sl).toNat then 2 else 5) + 1 ≤ 3
      rw [if_pos (by rw [k.H _ (hb sl).1 (hb sl).2, hH])]
      exact Nat.le_refl 3
    · cases f
  | 2 =>
    have e : insP S x ⟨2, code, bk sl, sl, hd, tr⟩ = (false, ⟨put1 S (atC S sl x.cell) hd, x⟩, ⟨3, code, bk sl, sl, hd, tr⟩) := by
      show (if liv S sl then _ else _) = _
      rw [if_pos hv]
    rw [e] at hl' hf ⊢
    rcases hf with ⟨_, f1, f2, f3, f4⟩ | ⟨f, _⟩
    · have k := still_of hl hl' (fun _ => rfl) (fun t t1 t2 t3 => by
        show upd S.word (atC S sl x.cell) hd (atC S t x.cell) = _
        refine upd_other _ _ (fun e => ?_)
        have : t ≠ sl := fun e => by rw [e, on] at t3; omega
        unfold atC at e
        rw [hl.wd] at e
        omega) f1 f2 f3 f4
      refine ⟨.inl k, fun _ => ?_⟩
      show (if G'.H (bk sl) = hd then 1 else 4) + 1 ≤ (if G.H (bk sl) = hd then 2 else 5)
      rw [k.H _ (hb sl).1 (hb sl).2]
      split <;> omega
    · cases f
  | 3 =>
    by_cases hh : x.hd (bk sl).toNat = hd
    · have e : insP S x ⟨3, code, bk sl, sl, hd, tr⟩ = (true, ⟨S, { x.cn1 with hd := upd x.hd (bk sl).toNat (2 * sl) }⟩, ⟨4, 0, bk sl, sl, hd, tr⟩) := by
        show (if x.hd (bk sl).toNat = hd then _ else _) = _
        rw [if_pos hh]
      rw [e] at hl' hf ⊢
      rcases hf with ⟨f, _⟩ | ⟨_, f1, f2⟩
      · cases f
      · refine ⟨.inr (cG_push h hN hb sl hlo hup on (by rw [hw3 rfl, hH, hh]) hr (fun c c0 c1 => ?_) (fun t t1 t2 => ?_) f1 f2), fun k => ?_⟩
        · rw [hl'.h c c0 c1]
          show upd x.hd (bk sl).toNat (2 * sl) c.toNat = _
          by_cases e : c = bk sl
          · rw [e, updI_at, upd_same]
          · have := (hb sl).1
            rw [updI_ne _ _ e, upd_other _ _ (by omega), hl.h c c0 c1]
        · rw [hl'.w t t1 t2, hl.w t t1 t2]
          rfl
        · have := k.ins
          rw [f1] at this
          have e2 : updI G.ins sl 2 sl = G.ins sl := by rw [this]
          rw [updI_at, on] at e2
          omega
    · have e : insP S x ⟨3, code, bk sl, sl, hd, tr⟩ = (false, ⟨S, x.cn1⟩, ⟨1, code, bk sl, sl, hd, wrap64 (tr + 1)⟩) := by
        show (if x.hd (bk sl).toNat = hd then _ else _) = _
        rw [if_neg hh]
      rw [e] at hl' hf ⊢
      rcases hf with ⟨_, f1, f2, f3, f4⟩ | ⟨f, _⟩
      · have k := still_of hl hl' (fun _ => rfl) (fun t _ _ _ => rfl) f1 f2 f3 f4
        refine ⟨.inl k, fun _ => ?_⟩
        show 3 + 1 ≤ (if G.H (bk sl) = hd then 1 else 4)
        rw [if_neg (by rw [hH]; exact hh)]
        exact Nat.le_refl 4
      · cases f
  | n + 4 => exact absurd h3 (by omega)
end
end Go.Proofs.YteekompojgbkhaaGreat
