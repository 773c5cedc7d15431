import Derived.Test.YteekompojgbkhaaGreatKBqL
namespace Go.Proofs.YteekompojgbkhaaGreat
open Go.ChangeShapes Go.WideShapes Go.ChangeAt Go.RowKit Go.MuLone Go.RwLone
set_option linter.unusedVariables false
set_option linter.unusedSectionVars false
/-- The slots that are met from a link on. -/
def lkL (N : Int) (W : Int → Int) : Nat → Int → List Int
  | 0, _ => []
  | f + 1, n => if 1 ≤ n ∧ n ≤ N then n :: lkL N W f (W n / 2) else []
/-- The slot is linked in the bucket. -/
abbrev Lk (N : Int) (G : Gb) (b s : Int) : Prop := s ∈ lkL N G.W 4097 (G.H b / 2)
section
variable {N nb : Int} {bk : Int → Int} {S : AS} {x : XS} {G G' : Gb}
theorem lkL_yes {W : Int → Int} {f : Nat} {n : Int} (h1 : 1 ≤ n) (h2 : n ≤ N) : lkL N W (f + 1) n = n :: lkL N W f (W n / 2) := if_pos ⟨h1, h2⟩
theorem lkL_no {W : Int → Int} {f : Nat} {n : Int} (h : N < n) : lkL N W f n = [] := by
  cases f with
  | zero => rfl
  | succ f => exact if_neg (by omega)
theorem Gto.no {b n : Int} (h : Gto N bk G b n) (g : ¬ Gin N bk G b n) : n = 4097 + b := h.resolve_right g
theorem lk_gin (h : GbInv N nb bk G) (hN : N ≤ 4096) (b : Int) (b0 : 0 ≤ b) : ∀ (f : Nat) (n : Int), Gto N bk G b n → ∀ s, s ∈ lkL N G.W f n → Gin N bk G b s ∧ Gin N bk G b n ∧ G.rank s ≤ G.rank n
  | 0, n, hn, s, hs => by cases hs
  | f + 1, n, hn, s, hs => by
    rcases hn with hn | hn
    · rw [lkL_no (by omega)] at hs
      cases hs
    · rw [lkL_yes hn.1 hn.2.1] at hs
      rcases List.mem_cons.1 hs with e | e
      · rw [e]
        exact ⟨hn, hn, Int.le_refl _⟩
      · have := lk_gin h hN b b0 f _ (h.nx b n hn) s e
        exact ⟨this.1, hn, Int.le_trans this.2.2 (Int.le_of_lt (h.dn b n hn this.2.1))⟩
/-- More fuel than ranks is as good as any. -/
theorem lk_fuel (h : GbInv N nb bk G) (hN : N ≤ 4096) (b : Int) (b0 : 0 ≤ b) : ∀ (f f' : Nat) (n : Int), Gto N bk G b n → (Gin N bk G b n → G.rank n < (f : Int) ∧ G.rank n < (f' : Int)) → lkL N G.W f n = lkL N G.W f' n
  | 0, f', n, hn, hf => by
    rcases hn with hn | hn
    · rw [lkL_no (by omega), lkL_no (by omega)]
    · have := (hf hn).1
      have := (h.rk b n hn).1
      omega
  | f + 1, 0, n, hn, hf => by
    rcases hn with hn | hn
    · rw [lkL_no (by omega), lkL_no (by omega)]
    · have := (hf hn).2
      have := (h.rk b n hn).1
      omega
  | f + 1, f' + 1, n, hn, hf => by
    rcases hn with hn | hn
    · rw [lkL_no (by omega), lkL_no (by omega)]
    · rw [lkL_yes hn.1 hn.2.1, lkL_yes hn.1 hn.2.1]
      congr 1
      exact lk_fuel h hN b b0 f f' _ (h.nx b n hn) (fun g => by
        have := h.dn b n hn g
        have := hf hn
        omega)
/-- A slot that is not marked, at or behind n, is met. -/
theorem lk_un (h : GbInv N nb bk G) (hN : N ≤ 4096) (b : Int) (b0 : 0 ≤ b) (u : Int) (gu : Gin N bk G b u) (ur : G.rem u ≠ 2) : ∀ (f : Nat) (n : Int), Gin N bk G b n → G.rank n < (f : Int) → G.rank u ≤ G.rank n → u ∈ lkL N G.W f n
  | 0, n, hn, hf, hu => by
    have := (h.rk b n hn).1
    omega
  | f + 1, n, hn, hf, hu => by
    rw [lkL_yes hn.1 hn.2.1]
    by_cases e : G.rank u = G.rank n
    · rw [h.inj b u n gu hn e]
      exact List.mem_cons_self
    · refine List.mem_cons_of_mem _ ?_
      by_cases h5 : Gin N bk G b (G.W n / 2) ∧ G.rank u ≤ G.rank (G.W n / 2)
      · exact lk_un h hN b b0 u gu ur f _ h5.1 (by have := h.dn b n hn h5.1; omega) h5.2
      · refine absurd (h.gap b n u hn gu (by omega) (fun hi => ?_)) ur
        by_cases h6 : G.rank u ≤ G.rank (G.W n / 2)
        · exact absurd ⟨hi, h6⟩ h5
        · omega
/-- Of two slots that are met, the lower one is met from the next of the higher. -/
theorem lk_next (h : GbInv N nb bk G) (hN : N ≤ 4096) (b : Int) (b0 : 0 ≤ b) (p q : Int) : ∀ (f : Nat) (n : Int), Gto N bk G b n → p ∈ lkL N G.W f n → q ∈ lkL N G.W f n → G.rank q < G.rank p → q ∈ lkL N G.W f (G.W p / 2)
  | 0, n, hn, hp, hq, hlt => by cases hp
  | f + 1, n, hn, hp, hq, hlt => by
    have gp := lk_gin h hN b b0 _ n hn p hp
    have gq := lk_gin h hN b b0 _ n hn q hq
    have hn := gp.2.1
    rw [lkL_yes hn.1 hn.2.1] at hp hq
    rcases List.mem_cons.1 hq with e | eq
    · rw [e] at hlt
      omega
    · rcases List.mem_cons.1 hp with e | ep
      · rw [e]
        have k : ∀ (f : Nat) (m : Int), q ∈ lkL N G.W f m → q ∈ lkL N G.W (f + 1) m := by
          intro f
          induction f with
          | zero => intro m hm; cases hm
          | succ f ih =>
            intro m hm
            by_cases hr : 1 ≤ m ∧ m ≤ N
            · rw [lkL_yes hr.1 hr.2] at hm ⊢
              rcases List.mem_cons.1 hm with e | e
              · rw [e]; exact List.mem_cons_self
              · exact List.mem_cons_of_mem _ (ih _ e)
            · have : lkL N G.W (f + 1) m = [] := if_neg hr
              rw [this] at hm
              cases hm
        exact k f _ eq
      · have r := lk_next h hN b b0 p q f _ (h.nx b n hn) ep eq hlt
        have k : ∀ (f : Nat) (m : Int), q ∈ lkL N G.W f m → q ∈ lkL N G.W (f + 1) m := by
          intro f
          induction f with
          | zero => intro m hm; cases hm
          | succ f ih =>
            intro m hm
            by_cases hr : 1 ≤ m ∧ m ≤ N
            · rw [lkL_yes hr.1 hr.2] at hm ⊢
              rcases List.mem_cons.1 hm with e | e
              · rw [e]; exact List.mem_cons_self
              · exact List.mem_cons_of_mem _ (ih _ e)
            · have : lkL N G.W (f + 1) m = [] := if_neg hr
              rw [this] at hm
              cases hm
        exact k f _ r
/-- Whatever is changed at a slot is not seen from below it. -/
theorem lk_low (h : GbInv N nb bk G) (hN : N ≤ 4096) (b : Int) (b0 : 0 ≤ b) (a y : Int) (ga : Gin N bk G b a) : ∀ (f : Nat) (n : Int), Gto N bk G b n → (Gin N bk G b n → G.rank n < G.rank a) → lkL N (updI G.W a y) f n = lkL N G.W f n
  | 0, n, hn, hr => rfl
  | f + 1, n, hn, hr => by
    rcases hn with hn | hn
    · rw [lkL_no (by omega), lkL_no (by omega)]
    · have ne : n ≠ a := fun e => by have := hr hn; rw [e] at this; omega
      rw [lkL_yes hn.1 hn.2.1, lkL_yes hn.1 hn.2.1, updI_ne _ _ ne]
      congr 1
      exact lk_low h hN b b0 a y ga f _ (h.nx b n hn) (fun g => by
        have := h.dn b n hn g
        have := hr hn
        omega)
/-- A slot p behind a is taken off the list. -/
theorem lk_off (h : GbInv N nb bk G) (hN : N ≤ 4096) (b : Int) (b0 : 0 ≤ b) (a p : Int) (ga : Gin N bk G b a) (gp : Gin N bk G b p) (hw : G.W a = 2 * p) (s : Int) : ∀ (f : Nat) (n : Int), Gin N bk G b n → G.rank n < (f : Int) → a ∈ lkL N G.W f n → (s ∈ lkL N (updI G.W a (2 * (G.W p / 2))) f n ↔ s ∈ lkL N G.W f n ∧ s ≠ p)
  | 0, n, hn, hf, ha => by cases ha
  | f + 1, n, hn, hf, ha => by
    have ea : G.W a / 2 = p := by omega
    have dp : G.rank p < G.rank a := by
      have := h.dn b a ga (by rw [ea]; exact gp)
      rw [ea] at this
      exact this
    have dpp := h.dn b p gp
    have npp := h.nx b p gp
    rw [lkL_yes hn.1 hn.2.1] at ha
    by_cases e : n = a
    · subst e
      rw [lkL_yes hn.1 hn.2.1, lkL_yes hn.1 hn.2.1, updI_at, ea, show 2 * (G.W p / 2) / 2 = G.W p / 2 from by omega, lk_low h hN b b0 n _ ga f _ npp (fun g => by have := dpp g; omega)]
      have e1 : lkL N G.W f p = p :: lkL N G.W f (G.W p / 2) := by
        have := lk_fuel h hN b b0 f (f + 1) p (.inr gp) (fun _ => by omega)
        rw [this, lkL_yes gp.1 gp.2.1]
      rw [e1]
      have np : p ∉ lkL N G.W f (G.W p / 2) := fun hp => by
        have := lk_gin h hN b b0 f _ npp p hp
        have := dpp this.2.1
        omega
      have nn : n ≠ p := fun e => by rw [e] at dp; omega
      simp only [List.mem_cons]
      constructor
      · rintro (e | e)
        · exact ⟨.inl e, by rw [e]; exact nn⟩
        · exact ⟨.inr (.inr e), fun e2 => by subst e2; exact np e⟩
      · rintro ⟨e | e | e, e2⟩
        · exact .inl e
        · exact absurd e e2
        · exact .inr e
    · rcases List.mem_cons.1 ha with e2 | ha2
      · exact absurd e2.symm e
      · rw [lkL_yes hn.1 hn.2.1, lkL_yes hn.1 hn.2.1, updI_ne _ _ e]
        have g := lk_gin h hN b b0 f _ (h.nx b n hn) a ha2
        have := h.dn b n hn g.2.1
        have ih := lk_off h hN b b0 a p ga gp hw s f _ g.2.1 (by omega) ha2
        have nn : n ≠ p := fun e => by rw [e] at this g; omega
        rw [List.mem_cons, List.mem_cons, ih]
        constructor
        · rintro (e | e)
          · exact ⟨.inl e, by rw [e]; exact nn⟩
          · exact ⟨.inr e.1, e.2⟩
        · rintro ⟨e | e, e2⟩
          · exact .inl e
          · exact .inr ⟨e, e2⟩
/-- Words that differ where no slot is met give the same list. -/
theorem lk_like (h : GbInv N nb bk G) (hN : N ≤ 4096) (b : Int) (b0 : 0 ≤ b) (W : Int → Int) (hW : ∀ t, Gin N bk G b t → W t / 2 = G.W t / 2) : ∀ (f : Nat) (n : Int), Gto N bk G b n → lkL N W f n = lkL N G.W f n
  | 0, n, hn => rfl
  | f + 1, n, hn => by
    rcases hn with hn | hn
    · rw [lkL_no (by omega), lkL_no (by omega)]
    · rw [lkL_yes hn.1 hn.2.1, lkL_yes hn.1 hn.2.1, hW n hn]
      congr 1
      exact lk_like h hN b b0 W hW f _ (h.nx b n hn)
end
end Go.Proofs.YteekompojgbkhaaGreat

namespace Go.Proofs.YteekompojgbkhaaGreat
open Go.ChangeShapes Go.WideShapes Go.ChangeAt Go.RowKit Go.MuLone Go.RwLone
set_option linter.unusedVariables false
set_option linter.unusedSectionVars false
/-- A sum over the slots 1 to n. -/
def sumF (f : Int → Nat) : Nat → Nat
  | 0 => 0
  | n + 1 => sumF f n + f ((n : Int) + 1)
theorem sum_le (f f' : Int → Nat) : ∀ n : Nat, (∀ s : Int, 1 ≤ s → s ≤ (n : Int) → f' s ≤ f s) → sumF f' n ≤ sumF f n
  | 0, _ => Nat.le_refl _
  | n + 1, h => by
    have := sum_le f f' n (fun s h1 h2 => h s h1 (by omega))
    have := h ((n : Int) + 1) (by omega) (by omega)
    show sumF f' n + f' _ ≤ sumF f n + f _
    omega
theorem sum_lt (f f' : Int → Nat) (t : Int) : ∀ n : Nat, (∀ s : Int, 1 ≤ s → s ≤ (n : Int) → f' s ≤ f s) → 1 ≤ t → t ≤ (n : Int) → f' t + 1 ≤ f t → sumF f' n + 1 ≤ sumF f n
  | 0, _, h1, h2, _ => by omega
  | n + 1, h, h1, h2, h3 => by
    show sumF f' n + f' _ + 1 ≤ sumF f n + f _
    by_cases e : t = (n : Int) + 1
    · have := sum_le f f' n (fun s h1 h2 => h s h1 (by omega))
      rw [e] at h3
      omega
    · have := sum_lt f f' t n (fun s h1 h2 => h s h1 (by omega)) h1 (by omega) h3
      have := h ((n : Int) + 1) (by omega) (by omega)
      omega
theorem sum_eq (f f' : Int → Nat) : ∀ n : Nat, (∀ s : Int, 1 ≤ s → s ≤ (n : Int) → f' s = f s) → sumF f' n = sumF f n
  | 0, _ => rfl
  | n + 1, h => by
    have := sum_eq f f' n (fun s h1 h2 => h s h1 (by omega))
    have := h ((n : Int) + 1) (by omega) (by omega)
    show sumF f' n + f' _ = sumF f n + f _
    omega
theorem sum_most (f : Int → Nat) (k : Nat) (h : ∀ s, f s ≤ k) : ∀ n : Nat, sumF f n ≤ k * n
  | 0 => Nat.le_refl _
  | n + 1 => by
    have := sum_most f k h n
    have := h ((n : Int) + 1)
    show sumF f n + f _ ≤ k * (n + 1)
    rw [Nat.mul_add, Nat.mul_one]
    omega
def lkN (N : Int) (G : Gb) (b s : Int) : Nat := if Lk N G b s then 1 else 0
theorem lkN_yes {N : Int} {G : Gb} {b s : Int} (h : Lk N G b s) : lkN N G b s = 1 := if_pos h
theorem lkN_no {N : Int} {G : Gb} {b s : Int} (h : ¬ Lk N G b s) : lkN N G b s = 0 := if_neg h
theorem lkN_most (N : Int) (G : Gb) (b s : Int) : lkN N G b s ≤ 1 := by
  unfold lkN
  split <;> omega
theorem lkN_iff {N : Int} {G G' : Gb} {b s : Int} (h : Lk N G' b s ↔ Lk N G b s) : lkN N G' b s = lkN N G b s := by
  by_cases e : Lk N G b s
  · rw [lkN_yes e, lkN_yes (h.2 e)]
  · rw [lkN_no e, lkN_no (fun e2 => e (h.1 e2))]
/-- How many changes of links a slot can still bring about: its linking, its mark, its being taken off. -/
def cS (N : Int) (bk : Int → Int) (G : Gb) (s : Int) : Nat := if G.ins s = 2 then (if G.rem s = 2 then 0 else 1) + lkN N G (bk s) s else 3
/-- How many all can. -/
def cG (N : Nat) (bk : Int → Int) (G : Gb) : Nat := sumF (cS N bk G) N
theorem cS_most (N : Int) (bk : Int → Int) (G : Gb) (s : Int) : cS N bk G s ≤ 3 := by
  have := lkN_most N G (bk s) s
  unfold cS
  split
  · split <;> omega
  · omega
theorem cG_most (N : Nat) (bk : Int → Int) (G : Gb) : cG N bk G ≤ 3 * N := sum_most _ 3 (cS_most _ _ _) N
/-- No link was changed. -/
structure Still (N nb : Int) (G G' : Gb) : Prop where
  H : ∀ b, 0 ≤ b → b < nb → G'.H b = G.H b
  W : ∀ t, 1 ≤ t → t ≤ N → G.ins t = 2 → G'.W t = G.W t
  ins : G'.ins = G.ins
  rem : G'.rem = G.rem
  rank : G'.rank = G.rank
  ranks : G'.ranks = G.ranks
/-- A link was changed, or none. -/
def Dsc (N : Nat) (nb : Int) (bk : Int → Int) (G G' : Gb) : Prop := Still N nb G G' ∨ cG N bk G' + 1 ≤ cG N bk G
section
variable {N : Nat} {nb : Int} {bk : Int → Int} {S : AS} {x : XS} {G G' : Gb}
theorem Still.lk (k : Still N nb G G') (h : GbInv N nb bk G) (hN : N ≤ 4096) (b : Int) (b0 : 0 ≤ b) (b1 : b < nb) (s : Int) : Lk N G' b s ↔ Lk N G b s := by
  show _ ∈ _ ↔ _ ∈ _
  rw [k.H b b0 b1, lk_like h (by omega) b b0 G'.W (fun t ht => by rw [k.W t ht.1 ht.2.1 ht.2.2.1]) _ _ (h.hx b b0 b1).1]
theorem Still.cG (k : Still N nb G G') (h : GbInv N nb bk G) (hN : N ≤ 4096) (hb : ∀ s, 0 ≤ bk s ∧ bk s < nb) : cG N bk G' = cG N bk G := by
  refine sum_eq _ _ N (fun s h1 h2 => ?_)
  unfold cS
  rw [k.ins, k.rem]
  rw [lkN_iff (k.lk h hN (bk s) (hb s).1 (hb s).2 s)]
/-- An Insert is linked. -/
theorem cG_push (h : GbInv N nb bk G) (hN : N ≤ 4096) (hb : ∀ s, 0 ≤ bk s ∧ bk s < nb) (s : Int) (h1 : 1 ≤ s) (h2 : s ≤ N) (hs : G.ins s = 1) (hw : G.W s / 2 = G.H (bk s) / 2) (hr : G.ranks ≤ 4096) (k1 : ∀ c, 0 ≤ c → c < nb → G'.H c = updI G.H (bk s) (2 * s) c) (k2 : ∀ t : Int, 1 ≤ t → t ≤ N → G'.W t = G.W t) (k3 : G'.ins = updI G.ins s 2) (k4 : G'.rem = G.rem) : cG N bk G' + 1 ≤ cG N bk G := by
  have like : ∀ (f : Nat) (n : Int), lkL N G'.W f n = lkL N G.W f n := by
    intro f
    induction f with
    | zero => intro n; rfl
    | succ f ih =>
      intro n
      by_cases hr : 1 ≤ n ∧ n ≤ (N : Int)
      · rw [lkL_yes hr.1 hr.2, lkL_yes hr.1 hr.2, k2 n hr.1 hr.2, ih]
      · rw [show lkL N G'.W (f + 1) n = [] from if_neg hr, show lkL N G.W (f + 1) n = [] from if_neg hr]
  have hd : ∀ c t, 0 ≤ c → c < nb → t ≠ s → Lk N G' c t → Lk N G c t := fun c t c0 c1 ne ht => by
    unfold Lk at ht ⊢
    rw [like, k1 c c0 c1] at ht
    by_cases e : c = bk s
    · subst e
      rw [updI_at, show 2 * s / 2 = s from by omega, lkL_yes h1 h2, hw] at ht
      rcases List.mem_cons.1 ht with e | e
      · exact absurd e ne
      · have hx := (h.hx (bk s) c0 c1).1
        rw [lk_fuel h (by omega) (bk s) c0 4097 4096 _ hx (fun g => by have := (h.rk _ _ g).2; omega)]
        exact e
    · rw [updI_ne _ _ e] at ht
      exact ht
  refine sum_lt _ _ s N (fun t t1 t2 => ?_) h1 h2 ?_
  · by_cases e : t = s
    · rw [e]
      unfold cS
      have := lkN_most N G' (bk s) s
      rw [k3, k4, updI_at, if_pos rfl, if_neg (show ¬ G.ins s = 2 by omega)]
      split <;> omega
    · unfold cS
      rw [k3, k4, updI_ne _ _ e]
      split
      · by_cases e2 : Lk N G' (bk t) t
        · rw [lkN_yes e2, lkN_yes (hd (bk t) t (hb t).1 (hb t).2 e e2)]
          exact Nat.le_refl _
        · rw [lkN_no e2]
          omega
      · exact Nat.le_refl _
  · unfold cS
    have := lkN_most N G' (bk s) s
    rw [k3, k4, updI_at, if_pos rfl, if_neg (show ¬ G.ins s = 2 by omega)]
    split <;> omega
/-- A slot is marked. -/
theorem cG_mark (h : GbInv N nb bk G) (hN : N ≤ 4096) (hb : ∀ s, 0 ≤ bk s ∧ bk s < nb) (s : Int) (h1 : 1 ≤ s) (h2 : s ≤ N) (hs : G.ins s = 2) (hr : G.rem s ≠ 2) (k1 : ∀ c, 0 ≤ c → c < nb → G'.H c = G.H c) (k2 : ∀ t : Int, 1 ≤ t → t ≤ N → G'.W t / 2 = G.W t / 2) (k3 : G'.ins = G.ins) (k4 : G'.rem = updI G.rem s 2) : cG N bk G' + 1 ≤ cG N bk G := by
  have lk : ∀ t, Lk N G' (bk t) t ↔ Lk N G (bk t) t := fun t => by
    unfold Lk
    rw [k1 _ (hb t).1 (hb t).2, lk_like h (by omega) (bk t) (hb t).1 G'.W (fun u hu => k2 u hu.1 hu.2.1) _ _ (h.hx _ (hb t).1 (hb t).2).1]
  refine sum_lt _ _ s N (fun t t1 t2 => ?_) h1 h2 ?_
  · unfold cS
    rw [k3, k4]
    rw [lkN_iff (lk t)]
    by_cases e : t = s
    · rw [e, updI_at, if_pos hs, if_pos hs, if_pos rfl, if_neg hr]
      omega
    · rw [updI_ne _ _ e]
      exact Nat.le_refl _
  · unfold cS
    rw [k3, k4]
    rw [lkN_iff (lk s)]
    rw [updI_at, if_pos hs, if_pos hs, if_pos rfl, if_neg hr]
    omega
/-- A slot p comes off the list of its bucket: what is linked then. -/
theorem cG_off (h : GbInv N nb bk G) (hb : ∀ s, 0 ≤ bk s ∧ bk s < nb) (p : Int) (h1 : 1 ≤ p) (h2 : p ≤ N) (hs : G.ins p = 2) (hp : Lk N G (bk p) p) (k : ∀ c t, 0 ≤ c → c < nb → (Lk N G' c t ↔ Lk N G c t ∧ ¬ (c = bk p ∧ t = p))) (k3 : G'.ins = G.ins) (k4 : G'.rem = G.rem) : cG N bk G' + 1 ≤ cG N bk G := by
  refine sum_lt _ _ p N (fun t t1 t2 => ?_) h1 h2 ?_
  · unfold cS
    rw [k3, k4]
    split
    · by_cases e : Lk N G' (bk t) t
      · rw [lkN_yes e, lkN_yes ((k _ _ (hb t).1 (hb t).2).1 e).1]
        exact Nat.le_refl _
      · rw [lkN_no e]
        omega
    · exact Nat.le_refl _
  · unfold cS
    rw [k3, k4, if_pos hs, if_pos hs, lkN_yes hp, lkN_no (fun e => ((k _ _ (hb p).1 (hb p).2).1 e).2 ⟨rfl, rfl⟩)]
    omega
end
end Go.Proofs.YteekompojgbkhaaGreat

namespace Go.Proofs.YteekompojgbkhaaGreat
open Go.ChangeShapes Go.WideShapes Go.ChangeAt Go.RowKit Go.MuLone Go.RwLone
set_option linter.unusedVariables false
set_option linter.unusedSectionVars false
section
variable {N : Nat} {nb : Int} {bk : Int → Int} {S S' : AS} {x x' : XS} {G G' : Gb}
/-- What is linked when a slot comes off the head. -/
theorem lk_unhead (h : GbInv N nb bk G) (hN : N ≤ 4096) (hb : ∀ s, 0 ≤ bk s ∧ bk s < nb) (hr : G.ranks ≤ 4096) (b p : Int) (gp : Gin N bk G b p) (hw : G.H b = 2 * p) (k1 : ∀ c, 0 ≤ c → c < nb → G'.H c = updI G.H b (2 * (G.W p / 2)) c) (k2 : ∀ t : Int, 1 ≤ t → t ≤ N → G'.W t = G.W t) (c t : Int) (c0 : 0 ≤ c) (c1 : c < nb) : Lk N G' c t ↔ Lk N G c t ∧ ¬ (c = bk p ∧ t = p) := by
  have npp := h.nx b p gp
  have b0 : 0 ≤ b := by rw [← gp.2.2.2]; exact (hb p).1
  unfold Lk
  by_cases e : c = b
  · subst e
    rw [k1 c c0 c1, updI_at, show 2 * (G.W p / 2) / 2 = G.W p / 2 from by omega, lk_like h (by omega) c c0 G'.W (fun u hu => by rw [k2 u hu.1 hu.2.1]) _ _ npp, hw, show 2 * p / 2 = p from by omega, lkL_yes gp.1 gp.2.1, lk_fuel h (by omega) c c0 4097 4096 _ npp (fun g => by have := (h.rk _ _ g).2; omega), List.mem_cons]
    have np : p ∉ lkL N G.W 4096 (G.W p / 2) := fun hp => by
      have := lk_gin h (by omega) c c0 _ _ npp p hp
      have := h.dn c p gp this.2.1
      omega
    constructor
    · intro ht
      exact ⟨.inr ht, fun e => by obtain ⟨_, e⟩ := e; subst e; exact np ht⟩
    · rintro ⟨ht | ht, e⟩
      · exact absurd ⟨gp.2.2.2.symm, ht⟩ e
      · exact ht
  · rw [k1 c c0 c1, updI_ne _ _ e, lk_like h (by omega) c c0 G'.W (fun u hu => by rw [k2 u hu.1 hu.2.1]) _ _ (h.hx c c0 c1).1]
    exact ⟨fun ht => ⟨ht, fun e2 => e (e2.1.trans gp.2.2.2)⟩, fun ht => ht.1⟩
/-- What is linked when a slot comes off another. -/
theorem lk_unlink (h : GbInv N nb bk G) (hN : N ≤ 4096) (hb : ∀ s, 0 ≤ bk s ∧ bk s < nb) (hr : G.ranks ≤ 4096) (b a p : Int) (ga : Gin N bk G b a) (gp : Gin N bk G b p) (hw : G.W a = 2 * p) (k1 : ∀ c, 0 ≤ c → c < nb → G'.H c = G.H c) (k2 : ∀ t : Int, 1 ≤ t → t ≤ N → G'.W t = updI G.W a (2 * (G.W p / 2)) t) (c t : Int) (c0 : 0 ≤ c) (c1 : c < nb) : Lk N G' c t ↔ Lk N G c t ∧ ¬ (c = bk p ∧ t = p) := by
  have b0 : 0 ≤ b := by rw [← gp.2.2.2]; exact (hb p).1
  have b1 : b < nb := by rw [← gp.2.2.2]; exact (hb p).2
  have lw : ∀ (f : Nat) (n : Int), lkL N G'.W f n = lkL N (updI G.W a (2 * (G.W p / 2))) f n := by
    intro f
    induction f with
    | zero => intro n; rfl
    | succ f ih =>
      intro n
      by_cases hr : 1 ≤ n ∧ n ≤ (N : Int)
      · rw [lkL_yes hr.1 hr.2, lkL_yes hr.1 hr.2, k2 n hr.1 hr.2, ih]
      · rw [show lkL N G'.W (f + 1) n = [] from if_neg hr, show lkL N (updI G.W a (2 * (G.W p / 2))) (f + 1) n = [] from if_neg hr]
  unfold Lk
  rw [k1 c c0 c1, lw]
  by_cases e : c = b
  · subst e
    have ar : G.rem a ≠ 2 := fun e => by
      have := (h.mrk c a ga).2 e
      omega
    have hg : Gin N bk G c (G.H c / 2) ∧ G.rank a ≤ G.rank (G.H c / 2) := by
      by_cases h5 : Gin N bk G c (G.H c / 2) ∧ G.rank a ≤ G.rank (G.H c / 2)
      · exact h5
      · refine absurd (h.hgap c a c0 c1 ga (fun hi => ?_)) ar
        by_cases h6 : G.rank a ≤ G.rank (G.H c / 2)
        · exact absurd ⟨hi, h6⟩ h5
        · omega
    have hf : G.rank (G.H c / 2) < ((4097 : Nat) : Int) := by have := (h.rk _ _ hg.1).2; omega
    rw [lk_off h (by omega) c c0 a p ga gp hw t 4097 _ hg.1 hf (lk_un h (by omega) c c0 a ga ar 4097 _ hg.1 hf hg.2)]
    exact ⟨fun ht => ⟨ht.1, fun e => ht.2 e.2⟩, fun ht => ⟨ht.1, fun e => ht.2 ⟨gp.2.2.2.symm, e⟩⟩⟩
  · rw [lk_like h (by omega) c c0 _ (fun u hu => by rw [updI_ne _ _ (fun e2 => e (by rw [← hu.2.2.2, e2]; exact ga.2.2.2))]) _ _ (h.hx c c0 c1).1]
    exact ⟨fun ht => ⟨ht, fun e2 => e (e2.1.trans gp.2.2.2)⟩, fun ht => ht.1⟩
/-- A slot to which an unmarked slot of the list leads, or the head, is linked. -/
theorem lk_behind (h : GbInv N nb bk G) (hN : N ≤ 4096) (hr : G.ranks ≤ 4096) (b a p : Int) (b0 : 0 ≤ b) (b1 : b < nb) (ga : Gin N bk G b a) (gp : Gin N bk G b p) (hw : G.W a = 2 * p) : Lk N G b p := by
  have ar : G.rem a ≠ 2 := fun e => by
    have := (h.mrk b a ga).2 e
    omega
  have hg : Gin N bk G b (G.H b / 2) ∧ G.rank a ≤ G.rank (G.H b / 2) := by
    by_cases h5 : Gin N bk G b (G.H b / 2) ∧ G.rank a ≤ G.rank (G.H b / 2)
    · exact h5
    · refine absurd (h.hgap b a b0 b1 ga (fun hi => ?_)) ar
      by_cases h6 : G.rank a ≤ G.rank (G.H b / 2)
      · exact absurd ⟨hi, h6⟩ h5
      · omega
  have k : ∀ (f : Nat) (n : Int), Gin N bk G b n → G.rank n < (f : Int) → a ∈ lkL N G.W f n → p ∈ lkL N G.W f n := by
    intro f
    induction f with
    | zero => intro n hn hf ha; cases ha
    | succ f ih =>
      intro n hn hf ha
      rw [lkL_yes hn.1 hn.2.1] at ha ⊢
      by_cases e : n = a
      · subst e
        have e2 : G.W n / 2 = p := by omega
        have d := h.dn b n hn (by rw [e2]; exact gp)
        rw [e2] at d ⊢
        refine List.mem_cons_of_mem _ ?_
        rw [lk_fuel h (by omega) b b0 f (f + 1) p (.inr gp) (fun _ => by omega), lkL_yes gp.1 gp.2.1]
        exact List.mem_cons_self
      · rcases List.mem_cons.1 ha with e2 | ha2
        · exact absurd e2.symm e
        · have g := lk_gin h (by omega) b b0 f _ (h.nx b n hn) a ha2
          have := h.dn b n hn g.2.1
          exact List.mem_cons_of_mem _ (ih _ g.2.1 (by omega) ha2)
  have hf : G.rank (G.H b / 2) < ((4097 : Nat) : Int) := by have := (h.rk _ _ hg.1).2; omega
  exact k 4097 _ hg.1 hf (lk_un h (by omega) b b0 a ga ar 4097 _ hg.1 hf hg.2)
theorem lk_front (h : GbInv N nb bk G) (b p : Int) (gp : Gin N bk G b p) (hw : G.H b = 2 * p) : Lk N G b p := by
  unfold Lk
  rw [hw, show 2 * p / 2 = p from by omega, lkL_yes gp.1 gp.2.1]
  exact List.mem_cons_self
/-- Words and heads that stay. -/
theorem still_of (hl : Lnk N nb S x G) (hl' : Lnk N nb S' x' G') (hx : ∀ b : Nat, x'.hd b = x.hd b) (hS : ∀ t : Int, 1 ≤ t → t ≤ N → G.ins t = 2 → S'.word (atC S' t x'.cell) = S.word (atC S t x.cell)) (e1 : G'.ins = G.ins) (e2 : G'.rem = G.rem) (e3 : G'.rank = G.rank) (e4 : G'.ranks = G.ranks) : Still N nb G G' :=
  ⟨fun b b0 b1 => by rw [hl'.h b b0 b1, hl.h b b0 b1, hx], fun t t1 t2 t3 => by rw [hl'.w t t1 t2, hl.w t t1 t2]; exact hS t t1 t2 t3, e1, e2, e3, e4⟩
/-- How many steps an Insert has left at most till a link is changed. -/
def iLf (G : Gb) (m : MI) : Nat := match m.st with
  | 0 => 4
  | 1 => 3
  | 2 => if G.H m.bu = m.hd then 2 else 5
  | 3 => if G.H m.bu = m.hd then 1 else 4
  | _ => 0
def frB (G : Gb) (m : MR) : Bool := if m.ah = 0 then decide (G.H m.bu = 2 * m.pr) else decide (G.W m.ah = 2 * m.pr)
/-- How many a Remove has. -/
def rLf (G : Gb) (m : MR) : Nat := match m.st with
  | 0 => 2
  | 1 => 2
  | 2 => if G.W m.sl = m.wd then 1 else 3
  | 3 => G.ranks.toNat + 2
  | 4 => if frB G m || decide (G.W m.pr % 2 = 0) then (G.rank m.pr).toNat + 2 else G.ranks.toNat + 4
  | 5 => if frB G m then 1 else G.ranks.toNat + 3
  | _ => 0
/-- How many it has if nobody else steps. -/
def rAl (G : Gb) (m : MR) : Nat := match m.st with
  | 0 => 2 * G.ranks.toNat + 3
  | 1 => 2 * G.ranks.toNat + 3
  | 2 => if G.W m.sl = m.wd then 2 * G.ranks.toNat + 2 else 2 * G.ranks.toNat + 4
  | 3 => 2 * G.ranks.toNat + 1
  | 4 => if frB G m then 2 * (G.rank m.pr).toNat + 2 else 2 * (G.rank m.pr).toNat + 3 + 2 * G.ranks.toNat
  | 5 => if frB G m then 2 * (G.rank m.pr).toNat + 1 else 2 * (G.rank m.pr).toNat + 2 + 2 * G.ranks.toNat
  | _ => 0
theorem ins_pot (hl : Lnk N nb S x G) (h : GbInv N nb bk G) (hN : N ≤ 4096) (hr : G.ranks ≤ 4096) (hb : ∀ s, 0 ≤ bk s ∧ bk s < nb) (m : MI) (hm : InsI N bk G m) (h3 : m.st ≤ 3) (hl' : Lnk N nb (insP S x m).2.1.S (insP S x m).2.1.x G') (hf : ((insP S x m).1 = false ∧ G'.ins = G.ins ∧ G'.rem = G.rem ∧ G'.rank = G.rank ∧ G'.ranks = G.ranks) ∨ ((insP S x m).1 = true ∧ G'.ins = updI G.ins m.sl 2 ∧ G'.rem = G.rem)) : Dsc N nb bk G G' ∧ (Still N nb G G' → iLf G' (insP S x m).2.2 + 1 ≤ iLf G m) := by
  have hi : inB x m.bu = true := by rw [hm.bu]; exact hl.inb (hb _).1 (hb _).2
  have hv := hl.lv _ hm.lo hm.up
  have hw0 := hm.w0
  have hw3 := hm.w3
  have hw := hl.w _ hm.lo hm.up
  have hbu := hm.bu
  have hlo := hm.lo
  have hup := hm.up
  have on := hm.on h3
  obtain ⟨st, code, bu, sl, hd, tr⟩ := m
  simp only at hi hv h3 hw0 hw hw3 hbu hlo hup on
  subst hbu
  have hH := hl.h (bk sl) (hb sl).1 (hb sl).2
  match st with
  | 0 =>
    have e : insP S x ⟨0, code, bk sl, sl, hd, tr⟩ = (false, ⟨acc1 S, x⟩, ⟨1, code, bk sl, sl, hd, tr⟩) := by
      show (if inB x (bk sl) then (if liv S sl then (if S.word (atC S sl x.cell) = 0 then _ else _) else _) else _) = _
      rw [if_pos hi, if_pos hv, if_pos (hw.symm.trans (hw0 rfl))]
    rw [e] at hl' hf ⊢
    rcases hf with ⟨_, f1, f2, f3, f4⟩ | ⟨f, _⟩
    · have k := still_of hl hl' (fun _ => rfl) (fun t _ _ _ => rfl) f1 f2 f3 f4
      exact ⟨.inl k, fun _ => Nat.le_refl 4⟩
    · cases f
  | 1 =>
    have e : insP S x ⟨1, code, bk sl, sl, hd, tr⟩ = (false, ⟨S, x.cn1⟩, ⟨2, code, bk sl, sl, x.hd (bk sl).toNat, tr⟩) := rfl
    rw [e] at hl' hf ⊢
    rcases hf with ⟨_, f1, f2, f3, f4⟩ | ⟨f, _⟩
    · have k := still_of hl hl' (fun _ => rfl) (fun t _ _ _ => rfl) f1 f2 f3 f4
      refine ⟨.inl k, fun _ => ?_⟩
      show (if G'.H (bk sl) = x.hd (bk sl).toNat then 2 else 5) + 1 ≤ 3
      rw [if_pos (by rw [k.H _ (hb sl).1 (hb sl).2, hH])]
      exact Nat.le_refl 3
    · cases f
  | 2 =>
    have e : insP S x ⟨2, code, bk sl, sl, hd, tr⟩ = (false, ⟨put1 S (atC S sl x.cell) hd, x⟩, ⟨3, code, bk sl, sl, hd, tr⟩) := by
      show (if liv S sl then _ else _) = _
      rw [if_pos hv]
    rw [e] at hl' hf ⊢
    rcases hf with ⟨_, f1, f2, f3, f4⟩ | ⟨f, _⟩
    · have k := still_of hl hl' (fun _ => rfl) (fun t t1 t2 t3 => by
        show upd S.word (atC S sl x.cell) hd (atC S t x.cell) = _
        refine upd_other _ _ (fun e => ?_)
        have : t ≠ sl := fun e => by rw [e, on] at t3; omega
        unfold atC at e
        rw [hl.wd] at e
        omega) f1 f2 f3 f4
      refine ⟨.inl k, fun _ => ?_⟩
      show (if G'.H (bk sl) = hd then 1 else 4) + 1 ≤ (if G.H (bk sl) = hd then 2 else 5)
      rw [k.H _ (hb sl).1 (hb sl).2]
      split <;> omega
    · cases f
  | 3 =>
    by_cases hh : x.hd (bk sl).toNat = hd
    · have e : insP S x ⟨3, code, bk sl, sl, hd, tr⟩ = (true, ⟨S, { x.cn1 with hd := upd x.hd (bk sl).toNat (2 * sl) }⟩, ⟨4, 0, bk sl, sl, hd, tr⟩) := by
        show (if x.hd (bk sl).toNat = hd then _ else _) = _
        rw [if_pos hh]
      rw [e] at hl' hf ⊢
      rcases hf with ⟨f, _⟩ | ⟨_, f1, f2⟩
      · cases f
      · refine ⟨.inr (cG_push h hN hb sl hlo hup on (by rw [hw3 rfl, hH, hh]) hr (fun c c0 c1 => ?_) (fun t t1 t2 => ?_) f1 f2), fun k => ?_⟩
        · rw [hl'.h c c0 c1]
          show upd x.hd (bk sl).toNat (2 * sl) c.toNat = _
          by_cases e : c = bk sl
          · rw [e, updI_at, upd_same]
          · have := (hb sl).1
            rw [updI_ne _ _ e, upd_other _ _ (by omega), hl.h c c0 c1]
        · rw [hl'.w t t1 t2, hl.w t t1 t2]
          rfl
        · have := k.ins
          rw [f1] at this
          have e2 : updI G.ins sl 2 sl = G.ins sl := by rw [this]
          rw [updI_at, on] at e2
          omega
    · have e : insP S x ⟨3, code, bk sl, sl, hd, tr⟩ = (false, ⟨S, x.cn1⟩, ⟨1, code, bk sl, sl, hd, wrap64 (tr + 1)⟩) := by
        show (if x.hd (bk sl).toNat = hd then _ else _) = _
        rw [if_neg hh]
      rw [e] at hl' hf ⊢
      rcases hf with ⟨_, f1, f2, f3, f4⟩ | ⟨f, _⟩
      · have k := still_of hl hl' (fun _ => rfl) (fun t _ _ _ => rfl) f1 f2 f3 f4
        refine ⟨.inl k, fun _ => ?_⟩
        show 3 + 1 ≤ (if G.H (bk sl) = hd then 1 else 4)
        rw [if_neg (by rw [hH]; exact hh)]
        exact Nat.le_refl 4
      · cases f
  | n + 4 => exact absurd h3 (by omega)
end
end Go.Proofs.YteekompojgbkhaaGreat

namespace Go.Proofs.YteekompojgbkhaaGreat
open Go.ChangeShapes Go.WideShapes Go.ChangeAt Go.RowKit Go.MuLone Go.RwLone
set_option linter.unusedVariables false
set_option linter.unusedSectionVars false
section
variable {N : Nat} {nb : Int} {bk : Int → Int} {S S' : AS} {x x' : XS} {G G' : Gb}
theorem frB_iff (G : Gb) (m : MR) : frB G m = true ↔ ((m.ah = 0 ∧ G.H m.bu = 2 * m.pr) ∨ (¬ m.ah = 0 ∧ G.W m.ah = 2 * m.pr)) := by
  unfold frB
  by_cases e : m.ah = 0
  · rw [if_pos e, decide_eq_true_eq]
    constructor
    · intro h; exact .inl ⟨e, h⟩
    · rintro (h | h)
      · exact h.2
      · exact absurd e h.1
  · rw [if_neg e, decide_eq_true_eq]
    constructor
    · intro h; exact .inr ⟨e, h⟩
    · rintro (h | h)
      · exact absurd h.1 e
      · exact h.2
/-- What a step of a Remove does to what is left of it. -/
def RPot (N : Nat) (nb : Int) (bk : Int → Int) (G G' : Gb) (m m' : MR) : Prop := Dsc N nb bk G G' ∧ (Still N nb G G' → rLf G' m' + 1 ≤ rLf G m) ∧ rAl G' m' + 1 ≤ rAl G m
/-- A move to a slot behind the head or behind a slot that is not marked. -/
theorem mv_pot (m : MR) (n : Int) (k : Nat) (rr : G'.ranks = G.ranks) (hn : ¬ 4096 < n → (G'.rank n).toNat + 1 ≤ k ∧ frB G' (mvR m n).2 = true) (r k1 : Nat) (a1 : k + 2 ≤ r) (a2 : 2 * k + 1 ≤ k1) (hr1 : 1 ≤ r) : rLf G' (mvR m n).2 + 1 ≤ r ∧ rAl G' (mvR m n).2 + 1 ≤ k1 := by
  by_cases h : 4096 < n
  · have e : mvR m n = (true, { m with st := 6, co := 0 }) := if_pos h
    rw [e]
    exact ⟨hr1, by show 0 + 1 ≤ k1; omega⟩
  · have e : mvR m n = (false, { m with pr := n, st := 4 }) := if_neg h
    have hn := hn h
    rw [e] at hn ⊢
    have hn2 : frB G' { m with pr := n, st := 4 } = true := hn.2
    constructor
    · show (if frB G' { m with pr := n, st := 4 } || decide (G'.W n % 2 = 0) then (G'.rank n).toNat + 2 else G'.ranks.toNat + 4) + 1 ≤ r
      rw [hn2, Bool.true_or, if_pos rfl]
      omega
    · show (if frB G' { m with pr := n, st := 4 } then 2 * (G'.rank n).toNat + 2 else 2 * (G'.rank n).toNat + 3 + 2 * G'.ranks.toNat) + 1 ≤ k1
      rw [hn2, if_pos rfl]
      omega
theorem own_pot (hl : Lnk N nb S x G) (h : GbInv N nb bk G) (hN : N ≤ 4096) (m : MR) (b0 : 0 ≤ m.bu) (hm : RemI N bk G m) (h1 : m.st ≤ 1) (hl' : Lnk N nb (ownR S x m).2.1.S (ownR S x m).2.1.x G') (f1 : G'.ins = G.ins) (f2 : G'.rank = G.rank) (f3 : G'.ranks = G.ranks) (f4 : (ownR S x m).2.2.ma = m.ma → G'.rem = G.rem) : RPot N nb bk G G' m (ownR S x m).2.2 := by
  have un := hm.un (by omega)
  have hv := hl.lv _ hm.g.1 hm.g.2.1
  have hw := hl.w _ hm.g.1 hm.g.2.1
  have n0 := ((h.nx _ _ hm.g).end_or (by omega) b0).2.2
  have z : ¬ S.word (atC S m.sl x.cell) = 0 := fun e => n0 (by rw [hw, e]; rfl)
  have k : ¬ (S.word (atC S m.sl x.cell) % 2 == 1) = true := fun e => by
    have := (h.mrk _ _ hm.g).1 (by rw [hw]; exact eq_of_beq e)
    have := un.2
    omega
  have e : ownR S x m = (false, ⟨acc1 S, x⟩, { m with st := 2, wd := S.word (atC S m.sl x.cell) }) := by
    unfold ownR
    rw [if_pos hv, if_neg z, if_neg k]
  rw [e] at hl' f4 ⊢
  have st := still_of hl hl' (fun _ => rfl) (fun t _ _ _ => rfl) f1 (f4 rfl) f2 f3
  have ew : G'.W m.sl = S.word (atC S m.sl x.cell) := by rw [st.W _ hm.g.1 hm.g.2.1 hm.g.2.2.1, hw]
  have l0 : rLf G m = 2 := by
    unfold rLf
    rcases (by omega : m.st = 0 ∨ m.st = 1) with e | e <;> simp only [e]
  have l1 : rAl G m = 2 * G.ranks.toNat + 3 := by
    unfold rAl
    rcases (by omega : m.st = 0 ∨ m.st = 1) with e | e <;> simp only [e]
  refine ⟨.inl st, fun _ => ?_, ?_⟩
  · rw [l0]
    show (if G'.W m.sl = S.word (atC S m.sl x.cell) then 1 else 3) + 1 ≤ 2
    rw [if_pos ew]
    exact Nat.le_refl 2
  · rw [l1]
    show (if G'.W m.sl = S.word (atC S m.sl x.cell) then 2 * G'.ranks.toNat + 2 else 2 * G'.ranks.toNat + 4) + 1 ≤ _
    rw [if_pos ew, f3]
    exact Nat.le_refl _
theorem rem_pot (hl : Lnk N nb S x G) (h : GbInv N nb bk G) (hN : N ≤ 4096) (hr : G.ranks ≤ 4096) (hb : ∀ s, 0 ≤ bk s ∧ bk s < nb) (m : MR) (hm : RemI N bk G m) (h5 : m.st ≤ 5) (hl' : Lnk N nb (remP S x m).2.1.S (remP S x m).2.1.x G') (f1 : G'.ins = G.ins) (f2 : G'.rank = G.rank) (f3 : G'.ranks = G.ranks) (f4 : ((remP S x m).2.2.ma = m.ma ∧ G'.rem = G.rem) ∨ (m.ma = false ∧ (remP S x m).2.2.ma = true ∧ G'.rem = updI G.rem m.sl 2)) : RPot N nb bk G G' m (remP S x m).2.2 := by
  have b0 : 0 ≤ m.bu := by rw [← hm.g.2.2.2]; exact (hb _).1
  have b1 : m.bu < nb := by rw [← hm.g.2.2.2]; exact (hb _).2
  have hi := hl.inb b0 b1
  have hv := hl.lv _ hm.g.1 hm.g.2.1
  have hw := hl.w _ hm.g.1 hm.g.2.1
  have fm : (remP S x m).2.2.ma = m.ma → G'.rem = G.rem := fun e => by
    rcases f4 with f | f
    · exact f.2
    · rw [f.1, f.2.1] at e
      cases e
  have hH := hl.h m.bu b0 b1
  have hx := h.hx m.bu b0 b1
  obtain ⟨st, co, bu, sl, wd, ah, pr, be, ma, he⟩ := m
  simp only at b0 b1 hi hv hw h5 hH hx
  match st with
  | 0 =>
    have e : remP S x ⟨0, co, bu, sl, wd, ah, pr, be, ma, he⟩ = ownR S x ⟨0, co, bu, sl, wd, ah, pr, be, ma, he⟩ := by
      show (if inB x bu then _ else _) = _
      rw [if_pos hi]
    rw [e] at hl' fm ⊢
    exact own_pot hl h hN _ b0 hm (Nat.zero_le _) hl' f1 f2 f3 fm
  | 1 => exact own_pot hl h hN _ b0 hm (Nat.le_refl _) hl' f1 f2 f3 fm
  | 2 =>
    have un : ma = false ∧ G.rem sl = 1 := hm.un (Nat.le_refl _)
    have g : Gin N bk G bu sl := hm.g
    by_cases e1 : S.word (atC S sl x.cell) = wd
    · have e : remP S x ⟨2, co, bu, sl, wd, ah, pr, be, ma, he⟩ = (false, ⟨put1 S (atC S sl x.cell) (2 * (wd / 2) + 1), x⟩, ⟨3, co, bu, sl, wd, ah, pr, be, true, he⟩) := by
        show (if liv S sl then (if S.word (atC S sl x.cell) = wd then _ else _) else _) = _
        rw [if_pos hv, if_pos e1]
      rw [e] at hl' f4 ⊢
      have fr : G'.rem = updI G.rem sl 2 := by
        rcases f4 with f | f
        · have : true = ma := f.1
          rw [un.1] at this
          cases this
        · exact f.2.2
      have ch : cG N bk G' + 1 ≤ cG N bk G := cG_mark h hN hb sl g.1 g.2.1 g.2.2.1 (by rw [un.2]; decide) (fun c c0 c1 => by rw [hl'.h c c0 c1, hl.h c c0 c1]) (fun t t1 t2 => by
        rw [hl'.w t t1 t2, hl.w t t1 t2]
        show upd S.word (atC S sl x.cell) (2 * (wd / 2) + 1) (atC S t x.cell) / 2 = _
        by_cases et : t = sl
        · subst et
          rw [upd_same, e1]
          omega
        · have := g.1
          rw [upd_other _ _ (fun e => by unfold atC at e; rw [hl.wd] at e; omega)]) f1 fr
      refine ⟨.inr ch, fun k => ?_, ?_⟩
      · have := k.rem
        rw [fr] at this
        have e2 : updI G.rem sl 2 sl = G.rem sl := by rw [this]
        rw [updI_at, un.2] at e2
        omega
      · show 2 * G'.ranks.toNat + 1 + 1 ≤ (if G.W sl = wd then 2 * G.ranks.toNat + 2 else 2 * G.ranks.toNat + 4)
        rw [f3]
        split <;> omega
    · have e : remP S x ⟨2, co, bu, sl, wd, ah, pr, be, ma, he⟩ = (false, ⟨acc1 S, x⟩, ⟨1, co, bu, sl, wd, ah, pr, be, ma, he⟩) := by
        show (if liv S sl then (if S.word (atC S sl x.cell) = wd then _ else _) else _) = _
        rw [if_pos hv, if_neg e1]
      rw [e] at hl' fm ⊢
      have k := still_of hl hl' (fun _ => rfl) (fun t _ _ _ => rfl) f1 (fm rfl) f2 f3
      refine ⟨.inl k, fun _ => ?_, ?_⟩
      · show 2 + 1 ≤ (if G.W sl = wd then 1 else 3)
        rw [if_neg (by rw [hw]; exact e1)]
        exact Nat.le_refl 3
      · show 2 * G'.ranks.toNat + 3 + 1 ≤ (if G.W sl = wd then 2 * G.ranks.toNat + 2 else 2 * G.ranks.toNat + 4)
        rw [if_neg (by rw [hw]; exact e1), f3]
        exact Nat.le_refl _
  | 3 =>
    have k := still_of (S' := S) (x' := x.cn1) hl hl' (fun _ => rfl) (fun t _ _ _ => rfl) f1 (fm (by show (mvR _ _).2.ma = ma; unfold mvR; split <;> rfl)) f2 f3
    rw [hH] at hx
    have eH : G'.H bu = x.hd bu.toNat := by rw [k.H bu b0 b1, hH]
    have mp := mv_pot (G := G) (G' := G') ⟨3, co, bu, sl, wd, 0, pr, be, ma, he⟩ (x.hd bu.toNat / 2) G.ranks.toNat f3 (fun hn => ?_) (G.ranks.toNat + 2) (2 * G.ranks.toNat + 1) (Nat.le_refl _) (Nat.le_refl _) (by omega)
    · exact ⟨.inl k, fun _ => mp.1, mp.2⟩
    · have g := (hx.1.end_or (by omega) b0).2.1 hn
      have := h.rk _ _ g
      rw [f2]
      refine ⟨by omega, ?_⟩
      have e : mvR ⟨3, co, bu, sl, wd, 0, pr, be, ma, he⟩ (x.hd bu.toNat / 2) = (false, ⟨4, co, bu, sl, wd, 0, x.hd bu.toNat / 2, be, ma, he⟩) := if_neg hn
      rw [e, frB_iff]
      exact .inl ⟨rfl, by show G'.H bu = 2 * (x.hd bu.toNat / 2); rw [eH]; omega⟩
  | 4 =>
    have gp : Gin N bk G bu pr := hm.pr (.inl rfl)
    have ga : ah = 0 ∨ Gin N bk G bu ah := hm.ah (.inl rfl)
    have pv := hl.lv _ gp.1 gp.2.1
    have pw := hl.w _ gp.1 gp.2.1
    have nx := h.nx bu pr gp
    have dn := h.dn bu pr gp
    have rk := h.rk bu pr gp
    have n0 := (nx.end_or (by omega) b0).2.2
    rw [pw] at nx n0 dn
    by_cases e1 : (S.word (atC S pr x.cell) % 2 == 1) = true
    · have e : remP S x ⟨4, co, bu, sl, wd, ah, pr, be, ma, he⟩ = (false, ⟨acc1 S, x⟩, ⟨5, co, bu, sl, wd, ah, pr, S.word (atC S pr x.cell) / 2, ma, he⟩) := by
        show (if liv S pr then (if S.word (atC S pr x.cell) / 2 = 0 then _ else if S.word (atC S pr x.cell) % 2 == 1 then _ else _) else _) = _
        rw [if_pos pv, if_neg n0, if_pos e1]
      rw [e] at hl' fm ⊢
      have k := still_of hl hl' (fun _ => rfl) (fun t _ _ _ => rfl) f1 (fm rfl) f2 f3
      have ef : frB G' ⟨5, co, bu, sl, wd, ah, pr, S.word (atC S pr x.cell) / 2, ma, he⟩ = frB G ⟨4, co, bu, sl, wd, ah, pr, be, ma, he⟩ := by
        unfold frB
        show (if ah = 0 then decide (G'.H bu = 2 * pr) else decide (G'.W ah = 2 * pr)) = (if ah = 0 then decide (G.H bu = 2 * pr) else decide (G.W ah = 2 * pr))
        by_cases e0 : ah = 0
        · rw [if_pos e0, if_pos e0, k.H bu b0 b1]
        · have ga := ga.resolve_left e0
          rw [if_neg e0, if_neg e0, k.W ah ga.1 ga.2.1 ga.2.2.1]
      have od : ¬ G.W pr % 2 = 0 := by
        have := eq_of_beq e1
        rw [pw]
        omega
      refine ⟨.inl k, fun _ => ?_, ?_⟩
      · show (if frB G' ⟨5, co, bu, sl, wd, ah, pr, S.word (atC S pr x.cell) / 2, ma, he⟩ then 1 else G'.ranks.toNat + 3) + 1 ≤ (if frB G ⟨4, co, bu, sl, wd, ah, pr, be, ma, he⟩ || decide (G.W pr % 2 = 0) then (G.rank pr).toNat + 2 else G.ranks.toNat + 4)
        rw [ef, f3, decide_eq_false od, Bool.or_false]
        split <;> omega
      · show (if frB G' ⟨5, co, bu, sl, wd, ah, pr, S.word (atC S pr x.cell) / 2, ma, he⟩ then 2 * (G'.rank pr).toNat + 1 else 2 * (G'.rank pr).toNat + 2 + 2 * G'.ranks.toNat) + 1 ≤ (if frB G ⟨4, co, bu, sl, wd, ah, pr, be, ma, he⟩ then 2 * (G.rank pr).toNat + 2 else 2 * (G.rank pr).toNat + 3 + 2 * G.ranks.toNat)
        rw [ef, f3, f2]
        split <;> omega
    · have e : remP S x ⟨4, co, bu, sl, wd, ah, pr, be, ma, he⟩ = ((mvR ⟨4, co, bu, sl, wd, pr, pr, be, ma, he⟩ (S.word (atC S pr x.cell) / 2)).1, ⟨acc1 S, x⟩, (mvR ⟨4, co, bu, sl, wd, pr, pr, be, ma, he⟩ (S.word (atC S pr x.cell) / 2)).2) := by
        show (if liv S pr then (if S.word (atC S pr x.cell) / 2 = 0 then _ else if S.word (atC S pr x.cell) % 2 == 1 then _ else _) else _) = _
        rw [if_pos pv, if_neg n0, if_neg e1]
      rw [e] at hl' fm ⊢
      have k := still_of hl hl' (fun _ => rfl) (fun t _ _ _ => rfl) f1 (fm (by show (mvR _ _).2.ma = ma; unfold mvR; split <;> rfl)) f2 f3
      have ev : G.W pr % 2 = 0 := by
        have h1 : ¬ S.word (atC S pr x.cell) % 2 = 1 := fun e => e1 (beq_iff_eq.2 e)
        rw [pw]
        omega
      have l0 : rLf G ⟨4, co, bu, sl, wd, ah, pr, be, ma, he⟩ = (G.rank pr).toNat + 2 := by
        show (if frB G ⟨4, co, bu, sl, wd, ah, pr, be, ma, he⟩ || decide (G.W pr % 2 = 0) then (G.rank pr).toNat + 2 else G.ranks.toNat + 4) = _
        rw [decide_eq_true ev, Bool.or_true, if_pos rfl]
      have l1 : 2 * (G.rank pr).toNat + 2 ≤ rAl G ⟨4, co, bu, sl, wd, ah, pr, be, ma, he⟩ := by
        show _ ≤ (if frB G ⟨4, co, bu, sl, wd, ah, pr, be, ma, he⟩ then 2 * (G.rank pr).toNat + 2 else 2 * (G.rank pr).toNat + 3 + 2 * G.ranks.toNat)
        split <;> omega
      have mp := mv_pot (G := G) (G' := G') ⟨4, co, bu, sl, wd, pr, pr, be, ma, he⟩ (S.word (atC S pr x.cell) / 2) (G.rank pr).toNat f3 (fun hn => ?_) ((G.rank pr).toNat + 2) (2 * (G.rank pr).toNat + 2) (Nat.le_refl _) (by omega) (by omega)
      · refine ⟨.inl k, fun _ => ?_, Nat.le_trans mp.2 l1⟩
        rw [l0]
        exact mp.1
      · have g := (nx.end_or (by omega) b0).2.1 hn
        have := h.rk _ _ g
        have := dn g
        rw [f2]
        refine ⟨by omega, ?_⟩
        have e : mvR ⟨4, co, bu, sl, wd, pr, pr, be, ma, he⟩ (S.word (atC S pr x.cell) / 2) = (false, ⟨4, co, bu, sl, wd, pr, S.word (atC S pr x.cell) / 2, be, ma, he⟩) := if_neg hn
        rw [e, frB_iff]
        have := gp.1
        exact .inr ⟨by show ¬ pr = 0; omega, by show G'.W pr = 2 * (S.word (atC S pr x.cell) / 2); rw [k.W pr gp.1 gp.2.1 gp.2.2.1, pw]; rw [pw] at ev; omega⟩
  | 5 =>
    have g : Gin N bk G bu sl := hm.g
    have gp : Gin N bk G bu pr := hm.pr (.inr rfl)
    have ga : ah = 0 ∨ Gin N bk G bu ah := hm.ah (.inr rfl)
    have gb : G.W pr % 2 = 1 ∧ be = G.W pr / 2 := hm.be rfl
    have ebp : bk pr = bu := gp.2.2.2
    have rk := h.rk bu pr gp
    have nx := h.nx bu pr gp
    have dn := h.dn bu pr gp
    rw [← gb.2] at nx dn
    have hlP : Lnk N nb (unlR ⟨5, co, bu, sl, wd, ah, pr, be, ma, he⟩ (ahR S x bu ah (2 * pr) (2 * be))).2.1.S (unlR ⟨5, co, bu, sl, wd, ah, pr, be, ma, he⟩ (ahR S x bu ah (2 * pr) (2 * be))).2.1.x G' := hl'
    have fmP : (unlR ⟨5, co, bu, sl, wd, ah, pr, be, ma, he⟩ (ahR S x bu ah (2 * pr) (2 * be))).2.2.ma = ma → G'.rem = G.rem := fm
    show RPot N nb bk G G' _ (unlR ⟨5, co, bu, sl, wd, ah, pr, be, ma, he⟩ (ahR S x bu ah (2 * pr) (2 * be))).2.2
    have ucs : ∀ q : Bool × Int × CS, (unlR ⟨5, co, bu, sl, wd, ah, pr, be, ma, he⟩ q).2.1 = q.2.2 := fun q => by
      unfold unlR
      split
      · split
        · split <;> rfl
        · rfl
      · rfl
    have uma : ∀ q : Bool × Int × CS, (unlR ⟨5, co, bu, sl, wd, ah, pr, be, ma, he⟩ q).2.2.ma = ma := fun q => by
      unfold unlR
      split
      · split
        · split
          · rfl
          · show (mvR _ _).2.ma = ma
            unfold mvR
            split <;> rfl
        · rfl
      · rfl
    have fr := fmP (uma _)
    rw [ucs] at hlP
    clear hl' fm fmP f4
    -- a failure: nothing is changed
    have miss : ahR S x bu ah (2 * pr) (2 * be) = (false, 0, (ahR S x bu ah (2 * pr) (2 * be)).2.2) → (∀ c : Nat, (ahR S x bu ah (2 * pr) (2 * be)).2.2.x.hd c = x.hd c) → (∀ t : Int, (ahR S x bu ah (2 * pr) (2 * be)).2.2.S.word (atC (ahR S x bu ah (2 * pr) (2 * be)).2.2.S t (ahR S x bu ah (2 * pr) (2 * be)).2.2.x.cell) = S.word (atC S t x.cell)) → ¬ frB G ⟨5, co, bu, sl, wd, ah, pr, be, ma, he⟩ = true → RPot N nb bk G G' ⟨5, co, bu, sl, wd, ah, pr, be, ma, he⟩ (unlR ⟨5, co, bu, sl, wd, ah, pr, be, ma, he⟩ (ahR S x bu ah (2 * pr) (2 * be))).2.2 := fun e k1 k2 nf => by
      have k := still_of hl hlP k1 (fun t _ _ _ => k2 t) f1 fr f2 f3
      have eu : (unlR ⟨5, co, bu, sl, wd, ah, pr, be, ma, he⟩ (ahR S x bu ah (2 * pr) (2 * be))).2.2 = ⟨3, co, bu, sl, wd, ah, pr, be, ma, he⟩ := by
        rw [e]
        rfl
      rw [eu]
      refine ⟨.inl k, fun _ => ?_, ?_⟩
      · show G'.ranks.toNat + 2 + 1 ≤ (if frB G ⟨5, co, bu, sl, wd, ah, pr, be, ma, he⟩ then 1 else G.ranks.toNat + 3)
        rw [if_neg nf, f3]
        exact Nat.le_refl _
      · show 2 * G'.ranks.toNat + 1 + 1 ≤ (if frB G ⟨5, co, bu, sl, wd, ah, pr, be, ma, he⟩ then 2 * (G.rank pr).toNat + 1 else 2 * (G.rank pr).toNat + 2 + 2 * G.ranks.toNat)
        rw [if_neg nf, f3]
        omega
    have hit : ahR S x bu ah (2 * pr) (2 * be) = (true, 0, (ahR S x bu ah (2 * pr) (2 * be)).2.2) → cG N bk G' + 1 ≤ cG N bk G → frB G ⟨5, co, bu, sl, wd, ah, pr, be, ma, he⟩ = true → (∀ n c, frB G' ⟨4, co, bu, sl, wd, ah, be, be, ma, n⟩ = c → c = true) → RPot N nb bk G G' ⟨5, co, bu, sl, wd, ah, pr, be, ma, he⟩ (unlR ⟨5, co, bu, sl, wd, ah, pr, be, ma, he⟩ (ahR S x bu ah (2 * pr) (2 * be))).2.2 := fun e ch hf hf2 => by
      have la : rAl G ⟨5, co, bu, sl, wd, ah, pr, be, ma, he⟩ = 2 * (G.rank pr).toNat + 1 := by
        show (if frB G ⟨5, co, bu, sl, wd, ah, pr, be, ma, he⟩ then 2 * (G.rank pr).toNat + 1 else 2 * (G.rank pr).toNat + 2 + 2 * G.ranks.toNat) = _
        rw [if_pos hf]
      refine ⟨.inr ch, fun k => ?_, ?_⟩
      · have := k.cG h hN hb
        omega
      · rw [la, e]
        by_cases es : pr = sl
        · have eu : (unlR ⟨5, co, bu, sl, wd, ah, pr, be, ma, he⟩ (true, 0, (ahR S x bu ah (2 * pr) (2 * be)).2.2)).2.2 = ⟨6, 0, bu, sl, wd, ah, pr, be, ma, he⟩ := by
            show (if (0 : Int) = 0 then (if true = true then (if pr = sl then _ else _) else _) else _ : Bool × CS × MR).2.2 = _
            rw [if_pos rfl, if_pos rfl, if_pos es]
          rw [eu]
          show 0 + 1 ≤ _
          omega
        · have eu : (unlR ⟨5, co, bu, sl, wd, ah, pr, be, ma, he⟩ (true, 0, (ahR S x bu ah (2 * pr) (2 * be)).2.2)).2.2 = (mvR ⟨5, co, bu, sl, wd, ah, pr, be, ma, wrap64 (he + 1)⟩ be).2 := by
            show (if (0 : Int) = 0 then (if true = true then (if pr = sl then _ else _) else _) else _ : Bool × CS × MR).2.2 = _
            rw [if_pos rfl, if_pos rfl, if_neg es]
          rw [eu]
          refine (mv_pot (G := G) (G' := G') ⟨5, co, bu, sl, wd, ah, pr, be, ma, wrap64 (he + 1)⟩ be (G.rank pr).toNat f3 (fun hn => ?_) ((G.rank pr).toNat + 2) (2 * (G.rank pr).toNat + 1) (Nat.le_refl _) (Nat.le_refl _) (by omega)).2
          have gb := (nx.end_or (by omega) b0).2.1 hn
          have := h.rk _ _ gb
          have := dn gb
          rw [f2]
          refine ⟨by omega, ?_⟩
          have em : mvR ⟨5, co, bu, sl, wd, ah, pr, be, ma, wrap64 (he + 1)⟩ be = (false, ⟨4, co, bu, sl, wd, ah, be, be, ma, wrap64 (he + 1)⟩) := if_neg hn
          rw [em]
          exact hf2 _ _ rfl
    by_cases e0 : ah = 0
    · subst e0
      by_cases e1 : x.hd bu.toNat = 2 * pr
      · have e : ahR S x bu 0 (2 * pr) (2 * be) = (true, 0, ⟨S, { x.cn1 with hd := upd x.hd bu.toNat (2 * be) }⟩) := by
          unfold ahR
          rw [if_pos rfl, if_pos e1]
        rw [e] at hit hlP
        rw [e]
        have hw' : G.H bu = 2 * pr := hH.trans e1
        have q1 : ∀ c, 0 ≤ c → c < nb → G'.H c = updI G.H bu (2 * (G.W pr / 2)) c := fun c c0 c1 => by
          rw [hlP.h c c0 c1]
          show upd x.hd bu.toNat (2 * be) c.toNat = _
          by_cases e : c = bu
          · rw [e, updI_at, upd_same, gb.2]
          · rw [updI_ne _ _ e, upd_other _ _ (by omega), hl.h c c0 c1]
        refine hit rfl (cG_off h hb pr gp.1 gp.2.1 gp.2.2.1 ?_ (fun c t c0 c1 => lk_unhead h hN hb hr bu pr gp hw' q1 (fun t t1 t2 => ?_) c t c0 c1) f1 fr) ?_ (fun n c hc => ?_)
        · rw [ebp]
          exact lk_front h bu pr gp hw'
        · rw [hlP.w t t1 t2, hl.w t t1 t2]
          rfl
        · exact (frB_iff _ _).2 (.inl ⟨rfl, hw'⟩)
        · rw [← hc]
          refine (frB_iff _ _).2 (.inl ⟨rfl, ?_⟩)
          show G'.H bu = 2 * be
          rw [q1 bu b0 b1, updI_at, gb.2]
      · have e : ahR S x bu 0 (2 * pr) (2 * be) = (false, 0, ⟨S, x.cn1⟩) := by
          unfold ahR
          rw [if_pos rfl, if_neg e1]
        rw [e] at miss
        rw [e]
        refine miss rfl (fun _ => rfl) (fun _ => rfl) (fun hf => ?_)
        rcases (frB_iff _ _).1 hf with hf | hf
        · exact e1 (hH.symm.trans hf.2)
        · exact hf.1 rfl
    · have ga := ga.resolve_left e0
      have hva := hl.lv ah ga.1 ga.2.1
      have hwa := hl.w ah ga.1 ga.2.1
      by_cases e1 : S.word (atC S ah x.cell) = 2 * pr
      · have e : ahR S x bu ah (2 * pr) (2 * be) = (true, 0, ⟨put1 S (atC S ah x.cell) (2 * be), x⟩) := by
          unfold ahR
          rw [if_neg e0, if_pos hva, if_pos e1]
        rw [e] at hit hlP
        rw [e]
        have hw' : G.W ah = 2 * pr := hwa.trans e1
        have q2 : ∀ t : Int, 1 ≤ t → t ≤ N → G'.W t = updI G.W ah (2 * (G.W pr / 2)) t := fun t t1 t2 => by
          rw [hlP.w t t1 t2]
          show upd S.word (atC S ah x.cell) (2 * be) (atC S t x.cell) = _
          by_cases e : t = ah
          · rw [e, updI_at, upd_same, gb.2]
          · have := ga.1
            rw [updI_ne _ _ e, upd_other _ _ (fun e => by unfold atC at e; rw [hl.wd] at e; omega), hl.w t t1 t2]
        refine hit rfl (cG_off h hb pr gp.1 gp.2.1 gp.2.2.1 ?_ (fun c t c0 c1 => lk_unlink h hN hb hr bu ah pr ga gp hw' (fun c c0 c1 => ?_) q2 c t c0 c1) f1 fr) ?_ (fun n c hc => ?_)
        · rw [ebp]
          exact lk_behind h hN hr bu ah pr b0 b1 ga gp hw'
        · rw [hlP.h c c0 c1, hl.h c c0 c1]
        · exact (frB_iff _ _).2 (.inr ⟨e0, hw'⟩)
        · rw [← hc]
          refine (frB_iff _ _).2 (.inr ⟨e0, ?_⟩)
          show G'.W ah = 2 * be
          rw [q2 ah ga.1 ga.2.1, updI_at, gb.2]
      · have e : ahR S x bu ah (2 * pr) (2 * be) = (false, 0, ⟨acc1 S, x⟩) := by
          unfold ahR
          rw [if_neg e0, if_pos hva, if_neg e1]
        rw [e] at miss
        rw [e]
        refine miss rfl (fun _ => rfl) (fun _ => rfl) (fun hf => ?_)
        rcases (frB_iff _ _).1 hf with hf | hf
        · exact e0 hf.1
        · exact e1 (hwa.symm.trans hf.2)
  | n + 6 => exact absurd h5 (by omega)
end
end Go.Proofs.YteekompojgbkhaaGreat

namespace Go.Proofs.YteekompojgbkhaaGreat
open Go.ChangeShapes Go.WideShapes Go.ChangeAt Go.RowKit Go.MuLone Go.RwLone
set_option linter.unusedVariables false
set_option linter.unusedSectionVars false
section
variable {N : Nat} {nb : Int} {bk : Int → Int} {S S' : AS} {x x' : XS} {G G' : Gb}
theorem wlk_first (hl : Lnk N nb S x G) (h : GbInv N nb bk G) (hN : N ≤ 4096) (m : MW) (k : Int) (k0 : 0 ≤ k) (k1 : k < nb) (hs : m.st = 0) (hk : m.src = k) : wlkLeft G (wlkP S x m).2.2 + 1 ≤ wlkLeft G m := by
  obtain ⟨st, src, own, slot, pend, ended, code⟩ := m
  simp only at hs hk
  subst hs hk
  have hi := hl.inb k0 k1
  have hx := (h.hx src k0 k1).1
  rw [hl.h src k0 k1] at hx
  have e : wlkP S x ⟨0, src, own, slot, pend, ended, code⟩ = ((lookW ⟨0, src, 4097 + src, slot, pend, ended, code⟩ (x.hd src.toNat / 2)).1, ⟨S, x.cn1⟩, (lookW ⟨0, src, 4097 + src, slot, pend, ended, code⟩ (x.hd src.toNat / 2)).2) := by
    show (if inB x src then _ else _) = _
    rw [if_pos hi]
  rw [e]
  clear e
  rcases lookW_ok (by omega) ⟨0, src, 4097 + src, slot, pend, ended, code⟩ src (x.hd src.toNat / 2) k0 rfl hx with ⟨e2, hn⟩ | ⟨e2, hn⟩
  · rw [e2]
    show 0 + 1 ≤ G.ranks.toNat + 1
    omega
  · rw [e2]
    show (G.rank (x.hd src.toNat / 2)).toNat + 1 + 1 ≤ G.ranks.toNat + 1
    have := h.rk _ _ hn
    omega
theorem wlk_pot (hl : Lnk N nb S x G) (h : GbInv N nb bk G) (hN : N ≤ 4096) (o : On) (ho : WkOn N nb bk G o) (hd : o.dn = false) : wlkLeft G (wlkP S x o.mw).2.2 + 1 ≤ wlkLeft G o.mw := by
  obtain ⟨c0, c1, c2, c3⟩ := ho
  rcases c3 with ⟨b1, b2, b3, b4, b5, b6, b7, b8⟩ | ⟨b1, b2, b3, b4⟩ | ⟨b1, b2, b3, b4⟩
  · exact wlk_first hl h hN o.mw o.t.k c0 c1 b3 b4
  · exact wlk_left hl h (by omega) o.mw o.t.k c0 b3 b4.own b4.g
  · rw [hd] at b2
    cases b2
/-- How many steps a machine has left at most till a link is changed; if nobody else steps. -/
def oLf (G : Gb) (o : On) : Nat := if o.kd = 0 then iLf G o.mi else if o.kd = 1 then rLf G o.mr else wlkLeft G o.mw
def oAl (x : XS) (G : Gb) (o : On) : Nat := if o.kd = 0 then insLeft x o.mi else if o.kd = 1 then rAl G o.mr else wlkLeft G o.mw
theorem rLf_still {m : MR} (h : RemI N bk G m) (k : Still N nb G G') (hb : ∀ s, 0 ≤ bk s ∧ bk s < nb) : rLf G' m = rLf G m := by
  have b0 : 0 ≤ m.bu := by rw [← h.g.2.2.2]; exact (hb _).1
  have b1 : m.bu < nb := by rw [← h.g.2.2.2]; exact (hb _).2
  have hW := k.W _ h.g.1 h.g.2.1 h.g.2.2.1
  have fr : m.st = 4 ∨ m.st = 5 → frB G' m = frB G m := fun e => by
    unfold frB
    by_cases e0 : m.ah = 0
    · rw [if_pos e0, if_pos e0, k.H _ b0 b1]
    · have ga := (h.ah e).resolve_left e0
      rw [if_neg e0, if_neg e0, k.W _ ga.1 ga.2.1 ga.2.2.1]
  have hpr := h.pr
  obtain ⟨st, co, bu, sl, wd, ah, pr, be, ma, he⟩ := m
  simp only at fr hW hpr
  match st with
  | 0 => rfl
  | 1 => rfl
  | 2 =>
    show (if G'.W sl = wd then 1 else 3) = (if G.W sl = wd then 1 else 3)
    rw [hW]
  | 3 =>
    show G'.ranks.toNat + 2 = G.ranks.toNat + 2
    rw [k.ranks]
  | 4 =>
    have gp := hpr (.inl rfl)
    show (if frB G' _ || decide (G'.W pr % 2 = 0) then (G'.rank pr).toNat + 2 else G'.ranks.toNat + 4) = (if frB G _ || decide (G.W pr % 2 = 0) then (G.rank pr).toNat + 2 else G.ranks.toNat + 4)
    rw [fr (.inl rfl), k.W _ gp.1 gp.2.1 gp.2.2.1, k.rank, k.ranks]
  | 5 =>
    show (if frB G' _ then 1 else G'.ranks.toNat + 3) = (if frB G _ then 1 else G.ranks.toNat + 3)
    rw [fr (.inr rfl), k.ranks]
  | n + 6 => rfl
theorem iLf_still {m : MI} (h : InsI N bk G m) (k : Still N nb G G') (hb : ∀ s, 0 ≤ bk s ∧ bk s < nb) : iLf G' m = iLf G m := by
  have hH := k.H m.bu (by rw [h.bu]; exact (hb _).1) (by rw [h.bu]; exact (hb _).2)
  unfold iLf
  rw [hH]
theorem wLf_still {m : MW} (k : Still N nb G G') : wlkLeft G' m = wlkLeft G m := by
  unfold wlkLeft
  rw [k.ranks, k.rank]
theorem oLf_still {o : On} (h : OnOk N nb bk G o) (k : Still N nb G G') (hb : ∀ s, 0 ≤ bk s ∧ bk s < nb) : oLf G' o = oLf G o := by
  unfold oLf
  by_cases e0 : o.kd = 0
  · rw [if_pos e0, if_pos e0, iLf_still (h.i e0).1 k hb]
  · by_cases e1 : o.kd = 1
    · rw [if_neg e0, if_neg e0, if_pos e1, if_pos e1, rLf_still (h.r e1).1 k hb]
    · rw [if_neg e0, if_neg e0, if_neg e1, if_neg e1, wLf_still k]
theorem rLf_most {m : MR} (h : RemI N bk G m) (hi : GbInv N nb bk G) : rLf G m ≤ G.ranks.toNat + 4 := by
  have hpr := h.pr
  obtain ⟨st, co, bu, sl, wd, ah, pr, be, ma, he⟩ := m
  simp only at hpr
  match st with
  | 0 => show 2 ≤ _; omega
  | 1 => show 2 ≤ _; omega
  | 2 =>
    show (if G.W sl = wd then 1 else 3) ≤ _
    split <;> omega
  | 3 =>
    show G.ranks.toNat + 2 ≤ _
    omega
  | 4 =>
    have := hi.rk _ _ (hpr (.inl rfl))
    show (if frB G _ || decide (G.W pr % 2 = 0) then (G.rank pr).toNat + 2 else G.ranks.toNat + 4) ≤ _
    split <;> omega
  | 5 =>
    show (if frB G _ then 1 else G.ranks.toNat + 3) ≤ _
    split <;> omega
  | n + 6 => exact Nat.zero_le _
theorem iLf_most (m : MI) : iLf G m ≤ 5 := by
  unfold iLf
  split
  · omega
  · omega
  · split <;> omega
  · split <;> omega
  · omega
theorem wLf_most {o : On} (h : WkOn N nb bk G o) (hi : GbInv N nb bk G) : wlkLeft G o.mw ≤ G.ranks.toNat + 1 := by
  obtain ⟨c0, c1, c2, c3⟩ := h
  rcases c3 with ⟨b1, b2, b3, b4, b5, b6, b7, b8⟩ | ⟨b1, b2, b3, b4⟩ | ⟨b1, b2, b3, b4⟩
  · unfold wlkLeft
    rw [b3]
    exact Nat.le_refl _
  · rw [wlkLeft_on _ b3]
    have := hi.rk _ _ b4.g
    omega
  · rw [wlkLeft_end _ b3]
    omega
theorem oLf_most {o : On} (h : OnOk N nb bk G o) (hi : GbInv N nb bk G) (hr : G.ranks ≤ N) (h1 : 1 ≤ N) : oLf G o ≤ N + 4 := by
  unfold oLf
  by_cases e0 : o.kd = 0
  · rw [if_pos e0]
    have := iLf_most (G := G) o.mi
    omega
  · by_cases e1 : o.kd = 1
    · rw [if_neg e0, if_pos e1]
      have := rLf_most (h.r e1).1 hi
      omega
    · rw [if_neg e0, if_neg e1]
      have := wLf_most (h.w (by have := h.k; omega)) hi
      omega
theorem oAl_pos {o : On} (h : OnOk N nb bk G o) (hd : o.dn = false) : 1 ≤ oAl x G o := by
  unfold oAl
  by_cases e0 : o.kd = 0
  · rw [if_pos e0]
    obtain ⟨a, b, c⟩ := h.i e0
    have : ¬ o.mi.st = 4 := fun e => by have := c.2 e; rw [hd] at this; cases this
    have := a.st
    unfold insLeft
    rcases (by omega : o.mi.st = 0 ∨ o.mi.st = 1 ∨ o.mi.st = 2 ∨ o.mi.st = 3) with e | e | e | e <;> rw [e]
    · show 1 ≤ 4; omega
    · show 1 ≤ 3; omega
    · show 1 ≤ (if _ then 2 else 5); split <;> omega
    · show 1 ≤ (if _ then 1 else 4); split <;> omega
  · by_cases e1 : o.kd = 1
    · rw [if_neg e0, if_pos e1]
      obtain ⟨a, b, c, d⟩ := h.r e1
      have : ¬ o.mr.st = 6 := fun e => by have := d.2 e; rw [hd] at this; cases this
      have := a.st
      unfold rAl
      rcases (by omega : o.mr.st = 0 ∨ o.mr.st = 1 ∨ o.mr.st = 2 ∨ o.mr.st = 3 ∨ o.mr.st = 4 ∨ o.mr.st = 5) with e | e | e | e | e | e <;> rw [e]
      · show 1 ≤ _ + 3; omega
      · show 1 ≤ _ + 3; omega
      · show 1 ≤ (if G.W o.mr.sl = o.mr.wd then 2 * G.ranks.toNat + 2 else 2 * G.ranks.toNat + 4); split <;> omega
      · show 1 ≤ _ + 1; omega
      · show 1 ≤ (if frB G o.mr then 2 * (G.rank o.mr.pr).toNat + 2 else 2 * (G.rank o.mr.pr).toNat + 3 + 2 * G.ranks.toNat); split <;> omega
      · show 1 ≤ (if frB G o.mr then 2 * (G.rank o.mr.pr).toNat + 1 else 2 * (G.rank o.mr.pr).toNat + 2 + 2 * G.ranks.toNat); split <;> omega
    · rw [if_neg e0, if_neg e1]
      obtain ⟨c0, c1, c2, c3⟩ := h.w (by have := h.k; omega)
      rcases c3 with ⟨b1, b2, b3, b4, b5, b6, b7, b8⟩ | ⟨b1, b2, b3, b4⟩ | ⟨b1, b2, b3, b4⟩
      · unfold wlkLeft
        rw [b3]
        show 1 ≤ _ + 1
        omega
      · rw [wlkLeft_on _ b3]
        omega
      · rw [hd] at b2
        cases b2
theorem oLf_pos {o : On} (h : OnOk N nb bk G o) (hd : o.dn = false) : 1 ≤ oLf G o := by
  unfold oLf
  by_cases e0 : o.kd = 0
  · rw [if_pos e0]
    obtain ⟨a, b, c⟩ := h.i e0
    have : ¬ o.mi.st = 4 := fun e => by have := c.2 e; rw [hd] at this; cases this
    have := a.st
    unfold iLf
    rcases (by omega : o.mi.st = 0 ∨ o.mi.st = 1 ∨ o.mi.st = 2 ∨ o.mi.st = 3) with e | e | e | e <;> rw [e]
    · show 1 ≤ 4; omega
    · show 1 ≤ 3; omega
    · show 1 ≤ (if _ then 2 else 5); split <;> omega
    · show 1 ≤ (if _ then 1 else 4); split <;> omega
  · by_cases e1 : o.kd = 1
    · rw [if_neg e0, if_pos e1]
      obtain ⟨a, b, c, d⟩ := h.r e1
      have : ¬ o.mr.st = 6 := fun e => by have := d.2 e; rw [hd] at this; cases this
      have := a.st
      unfold rLf
      rcases (by omega : o.mr.st = 0 ∨ o.mr.st = 1 ∨ o.mr.st = 2 ∨ o.mr.st = 3 ∨ o.mr.st = 4 ∨ o.mr.st = 5) with e | e | e | e | e | e <;> rw [e]
      · show 1 ≤ 2; omega
      · show 1 ≤ 2; omega
      · show 1 ≤ (if G.W o.mr.sl = o.mr.wd then 1 else 3); split <;> omega
      · show 1 ≤ _ + 2; omega
      · show 1 ≤ (if frB G o.mr || decide (G.W o.mr.pr % 2 = 0) then (G.rank o.mr.pr).toNat + 2 else G.ranks.toNat + 4); split <;> omega
      · show 1 ≤ (if frB G o.mr then 1 else G.ranks.toNat + 3); split <;> omega
    · rw [if_neg e0, if_neg e1]
      obtain ⟨c0, c1, c2, c3⟩ := h.w (by have := h.k; omega)
      rcases c3 with ⟨b1, b2, b3, b4, b5, b6, b7, b8⟩ | ⟨b1, b2, b3, b4⟩ | ⟨b1, b2, b3, b4⟩
      · unfold wlkLeft
        rw [b3]
        show 1 ≤ _ + 1
        omega
      · rw [wlkLeft_on _ b3]
        omega
      · rw [hd] at b2
        cases b2
/-- What is left of a machine whatever the others do. -/
def phi (N : Nat) (bk : Int → Int) (G : Gb) (o : On) : Nat := oLf G o + (N + 4) * cG N bk G
theorem phi_mul (a b : Nat) (h : a + 1 ≤ b) : (N + 4) * a + (N + 4) ≤ (N + 4) * b := by
  have := Nat.mul_le_mul_left (N + 4) h
  rw [Nat.mul_add, Nat.mul_one] at this
  exact this
theorem phi_oth {o : On} (d : Dsc N nb bk G G') (h : OnOk N nb bk G o) (h' : OnOk N nb bk G' o) (hi : GbInv N nb bk G) (hi' : GbInv N nb bk G') (hN : N ≤ 4096) (hb : ∀ s, 0 ≤ bk s ∧ bk s < nb) (hr : G'.ranks ≤ N) (h1 : 1 ≤ N) : phi N bk G' o ≤ phi N bk G o := by
  unfold phi
  rcases d with k | k
  · rw [oLf_still h k hb, k.cG hi hN hb]
    exact Nat.le_refl _
  · have := oLf_most h' hi' hr h1
    have := phi_mul (N := N) _ _ k
    omega
theorem phi_own {o o' : On} (d : Dsc N nb bk G G') (hs : Still N nb G G' → oLf G' o' + 1 ≤ oLf G o) (h : OnOk N nb bk G o) (hd : o.dn = false) (h' : OnOk N nb bk G' o') (hi : GbInv N nb bk G) (hi' : GbInv N nb bk G') (hN : N ≤ 4096) (hb : ∀ s, 0 ≤ bk s ∧ bk s < nb) (hr : G'.ranks ≤ N) (h1 : 1 ≤ N) : phi N bk G' o' + 1 ≤ phi N bk G o := by
  unfold phi
  rcases d with k | k
  · have := hs k
    rw [k.cG hi hN hb]
    omega
  · have := oLf_most h' hi' hr h1
    have := phi_mul (N := N) _ _ k
    have := oLf_pos h hd
    omega
theorem phi_most {o : On} (h : OnOk N nb bk G o) (hi : GbInv N nb bk G) (hr : G.ranks ≤ N) (h1 : 1 ≤ N) : phi N bk G o ≤ (3 * N + 2) * (3 * N + 8) := by
  have a := oLf_most h hi hr h1
  have b := cG_most N bk G
  have c := Nat.mul_le_mul_left (N + 4) b
  have d : (N + 4) * (3 * N) + (N + 4) ≤ (3 * N + 2) * (3 * N + 8) := by
    have e : (N + 4) * (3 * N) + (N + 4) = (N + 4) * (3 * N + 1) := by rw [Nat.mul_add, Nat.mul_one]
    rw [e, Nat.mul_comm (N + 4)]
    exact Nat.mul_le_mul (by omega) (by omega)
  unfold phi
  omega
theorem phi_pos {o : On} (h : OnOk N nb bk G o) (hd : o.dn = false) : 1 ≤ phi N bk G o := by
  have := oLf_pos h hd
  unfold phi
  omega
end
end Go.Proofs.YteekompojgbkhaaGreat

namespace Go.Proofs.YteekompojgbkhaaGreat
open Go.ChangeShapes Go.WideShapes Go.ChangeAt Go.RowKit Go.MuLone Go.RwLone
set_option linter.unusedVariables false
set_option linter.unusedSectionVars false
/-- What a move does, as far as steps are counted. -/
def MvP (N : Nat) (nb : Int) (bk : Int → Int) (S : AS) (x : XS) (G : Gb) (o : On) (S' : AS) (x' : XS) (G' : Gb) (o' : On) : Prop := (o.dn = true → S' = S ∧ x' = x ∧ Still N nb G G') ∧ (o.dn = false → OneA S x S' x' ∧ Dsc N nb bk G G' ∧ (Still N nb G G' → oLf G' o' + 1 ≤ oLf G o) ∧ oAl x' G' o' + 1 ≤ oAl x G o)
section
variable {N : Nat} {nb : Int} {bk : Int → Int} {S S' : AS} {x x' : XS} {G G' : Gb} {rows rows' : Int → List Int} {all : List On}
theorem Still.refl (G : Gb) : Still N nb G G := ⟨fun _ _ _ => rfl, fun _ _ _ _ => rfl, rfl, rfl, rfl, rfl⟩
theorem BkI.ranks (h : BkI N nb bk S x G rows all) : G.ranks ≤ N := h.n.most (by omega)
theorem oLf_lt0 {o o' : On} (h : o.kd = 0) (h' : o'.kd = 0) (k : iLf G' o'.mi + 1 ≤ iLf G o.mi) : oLf G' o' + 1 ≤ oLf G o := by
  unfold oLf
  rw [if_pos h, if_pos h']
  exact k
theorem oLf_lt1 {o o' : On} (h : o.kd = 1) (h' : o'.kd = 1) (k : rLf G' o'.mr + 1 ≤ rLf G o.mr) : oLf G' o' + 1 ≤ oLf G o := by
  unfold oLf
  rw [if_neg (show ¬ o.kd = 0 by omega), if_neg (show ¬ o'.kd = 0 by omega), if_pos h, if_pos h']
  exact k
theorem oLf_lt2 {o o' : On} (h : o.kd = 2) (h' : o'.kd = 2) (k : wlkLeft G' o'.mw + 1 ≤ wlkLeft G o.mw) : oLf G' o' + 1 ≤ oLf G o := by
  unfold oLf
  rw [if_neg (show ¬ o.kd = 0 by omega), if_neg (show ¬ o'.kd = 0 by omega), if_neg (show ¬ o.kd = 1 by omega), if_neg (show ¬ o'.kd = 1 by omega)]
  exact k
theorem oAl_lt0 {o o' : On} (h : o.kd = 0) (h' : o'.kd = 0) (k : insLeft x' o'.mi + 1 ≤ insLeft x o.mi) : oAl x' G' o' + 1 ≤ oAl x G o := by
  unfold oAl
  rw [if_pos h, if_pos h']
  exact k
theorem oAl_lt1 {o o' : On} (h : o.kd = 1) (h' : o'.kd = 1) (k : rAl G' o'.mr + 1 ≤ rAl G o.mr) : oAl x' G' o' + 1 ≤ oAl x G o := by
  unfold oAl
  rw [if_neg (show ¬ o.kd = 0 by omega), if_neg (show ¬ o'.kd = 0 by omega), if_pos h, if_pos h']
  exact k
theorem oAl_lt2 {o o' : On} (h : o.kd = 2) (h' : o'.kd = 2) (k : wlkLeft G' o'.mw + 1 ≤ wlkLeft G o.mw) : oAl x' G' o' + 1 ≤ oAl x G o := by
  unfold oAl
  rw [if_neg (show ¬ o.kd = 0 by omega), if_neg (show ¬ o'.kd = 0 by omega), if_neg (show ¬ o.kd = 1 by omega), if_neg (show ¬ o'.kd = 1 by omega)]
  exact k
theorem BkI.mvI (h : BkI N nb bk S x G rows all) (hN : N ≤ 4096) (hb : ∀ s, 0 ≤ bk s ∧ bk s < nb) {i : Nat} {o : On} (hi : all[i]? = some o) (h0 : o.kd = 0) : ∃ G' rows', BkI N nb bk (insP S x o.mi).2.1.S (insP S x o.mi).2.1.x G' rows' (all.set i { o with mi := (insP S x o.mi).2.2, dn := (insP S x o.mi).1 }) ∧ (((insP S x o.mi).1 = o.dn ∧ rows' = rows ∧ G'.ins = G.ins ∧ G'.rem = G.rem ∧ G'.rank = G.rank ∧ G'.ranks = G.ranks) ∨ ((insP S x o.mi).1 = true ∧ o.dn = false ∧ (insP S x o.mi).2.2.code = 0 ∧ rows' = (fun c => if c = bk o.sl then o.sl :: rows (bk o.sl) else rows c) ∧ G'.ins = updI G.ins o.sl 2 ∧ G'.rem = G.rem ∧ G'.rank = updI G.rank o.sl G.ranks ∧ G'.ranks = G.ranks + 1)) ∧ MvP N nb bk S x G o (insP S x o.mi).2.1.S (insP S x o.mi).2.1.x G' { o with mi := (insP S x o.mi).2.2, dn := (insP S x o.mi).1 } := by
  obtain ⟨G', rows', h1, h2⟩ := h.ins (by omega) hb hi h0
  refine ⟨G', rows', h1, h2, fun hd => ?_, fun hd => ?_⟩
  · obtain ⟨a1, a2, a3⟩ := (h.ok i o hi).i h0
    have e := ins_none (S := S) (x := x) o.mi (a3.1 hd)
    have hl' := h1.l
    rw [e] at hl' ⊢
    rcases h2 with ⟨_, _, f1, f2, f3, f4⟩ | ⟨_, f, _⟩
    · exact ⟨rfl, rfl, still_of h.l hl' (fun _ => rfl) (fun _ _ _ _ => rfl) f1 f2 f3 f4⟩
    · rw [hd] at f
      cases f
  · obtain ⟨a1, a2, a3⟩ := (h.ok i o hi).i h0
    have h3 : o.mi.st ≤ 3 := by
      have := a1.st
      have : ¬ o.mi.st = 4 := fun e => by have := a3.2 e; rw [hd] at this; cases this
      omega
    have p := ins_pot h.l h.g hN (by have := h.ranks; omega) hb o.mi a1 h3 h1.l (by
      rcases h2 with ⟨f0, _, f1, f2, f3, f4⟩ | ⟨f0, _, _, _, f1, f2, _⟩
      · exact .inl ⟨f0.trans hd, f1, f2, f3, f4⟩
      · exact .inr ⟨f0, by rw [a2]; exact f1, f2⟩)
    refine ⟨ins_one h.l hb o.mi a1 h3, p.1, fun k => ?_, ?_⟩
    · exact oLf_lt0 h0 h0 (p.2 k)
    · exact oAl_lt0 h0 h0 (ins_left h.l hb o.mi a1 h3)
theorem BkI.mvR (h : BkI N nb bk S x G rows all) (hN : N ≤ 4096) (hb : ∀ s, 0 ≤ bk s ∧ bk s < nb) {i : Nat} {o : On} (hi : all[i]? = some o) (h0 : o.kd = 1) : ∃ G' rows', BkI N nb bk (remP S x o.mr).2.1.S (remP S x o.mr).2.1.x G' rows' (all.set i { o with mr := (remP S x o.mr).2.2, dn := (remP S x o.mr).1, mq := (remP S x o.mr).2.2.ma }) ∧ (((remP S x o.mr).1 = true → (remP S x o.mr).2.2.ma = true ∧ (remP S x o.mr).2.2.co = 0) ∧ (o.dn = true → (remP S x o.mr).1 = true) ∧ G'.ins = G.ins ∧ G'.rank = G.rank ∧ G'.ranks = G.ranks ∧ (((remP S x o.mr).2.2.ma = o.mq ∧ rows' = rows ∧ G'.rem = G.rem) ∨ (o.mq = false ∧ (remP S x o.mr).2.2.ma = true ∧ rows' = (fun c => if c = bk o.sl then (rows (bk o.sl)).filter (fun u => !(u == o.sl)) else rows c) ∧ G'.rem = updI G.rem o.sl 2))) ∧ MvP N nb bk S x G o (remP S x o.mr).2.1.S (remP S x o.mr).2.1.x G' { o with mr := (remP S x o.mr).2.2, dn := (remP S x o.mr).1, mq := (remP S x o.mr).2.2.ma } := by
  obtain ⟨G', rows', h1, h2⟩ := h.rem (by omega) hb hi h0
  refine ⟨G', rows', h1, h2, fun hd => ?_, fun hd => ?_⟩
  · obtain ⟨a1, a2, a4, a3⟩ := (h.ok i o hi).r h0
    have e := rem_none (S := S) (x := x) o.mr (a3.1 hd)
    have hl' := h1.l
    rw [e] at hl' ⊢
    obtain ⟨_, _, f1, f3, f4, f⟩ := h2
    have em : (remP S x o.mr).2.2.ma = o.mq := by
      have k : ∀ m : MR, m.st = 6 → (remP S x m).2.2.ma = m.ma := fun m e => by
        obtain ⟨st, co, bu, sl, wd, ah, pr, be, ma, he⟩ := m
        cases e
        rfl
      rw [a4, k _ (a3.1 hd)]
    rcases f with ⟨_, _, f2⟩ | ⟨g1, g2, _⟩
    · exact ⟨rfl, rfl, still_of h.l hl' (fun _ => rfl) (fun _ _ _ _ => rfl) f1 f2 f3 f4⟩
    · rw [em, g1] at g2
      cases g2
  · obtain ⟨a1, a2, a4, a3⟩ := (h.ok i o hi).r h0
    have h5 : o.mr.st ≤ 5 := by
      have := a1.st
      have : ¬ o.mr.st = 6 := fun e => by have := a3.2 e; rw [hd] at this; cases this
      omega
    obtain ⟨_, _, f1, f3, f4, f⟩ := h2
    have p := rem_pot h.l h.g hN (by have := h.ranks; omega) hb o.mr a1 h5 h1.l f1 f3 f4 (by
      rcases f with ⟨g1, _, g2⟩ | ⟨g1, g2, _, g3⟩
      · exact .inl ⟨g1.trans a4, g2⟩
      · exact .inr ⟨a4.symm.trans g1, g2, by rw [a2]; exact g3⟩)
    refine ⟨rem_one h.l hb o.mr a1 h5, p.1, fun k => ?_, ?_⟩
    · exact oLf_lt1 h0 h0 (p.2.1 k)
    · exact oAl_lt1 h0 h0 p.2.2
theorem BkI.mvW (h : BkI N nb bk S x G rows all) (hN : N ≤ 4096) {i : Nat} {o : On} (hi : all[i]? = some o) (h0 : o.kd = 2) (t' : TrP) : MvP N nb bk S x G o (wlkP S x o.mw).2.1.S (wlkP S x o.mw).2.1.x G { o with mw := (wlkP S x o.mw).2.2, bg := true, t := t', dn := (wlkP S x o.mw).2.2.ended } := by
  have ho := (h.ok i o hi).w h0
  refine ⟨fun hd => ?_, fun hd => ?_⟩
  · have h3 : o.mw.st = 3 := by
      rcases ho.2.2.2 with c | c | c
      · rw [hd] at c
        cases c.2.1
      · rw [hd] at c
        cases c.2.1
      · exact c.2.2.1
    have e := wlk_none (S := S) (x := x) o.mw h3
    rw [e]
    exact ⟨rfl, rfl, Still.refl G⟩
  · refine ⟨wlk_one h.l o ho hd, .inl (Still.refl G), fun _ => ?_, ?_⟩
    · exact oLf_lt2 h0 h0 (wlk_pot h.l h.g hN o ho hd)
    · exact oAl_lt2 h0 h0 (wlk_pot h.l h.g hN o ho hd)
end
end Go.Proofs.YteekompojgbkhaaGreat

namespace Go.Proofs.YteekompojgbkhaaGreat
open Go.ChangeShapes Go.WideShapes Go.ChangeAt Go.RowKit Go.MuLone Go.RwLone
set_option linter.unusedVariables false
set_option linter.unusedSectionVars false
/-- Nothing whose Insert was done is linked anew. -/
def LkLe (N : Nat) (nb : Int) (bk : Int → Int) (G G' : Gb) : Prop := ∀ c t, 0 ≤ c → c < nb → Gin N bk G c t → Lk N G' c t → Lk N G c t
/-- What a Remove knows of what is linked. -/
def RmL (N : Nat) (G : Gb) (m : MR) : Prop := (m.st = 4 ∨ m.st = 5 → Lk N G m.bu m.sl → G.rank m.sl ≤ G.rank m.pr) ∧ (m.st = 6 → ¬ Lk N G m.bu m.sl)
theorem RmL.low {N : Nat} {G : Gb} {m : MR} (h : m.st ≤ 3) : RmL N G m := ⟨fun e => by omega, fun e => by omega⟩
section
variable {N : Nat} {nb : Int} {bk : Int → Int} {S S' : AS} {x x' : XS} {G G' : Gb} {rows rows' : Int → List Int} {all : List On}
theorem gin_ins (e : G'.ins = G.ins) (b u : Int) : Gin N bk G' b u ↔ Gin N bk G b u := by
  unfold Gin
  rw [e]
/-- A slot that nobody has marked is linked. -/
theorem lk_all (h : GbInv N nb bk G) (hN : N ≤ 4096) (hr : G.ranks ≤ 4096) (b a : Int) (b0 : 0 ≤ b) (b1 : b < nb) (ga : Gin N bk G b a) (ar : G.rem a ≠ 2) : Lk N G b a := by
  have hg : Gin N bk G b (G.H b / 2) ∧ G.rank a ≤ G.rank (G.H b / 2) := by
    by_cases h5 : Gin N bk G b (G.H b / 2) ∧ G.rank a ≤ G.rank (G.H b / 2)
    · exact h5
    · refine absurd (h.hgap b a b0 b1 ga (fun hi => ?_)) ar
      by_cases h6 : G.rank a ≤ G.rank (G.H b / 2)
      · exact absurd ⟨hi, h6⟩ h5
      · omega
  have hf : G.rank (G.H b / 2) < ((4097 : Nat) : Int) := by have := (h.rk _ _ hg.1).2; omega
  exact lk_un h (by omega) b b0 a ga ar 4097 _ hg.1 hf hg.2
theorem lk_top (h : GbInv N nb bk G) (hN : N ≤ 4096) (b s : Int) (b0 : 0 ≤ b) (b1 : b < nb) (hs : Lk N G b s) : Gin N bk G b s ∧ Gin N bk G b (G.H b / 2) ∧ G.rank s ≤ G.rank (G.H b / 2) :=
  lk_gin h (by omega) b b0 4097 _ (h.hx b b0 b1).1 s hs
theorem lk_down (h : GbInv N nb bk G) (hN : N ≤ 4096) (b p q : Int) (b0 : 0 ≤ b) (b1 : b < nb) (hp : Lk N G b p) (hq : Lk N G b q) (hlt : G.rank q < G.rank p) : Gin N bk G b (G.W p / 2) ∧ G.rank q ≤ G.rank (G.W p / 2) := by
  have gp := (lk_top h hN b p b0 b1 hp).1
  have r := lk_next h (by omega) b b0 p q 4097 _ (h.hx b b0 b1).1 hp hq hlt
  exact (lk_gin h (by omega) b b0 4097 _ (h.nx b p gp) q r).2
theorem Still.lkLe (k : Still N nb G G') (h : GbInv N nb bk G) (hN : N ≤ 4096) : LkLe N nb bk G G' := fun c t c0 c1 _ ht => (k.lk h hN c c0 c1 t).1 ht
theorem lk_push (h : GbInv N nb bk G) (hN : N ≤ 4096) (hb : ∀ s, 0 ≤ bk s ∧ bk s < nb) (s : Int) (h1 : 1 ≤ s) (h2 : s ≤ N) (hs : G.ins s = 1) (hw : G.W s / 2 = G.H (bk s) / 2) (hr : G.ranks ≤ 4096) (k1 : ∀ c, 0 ≤ c → c < nb → G'.H c = updI G.H (bk s) (2 * s) c) (k2 : ∀ t : Int, 1 ≤ t → t ≤ N → G'.W t = G.W t) : LkLe N nb bk G G' := by
  have like : ∀ (f : Nat) (n : Int), lkL N G'.W f n = lkL N G.W f n := by
    intro f
    induction f with
    | zero => intro n; rfl
    | succ f ih =>
      intro n
      by_cases hr : 1 ≤ n ∧ n ≤ (N : Int)
      · rw [lkL_yes hr.1 hr.2, lkL_yes hr.1 hr.2, k2 n hr.1 hr.2, ih]
      · rw [show lkL N G'.W (f + 1) n = [] from if_neg hr, show lkL N G.W (f + 1) n = [] from if_neg hr]
  intro c t c0 c1 gt ht
  have ne : t ≠ s := fun e => by have := gt.2.2.1; rw [e, hs] at this; omega
  unfold Lk at ht ⊢
  rw [like, k1 c c0 c1] at ht
  by_cases e : c = bk s
  · subst e
    rw [updI_at, show 2 * s / 2 = s from by omega, lkL_yes h1 h2, hw] at ht
    rcases List.mem_cons.1 ht with e | e
    · exact absurd e ne
    · have hx := (h.hx (bk s) c0 c1).1
      rw [lk_fuel h (by omega) (bk s) c0 4097 4096 _ hx (fun g => by have := (h.rk _ _ g).2; omega)]
      exact e
  · rw [updI_ne _ _ e] at ht
    exact ht
/-- A move along: what is known of the slot there. -/
theorem rml_mv (hN : N ≤ 4096) (m : MR) (n : Int) (hlk : Lk N G m.bu m.sl → Gin N bk G m.bu n ∧ G.rank m.sl ≤ G.rank n) : RmL N G (mvR m n).2 := by
  unfold mvR
  by_cases h : 4096 < n
  · rw [if_pos h]
    exact ⟨fun e => (by have e : 6 = 4 ∨ 6 = 5 := e; omega), fun _ hl => (by have := (hlk hl).1.2.1; omega)⟩
  · rw [if_neg h]
    exact ⟨fun _ hl => (hlk hl).2, fun e => (by have e : 4 = 6 := e; omega)⟩
theorem ins_lk (hl : Lnk N nb S x G) (h : GbInv N nb bk G) (hN : N ≤ 4096) (hr : G.ranks ≤ 4096) (hb : ∀ s, 0 ≤ bk s ∧ bk s < nb) (m : MI) (hm : InsI N bk G m) (h3 : m.st ≤ 3) (hl' : Lnk N nb (insP S x m).2.1.S (insP S x m).2.1.x G') (hf : ((insP S x m).1 = false ∧ G'.ins = G.ins ∧ G'.rem = G.rem ∧ G'.rank = G.rank ∧ G'.ranks = G.ranks) ∨ ((insP S x m).1 = true ∧ G'.ins = updI G.ins m.sl 2 ∧ G'.rem = G.rem)) : LkLe N nb bk G G' := by
  have hi : inB x m.bu = true := by rw [hm.bu]; exact hl.inb (hb _).1 (hb _).2
  have hv := hl.lv _ hm.lo hm.up
  have hw0 := hm.w0
  have hw3 := hm.w3
  have hw := hl.w _ hm.lo hm.up
  have hbu := hm.bu
  have hlo := hm.lo
  have hup := hm.up
  have on := hm.on h3
  obtain ⟨st, code, bu, sl, hd, tr⟩ := m
  simp only at hi hv h3 hw0 hw hw3 hbu hlo hup on
  subst hbu
  have hH := hl.h (bk sl) (hb sl).1 (hb sl).2
  match st with
  | 0 =>
    have e : insP S x ⟨0, code, bk sl, sl, hd, tr⟩ = (false, ⟨acc1 S, x⟩, ⟨1, code, bk sl, sl, hd, tr⟩) := by
      show (if inB x (bk sl) then (if liv S sl then (if S.word (atC S sl x.cell) = 0 then _ else _) else _) else _) = _
      rw [if_pos hi, if_pos hv, if_pos (hw.symm.trans (hw0 rfl))]
    rw [e] at hl' hf
    rcases hf with ⟨_, f1, f2, f3, f4⟩ | ⟨f, _⟩
    · have k := still_of hl hl' (fun _ => rfl) (fun t _ _ _ => rfl) f1 f2 f3 f4
      exact k.lkLe h hN
    · cases f
  | 1 =>
    have e : insP S x ⟨1, code, bk sl, sl, hd, tr⟩ = (false, ⟨S, x.cn1⟩, ⟨2, code, bk sl, sl, x.hd (bk sl).toNat, tr⟩) := rfl
    rw [e] at hl' hf
    rcases hf with ⟨_, f1, f2, f3, f4⟩ | ⟨f, _⟩
    · have k := still_of hl hl' (fun _ => rfl) (fun t _ _ _ => rfl) f1 f2 f3 f4
      exact k.lkLe h hN
    · cases f
  | 2 =>
    have e : insP S x ⟨2, code, bk sl, sl, hd, tr⟩ = (false, ⟨put1 S (atC S sl x.cell) hd, x⟩, ⟨3, code, bk sl, sl, hd, tr⟩) := by
      show (if liv S sl then _ else _) = _
      rw [if_pos hv]
    rw [e] at hl' hf
    rcases hf with ⟨_, f1, f2, f3, f4⟩ | ⟨f, _⟩
    · have k := still_of hl hl' (fun _ => rfl) (fun t t1 t2 t3 => by
        show upd S.word (atC S sl x.cell) hd (atC S t x.cell) = _
        refine upd_other _ _ (fun e => ?_)
        have : t ≠ sl := fun e => by rw [e, on] at t3; omega
        unfold atC at e
        rw [hl.wd] at e
        omega) f1 f2 f3 f4
      exact k.lkLe h hN
    · cases f
  | 3 =>
    by_cases hh : x.hd (bk sl).toNat = hd
    · have e : insP S x ⟨3, code, bk sl, sl, hd, tr⟩ = (true, ⟨S, { x.cn1 with hd := upd x.hd (bk sl).toNat (2 * sl) }⟩, ⟨4, 0, bk sl, sl, hd, tr⟩) := by
        show (if x.hd (bk sl).toNat = hd then _ else _) = _
        rw [if_pos hh]
      rw [e] at hl' hf
      rcases hf with ⟨f, _⟩ | ⟨_, f1, f2⟩
      · cases f
      · refine lk_push h hN hb sl hlo hup on (by rw [hw3 rfl, hH, hh]) hr (fun c c0 c1 => ?_) (fun t t1 t2 => ?_)
        · rw [hl'.h c c0 c1]
          show upd x.hd (bk sl).toNat (2 * sl) c.toNat = _
          by_cases e : c = bk sl
          · rw [e, updI_at, upd_same]
          · have := (hb sl).1
            rw [updI_ne _ _ e, upd_other _ _ (by omega), hl.h c c0 c1]
        · rw [hl'.w t t1 t2, hl.w t t1 t2]
          rfl
    · have e : insP S x ⟨3, code, bk sl, sl, hd, tr⟩ = (false, ⟨S, x.cn1⟩, ⟨1, code, bk sl, sl, hd, wrap64 (tr + 1)⟩) := by
        show (if x.hd (bk sl).toNat = hd then _ else _) = _
        rw [if_neg hh]
      rw [e] at hl' hf
      rcases hf with ⟨_, f1, f2, f3, f4⟩ | ⟨f, _⟩
      · have k := still_of hl hl' (fun _ => rfl) (fun t _ _ _ => rfl) f1 f2 f3 f4
        exact k.lkLe h hN
      · cases f
  | n + 4 => exact absurd h3 (by omega)
theorem own_lk (hl : Lnk N nb S x G) (h : GbInv N nb bk G) (hN : N ≤ 4096) (m : MR) (b0 : 0 ≤ m.bu) (hm : RemI N bk G m) (h1 : m.st ≤ 1) (hl' : Lnk N nb (ownR S x m).2.1.S (ownR S x m).2.1.x G') (f1 : G'.ins = G.ins) (f2 : G'.rank = G.rank) (f3 : G'.ranks = G.ranks) (f4 : (ownR S x m).2.2.ma = m.ma → G'.rem = G.rem) : LkLe N nb bk G G' ∧ RmL N G' (ownR S x m).2.2 := by
  have un := hm.un (by omega)
  have hv := hl.lv _ hm.g.1 hm.g.2.1
  have hw := hl.w _ hm.g.1 hm.g.2.1
  have n0 := ((h.nx _ _ hm.g).end_or (by omega) b0).2.2
  have z : ¬ S.word (atC S m.sl x.cell) = 0 := fun e => n0 (by rw [hw, e]; rfl)
  have k : ¬ (S.word (atC S m.sl x.cell) % 2 == 1) = true := fun e => by
    have := (h.mrk _ _ hm.g).1 (by rw [hw]; exact eq_of_beq e)
    have := un.2
    omega
  have e : ownR S x m = (false, ⟨acc1 S, x⟩, { m with st := 2, wd := S.word (atC S m.sl x.cell) }) := by
    unfold ownR
    rw [if_pos hv, if_neg z, if_neg k]
  rw [e] at hl' f4 ⊢
  have st := still_of hl hl' (fun _ => rfl) (fun t _ _ _ => rfl) f1 (f4 rfl) f2 f3
  exact ⟨st.lkLe h hN, RmL.low (by show 2 ≤ 3; omega)⟩
theorem rem_lk (hl : Lnk N nb S x G) (h : GbInv N nb bk G) (hN : N ≤ 4096) (hr : G.ranks ≤ 4096) (hb : ∀ s, 0 ≤ bk s ∧ bk s < nb) (m : MR) (hm : RemI N bk G m) (h5 : m.st ≤ 5) (hl' : Lnk N nb (remP S x m).2.1.S (remP S x m).2.1.x G') (f1 : G'.ins = G.ins) (f2 : G'.rank = G.rank) (f3 : G'.ranks = G.ranks) (f4 : ((remP S x m).2.2.ma = m.ma ∧ G'.rem = G.rem) ∨ (m.ma = false ∧ (remP S x m).2.2.ma = true ∧ G'.rem = updI G.rem m.sl 2)) (hL : RmL N G m) : LkLe N nb bk G G' ∧ RmL N G' (remP S x m).2.2 := by
  have b0 : 0 ≤ m.bu := by rw [← hm.g.2.2.2]; exact (hb _).1
  have b1 : m.bu < nb := by rw [← hm.g.2.2.2]; exact (hb _).2
  have hi := hl.inb b0 b1
  have hv := hl.lv _ hm.g.1 hm.g.2.1
  have hw := hl.w _ hm.g.1 hm.g.2.1
  have fm : (remP S x m).2.2.ma = m.ma → G'.rem = G.rem := fun e => by
    rcases f4 with f | f
    · exact f.2
    · rw [f.1, f.2.1] at e
      cases e
  have hH := hl.h m.bu b0 b1
  have hx := h.hx m.bu b0 b1
  obtain ⟨st, co, bu, sl, wd, ah, pr, be, ma, he⟩ := m
  simp only at b0 b1 hi hv hw h5 hH hx
  match st with
  | 0 =>
    have e : remP S x ⟨0, co, bu, sl, wd, ah, pr, be, ma, he⟩ = ownR S x ⟨0, co, bu, sl, wd, ah, pr, be, ma, he⟩ := by
      show (if inB x bu then _ else _) = _
      rw [if_pos hi]
    rw [e] at hl' fm ⊢
    exact own_lk hl h hN _ b0 hm (Nat.zero_le _) hl' f1 f2 f3 fm
  | 1 => exact own_lk hl h hN _ b0 hm (Nat.le_refl _) hl' f1 f2 f3 fm
  | 2 =>
    have un : ma = false ∧ G.rem sl = 1 := hm.un (Nat.le_refl _)
    have g : Gin N bk G bu sl := hm.g
    by_cases e1 : S.word (atC S sl x.cell) = wd
    · have e : remP S x ⟨2, co, bu, sl, wd, ah, pr, be, ma, he⟩ = (false, ⟨put1 S (atC S sl x.cell) (2 * (wd / 2) + 1), x⟩, ⟨3, co, bu, sl, wd, ah, pr, be, true, he⟩) := by
        show (if liv S sl then (if S.word (atC S sl x.cell) = wd then _ else _) else _) = _
        rw [if_pos hv, if_pos e1]
      rw [e] at hl' f4 ⊢
      have fr : G'.rem = updI G.rem sl 2 := by
        rcases f4 with f | f
        · have : true = ma := f.1
          rw [un.1] at this
          cases this
        · exact f.2.2
      refine ⟨fun c t c0 c1 _ ht => ?_, RmL.low (by show 3 ≤ 3; omega)⟩
      unfold Lk at ht ⊢
      rw [hl'.h c c0 c1, lk_like h (by omega) c c0 G'.W (fun t gt => ?_) _ _ (by have := (h.hx c c0 c1).1; rw [hl.h c c0 c1] at this; exact this)] at ht
      · rw [hl.h c c0 c1]
        exact ht
      · rw [hl'.w t gt.1 gt.2.1, hl.w t gt.1 gt.2.1]
        show upd S.word (atC S sl x.cell) (2 * (wd / 2) + 1) (atC S t x.cell) / 2 = _
        by_cases et : t = sl
        · subst et
          rw [upd_same, e1]
          omega
        · have := g.1
          have := gt.1
          rw [upd_other _ _ (fun e => by unfold atC at e; rw [hl.wd] at e; omega)]
    · have e : remP S x ⟨2, co, bu, sl, wd, ah, pr, be, ma, he⟩ = (false, ⟨acc1 S, x⟩, ⟨1, co, bu, sl, wd, ah, pr, be, ma, he⟩) := by
        show (if liv S sl then (if S.word (atC S sl x.cell) = wd then _ else _) else _) = _
        rw [if_pos hv, if_neg e1]
      rw [e] at hl' fm ⊢
      have k := still_of hl hl' (fun _ => rfl) (fun t _ _ _ => rfl) f1 (fm rfl) f2 f3
      exact ⟨k.lkLe h hN, RmL.low (by show 1 ≤ 3; omega)⟩
  | 3 =>
    have k := still_of (S' := S) (x' := x.cn1) hl hl' (fun _ => rfl) (fun t _ _ _ => rfl) f1 (fm (by show (mvR _ _).2.ma = ma; unfold mvR; split <;> rfl)) f2 f3
    refine ⟨k.lkLe h hN, rml_mv (bk := bk) hN ⟨3, co, bu, sl, wd, 0, pr, be, ma, he⟩ (x.hd bu.toNat / 2) (fun hk => ?_)⟩
    have := lk_top h hN bu sl b0 b1 ((k.lk h hN bu b0 b1 sl).1 hk)
    rw [hH] at this
    rw [gin_ins f1, f2]
    exact this.2
  | 4 =>
    have gp : Gin N bk G bu pr := hm.pr (.inl rfl)
    have ga : ah = 0 ∨ Gin N bk G bu ah := hm.ah (.inl rfl)
    have pv := hl.lv _ gp.1 gp.2.1
    have pw := hl.w _ gp.1 gp.2.1
    have nx := h.nx bu pr gp
    have dn := h.dn bu pr gp
    have rk := h.rk bu pr gp
    have n0 := (nx.end_or (by omega) b0).2.2
    rw [pw] at nx n0 dn
    by_cases e1 : (S.word (atC S pr x.cell) % 2 == 1) = true
    · have e : remP S x ⟨4, co, bu, sl, wd, ah, pr, be, ma, he⟩ = (false, ⟨acc1 S, x⟩, ⟨5, co, bu, sl, wd, ah, pr, S.word (atC S pr x.cell) / 2, ma, he⟩) := by
        show (if liv S pr then (if S.word (atC S pr x.cell) / 2 = 0 then _ else if S.word (atC S pr x.cell) % 2 == 1 then _ else _) else _) = _
        rw [if_pos pv, if_neg n0, if_pos e1]
      rw [e] at hl' fm ⊢
      have k := still_of hl hl' (fun _ => rfl) (fun t _ _ _ => rfl) f1 (fm rfl) f2 f3
      refine ⟨k.lkLe h hN, fun _ hk => ?_, fun e => (by have e : 5 = 6 := e; omega)⟩
      show G'.rank sl ≤ G'.rank pr
      rw [f2]
      exact hL.1 (.inl rfl) ((k.lk h hN bu b0 b1 sl).1 hk)
    · have e : remP S x ⟨4, co, bu, sl, wd, ah, pr, be, ma, he⟩ = ((mvR ⟨4, co, bu, sl, wd, pr, pr, be, ma, he⟩ (S.word (atC S pr x.cell) / 2)).1, ⟨acc1 S, x⟩, (mvR ⟨4, co, bu, sl, wd, pr, pr, be, ma, he⟩ (S.word (atC S pr x.cell) / 2)).2) := by
        show (if liv S pr then (if S.word (atC S pr x.cell) / 2 = 0 then _ else if S.word (atC S pr x.cell) % 2 == 1 then _ else _) else _) = _
        rw [if_pos pv, if_neg n0, if_neg e1]
      rw [e] at hl' fm ⊢
      have k := still_of hl hl' (fun _ => rfl) (fun t _ _ _ => rfl) f1 (fm (by show (mvR _ _).2.ma = ma; unfold mvR; split <;> rfl)) f2 f3
      refine ⟨k.lkLe h hN, rml_mv (bk := bk) hN ⟨4, co, bu, sl, wd, pr, pr, be, ma, he⟩ (S.word (atC S pr x.cell) / 2) (fun hk => ?_)⟩
      have hk := (k.lk h hN bu b0 b1 sl).1 hk
      have g : Gin N bk G bu sl := hm.g
      have le : G.rank sl ≤ G.rank pr := hL.1 (.inl rfl) hk
      have rs : G.rem sl = 2 := (hm.ob (by show 3 ≤ 4; omega)).2
      have pu : G.rem pr ≠ 2 := fun e => e1 (beq_iff_eq.2 (by rw [← pw]; exact (h.mrk bu pr gp).2 e))
      have ne : ¬ G.rank sl = G.rank pr := fun e => pu (by rw [← h.inj bu sl pr g gp e]; exact rs)
      have d := lk_down h hN bu pr sl b0 b1 (lk_all h hN hr bu pr b0 b1 gp pu) hk (by omega)
      rw [pw] at d
      rw [gin_ins f1, f2]
      exact d
  | 5 =>
    have g : Gin N bk G bu sl := hm.g
    have gp : Gin N bk G bu pr := hm.pr (.inr rfl)
    have ga : ah = 0 ∨ Gin N bk G bu ah := hm.ah (.inr rfl)
    have gb : G.W pr % 2 = 1 ∧ be = G.W pr / 2 := hm.be rfl
    have ebp : bk pr = bu := gp.2.2.2
    have rk := h.rk bu pr gp
    have nx := h.nx bu pr gp
    have dn := h.dn bu pr gp
    rw [← gb.2] at nx dn
    have hlP : Lnk N nb (unlR ⟨5, co, bu, sl, wd, ah, pr, be, ma, he⟩ (ahR S x bu ah (2 * pr) (2 * be))).2.1.S (unlR ⟨5, co, bu, sl, wd, ah, pr, be, ma, he⟩ (ahR S x bu ah (2 * pr) (2 * be))).2.1.x G' := hl'
    have fmP : (unlR ⟨5, co, bu, sl, wd, ah, pr, be, ma, he⟩ (ahR S x bu ah (2 * pr) (2 * be))).2.2.ma = ma → G'.rem = G.rem := fm
    show LkLe N nb bk G G' ∧ RmL N G' (unlR ⟨5, co, bu, sl, wd, ah, pr, be, ma, he⟩ (ahR S x bu ah (2 * pr) (2 * be))).2.2
    have ucs : ∀ q : Bool × Int × CS, (unlR ⟨5, co, bu, sl, wd, ah, pr, be, ma, he⟩ q).2.1 = q.2.2 := fun q => by
      unfold unlR
      split
      · split
        · split <;> rfl
        · rfl
      · rfl
    have uma : ∀ q : Bool × Int × CS, (unlR ⟨5, co, bu, sl, wd, ah, pr, be, ma, he⟩ q).2.2.ma = ma := fun q => by
      unfold unlR
      split
      · split
        · split
          · rfl
          · show (mvR _ _).2.ma = ma
            unfold mvR
            split <;> rfl
        · rfl
      · rfl
    have fr := fmP (uma _)
    rw [ucs] at hlP
    clear hl' fm fmP f4
    have le : Lk N G bu sl → G.rank sl ≤ G.rank pr := hL.1 (.inr rfl)
    have miss : ahR S x bu ah (2 * pr) (2 * be) = (false, 0, (ahR S x bu ah (2 * pr) (2 * be)).2.2) → (∀ c : Nat, (ahR S x bu ah (2 * pr) (2 * be)).2.2.x.hd c = x.hd c) → (∀ t : Int, (ahR S x bu ah (2 * pr) (2 * be)).2.2.S.word (atC (ahR S x bu ah (2 * pr) (2 * be)).2.2.S t (ahR S x bu ah (2 * pr) (2 * be)).2.2.x.cell) = S.word (atC S t x.cell)) → LkLe N nb bk G G' ∧ RmL N G' (unlR ⟨5, co, bu, sl, wd, ah, pr, be, ma, he⟩ (ahR S x bu ah (2 * pr) (2 * be))).2.2 := fun e k1 k2 => by
      have k := still_of hl hlP k1 (fun t _ _ _ => k2 t) f1 fr f2 f3
      have eu : (unlR ⟨5, co, bu, sl, wd, ah, pr, be, ma, he⟩ (ahR S x bu ah (2 * pr) (2 * be))).2.2 = ⟨3, co, bu, sl, wd, ah, pr, be, ma, he⟩ := by
        rw [e]
        rfl
      rw [eu]
      exact ⟨k.lkLe h hN, RmL.low (by show 3 ≤ 3; omega)⟩
    have hit : ahR S x bu ah (2 * pr) (2 * be) = (true, 0, (ahR S x bu ah (2 * pr) (2 * be)).2.2) → Lk N G bu pr → (∀ c t, 0 ≤ c → c < nb → (Lk N G' c t ↔ Lk N G c t ∧ ¬ (c = bk pr ∧ t = pr))) → LkLe N nb bk G G' ∧ RmL N G' (unlR ⟨5, co, bu, sl, wd, ah, pr, be, ma, he⟩ (ahR S x bu ah (2 * pr) (2 * be))).2.2 := fun e hp hk => by
      refine ⟨fun c t c0 c1 _ ht => ((hk c t c0 c1).1 ht).1, ?_⟩
      rw [e]
      by_cases es : pr = sl
      · have eu : (unlR ⟨5, co, bu, sl, wd, ah, pr, be, ma, he⟩ (true, 0, (ahR S x bu ah (2 * pr) (2 * be)).2.2)).2.2 = ⟨6, 0, bu, sl, wd, ah, pr, be, ma, he⟩ := by
          show (if (0 : Int) = 0 then (if true = true then (if pr = sl then _ else _) else _) else _ : Bool × CS × MR).2.2 = _
          rw [if_pos rfl, if_pos rfl, if_pos es]
        rw [eu]
        refine ⟨fun e => (by have e : 6 = 4 ∨ 6 = 5 := e; omega), fun _ ht => ?_⟩
        have ht : Lk N G' bu sl := ht
        exact ((hk bu sl b0 b1).1 ht).2 ⟨ebp.symm, es.symm⟩
      · have eu : (unlR ⟨5, co, bu, sl, wd, ah, pr, be, ma, he⟩ (true, 0, (ahR S x bu ah (2 * pr) (2 * be)).2.2)).2.2 = (mvR ⟨5, co, bu, sl, wd, ah, pr, be, ma, wrap64 (he + 1)⟩ be).2 := by
          show (if (0 : Int) = 0 then (if true = true then (if pr = sl then _ else _) else _) else _ : Bool × CS × MR).2.2 = _
          rw [if_pos rfl, if_pos rfl, if_neg es]
        rw [eu]
        refine rml_mv (bk := bk) hN ⟨5, co, bu, sl, wd, ah, pr, be, ma, wrap64 (he + 1)⟩ be (fun ht => ?_)
        have ht := ((hk bu sl b0 b1).1 ht).1
        have l1 := le ht
        have ne : ¬ G.rank sl = G.rank pr := fun e => es (h.inj bu sl pr g gp e).symm
        have d := lk_down h hN bu pr sl b0 b1 hp ht (by omega)
        rw [← gb.2] at d
        rw [gin_ins f1, f2]
        exact d
    by_cases e0 : ah = 0
    · subst e0
      by_cases e1 : x.hd bu.toNat = 2 * pr
      · have e : ahR S x bu 0 (2 * pr) (2 * be) = (true, 0, ⟨S, { x.cn1 with hd := upd x.hd bu.toNat (2 * be) }⟩) := by
          unfold ahR
          rw [if_pos rfl, if_pos e1]
        rw [e] at hit hlP
        rw [e]
        have hw' : G.H bu = 2 * pr := hH.trans e1
        have q1 : ∀ c, 0 ≤ c → c < nb → G'.H c = updI G.H bu (2 * (G.W pr / 2)) c := fun c c0 c1 => by
          rw [hlP.h c c0 c1]
          show upd x.hd bu.toNat (2 * be) c.toNat = _
          by_cases e : c = bu
          · rw [e, updI_at, upd_same, gb.2]
          · rw [updI_ne _ _ e, upd_other _ _ (by omega), hl.h c c0 c1]
        refine hit rfl (lk_front h bu pr gp hw') (fun c t c0 c1 => lk_unhead h hN hb hr bu pr gp hw' q1 (fun t t1 t2 => ?_) c t c0 c1)
        · rw [hlP.w t t1 t2, hl.w t t1 t2]
          rfl
      · have e : ahR S x bu 0 (2 * pr) (2 * be) = (false, 0, ⟨S, x.cn1⟩) := by
          unfold ahR
          rw [if_pos rfl, if_neg e1]
        rw [e] at miss
        rw [e]
        exact miss rfl (fun _ => rfl) (fun _ => rfl)
    · have ga := ga.resolve_left e0
      have hva := hl.lv ah ga.1 ga.2.1
      have hwa := hl.w ah ga.1 ga.2.1
      by_cases e1 : S.word (atC S ah x.cell) = 2 * pr
      · have e : ahR S x bu ah (2 * pr) (2 * be) = (true, 0, ⟨put1 S (atC S ah x.cell) (2 * be), x⟩) := by
          unfold ahR
          rw [if_neg e0, if_pos hva, if_pos e1]
        rw [e] at hit hlP
        rw [e]
        have hw' : G.W ah = 2 * pr := hwa.trans e1
        have q2 : ∀ t : Int, 1 ≤ t → t ≤ N → G'.W t = updI G.W ah (2 * (G.W pr / 2)) t := fun t t1 t2 => by
          rw [hlP.w t t1 t2]
          show upd S.word (atC S ah x.cell) (2 * be) (atC S t x.cell) = _
          by_cases e : t = ah
          · rw [e, updI_at, upd_same, gb.2]
          · have := ga.1
            rw [updI_ne _ _ e, upd_other _ _ (fun e => by unfold atC at e; rw [hl.wd] at e; omega), hl.w t t1 t2]
        refine hit rfl (lk_behind h hN hr bu ah pr b0 b1 ga gp hw') (fun c t c0 c1 => lk_unlink h hN hb hr bu ah pr ga gp hw' (fun c c0 c1 => ?_) q2 c t c0 c1)
        · rw [hlP.h c c0 c1, hl.h c c0 c1]
      · have e : ahR S x bu ah (2 * pr) (2 * be) = (false, 0, ⟨acc1 S, x⟩) := by
          unfold ahR
          rw [if_neg e0, if_pos hva, if_neg e1]
        rw [e] at miss
        rw [e]
        exact miss rfl (fun _ => rfl) (fun _ => rfl)
  | n + 6 => exact absurd h5 (by omega)
/-- What is known of all Removes: none whose slot came off is linked; every slot with a Remove has a machine. -/
structure RmAll (N : Nat) (G : Gb) (all : List On) : Prop where
  l : ∀ (i : Nat) (o : On), all[i]? = some o → o.kd = 1 → RmL N G o.mr
  e : ∀ s, 1 ≤ s → s ≤ (N : Int) → G.rem s ≠ 0 → ∃ (i : Nat) (o : On), all[i]? = some o ∧ o.kd = 1 ∧ o.sl = s
theorem RmL.le {m : MR} (h : RmL N G m) (hm : RemI N bk G m) (hb : ∀ s, 0 ≤ bk s ∧ bk s < nb) (k : LkLe N nb bk G G') (kr : ∀ t, G.ins t = 2 → G'.rank t = G.rank t) : RmL N G' m := by
  have b0 : 0 ≤ m.bu := by rw [← hm.g.2.2.2]; exact (hb _).1
  have b1 : m.bu < nb := by rw [← hm.g.2.2.2]; exact (hb _).2
  refine ⟨fun e ht => ?_, fun e ht => h.2 e (k _ _ b0 b1 hm.g ht)⟩
  rw [kr _ hm.g.2.2.1, kr _ (hm.pr e).2.2.1]
  exact h.1 e (k _ _ b0 b1 hm.g ht)
theorem RmAll.set (h : RmAll N G all) (hi : BkI N nb bk S x G rows all) (hb : ∀ s, 0 ≤ bk s ∧ bk s < nb) {i : Nat} {o o' : On} (ho : all[i]? = some o) (ek : o'.kd = o.kd) (es : o'.sl = o.sl) (k : LkLe N nb bk G G') (kr : ∀ t, G.ins t = 2 → G'.rank t = G.rank t) (er : ∀ s, G'.rem s ≠ 0 → G.rem s ≠ 0 ∨ (o.kd = 1 ∧ s = o.sl)) (own : o.kd = 1 → RmL N G' o'.mr) : RmAll N G' (all.set i o') := by
  have hlt := (List.getElem?_eq_some_iff.1 ho).1
  refine ⟨fun j p hp e => ?_, fun s s0 s1 hs => ?_⟩
  · by_cases e2 : j = i
    · subst e2
      rw [List.getElem?_set_self hlt] at hp
      cases hp
      exact own (ek.symm.trans e)
    · rw [List.getElem?_set_ne (fun e => e2 e.symm)] at hp
      exact (h.l j p hp e).le ((hi.ok j p hp).r e).1 hb k kr
  · have : ∃ (j : Nat) (p : On), all[j]? = some p ∧ p.kd = 1 ∧ p.sl = s := by
      rcases er s hs with f | f
      · exact h.e s s0 s1 f
      · exact ⟨i, o, ho, f.1, f.2.symm⟩
    obtain ⟨j, p, hp, e1, e2⟩ := this
    by_cases e3 : j = i
    · subst e3
      rw [ho] at hp
      cases hp
      exact ⟨j, o', List.getElem?_set_self hlt, ek.trans e1, es.trans e2⟩
    · exact ⟨j, p, by rw [List.getElem?_set_ne (fun e => e3 e.symm)]; exact hp, e1, e2⟩
/-- A machine more. -/
theorem RmAll.app (h : RmAll N G all) {o : On} (eW : G'.W = G.W) (eH : G'.H = G.H) (er : G'.rank = G.rank) (hr : ∀ s, G'.rem s ≠ 0 → G.rem s ≠ 0 ∨ (o.kd = 1 ∧ s = o.sl)) (own : o.kd = 1 → o.mr.st ≤ 3) : RmAll N G' (all ++ [o]) := by
  have lk : ∀ b s, Lk N G' b s ↔ Lk N G b s := fun b s => by
    unfold Lk
    rw [eW, eH]
  refine ⟨fun j p hp e => ?_, fun s s0 s1 hs => ?_⟩
  · rcases Nat.lt_or_ge j all.length with f | f
    · rw [List.getElem?_append_left f] at hp
      have := h.l j p hp e
      exact ⟨fun a b => by rw [er]; exact this.1 a ((lk _ _).1 b), fun a b => this.2 a ((lk _ _).1 b)⟩
    · rw [List.getElem?_append_right f] at hp
      have hj : j - all.length = 0 := by
        have := (List.getElem?_eq_some_iff.1 hp).1
        simp only [List.length_cons, List.length_nil] at this
        omega
      rw [hj] at hp
      have hp : o = p := by simpa using hp
      subst hp
      exact RmL.low (own e)
  · rcases hr s hs with f | f
    · obtain ⟨j, p, hp, e1, e2⟩ := h.e s s0 s1 f
      exact ⟨j, p, by rw [List.getElem?_append_left (List.getElem?_eq_some_iff.1 hp).1]; exact hp, e1, e2⟩
    · exact ⟨all.length, o, by rw [List.getElem?_append_right (Nat.le_refl _), Nat.sub_self]; rfl, f.1, f.2.symm⟩
theorem RmAll.new (N : Nat) : RmAll N Gb.new [] := ⟨fun i o ho => (by rw [List.getElem?_nil] at ho; cases ho), fun s _ _ hs => absurd rfl hs⟩
/-- What an Insert's move leaves linked. -/
theorem BkI.lkI (h : BkI N nb bk S x G rows all) (hN : N ≤ 4096) (hb : ∀ s, 0 ≤ bk s ∧ bk s < nb) {i : Nat} {o o' : On} (hi : all[i]? = some o) (h0 : o.kd = 0) (hl' : Lnk N nb (insP S x o.mi).2.1.S (insP S x o.mi).2.1.x G') (mv : MvP N nb bk S x G o (insP S x o.mi).2.1.S (insP S x o.mi).2.1.x G' o') (hf : ((insP S x o.mi).1 = o.dn ∧ G'.ins = G.ins ∧ G'.rem = G.rem ∧ G'.rank = G.rank ∧ G'.ranks = G.ranks) ∨ ((insP S x o.mi).1 = true ∧ G'.ins = updI G.ins o.sl 2 ∧ G'.rem = G.rem)) : LkLe N nb bk G G' := by
  cases hd : o.dn
  · obtain ⟨a1, a2, a3⟩ := (h.ok i o hi).i h0
    have h3 : o.mi.st ≤ 3 := by
      have := a1.st
      have : ¬ o.mi.st = 4 := fun e => by have := a3.2 e; rw [hd] at this; cases this
      omega
    refine ins_lk h.l h.g hN (by have := h.ranks; omega) hb o.mi a1 h3 hl' ?_
    rw [a2]
    rcases hf with f | f
    · exact .inl ⟨f.1.trans hd, f.2⟩
    · exact .inr f
  · exact (mv.1 hd).2.2.lkLe h.g hN
/-- What a Remove's move leaves linked. -/
theorem BkI.lkR (h : BkI N nb bk S x G rows all) (hN : N ≤ 4096) (hb : ∀ s, 0 ≤ bk s ∧ bk s < nb) {i : Nat} {o o' : On} (hi : all[i]? = some o) (h0 : o.kd = 1) (hl' : Lnk N nb (remP S x o.mr).2.1.S (remP S x o.mr).2.1.x G') (mv : MvP N nb bk S x G o (remP S x o.mr).2.1.S (remP S x o.mr).2.1.x G' o') (f1 : G'.ins = G.ins) (f2 : G'.rank = G.rank) (f3 : G'.ranks = G.ranks) (f4 : ((remP S x o.mr).2.2.ma = o.mq ∧ G'.rem = G.rem) ∨ (o.mq = false ∧ (remP S x o.mr).2.2.ma = true ∧ G'.rem = updI G.rem o.sl 2)) (hL : RmL N G o.mr) : LkLe N nb bk G G' ∧ RmL N G' (remP S x o.mr).2.2 := by
  obtain ⟨a1, a2, a4, a3⟩ := (h.ok i o hi).r h0
  cases hd : o.dn
  · have h5 : o.mr.st ≤ 5 := by
      have := a1.st
      have : ¬ o.mr.st = 6 := fun e => by have := a3.2 e; rw [hd] at this; cases this
      omega
    refine rem_lk h.l h.g hN (by have := h.ranks; omega) hb o.mr a1 h5 hl' f1 f2 f3 ?_ hL
    rw [a2, ← a4]
    exact f4
  · have k := (mv.1 hd).2.2
    have s6 := a3.1 hd
    have e : (remP S x o.mr).2.2 = o.mr := by
      have q : ∀ m : MR, m.st = 6 → (remP S x m).2.2 = m := fun m e => by
        obtain ⟨st, co, bu, sl, wd, ah, pr, be, ma, he⟩ := m
        cases e
        rfl
      exact q _ s6
    have b0 : 0 ≤ o.mr.bu := by rw [← a1.g.2.2.2]; exact (hb _).1
    have b1 : o.mr.bu < nb := by rw [← a1.g.2.2.2]; exact (hb _).2
    rw [e]
    exact ⟨k.lkLe h.g hN, fun e => by omega, fun e ht => hL.2 e ((k.lk h.g hN _ b0 b1 _).1 ht)⟩
/-- Once all are done what is linked is not marked. -/
theorem RmAll.none (h : RmAll N G all) (hi : BkI N nb bk S x G rows all) (hN : N ≤ 4096) (hd : ∀ (i : Nat) (o : On), all[i]? = some o → o.dn = true) (b s : Int) (b0 : 0 ≤ b) (b1 : b < nb) (hs : Lk N G b s) : Gin N bk G b s ∧ G.rem s ≠ 2 := by
  have g := (lk_top hi.g hN b s b0 b1 hs).1
  refine ⟨g, fun e => ?_⟩
  obtain ⟨i, o, ho, e1, e2⟩ := h.e s g.1 g.2.1 (by rw [e]; decide)
  have r := (hi.ok i o ho).r e1
  have s6 := r.2.2.2.1 (hd i o ho)
  refine (h.l i o ho e1).2 s6 ?_
  have eb : o.mr.bu = b := by rw [← r.1.g.2.2.2, r.2.1, e2]; exact g.2.2.2
  rw [eb, r.2.1, e2]
  exact hs
/-- Two lists in falling order with the same members are one list. -/
theorem pw_uniq (f : Int → Int) : ∀ (l l' : List Int), l.Pairwise (fun u v => f v < f u) → l'.Pairwise (fun u v => f v < f u) → (∀ u, u ∈ l ↔ u ∈ l') → l = l'
  | [], [], _, _, _ => rfl
  | [], b :: l', _, _, h => absurd ((h b).2 List.mem_cons_self) (by simp)
  | a :: l, [], _, _, h => absurd ((h a).1 List.mem_cons_self) (by simp)
  | a :: l, b :: l', h1, h2, h => by
    obtain ⟨a1, a2⟩ := List.pairwise_cons.1 h1
    obtain ⟨b1, b2⟩ := List.pairwise_cons.1 h2
    have e : a = b := by
      rcases List.mem_cons.1 ((h a).1 List.mem_cons_self) with e | e
      · exact e
      · rcases List.mem_cons.1 ((h b).2 List.mem_cons_self) with f | f
        · exact f.symm
        · have := a1 b f
          have := b1 a e
          omega
    subst e
    rw [pw_uniq f l l' a2 b2 (fun u => ⟨fun hu => ?_, fun hu => ?_⟩)]
    · rcases List.mem_cons.1 ((h u).1 (List.mem_cons_of_mem _ hu)) with e | e
      · have := a1 u hu
        rw [e] at this
        omega
      · exact e
    · rcases List.mem_cons.1 ((h u).2 (List.mem_cons_of_mem _ hu)) with e | e
      · have := b1 u hu
        rw [e] at this
        omega
      · exact e
theorem lkL_pw (h : GbInv N nb bk G) (hN : N ≤ 4096) (b : Int) (b0 : 0 ≤ b) : ∀ (f : Nat) (n : Int), Gto N bk G b n → (lkL N G.W f n).Pairwise (fun u v => G.rank v < G.rank u)
  | 0, n, hn => List.Pairwise.nil
  | f + 1, n, hn => by
    rcases hn with hn | hn
    · rw [lkL_no (by omega)]
      exact List.Pairwise.nil
    · rw [lkL_yes hn.1 hn.2.1]
      refine List.pairwise_cons.2 ⟨fun u hu => ?_, lkL_pw h hN b b0 f _ (h.nx b n hn)⟩
      have := lk_gin h (by omega) b b0 f _ (h.nx b n hn) u hu
      have := h.dn b n hn this.2.1
      omega
/-- Once all are done a bucket's links are the book's row. -/
theorem RmAll.row (h : RmAll N G all) (hi : BkI N nb bk S x G rows all) (hN : N ≤ 4096) (hd : ∀ (i : Nat) (o : On), all[i]? = some o → o.dn = true) (b : Int) (b0 : 0 ≤ b) (b1 : b < nb) : lkL N G.W 4097 (G.H b / 2) = rows b := by
  have hr := hi.ranks
  have r := hi.r b b0 b1
  refine pw_uniq G.rank _ _ (lkL_pw hi.g hN b b0 4097 _ (hi.g.hx b b0 b1).1) r.2 (fun u => ?_)
  rw [r.1 u]
  exact ⟨fun hu => h.none hi hN hd b u b0 b1 hu, fun hu => lk_all hi.g hN (by omega) b u b0 b1 hu.1 hu.2⟩
end
end Go.Proofs.YteekompojgbkhaaGreat

namespace Go.Proofs.YteekompojgbkhaaGreat
open Go.ChangeShapes Go.WideShapes Go.ChangeAt Go.RowKit Go.MuLone Go.RwLone
set_option linter.unusedVariables false
set_option linter.unusedSectionVars false
/-- A walk ahead of the slots xs. -/
structure WkAt (N : Nat) (bk : Int → Int) (G : Gb) (b : Int) (m : MW) (xs : List Int) : Prop where
  own : m.own = 4097 + b
  code : m.code = 0
  at_ : (xs ≠ [] ∧ m.st = 2 ∧ m.ended = false ∧ lkL N G.W 4097 m.pend = xs ∧ Gto N bk G b m.pend) ∨ (xs = [] ∧ m.st = 3 ∧ m.ended = true)
section
variable {N : Nat} {nb : Int} {bk : Int → Int} {S S' : AS} {x x' : XS} {G G' : Gb} {rows rows' : Int → List Int} {all : List On}
theorem wk_look (hN : N ≤ 4096) (m : MW) (b n : Int) (b0 : 0 ≤ b) (ho : m.own = 4097 + b) (hc : m.code = 0) (he : m.ended = false) (hn : Gto N bk G b n) (xs : List Int) (hx : lkL N G.W 4097 n = xs) : ∃ r m', lookW m n = (r, m') ∧ m'.slot = m.slot ∧ (r = true ↔ (m.slot ≠ 0 ∨ xs = [])) ∧ m'.ended = decide (xs = []) ∧ WkAt N bk G b m' xs := by
  rcases lookW_ok (by omega) m b n b0 ho hn with ⟨e, g⟩ | ⟨e, g⟩
  · have z : xs = [] := by
      rw [← hx]
      have := hn.no g
      exact lkL_no (by omega)
    subst z
    exact ⟨_, _, e, rfl, ⟨fun _ => .inr rfl, fun _ => rfl⟩, rfl, ho, rfl, .inr ⟨rfl, rfl, rfl⟩⟩
  · have z : xs ≠ [] := by
      rw [← hx, lkL_yes g.1 g.2.1]
      exact List.cons_ne_nil _ _
    refine ⟨_, _, e, rfl, ⟨fun h => .inl (of_decide_eq_true h), fun h => decide_eq_true (h.resolve_right z)⟩, ?_, ho, hc, .inl ⟨z, rfl, he, hx, hn⟩⟩
    show m.ended = _
    rw [he, decide_eq_false z]
/-- The first step of a new walk. -/
theorem wk_first (hl : Lnk N nb S x G) (h : GbInv N nb bk G) (hN : N ≤ 4096) (b : Int) (b0 : 0 ≤ b) (b1 : b < nb) (xs : List Int) (hx : lkL N G.W 4097 (G.H b / 2) = xs) : ∃ m', wlkP S x ⟨0, b, 0, 0, 0, false, 0⟩ = (decide (xs = []), ⟨S, x.cn1⟩, m') ∧ m'.slot = 0 ∧ m'.ended = decide (xs = []) ∧ WkAt N bk G b m' xs := by
  have hi := hl.inb b0 b1
  have e : wlkP S x ⟨0, b, 0, 0, 0, false, 0⟩ = ((lookW ⟨0, b, 4097 + b, 0, 0, false, 0⟩ (x.hd b.toNat / 2)).1, ⟨S, x.cn1⟩, (lookW ⟨0, b, 4097 + b, 0, 0, false, 0⟩ (x.hd b.toNat / 2)).2) := by
    show (if inB x b then _ else _) = _
    rw [if_pos hi]
  have hg := (h.hx b b0 b1).1
  rw [hl.h b b0 b1] at hg hx
  obtain ⟨r, m', k1, k2, k3, k4, k5⟩ := wk_look hN ⟨0, b, 4097 + b, 0, 0, false, 0⟩ b (x.hd b.toNat / 2) b0 rfl rfl rfl hg xs hx
  rw [e, k1]
  have k3 : r = true ↔ ((0 : Int) ≠ 0 ∨ xs = []) := k3
  refine ⟨m', ?_, k2, k4, k5⟩
  show (r, _, m') = _
  cases r
  · rw [decide_eq_false (fun z => by have := k3.2 (.inr z); cases this)]
  · rw [decide_eq_true ((k3.1 rfl).resolve_left (fun e => e rfl))]
/-- A step along. -/
theorem wk_next (hl : Lnk N nb S x G) (h : GbInv N nb bk G) (hN : N ≤ 4096) (hr : G.ranks ≤ 4096) (b : Int) (b0 : 0 ≤ b) (m : MW) (u : Int) (ys : List Int) (hm : WkAt N bk G b m (u :: ys)) (hu : G.rem u ≠ 2) : ∃ m', wlkP S x m = (true, ⟨acc1 S, x⟩, m') ∧ m'.slot = u ∧ m'.ended = decide (ys = []) ∧ WkAt N bk G b m' ys := by
  obtain ⟨ho, hc, ha⟩ := hm
  obtain ⟨-, hs, he, hx, hg⟩ := ha.resolve_right (fun e => by cases e.1)
  obtain ⟨st, src, own, slot, pend, ended, code⟩ := m
  simp only at ho hc hs he hx hg
  subst ho hc hs he
  rcases hg with hg | hg
  · rw [lkL_no (by omega)] at hx
    cases hx
  rw [lkL_yes hg.1 hg.2.1] at hx
  injection hx with e1 e2
  subst e1
  have hv := hl.lv _ hg.1 hg.2.1
  have hw := hl.w _ hg.1 hg.2.1
  have nx := h.nx _ _ hg
  have mk := h.mrk _ _ hg
  have e3 : lkL N G.W 4097 (G.W pend / 2) = ys := by
    rw [← e2]
    exact lk_fuel h (by omega) b b0 4097 4096 _ nx (fun g => by have := (h.rk _ _ g).2; omega)
  rw [hw] at nx e3 mk
  have hb : ¬ (S.word (atC S pend x.cell) % 2 == 1) = true := fun e => hu (mk.1 (eq_of_beq e))
  have e : wlkP S x ⟨2, src, 4097 + b, slot, pend, false, 0⟩ = ((lookW ⟨2, src, 4097 + b, if S.word (atC S pend x.cell) % 2 == 1 then 0 else pend, pend, false, 0⟩ (S.word (atC S pend x.cell) / 2)).1, ⟨acc1 S, x⟩, (lookW ⟨2, src, 4097 + b, if S.word (atC S pend x.cell) % 2 == 1 then 0 else pend, pend, false, 0⟩ (S.word (atC S pend x.cell) / 2)).2) := by
    show (if liv S pend then _ else _) = _
    rw [if_pos hv]
  rw [if_neg hb] at e
  obtain ⟨r, m', k1, k2, k3, k4, k5⟩ := wk_look hN ⟨2, src, 4097 + b, pend, pend, false, 0⟩ b (S.word (atC S pend x.cell) / 2) b0 rfl rfl rfl nx ys e3
  rw [e, k1]
  have p0 := hg.1
  have r1 : r = true := k3.2 (.inl (by show pend ≠ 0; omega))
  exact ⟨m', by rw [r1], k2, k4, k5⟩
/-- Behind the end. -/
theorem wk_end (b : Int) (m : MW) (hm : WkAt N bk G b m []) : ∃ m', wlkP S x m = (true, ⟨S, x⟩, m') ∧ m'.slot = 0 ∧ m'.ended = true := by
  obtain ⟨ho, hc, ha⟩ := hm
  obtain ⟨-, hs, he⟩ := ha.resolve_left (fun e => e.1 rfl)
  obtain ⟨st, src, own, slot, pend, ended, code⟩ := m
  simp only at hs he
  subst hs he
  exact ⟨_, rfl, rfl, rfl⟩
/-- What Held counts is what is linked. -/
theorem row_lk (hl : Lnk N nb S x G) (h : GbInv N nb bk G) (hN : N ≤ 4096) (b : Int) (b0 : 0 ≤ b) : ∀ (f : Nat) (n : Int), Gto N bk G b n → (rowL S x.cell f n).length = (lkL N G.W f n).length
  | 0, n, hn => rfl
  | f + 1, n, hn => by
    rcases hn with hn | hn
    · have hv : liv S n = false := by
        unfold liv
        rw [decide_eq_false (p := n ≤ (S.n : Int)) (by have := hl.n; omega)]
        simp
      rw [rowL_no hv, lkL_no (by omega)]
      rfl
    · have hw := hl.w _ hn.1 hn.2.1
      have nx := h.nx _ _ hn
      rw [rowL_yes (hl.lv _ hn.1 hn.2.1), lkL_yes hn.1 hn.2.1, List.length_cons, List.length_cons]
      rw [hw] at nx ⊢
      rw [row_lk hl h hN b b0 f _ nx]
/-- Once all are done Held is the row's length. -/
theorem RmAll.held (h : RmAll N G all) (hi : BkI N nb bk S x G rows all) (hN : N ≤ 4095) (hd : ∀ (i : Nat) (o : On), all[i]? = some o → o.dn = true) (k : Nat) (b1 : (k : Int) < nb) : (rowX S x k).length = (rows (k : Int)).length := by
  have k0 : (0 : Int) ≤ (k : Int) := Int.natCast_nonneg _
  have e := h.row hi (by omega) hd (k : Int) k0 b1
  have hx := (hi.g.hx (k : Int) k0 b1).1
  have hh := hi.l.h (k : Int) k0 b1
  have ek : ((k : Int)).toNat = k := Int.toNat_natCast k
  rw [ek] at hh
  have hr := hi.ranks
  rw [lk_fuel hi.g (by omega) (k : Int) k0 4097 4096 _ hx (fun g => by have := (hi.g.rk _ _ g).2; omega), hh] at e
  rw [hh] at hx
  unfold rowX
  rw [row_lk hi.l hi.g (by omega) (k : Int) k0 4096 _ hx, e]
end
end Go.Proofs.YteekompojgbkhaaGreat
