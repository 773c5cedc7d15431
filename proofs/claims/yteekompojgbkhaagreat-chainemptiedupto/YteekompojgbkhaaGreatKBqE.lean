import Derived.Test.YteekompojgbkhaaGreatKRcB
namespace Go.Proofs.YteekompojgbkhaaGreat
open Go.ChangeShapes Go.WideShapes Go.ChangeAt Go.RowKit Go.MuLone Go.RwLone
set_option linter.unusedVariables false
set_option linter.unusedSectionVars false
/-- A marked list and the book that is kept of it: the slots' words, the buckets' heads, what has become of each slot (Insert: 0 none, 1 begun, 2 done; Remove: 0 none, 1 begun, 2 marked), how many Inserts were done ahead of its own, how many are done. -/
structure Gb where
  W : Int → Int
  H : Int → Int
  ins : Int → Int
  rem : Int → Int
  rank : Int → Int
  ranks : Int
def updI (f : Int → Int) (i : Int) (x : Int) : Int → Int := fun j => if j = i then x else f j
theorem updI_at (f : Int → Int) (i x : Int) : updI f i x i = x := if_pos rfl
theorem updI_ne (f : Int → Int) {i j : Int} (x : Int) (h : j ≠ i) : updI f i x j = f j := if_neg h
section
variable (N nb : Int) (bk : Int → Int)
/-- A slot of bucket b whose Insert is done. -/
def Gin (G : Gb) (b s : Int) : Prop := 1 ≤ s ∧ s ≤ N ∧ G.ins s = 2 ∧ bk s = b
/-- What a link of bucket b may name: the bucket's end, or a slot of hers. -/
def Gto (G : Gb) (b n : Int) : Prop := n = 4097 + b ∨ Gin N bk G b n
/-- u lies behind what a link names: the link goes over it. -/
def Gov (G : Gb) (b n u : Int) : Prop := Gin N bk G b n → G.rank n < G.rank u
structure GbInv (G : Gb) : Prop where
  nx : ∀ b s, Gin N bk G b s → Gto N bk G b (G.W s / 2)
  dn : ∀ b s, Gin N bk G b s → Gin N bk G b (G.W s / 2) → G.rank (G.W s / 2) < G.rank s
  mrk : ∀ b s, Gin N bk G b s → (G.W s % 2 = 1 ↔ G.rem s = 2)
  hx : ∀ b, 0 ≤ b → b < nb → Gto N bk G b (G.H b / 2) ∧ G.H b % 2 = 0
  gap : ∀ b s u, Gin N bk G b s → Gin N bk G b u → G.rank u < G.rank s → Gov N bk G b (G.W s / 2) u → G.rem u = 2
  hgap : ∀ b u, 0 ≤ b → b < nb → Gin N bk G b u → Gov N bk G b (G.H b / 2) u → G.rem u = 2
  rk : ∀ b s, Gin N bk G b s → 0 ≤ G.rank s ∧ G.rank s < G.ranks
  inj : ∀ b s t, Gin N bk G b s → Gin N bk G b t → G.rank s = G.rank t → s = t
  w0 : ∀ s, 1 ≤ s → s ≤ N → G.ins s = 0 → G.W s = 0
  rm : ∀ s, G.ins s ≠ 2 → G.rem s ≠ 2
  r0 : 0 ≤ G.ranks
/-- What stays whatever a machine does. -/
structure GbLe (G G' : Gb) : Prop where
  ins : ∀ s, G.ins s = 2 → G'.ins s = 2 ∧ G'.rank s = G.rank s
  one : ∀ s, G.ins s = 1 → G'.ins s = 1 ∨ G'.ins s = 2
  rem : ∀ s, G.rem s = 2 → G'.rem s = 2
  rks : G.ranks ≤ G'.ranks
  frz : ∀ s, G.ins s = 2 → G.W s % 2 = 1 → G'.W s = G.W s
  new : ∀ s, G.ins s ≠ 2 → G'.ins s = 2 → G.ranks ≤ G'.rank s
variable {N nb bk}
variable {G G' : Gb}
theorem Gin.le {b s : Int} (h : Gin N bk G b s) (k : GbLe G G') : Gin N bk G' b s ∧ G'.rank s = G.rank s := ⟨⟨h.1, h.2.1, (k.ins s h.2.2.1).1, h.2.2.2⟩, (k.ins s h.2.2.1).2⟩
theorem GbLe.refl (G : Gb) : GbLe G G := ⟨fun s h => ⟨h, rfl⟩, fun s h => .inl h, fun s h => h, Int.le_refl _, fun s _ _ => rfl, fun s h h' => absurd h' h⟩
/-- A slot that no link of this bucket's slots names. -/
theorem Gto.end_or {b n : Int} (h : Gto N bk G b n) (hN : N ≤ 4096) (hb : 0 ≤ b) : (4096 < n → n = 4097 + b ∧ ¬ Gin N bk G b n) ∧ (¬ 4096 < n → Gin N bk G b n) ∧ n ≠ 0 := by
  have e : 4096 < n → ¬ Gin N bk G b n := fun h1 h2 => by have := h2.2.1; omega
  refine ⟨fun h1 => ⟨?_, e h1⟩, fun h1 => ?_, ?_⟩
  · exact h.resolve_right (e h1)
  · rcases h with h | h
    · omega
    · exact h
  · rintro rfl
    rcases h with h | h
    · omega
    · have := h.1
      omega
/-- Insert: the slot's word is stored ahead of its being linked. -/
theorem GbInv.store (h : GbInv N nb bk G) (s y : Int) (hs : G.ins s = 1) : GbInv N nb bk { G with W := updI G.W s y } ∧ GbLe G { G with W := updI G.W s y } := by
  have ne : ∀ b t, Gin N bk G b t → t ≠ s := fun b t ht e => by have := ht.2.2.1; rw [e, hs] at this; omega
  have W : ∀ b t, Gin N bk G b t → updI G.W s y t = G.W t := fun b t ht => updI_ne _ _ (ne b t ht)
  refine ⟨⟨fun b t ht => ?_, fun b t ht => ?_, fun b t ht => ?_, h.hx, fun b t u ht => ?_, h.hgap, h.rk, h.inj, fun t h1 h2 h3 => ?_, h.rm, h.r0⟩, ⟨fun t ht => ⟨ht, rfl⟩, fun t ht => .inl ht, fun t ht => ht, Int.le_refl _, fun t h1 h2 => ?_, fun t h1 h2 => absurd h2 h1⟩⟩
  · show Gto N bk G b (updI G.W s y t / 2)
    rw [W b t ht]
    exact h.nx b t ht
  · show Gin N bk G b (updI G.W s y t / 2) → G.rank (updI G.W s y t / 2) < G.rank t
    rw [W b t ht]
    exact h.dn b t ht
  · show updI G.W s y t % 2 = 1 ↔ _
    rw [W b t ht]
    exact h.mrk b t ht
  · show Gin N bk G b u → G.rank u < G.rank t → Gov N bk G b (updI G.W s y t / 2) u → G.rem u = 2
    rw [W b t ht]
    exact h.gap b t u ht
  · have h3 : G.ins t = 0 := h3
    have e : t ≠ s := fun e => by rw [e, hs] at h3; omega
    exact (updI_ne _ _ e).trans (h.w0 t h1 h2 h3)
  · have e : t ≠ s := fun e => by rw [e, hs] at h1; omega
    exact updI_ne _ _ e
/-- Remove: a slot is marked. -/
theorem GbInv.mark (h : GbInv N nb bk G) (b s : Int) (hs : Gin N bk G b s) : GbInv N nb bk { G with W := updI G.W s (2 * (G.W s / 2) + 1), rem := updI G.rem s 2 } ∧ (G.W s % 2 = 0 → GbLe G { G with W := updI G.W s (2 * (G.W s / 2) + 1), rem := updI G.rem s 2 }) := by
  have W : ∀ t, updI G.W s (2 * (G.W s / 2) + 1) t / 2 = G.W t / 2 := fun t => by
    by_cases e : t = s
    · rw [e, updI_at]
      omega
    · rw [updI_ne _ _ e]
  have R : ∀ u, G.rem u = 2 → updI G.rem s 2 u = 2 := fun u hu => by
    by_cases e : u = s
    · rw [e, updI_at]
    · rw [updI_ne _ _ e]
      exact hu
  refine ⟨⟨fun c t ht => ?_, fun c t ht => ?_, fun c t ht => ?_, h.hx, fun c t u ht hu h1 h2 => ?_, fun c u h1 h2 hu h3 => R u (h.hgap c u h1 h2 hu h3), h.rk, h.inj, fun t h1 h2 h3 => ?_, fun t ht => ?_, h.r0⟩, fun h0 => ⟨fun t ht => ⟨ht, rfl⟩, fun t ht => .inl ht, R, Int.le_refl _, fun t h1 h2 => ?_, fun t h1 h2 => absurd h2 h1⟩⟩
  · show Gto N bk G c (_ / 2)
    rw [W]
    exact h.nx c t ht
  · show Gin N bk G c (_ / 2) → G.rank (_ / 2) < G.rank t
    rw [W]
    exact h.dn c t ht
  · show updI G.W s _ t % 2 = 1 ↔ updI G.rem s 2 t = 2
    by_cases e : t = s
    · rw [e, updI_at, updI_at]
      constructor
      · intro _
        rfl
      · intro _
        omega
    · rw [updI_ne _ _ e, updI_ne _ _ e]
      exact h.mrk c t ht
  · have h2 : Gov N bk G c (updI G.W s (2 * (G.W s / 2) + 1) t / 2) u := h2
    rw [W] at h2
    exact R u (h.gap c t u ht hu h1 h2)
  · have h3 : G.ins t = 0 := h3
    have e : t ≠ s := fun e => by have := hs.2.2.1; rw [e, this] at h3; omega
    exact (updI_ne _ _ e).trans (h.w0 t h1 h2 h3)
  · have ht : G.ins t ≠ 2 := ht
    have e : t ≠ s := fun e => ht (by rw [e]; exact hs.2.2.1)
    show updI G.rem s 2 t ≠ 2
    rw [updI_ne _ _ e]
    exact h.rm t ht
  · have e : t ≠ s := fun e => by rw [e, h0] at h2; omega
    exact updI_ne _ _ e
/-- What lies behind a marked slot's next lies behind the slot, or is marked. -/
theorem GbInv.over (h : GbInv N nb bk G) {b p u : Int} (hp : Gin N bk G b p) (hm : G.W p % 2 = 1) (hu : Gin N bk G b u) (ho : Gov N bk G b (G.W p / 2) u) : G.rem u = 2 ∨ Gov N bk G b p u := by
  by_cases h1 : G.rank u < G.rank p
  · exact .inl (h.gap b p u hp hu h1 ho)
  · by_cases h2 : G.rank u = G.rank p
    · rw [h.inj b u p hu hp h2]
      exact .inl ((h.mrk b p hp).1 hm)
    · exact .inr fun _ => by omega
/-- Remove: a marked slot p is unlinked from the head. -/
theorem GbInv.unhead (h : GbInv N nb bk G) (b p : Int) (h0 : 0 ≤ b) (h1 : b < nb) (hp : Gin N bk G b p) (hm : G.W p % 2 = 1) (hw : G.H b = 2 * p) : GbInv N nb bk { G with H := updI G.H b (2 * (G.W p / 2)) } ∧ GbLe G { G with H := updI G.H b (2 * (G.W p / 2)) } := by
  refine ⟨⟨h.nx, h.dn, h.mrk, fun c h2 h3 => ?_, h.gap, fun c u h2 h3 hu ho => ?_, h.rk, h.inj, h.w0, h.rm, h.r0⟩, ⟨fun t ht => ⟨ht, rfl⟩, fun t ht => .inl ht, fun t ht => ht, Int.le_refl _, fun t _ _ => rfl, fun t h1 h2 => absurd h2 h1⟩⟩
  · show Gto N bk G c (updI G.H b _ c / 2) ∧ updI G.H b _ c % 2 = 0
    by_cases e : c = b
    · rw [e, updI_at, show 2 * (G.W p / 2) / 2 = G.W p / 2 from by omega]
      exact ⟨h.nx b p hp, by omega⟩
    · rw [updI_ne _ _ e]
      exact h.hx c h2 h3
  · have hu : Gin N bk G c u := hu
    have ho : Gov N bk G c (updI G.H b (2 * (G.W p / 2)) c / 2) u := ho
    by_cases e : c = b
    · rw [e] at hu ho
      rw [updI_at, show 2 * (G.W p / 2) / 2 = G.W p / 2 from by omega] at ho
      rcases h.over hp hm hu ho with h4 | h4
      · exact h4
      · exact h.hgap b u h0 h1 hu (by rw [hw, show 2 * p / 2 = p from by omega]; exact h4)
    · rw [updI_ne _ _ e] at ho
      exact h.hgap c u h2 h3 hu ho
/-- Remove: a marked slot p is unlinked from a slot that is not marked. -/
theorem GbInv.unlink (h : GbInv N nb bk G) (b a p : Int) (ha : Gin N bk G b a) (hp : Gin N bk G b p) (hm : G.W p % 2 = 1) (hw : G.W a = 2 * p) : GbInv N nb bk { G with W := updI G.W a (2 * (G.W p / 2)) } ∧ GbLe G { G with W := updI G.W a (2 * (G.W p / 2)) } := by
  have ea : G.W a / 2 = p := by omega
  have ey : 2 * (G.W p / 2) / 2 = G.W p / 2 := by omega
  have dp : G.rank p < G.rank a := by
    have := h.dn b a ha (by rw [ea]; exact hp)
    rw [ea] at this
    exact this
  have bb : ∀ c, Gin N bk G c a → c = b := fun c hc => by rw [← hc.2.2.2, ← ha.2.2.2]
  refine ⟨⟨fun c t ht => ?_, fun c t ht h2 => ?_, fun c t ht => ?_, h.hx, fun c t u ht hu h2 ho => ?_, h.hgap, h.rk, h.inj, fun t h1 h2 h3 => ?_, h.rm, h.r0⟩, ⟨fun t ht => ⟨ht, rfl⟩, fun t ht => .inl ht, fun t ht => ht, Int.le_refl _, fun t h1 h2 => ?_, fun t h1 h2 => absurd h2 h1⟩⟩
  · show Gto N bk G c (updI G.W a _ t / 2)
    have ht : Gin N bk G c t := ht
    by_cases e : t = a
    · rw [e] at ht ⊢
      rw [updI_at, ey, bb c ht]
      exact h.nx b p hp
    · rw [updI_ne _ _ e]
      exact h.nx c t ht
  · show G.rank (updI G.W a _ t / 2) < G.rank t
    have ht : Gin N bk G c t := ht
    have h2 : Gin N bk G c (updI G.W a (2 * (G.W p / 2)) t / 2) := h2
    by_cases e : t = a
    · rw [e] at ht h2 ⊢
      rw [updI_at, ey] at h2 ⊢
      rw [bb c ht] at h2
      have := h.dn b p hp h2
      omega
    · rw [updI_ne _ _ e] at h2 ⊢
      exact h.dn c t ht h2
  · show updI G.W a _ t % 2 = 1 ↔ _
    have ht : Gin N bk G c t := ht
    by_cases e : t = a
    · rw [e] at ht ⊢
      have := h.mrk c a ht
      rw [updI_at]
      constructor
      · intro h5
        omega
      · intro h5
        have := this.2 h5
        omega
    · rw [updI_ne _ _ e]
      exact h.mrk c t ht
  · have ht : Gin N bk G c t := ht
    have hu : Gin N bk G c u := hu
    have h2 : G.rank u < G.rank t := h2
    have ho : Gov N bk G c (updI G.W a (2 * (G.W p / 2)) t / 2) u := ho
    by_cases e : t = a
    · rw [e] at ht h2 ho
      rw [updI_at, ey] at ho
      rw [bb c ht] at hu ho
      rcases h.over hp hm hu ho with h4 | h4
      · exact h4
      · exact h.gap b a u ha hu h2 (by rw [ea]; exact h4)
    · rw [updI_ne _ _ e] at ho
      exact h.gap c t u ht hu h2 ho
  · have h3 : G.ins t = 0 := h3
    have e : t ≠ a := fun e => by have := ha.2.2.1; rw [e, this] at h3; omega
    exact (updI_ne _ _ e).trans (h.w0 t h1 h2 h3)
  · have e : t ≠ a := fun e => by rw [e, hw] at h2; omega
    exact updI_ne _ _ e
end
end Go.Proofs.YteekompojgbkhaaGreat

namespace Go.Proofs.YteekompojgbkhaaGreat
open Go.ChangeShapes Go.WideShapes Go.ChangeAt Go.RowKit Go.MuLone Go.RwLone
set_option linter.unusedVariables false
set_option linter.unusedSectionVars false
/-- An Insert is linked: what the list and the book are then. -/
def Gb.push (G : Gb) (b s : Int) : Gb := { G with H := updI G.H b (2 * s), ins := updI G.ins s 2, rank := updI G.rank s G.ranks, ranks := G.ranks + 1 }
section
variable {N nb : Int} {bk : Int → Int} {G G' : Gb}
theorem gin_push {s c t : Int} (b : Int) (h : Gin N bk (G.push b s) c t) (e : t ≠ s) : Gin N bk G c t := ⟨h.1, h.2.1, by
  have := h.2.2.1
  have e2 : updI G.ins s 2 t = 2 := this
  rwa [updI_ne _ _ e] at e2, h.2.2.2⟩
theorem push_gin {s c t : Int} (b : Int) (h : Gin N bk G c t) : Gin N bk (G.push b s) c t := ⟨h.1, h.2.1, by
  show updI G.ins s 2 t = 2
  by_cases e : t = s
  · rw [e, updI_at]
  · rw [updI_ne _ _ e]
    exact h.2.2.1, h.2.2.2⟩
theorem push_rank {s t : Int} (b : Int) (e : t ≠ s) : (G.push b s).rank t = G.rank t := updI_ne _ _ e
theorem push_rank_at {s : Int} (b : Int) : (G.push b s).rank s = G.ranks := updI_at _ _ _
theorem GbInv.push (h : GbInv N nb bk G) (s : Int) (hN : N ≤ 4096) (h1 : 1 ≤ s) (h2 : s ≤ N) (hs : G.ins s = 1) (b0 : 0 ≤ bk s) (b1 : bk s < nb) (hw : G.W s = G.H (bk s)) : GbInv N nb bk (G.push (bk s) s) ∧ GbLe G (G.push (bk s) s) := by
  have ne : ∀ {c t : Int}, Gin N bk G c t → t ≠ s := fun {c t} ht e => by have := ht.2.2.1; rw [e, hs] at this; omega
  have hb := h.hx (bk s) b0 b1
  have he := hb.1.end_or hN b0
  have to : ∀ {c n : Int}, Gto N bk G c n → Gto N bk (G.push (bk s) s) c n := fun {c n} ht => ht.imp id (push_gin (bk s))
  have nes : ∀ {c n : Int}, 0 ≤ c → Gto N bk G c n → Gin N bk (G.push (bk s) s) c n → Gin N bk G c n := fun {c n} hc ht hi => by
    rcases ht with e | e
    · have := hi.2.1
      omega
    · exact e
  have me : Gin N bk (G.push (bk s) s) (bk s) s := ⟨h1, h2, updI_at _ _ _, rfl⟩
  have bs : ∀ {c : Int}, Gin N bk (G.push (bk s) s) c s → c = bk s := fun {c} hi => hi.2.2.2.symm
  have ov : ∀ {c n u : Int}, u ≠ s → Gov N bk (G.push (bk s) s) c n u → Gov N bk G c n u := fun {c n u} eu ho hi => by
    have := ho (push_gin (bk s) hi)
    rwa [push_rank _ (ne hi), push_rank _ eu] at this
  refine ⟨⟨fun c t ht => ?_, fun c t ht h3 => ?_, fun c t ht => ?_, fun c h3 h4 => ?_, fun c t u ht hu h3 ho => ?_, fun c u h3 h4 hu ho => ?_, fun c t ht => ?_, fun c t u ht hu h3 => ?_, fun t h3 h4 h5 => ?_, fun t ht => ?_, ?_⟩, ⟨fun t ht => ?_, fun t ht => ?_, fun t ht => ht, ?_, fun t _ _ => rfl, fun t h3 h4 => ?_⟩⟩
  · by_cases e : t = s
    · subst e
      show Gto N bk _ c (G.W t / 2)
      rw [bs ht, hw]
      exact to hb.1
    · exact to (h.nx c t (gin_push _ ht e))
  · have h3 : Gin N bk (G.push (bk s) s) c (G.W t / 2) := h3
    show (G.push (bk s) s).rank (G.W t / 2) < _
    by_cases e : t = s
    · subst e
      rw [bs ht, hw] at h3
      have h5 := nes b0 hb.1 h3
      rw [hw, push_rank _ (ne h5), push_rank_at]
      exact (h.rk _ _ h5).2
    · have h4 := gin_push _ ht e
      by_cases hc : 0 ≤ c
      · have h5 := nes hc (h.nx c t h4) h3
        rw [push_rank _ (ne h5), push_rank _ e]
        exact h.dn c t h4 h5
      · rcases h.nx c t h4 with h5 | h5
        · by_cases e6 : G.W t / 2 = s
          · rw [e6] at h3
            have := bs h3
            omega
          · have h7 := gin_push _ h3 e6
            rw [push_rank _ e6, push_rank _ e]
            exact h.dn c t h4 h7
        · rw [push_rank _ (ne h5), push_rank _ e]
          exact h.dn c t h4 h5
  · by_cases e : t = s
    · subst e
      show G.W t % 2 = 1 ↔ G.rem t = 2
      rw [hw, hb.2]
      constructor
      · intro h3
        omega
      · intro h3
        exact absurd h3 (h.rm t (by rw [hs]; decide))
    · exact h.mrk c t (gin_push _ ht e)
  · show Gto N bk _ c (updI G.H (bk s) (2 * s) c / 2) ∧ updI G.H (bk s) (2 * s) c % 2 = 0
    by_cases e : c = bk s
    · rw [e, updI_at, show 2 * s / 2 = s from by omega]
      exact ⟨.inr me, by omega⟩
    · rw [updI_ne _ _ e]
      exact ⟨to (h.hx c h3 h4).1, (h.hx c h3 h4).2⟩
  · have ho : Gov N bk (G.push (bk s) s) c (G.W t / 2) u := ho
    show G.rem u = 2
    by_cases eu : u = s
    · subst eu
      rw [push_rank_at] at h3
      by_cases e : t = u
      · rw [e, push_rank_at] at h3
        omega
      · rw [push_rank _ e] at h3
        have := (h.rk _ _ (gin_push _ ht e)).2
        omega
    · have gu := gin_push _ hu eu
      by_cases e : t = s
      · subst e
        rw [bs ht] at gu ho
        rw [hw] at ho
        exact h.hgap (bk t) u b0 b1 gu (ov eu ho)
      · rw [push_rank _ e, push_rank _ eu] at h3
        exact h.gap c t u (gin_push _ ht e) gu h3 (ov eu ho)
  · have ho : Gov N bk (G.push (bk s) s) c (updI G.H (bk s) (2 * s) c / 2) u := ho
    show G.rem u = 2
    by_cases e : c = bk s
    · rw [e, updI_at, show 2 * s / 2 = s from by omega] at ho
      have h5 := ho me
      rw [push_rank_at] at h5
      by_cases eu : u = s
      · rw [eu, push_rank_at] at h5
        omega
      · rw [push_rank _ eu] at h5
        have := (h.rk _ _ (gin_push _ hu eu)).2
        omega
    · have eu : u ≠ s := fun eu => by rw [eu] at hu; exact e (bs hu)
      rw [updI_ne _ _ e] at ho
      exact h.hgap c u h3 h4 (gin_push _ hu eu) (ov eu ho)
  · show 0 ≤ (G.push (bk s) s).rank t ∧ (G.push (bk s) s).rank t < G.ranks + 1
    by_cases e : t = s
    · rw [e, push_rank_at]
      have := h.r0
      omega
    · rw [push_rank _ e]
      have := h.rk _ _ (gin_push _ ht e)
      omega
  · by_cases e : t = s
    · by_cases eu : u = s
      · rw [e, eu]
      · rw [e, push_rank_at, push_rank _ eu] at h3
        have := (h.rk _ _ (gin_push _ hu eu)).2
        omega
    · by_cases eu : u = s
      · rw [eu, push_rank_at, push_rank _ e] at h3
        have := (h.rk _ _ (gin_push _ ht e)).2
        omega
      · rw [push_rank _ e, push_rank _ eu] at h3
        exact h.inj c t u (gin_push _ ht e) (gin_push _ hu eu) h3
  · have h5 : updI G.ins s 2 t = 0 := h5
    have e : t ≠ s := fun e => by rw [e, updI_at] at h5; omega
    rw [updI_ne _ _ e] at h5
    exact h.w0 t h3 h4 h5
  · have ht : updI G.ins s 2 t ≠ 2 := ht
    have e : t ≠ s := fun e => ht (by rw [e, updI_at])
    rw [updI_ne _ _ e] at ht
    exact h.rm t ht
  · show 0 ≤ G.ranks + 1
    have := h.r0
    omega
  · have e : t ≠ s := fun e => by rw [e, hs] at ht; omega
    exact ⟨(updI_ne _ _ e).trans ht, push_rank _ e⟩
  · show updI G.ins s 2 t = 1 ∨ updI G.ins s 2 t = 2
    by_cases e : t = s
    · rw [e, updI_at]
      exact .inr rfl
    · rw [updI_ne _ _ e]
      exact .inl ht
  · show G.ranks ≤ G.ranks + 1
    omega
  · have h4 : updI G.ins s 2 t = 2 := h4
    by_cases e : t = s
    · rw [e, push_rank_at]
      exact Int.le_refl _
    · rw [updI_ne _ _ e] at h4
      exact absurd h4 h3
/-- The lists that the book has: of each bucket those done and not marked, the one done last in front. -/
def RwOk (N nb : Int) (bk : Int → Int) (G : Gb) (rows : Int → List Int) : Prop := ∀ b, 0 ≤ b → b < nb → (∀ u, u ∈ rows b ↔ Gin N bk G b u ∧ G.rem u ≠ 2) ∧ (rows b).Pairwise (fun u v => G.rank v < G.rank u)
/-- Two lists in that order that hold the same are the same. -/
theorem pair_uniq (r : Int → Int) : ∀ (l m : List Int), l.Pairwise (fun u v => r v < r u) → m.Pairwise (fun u v => r v < r u) → (∀ u, u ∈ l ↔ u ∈ m) → l = m
  | [], [], _, _, _ => rfl
  | [], b :: m, _, _, h => absurd ((h b).2 List.mem_cons_self) (by simp)
  | a :: l, [], _, _, h => absurd ((h a).1 List.mem_cons_self) (by simp)
  | a :: l, b :: m, h1, h2, h => by
    have h1' := List.pairwise_cons.1 h1
    have h2' := List.pairwise_cons.1 h2
    have e : a = b := by
      rcases List.mem_cons.1 ((h a).1 List.mem_cons_self) with e | e
      · exact e
      · rcases List.mem_cons.1 ((h b).2 List.mem_cons_self) with e2 | e2
        · exact e2.symm
        · have := h1'.1 b e2
          have := h2'.1 a e
          omega
    subst e
    have na : a ∉ l := fun hm => by have := h1'.1 a hm; omega
    have nb : a ∉ m := fun hm => by have := h2'.1 a hm; omega
    refine congrArg (a :: ·) (pair_uniq r l m h1'.2 h2'.2 fun u => ⟨fun hu => ?_, fun hu => ?_⟩)
    · rcases List.mem_cons.1 ((h u).1 (List.mem_cons_of_mem _ hu)) with e | e
      · exact absurd (e ▸ hu) na
      · exact e
    · rcases List.mem_cons.1 ((h u).2 (List.mem_cons_of_mem _ hu)) with e | e
      · exact absurd (e ▸ hu) nb
      · exact e
end
end Go.Proofs.YteekompojgbkhaaGreat

namespace Go.Proofs.YteekompojgbkhaaGreat
open Go.ChangeShapes Go.WideShapes Go.ChangeAt Go.RowKit Go.MuLone Go.RwLone
set_option linter.unusedVariables false
set_option linter.unusedSectionVars false
/-- The arena and the index are the list of which the book is kept. -/
structure Lnk (N nb : Int) (S : AS) (x : XS) (G : Gb) : Prop where
  n : (S.n : Int) = N
  wd : S.wd = 1
  cl : x.cell = 0
  b : (x.nb : Int) = nb
  lv : ∀ s, 1 ≤ s → s ≤ N → liv S s = true
  w : ∀ s, 1 ≤ s → s ≤ N → G.W s = S.word (atC S s x.cell)
  h : ∀ c, 0 ≤ c → c < nb → G.H c = x.hd c.toNat
section
variable {N nb : Int} {bk : Int → Int} {S : AS} {x : XS} {G G' : Gb}
theorem Lnk.acc (h : Lnk N nb S x G) : Lnk N nb (acc1 S) x G := ⟨h.n, h.wd, h.cl, h.b, h.lv, h.w, h.h⟩
theorem Lnk.cn (h : Lnk N nb S x G) : Lnk N nb S x.cn1 G := ⟨h.n, h.wd, h.cl, h.b, h.lv, h.w, h.h⟩
theorem Lnk.same (h : Lnk N nb S x G) (hW : G'.W = G.W) (hH : G'.H = G.H) : Lnk N nb S x G' := ⟨h.n, h.wd, h.cl, h.b, h.lv, by rw [hW]; exact h.w, by rw [hH]; exact h.h⟩
theorem Lnk.inb (h : Lnk N nb S x G) {c : Int} (h0 : 0 ≤ c) (h1 : c < nb) : inB x c = true := by
  have := h.b
  unfold inB
  rw [decide_eq_true h0, decide_eq_true (by omega)]
  rfl
theorem Lnk.put (h : Lnk N nb S x G) {s y : Int} (h1 : 1 ≤ s) (hW : G'.W = updI G.W s y) (hH : G'.H = G.H) : Lnk N nb (put1 S (atC S s x.cell) y) x G' := by
  refine ⟨h.n, h.wd, h.cl, h.b, h.lv, fun t h3 h4 => ?_, by rw [hH]; exact h.h⟩
  show G'.W t = upd S.word (atC S s x.cell) y (atC S t x.cell)
  rw [hW]
  by_cases e : t = s
  · rw [e, updI_at]
    unfold upd
    rw [if_pos rfl]
  · rw [updI_ne _ _ e]
    unfold upd
    rw [if_neg, h.w t h3 h4]
    intro e2
    unfold atC at e2
    rw [h.wd] at e2
    omega
theorem Lnk.head (h : Lnk N nb S x G) {b y : Int} (h0 : 0 ≤ b) (hW : G'.W = G.W) (hH : G'.H = updI G.H b y) : Lnk N nb S { x.cn1 with hd := upd x.hd b.toNat y } G' := by
  refine ⟨h.n, h.wd, h.cl, h.b, h.lv, by rw [hW]; exact h.w, fun c h3 h4 => ?_⟩
  show G'.H c = upd x.hd b.toNat y c.toNat
  rw [hH]
  by_cases e : c = b
  · rw [e, updI_at]
    unfold upd
    rw [if_pos rfl]
  · rw [updI_ne _ _ e]
    unfold upd
    rw [if_neg (by omega), h.h c h3 h4]
/-- An Insert of the book. -/
structure InsI (N : Int) (bk : Int → Int) (G : Gb) (m : MI) : Prop where
  lo : 1 ≤ m.sl
  up : m.sl ≤ N
  bu : m.bu = bk m.sl
  st : m.st ≤ 4
  on : m.st ≤ 3 → G.ins m.sl = 1
  w0 : m.st = 0 → G.W m.sl = 0
  w3 : m.st = 3 → G.W m.sl = m.hd
  dn : m.st = 4 → m.code = 0 ∧ G.ins m.sl = 2
/-- What a step of an Insert is: the list's own business, or the linking. -/
theorem ins_go (hl : Lnk N nb S x G) (h : GbInv N nb bk G) (hN : N ≤ 4096) (hb : ∀ s, 0 ≤ bk s ∧ bk s < nb) (m : MI) (hm : InsI N bk G m) : ∃ G', Lnk N nb (insP S x m).2.1.S (insP S x m).2.1.x G' ∧ GbInv N nb bk G' ∧ GbLe G G' ∧ InsI N bk G' (insP S x m).2.2 ∧ (∀ t, t ≠ m.sl → G'.W t = G.W t) ∧ (((insP S x m).1 = false ∧ m.st ≤ 3 ∧ (insP S x m).2.2.st ≤ 3 ∧ (∃ y, G' = { G with W := updI G.W m.sl y } ∨ G' = G)) ∨ ((insP S x m).1 = true ∧ m.st = 4 ∧ (insP S x m).2.2.st = 4 ∧ G' = G) ∨ ((insP S x m).1 = true ∧ m.st = 3 ∧ (insP S x m).2.2.st = 4 ∧ G' = G.push (bk m.sl) m.sl)) ∧ (insP S x m).2.2.sl = m.sl := by
  obtain ⟨st, code, bu, sl, hd, tr⟩ := m
  obtain ⟨lo, up, bu', hst, on, w0, w3, dn⟩ := hm
  simp only at lo up bu' hst on w0 w3 dn
  subst bu'
  have hi := hl.inb (hb sl).1 (hb sl).2
  have hv := hl.lv sl lo up
  match st with
  | 0 =>
    have e : insP S x ⟨0, code, bk sl, sl, hd, tr⟩ = (false, ⟨acc1 S, x⟩, ⟨1, code, bk sl, sl, hd, tr⟩) := by
      show (if inB x (bk sl) then (if liv S sl then (if S.word (atC S sl x.cell) = 0 then _ else _) else _) else _) = _
      rw [if_pos hi, if_pos hv, if_pos ((hl.w sl lo up).symm.trans (w0 rfl))]
    rw [e]
    exact ⟨G, hl.acc, h, GbLe.refl G, ⟨lo, up, rfl, Nat.le_of_ble_eq_true rfl, fun _ => on (Nat.le_of_ble_eq_true rfl), fun e => (by cases e), fun e => (by cases e), fun e => (by cases e)⟩, fun t _ => rfl, .inl ⟨rfl, (by decide : (0 : Nat) ≤ 3), (by decide : (1 : Nat) ≤ 3), 0, .inr rfl⟩, rfl⟩
  | 1 =>
    exact ⟨G, hl.cn, h, GbLe.refl G, ⟨lo, up, rfl, Nat.le_of_ble_eq_true rfl, fun _ => on (Nat.le_of_ble_eq_true rfl), fun e => (by cases e), fun e => (by cases e), fun e => (by cases e)⟩, fun t _ => rfl, .inl ⟨rfl, (by decide : (1 : Nat) ≤ 3), (by decide : (2 : Nat) ≤ 3), 0, .inr rfl⟩, rfl⟩
  | 2 =>
    have e : insP S x ⟨2, code, bk sl, sl, hd, tr⟩ = (false, ⟨put1 S (atC S sl x.cell) hd, x⟩, ⟨3, code, bk sl, sl, hd, tr⟩) := by
      show (if liv S sl then _ else _) = _
      rw [if_pos hv]
    rw [e]
    have hs := on (by decide)
    have hp := h.store sl hd hs
    exact ⟨{ G with W := updI G.W sl hd }, hl.put lo rfl rfl, hp.1, hp.2, ⟨lo, up, rfl, Nat.le_of_ble_eq_true rfl, fun _ => hs, fun e => (by cases e), fun _ => updI_at _ _ _, fun e => (by cases e)⟩, fun t ht => updI_ne _ _ ht, .inl ⟨rfl, (by decide : (2 : Nat) ≤ 3), (by decide : (3 : Nat) ≤ 3), hd, .inl rfl⟩, rfl⟩
  | 3 =>
    have hs := on (by decide)
    by_cases hh : x.hd (bk sl).toNat = hd
    · have e : insP S x ⟨3, code, bk sl, sl, hd, tr⟩ = (true, ⟨S, { x.cn1 with hd := upd x.hd (bk sl).toNat (2 * sl) }⟩, ⟨4, 0, bk sl, sl, hd, tr⟩) := by
        show (if x.hd (bk sl).toNat = hd then _ else _) = _
        rw [if_pos hh]
      rw [e]
      have hp := h.push sl hN lo up hs (hb sl).1 (hb sl).2 ((w3 rfl).trans (hh.symm.trans (hl.h _ (hb sl).1 (hb sl).2).symm))
      exact ⟨G.push (bk sl) sl, hl.head (hb sl).1 rfl rfl, hp.1, hp.2, ⟨lo, up, rfl, Nat.le_of_ble_eq_true rfl, fun e => (by have e : 4 ≤ 3 := e; omega), fun e => (by cases e), fun e => (by cases e), fun _ => ⟨rfl, updI_at _ _ _⟩⟩, fun t _ => rfl, .inr (.inr ⟨rfl, rfl, rfl, rfl⟩), rfl⟩
    · have e : insP S x ⟨3, code, bk sl, sl, hd, tr⟩ = (false, ⟨S, x.cn1⟩, ⟨1, code, bk sl, sl, hd, wrap64 (tr + 1)⟩) := by
        show (if x.hd (bk sl).toNat = hd then _ else _) = _
        rw [if_neg hh]
      rw [e]
      exact ⟨G, hl.cn, h, GbLe.refl G, ⟨lo, up, rfl, Nat.le_of_ble_eq_true rfl, fun _ => hs, fun e => (by cases e), fun e => (by cases e), fun e => (by cases e)⟩, fun t _ => rfl, .inl ⟨rfl, (by decide : (3 : Nat) ≤ 3), (by decide : (1 : Nat) ≤ 3), 0, .inr rfl⟩, rfl⟩
  | 4 => exact ⟨G, hl, h, GbLe.refl G, ⟨lo, up, rfl, hst, fun e => (by have e : 4 ≤ 3 := e; omega), fun e => (by cases e), fun e => (by cases e), dn⟩, fun t _ => rfl, .inr (.inl ⟨rfl, rfl, rfl, rfl⟩), rfl⟩
  | n + 5 => exact absurd hst (by omega)
end
end Go.Proofs.YteekompojgbkhaaGreat

namespace Go.Proofs.YteekompojgbkhaaGreat
open Go.ChangeShapes Go.WideShapes Go.ChangeAt Go.RowKit Go.MuLone Go.RwLone
set_option linter.unusedVariables false
set_option linter.unusedSectionVars false
/-- A Remove of the book. -/
structure RemI (N : Int) (bk : Int → Int) (G : Gb) (m : MR) : Prop where
  g : Gin N bk G m.bu m.sl
  st : m.st ≤ 6
  un : m.st ≤ 2 → m.ma = false ∧ G.rem m.sl = 1
  ob : 3 ≤ m.st → m.ma = true ∧ G.rem m.sl = 2
  pr : m.st = 4 ∨ m.st = 5 → Gin N bk G m.bu m.pr
  ah : m.st = 4 ∨ m.st = 5 → m.ah = 0 ∨ Gin N bk G m.bu m.ah
  be : m.st = 5 → G.W m.pr % 2 = 1 ∧ m.be = G.W m.pr / 2
  co : m.st = 6 → m.co = 0
/-- What neither a Remove nor a walk changes of the book. -/
def Bsm (G G' : Gb) : Prop := G'.ins = G.ins ∧ G'.rank = G.rank ∧ G'.ranks = G.ranks ∧ ∀ t, G.ins t ≠ 2 → G'.W t = G.W t
section
variable {N nb : Int} {bk : Int → Int} {S : AS} {x : XS} {G G' : Gb}
theorem Bsm.refl (G : Gb) : Bsm G G := ⟨rfl, rfl, rfl, fun t _ => rfl⟩
theorem Gin.bsm {b s : Int} (h : Gin N bk G b s) (k : Bsm G G') : Gin N bk G' b s := ⟨h.1, h.2.1, by rw [k.1]; exact h.2.2.1, h.2.2.2⟩
theorem mvR_ok (hN : N ≤ 4096) (m : MR) (n : Int) (b0 : 0 ≤ m.bu) (hg : Gin N bk G m.bu m.sl) (ma : m.ma = true) (hr : G.rem m.sl = 2) (ha : m.ah = 0 ∨ Gin N bk G m.bu m.ah) (hn : Gto N bk G m.bu n) : RemI N bk G (mvR m n).2 ∧ ((mvR m n).1 = true ↔ (mvR m n).2.st = 6) ∧ (mvR m n).2.sl = m.sl ∧ (mvR m n).2.bu = m.bu ∧ (mvR m n).2.ma = m.ma := by
  have e := hn.end_or hN b0
  unfold mvR
  by_cases h : 4096 < n
  · rw [if_pos h]
    exact ⟨⟨hg, Nat.le_refl _, fun h => (by have h : 6 ≤ 2 := h; omega), fun _ => ⟨ma, hr⟩, fun h => (by have h : 6 = 4 ∨ 6 = 5 := h; omega), fun h => (by have h : 6 = 4 ∨ 6 = 5 := h; omega), fun h => (by have h : 6 = 5 := h; omega), fun _ => rfl⟩, ⟨fun _ => rfl, fun _ => rfl⟩, rfl, rfl, rfl⟩
  · rw [if_neg h]
    exact ⟨⟨hg, (by show 4 ≤ 6; omega), fun h => (by have h : 4 ≤ 2 := h; omega), fun _ => ⟨ma, hr⟩, fun _ => e.2.1 h, fun _ => ha, fun h => (by have h : 4 = 5 := h; omega), fun h => (by have h : 4 = 6 := h; omega)⟩, ⟨fun h => (by cases h), fun h => (by have h : 4 = 6 := h; omega)⟩, rfl, rfl, rfl⟩
/-- The unlinking of a marked slot: it comes off, or nothing is changed. -/
theorem ahR_ok (hl : Lnk N nb S x G) (h : GbInv N nb bk G) (bu ah pr be : Int) (b0 : 0 ≤ bu) (b1 : bu < nb) (hp : Gin N bk G bu pr) (ha : ah = 0 ∨ Gin N bk G bu ah) (hm : G.W pr % 2 = 1) (hb : be = G.W pr / 2) : ∃ G', Lnk N nb (ahR S x bu ah (2 * pr) (2 * be)).2.2.S (ahR S x bu ah (2 * pr) (2 * be)).2.2.x G' ∧ GbInv N nb bk G' ∧ GbLe G G' ∧ Bsm G G' ∧ G'.rem = G.rem ∧ (ahR S x bu ah (2 * pr) (2 * be)).2.1 = 0 := by
  subst hb
  by_cases e0 : ah = 0
  · by_cases e1 : x.hd bu.toNat = 2 * pr
    · have e : ahR S x bu ah (2 * pr) (2 * (G.W pr / 2)) = (true, 0, ⟨S, { x.cn1 with hd := upd x.hd bu.toNat (2 * (G.W pr / 2)) }⟩) := by
        unfold ahR
        rw [if_pos e0, if_pos e1]
      rw [e]
      have k := h.unhead bu pr b0 b1 hp hm ((hl.h bu b0 b1).trans e1)
      exact ⟨{ G with H := updI G.H bu (2 * (G.W pr / 2)) }, hl.head b0 rfl rfl, k.1, k.2, Bsm.refl G, rfl, rfl⟩
    · have e : ahR S x bu ah (2 * pr) (2 * (G.W pr / 2)) = (false, 0, ⟨S, x.cn1⟩) := by
        unfold ahR
        rw [if_pos e0, if_neg e1]
      rw [e]
      exact ⟨G, hl.cn, h, GbLe.refl G, Bsm.refl G, rfl, rfl⟩
  · have ha := ha.resolve_left e0
    have hv := hl.lv ah ha.1 ha.2.1
    by_cases e1 : S.word (atC S ah x.cell) = 2 * pr
    · have e : ahR S x bu ah (2 * pr) (2 * (G.W pr / 2)) = (true, 0, ⟨put1 S (atC S ah x.cell) (2 * (G.W pr / 2)), x⟩) := by
        unfold ahR
        rw [if_neg e0, if_pos hv, if_pos e1]
      rw [e]
      have k := h.unlink bu ah pr ha hp hm ((hl.w ah ha.1 ha.2.1).trans e1)
      exact ⟨{ G with W := updI G.W ah (2 * (G.W pr / 2)) }, hl.put ha.1 rfl rfl, k.1, k.2, ⟨rfl, rfl, rfl, fun t ht => updI_ne _ _ (fun e => ht (by rw [e]; exact ha.2.2.1))⟩, rfl, rfl⟩
    · have e : ahR S x bu ah (2 * pr) (2 * (G.W pr / 2)) = (false, 0, ⟨acc1 S, x⟩) := by
        unfold ahR
        rw [if_neg e0, if_pos hv, if_neg e1]
      rw [e]
      exact ⟨G, hl.acc, h, GbLe.refl G, Bsm.refl G, rfl, rfl⟩
/-- What a step of a Remove is. -/
def RemGo (N nb : Int) (bk : Int → Int) (G : Gb) (m : MR) (r : Bool × CS × MR) : Prop := ∃ G', Lnk N nb r.2.1.S r.2.1.x G' ∧ GbInv N nb bk G' ∧ GbLe G G' ∧ RemI N bk G' r.2.2 ∧ Bsm G G' ∧ (r.1 = true ↔ r.2.2.st = 6) ∧ r.2.2.sl = m.sl ∧ r.2.2.bu = m.bu ∧ ((G'.rem = G.rem ∧ r.2.2.ma = m.ma) ∨ (m.ma = false ∧ r.2.2.ma = true ∧ G'.rem = updI G.rem m.sl 2))
theorem own_go (hl : Lnk N nb S x G) (h : GbInv N nb bk G) (hN : N ≤ 4096) (m : MR) (b0 : 0 ≤ m.bu) (hm : RemI N bk G m) (h1 : m.st ≤ 1) : RemGo N nb bk G m (ownR S x m) := by
  have un := hm.un (by omega)
  have hv := hl.lv _ hm.g.1 hm.g.2.1
  have hw := hl.w _ hm.g.1 hm.g.2.1
  have n0 := ((h.nx _ _ hm.g).end_or hN b0).2.2
  have z : ¬ S.word (atC S m.sl x.cell) = 0 := fun e => n0 (by rw [hw, e]; rfl)
  have k : ¬ (S.word (atC S m.sl x.cell) % 2 == 1) = true := fun e => by
    have := (h.mrk _ _ hm.g).1 (by rw [hw]; exact eq_of_beq e)
    have := un.2
    omega
  have e : ownR S x m = (false, ⟨acc1 S, x⟩, { m with st := 2, wd := S.word (atC S m.sl x.cell) }) := by
    unfold ownR
    rw [if_pos hv, if_neg z, if_neg k]
  rw [e]
  exact ⟨G, hl.acc, h, GbLe.refl G, ⟨hm.g, (by show 2 ≤ 6; omega), fun _ => un, fun h => (by have h : 3 ≤ 2 := h; omega), fun h => (by have h : 2 = 4 ∨ 2 = 5 := h; omega), fun h => (by have h : 2 = 4 ∨ 2 = 5 := h; omega), fun h => (by have h : 2 = 5 := h; omega), fun h => (by have h : 2 = 6 := h; omega)⟩, Bsm.refl G, ⟨fun h => (by cases h), fun h => (by have h : 2 = 6 := h; omega)⟩, rfl, rfl, .inl ⟨rfl, rfl⟩⟩
theorem rem_go (hl : Lnk N nb S x G) (h : GbInv N nb bk G) (hN : N ≤ 4096) (hb : ∀ s, 0 ≤ bk s ∧ bk s < nb) (m : MR) (hm : RemI N bk G m) : RemGo N nb bk G m (remP S x m) := by
  have b0 : 0 ≤ m.bu := by rw [← hm.g.2.2.2]; exact (hb _).1
  have b1 : m.bu < nb := by rw [← hm.g.2.2.2]; exact (hb _).2
  have hi := hl.inb b0 b1
  have hv := hl.lv _ hm.g.1 hm.g.2.1
  have hw := hl.w _ hm.g.1 hm.g.2.1
  obtain ⟨st, co, bu, sl, wd, ah, pr, be, ma, he⟩ := m
  simp only at b0 b1 hi hv hw
  match st with
  | 0 =>
    have e : remP S x ⟨0, co, bu, sl, wd, ah, pr, be, ma, he⟩ = ownR S x ⟨0, co, bu, sl, wd, ah, pr, be, ma, he⟩ := by
      show (if inB x bu then _ else _) = _
      rw [if_pos hi]
    rw [e]
    exact own_go hl h hN _ b0 hm (Nat.zero_le _)
  | 1 => exact own_go hl h hN _ b0 hm (Nat.le_refl _)
  | 2 =>
    have un : ma = false ∧ G.rem sl = 1 := hm.un (Nat.le_refl _)
    have g : Gin N bk G bu sl := hm.g
    by_cases e1 : S.word (atC S sl x.cell) = wd
    · have e : remP S x ⟨2, co, bu, sl, wd, ah, pr, be, ma, he⟩ = (false, ⟨put1 S (atC S sl x.cell) (2 * (wd / 2) + 1), x⟩, ⟨3, co, bu, sl, wd, ah, pr, be, true, he⟩) := by
        show (if liv S sl then (if S.word (atC S sl x.cell) = wd then _ else _) else _) = _
        rw [if_pos hv, if_pos e1]
      rw [e]
      have k := h.mark bu sl g
      have ev : G.W sl % 2 = 0 := by
        have := h.mrk bu sl g
        have h2 := un.2
        by_cases h3 : G.W sl % 2 = 1
        · have := this.1 h3
          omega
        · omega
      have ew : wd = G.W sl := (hw.trans e1).symm
      subst ew
      exact ⟨{ G with W := updI G.W sl (2 * (G.W sl / 2) + 1), rem := updI G.rem sl 2 }, hl.put g.1 rfl rfl, k.1, k.2 ev, ⟨g, (by show 3 ≤ 6; omega), fun h => (by have h : 3 ≤ 2 := h; omega), fun _ => ⟨rfl, updI_at _ _ _⟩, fun h => (by have h : 3 = 4 ∨ 3 = 5 := h; omega), fun h => (by have h : 3 = 4 ∨ 3 = 5 := h; omega), fun h => (by have h : 3 = 5 := h; omega), fun h => (by have h : 3 = 6 := h; omega)⟩, ⟨rfl, rfl, rfl, fun t ht => updI_ne _ _ (fun e => ht (by rw [e]; exact g.2.2.1))⟩, ⟨fun h => (by cases h), fun h => (by have h : 3 = 6 := h; omega)⟩, rfl, rfl, .inr ⟨un.1, rfl, rfl⟩⟩
    · have e : remP S x ⟨2, co, bu, sl, wd, ah, pr, be, ma, he⟩ = (false, ⟨acc1 S, x⟩, ⟨1, co, bu, sl, wd, ah, pr, be, ma, he⟩) := by
        show (if liv S sl then (if S.word (atC S sl x.cell) = wd then _ else _) else _) = _
        rw [if_pos hv, if_neg e1]
      rw [e]
      exact ⟨G, hl.acc, h, GbLe.refl G, ⟨g, (by show 1 ≤ 6; omega), fun _ => un, fun h => (by have h : 3 ≤ 1 := h; omega), fun h => (by have h : 1 = 4 ∨ 1 = 5 := h; omega), fun h => (by have h : 1 = 4 ∨ 1 = 5 := h; omega), fun h => (by have h : 1 = 5 := h; omega), fun h => (by have h : 1 = 6 := h; omega)⟩, Bsm.refl G, ⟨fun h => (by cases h), fun h => (by have h : 1 = 6 := h; omega)⟩, rfl, rfl, .inl ⟨rfl, rfl⟩⟩
  | 3 =>
    have ob : ma = true ∧ G.rem sl = 2 := hm.ob (Nat.le_refl _)
    have g : Gin N bk G bu sl := hm.g
    have hx := h.hx bu b0 b1
    rw [hl.h bu b0 b1] at hx
    have k := mvR_ok hN ⟨3, co, bu, sl, wd, 0, pr, be, ma, he⟩ (x.hd bu.toNat / 2) b0 g ob.1 ob.2 (.inl rfl) hx.1
    exact ⟨G, hl.cn, h, GbLe.refl G, k.1, Bsm.refl G, k.2.1, k.2.2.1, k.2.2.2.1, .inl ⟨rfl, k.2.2.2.2⟩⟩
  | 4 =>
    have ob : ma = true ∧ G.rem sl = 2 := hm.ob (by show 3 ≤ 4; omega)
    have g : Gin N bk G bu sl := hm.g
    have gp : Gin N bk G bu pr := hm.pr (.inl rfl)
    have ga : ah = 0 ∨ Gin N bk G bu ah := hm.ah (.inl rfl)
    have pv := hl.lv _ gp.1 gp.2.1
    have pw := hl.w _ gp.1 gp.2.1
    have nx := h.nx bu pr gp
    have n0 := (nx.end_or hN b0).2.2
    rw [pw] at nx n0
    by_cases e1 : (S.word (atC S pr x.cell) % 2 == 1) = true
    · have e : remP S x ⟨4, co, bu, sl, wd, ah, pr, be, ma, he⟩ = (false, ⟨acc1 S, x⟩, ⟨5, co, bu, sl, wd, ah, pr, S.word (atC S pr x.cell) / 2, ma, he⟩) := by
        show (if liv S pr then (if S.word (atC S pr x.cell) / 2 = 0 then _ else if S.word (atC S pr x.cell) % 2 == 1 then _ else _) else _) = _
        rw [if_pos pv, if_neg n0, if_pos e1]
      rw [e]
      exact ⟨G, hl.acc, h, GbLe.refl G, ⟨g, (by show 5 ≤ 6; omega), fun h => (by have h : 5 ≤ 2 := h; omega), fun _ => ob, fun _ => gp, fun _ => ga, fun _ => ⟨by show G.W pr % 2 = 1; rw [pw]; exact eq_of_beq e1, by show S.word (atC S pr x.cell) / 2 = G.W pr / 2; rw [pw]⟩, fun h => (by have h : 5 = 6 := h; omega)⟩, Bsm.refl G, ⟨fun h => (by cases h), fun h => (by have h : 5 = 6 := h; omega)⟩, rfl, rfl, .inl ⟨rfl, rfl⟩⟩
    · have e : remP S x ⟨4, co, bu, sl, wd, ah, pr, be, ma, he⟩ = ((mvR ⟨4, co, bu, sl, wd, pr, pr, be, ma, he⟩ (S.word (atC S pr x.cell) / 2)).1, ⟨acc1 S, x⟩, (mvR ⟨4, co, bu, sl, wd, pr, pr, be, ma, he⟩ (S.word (atC S pr x.cell) / 2)).2) := by
        show (if liv S pr then (if S.word (atC S pr x.cell) / 2 = 0 then _ else if S.word (atC S pr x.cell) % 2 == 1 then _ else _) else _) = _
        rw [if_pos pv, if_neg n0, if_neg e1]
      rw [e]
      have k := mvR_ok hN ⟨4, co, bu, sl, wd, pr, pr, be, ma, he⟩ (S.word (atC S pr x.cell) / 2) b0 g ob.1 ob.2 (.inr gp) nx
      exact ⟨G, hl.acc, h, GbLe.refl G, k.1, Bsm.refl G, k.2.1, k.2.2.1, k.2.2.2.1, .inl ⟨rfl, k.2.2.2.2⟩⟩
  | 5 =>
    have ob : ma = true ∧ G.rem sl = 2 := hm.ob (by show 3 ≤ 5; omega)
    have g : Gin N bk G bu sl := hm.g
    have gp : Gin N bk G bu pr := hm.pr (.inr rfl)
    have ga : ah = 0 ∨ Gin N bk G bu ah := hm.ah (.inr rfl)
    have gb : G.W pr % 2 = 1 ∧ be = G.W pr / 2 := hm.be rfl
    obtain ⟨G', k1, k2, k3, k4, k5, k6⟩ := ahR_ok hl h bu ah pr be b0 b1 gp ga gb.1 gb.2
    show RemGo N nb bk G _ (unlR ⟨5, co, bu, sl, wd, ah, pr, be, ma, he⟩ (ahR S x bu ah (2 * pr) (2 * be)))
    have g' := g.bsm k4
    have ob' : ma = true ∧ G'.rem sl = 2 := ⟨ob.1, by rw [k5]; exact ob.2⟩
    generalize hq : ahR S x bu ah (2 * pr) (2 * be) = q at k1 k6 ⊢
    obtain ⟨q0, q1, q2⟩ := q
    simp only at k1 k6
    subst k6
    cases q0 with
    | false => exact ⟨G', k1, k2, k3, ⟨g', (by show 3 ≤ 6; omega), fun h => (by have h : 3 ≤ 2 := h; omega), fun _ => ob', fun h => (by have h : 3 = 4 ∨ 3 = 5 := h; omega), fun h => (by have h : 3 = 4 ∨ 3 = 5 := h; omega), fun h => (by have h : 3 = 5 := h; omega), fun h => (by have h : 3 = 6 := h; omega)⟩, k4, ⟨fun h => (by cases h), fun h => (by have h : 3 = 6 := h; omega)⟩, rfl, rfl, .inl ⟨k5, rfl⟩⟩
    | true =>
      by_cases e1 : pr = sl
      · have e : unlR ⟨5, co, bu, sl, wd, ah, pr, be, ma, he⟩ (true, 0, q2) = (true, q2, ⟨6, 0, bu, sl, wd, ah, pr, be, ma, he⟩) := by
          show (if (0 : Int) = 0 then (if true = true then (if pr = sl then _ else _) else _) else _) = _
          rw [if_pos rfl, if_pos rfl, if_pos e1]
        rw [e]
        exact ⟨G', k1, k2, k3, ⟨g', (by show 6 ≤ 6; omega), fun h => (by have h : 6 ≤ 2 := h; omega), fun _ => ob', fun h => (by have h : 6 = 4 ∨ 6 = 5 := h; omega), fun h => (by have h : 6 = 4 ∨ 6 = 5 := h; omega), fun h => (by have h : 6 = 5 := h; omega), fun _ => rfl⟩, k4, ⟨fun _ => rfl, fun _ => rfl⟩, rfl, rfl, .inl ⟨k5, rfl⟩⟩
      · have e : unlR ⟨5, co, bu, sl, wd, ah, pr, be, ma, he⟩ (true, 0, q2) = ((mvR ⟨5, co, bu, sl, wd, ah, pr, be, ma, wrap64 (he + 1)⟩ be).1, q2, (mvR ⟨5, co, bu, sl, wd, ah, pr, be, ma, wrap64 (he + 1)⟩ be).2) := by
          show (if (0 : Int) = 0 then (if true = true then (if pr = sl then _ else _) else _) else _) = _
          rw [if_pos rfl, if_pos rfl, if_neg e1]
        rw [e]
        have to : Gto N bk G' bu be := by
          rw [gb.2]
          exact (h.nx bu pr gp).imp id (fun h => h.bsm k4)
        have k := mvR_ok hN ⟨5, co, bu, sl, wd, ah, pr, be, ma, wrap64 (he + 1)⟩ be b0 g' ob'.1 ob'.2 (ga.imp id (fun h => h.bsm k4)) to
        exact ⟨G', k1, k2, k3, k.1, k4, k.2.1, k.2.2.1, k.2.2.2.1, .inl ⟨k5, k.2.2.2.2⟩⟩
  | 6 => exact ⟨G, hl, h, GbLe.refl G, hm, Bsm.refl G, ⟨fun _ => rfl, fun _ => rfl⟩, rfl, rfl, .inl ⟨rfl, rfl⟩⟩
  | n + 7 => exact absurd hm.st (by show ¬ (n + 7 ≤ 6); omega)
end
end Go.Proofs.YteekompojgbkhaaGreat

namespace Go.Proofs.YteekompojgbkhaaGreat
open Go.ChangeShapes Go.WideShapes Go.ChangeAt Go.RowKit Go.MuLone Go.RwLone
set_option linter.unusedVariables false
set_option linter.unusedSectionVars false
/-- What is known of a walk: its bucket, how many Inserts were done at its first step, the slots that were in its bucket then, those that it has met. -/
structure TrP where
  k : Int
  rk : Int
  due : List Int
  met : List Int
/-- A walk that has begun and is not ended. -/
structure WlkI (N : Int) (bk : Int → Int) (G : Gb) (m : MW) (t : TrP) : Prop where
  own : m.own = 4097 + t.k
  code : m.code = 0
  ended : m.ended = false
  g : Gin N bk G t.k m.pend
  lt : G.rank m.pend < t.rk
  rks : t.rk ≤ G.ranks
  due : ∀ u, u ∈ t.due → Gin N bk G t.k u
  all : ∀ u, u ∈ t.due → G.rem u = 2 ∨ u ∈ t.met ∨ G.rank u ≤ G.rank m.pend
  mets : ∀ u, u ∈ t.met → Gin N bk G t.k u ∧ G.rank m.pend < G.rank u
  comp : ∀ u, Gin N bk G t.k u → G.rem u ≠ 2 → G.rank u < t.rk → u ∈ t.due
section
variable {N nb : Int} {bk : Int → Int} {S : AS} {x : XS} {G G' : Gb}
theorem WlkI.le {m : MW} {t : TrP} (h : WlkI N bk G m t) (k : GbLe G G') : WlkI N bk G' m t := by
  have g := h.g.le k
  refine ⟨h.own, h.code, h.ended, g.1, by rw [g.2]; exact h.lt, Int.le_trans h.rks k.rks, fun u hu => ((h.due u hu).le k).1, fun u hu => ?_, fun u hu => ?_, fun u hu hr hk => ?_⟩
  · rw [g.2, ((h.due u hu).le k).2]
    exact (h.all u hu).imp (k.rem u) id
  · have e := (h.mets u hu).1.le k
    rw [g.2, e.2]
    exact ⟨e.1, (h.mets u hu).2⟩
  · have hi : G.ins u = 2 := by
      by_cases hi : G.ins u = 2
      · exact hi
      · have := k.new u hi hu.2.2.1
        have := h.rks
        omega
    have gu : Gin N bk G t.k u := ⟨hu.1, hu.2.1, hi, hu.2.2.2⟩
    exact h.comp u gu (fun e => hr (k.rem u e)) (by rw [(gu.le k).2] at hk; exact hk)
theorem InsI.le {m : MI} (h : InsI N bk G m) (k : GbLe G G') (hW : G'.W m.sl = G.W m.sl) (hi : G'.ins m.sl = G.ins m.sl) : InsI N bk G' m := ⟨h.lo, h.up, h.bu, h.st, fun e => hi.trans (h.on e), fun e => hW.trans (h.w0 e), fun e => hW.trans (h.w3 e), fun e => ⟨(h.dn e).1, hi.trans (h.dn e).2⟩⟩
theorem RemI.le {m : MR} (h : RemI N bk G m) (k : GbLe G G') (hr : G'.rem m.sl = G.rem m.sl) : RemI N bk G' m := by
  refine ⟨(h.g.le k).1, h.st, fun e => ⟨(h.un e).1, hr.trans (h.un e).2⟩, fun e => ⟨(h.ob e).1, hr.trans (h.ob e).2⟩, fun e => ((h.pr e).le k).1, fun e => (h.ah e).imp id (fun g => (g.le k).1), fun e => ?_, h.co⟩
  have gp := h.pr (.inr e)
  have hb := h.be e
  have := k.frz m.pr gp.2.2.1 hb.1
  rw [this]
  exact hb
theorem lookW_ok (hN : N ≤ 4096) (m : MW) (k n : Int) (k0 : 0 ≤ k) (ho : m.own = 4097 + k) (hn : Gto N bk G k n) : (lookW m n = (true, { m with ended := true, code := 0, st := 3 }) ∧ ¬ Gin N bk G k n) ∨ (lookW m n = (decide (¬ m.slot = 0), { m with pend := n, st := 2 }) ∧ Gin N bk G k n) := by
  have e := hn.end_or hN k0
  by_cases h : 4096 < n
  · have h1 := e.1 h
    have h2 : ¬ (m.own ≠ 0 ∧ n ≠ m.own) := fun h3 => h3.2 (by rw [ho]; exact h1.1)
    refine .inl ⟨?_, h1.2⟩
    show (if n = 0 then _ else if 4096 < n then (if m.own ≠ 0 ∧ n ≠ m.own then _ else _) else _) = _
    rw [if_neg e.2.2, if_pos h, if_neg h2]
    rfl
  · refine .inr ⟨?_, e.2.1 h⟩
    show (if n = 0 then _ else if 4096 < n then _ else _) = _
    rw [if_neg e.2.2, if_neg h]
/-- What a step of a walk is, and what is known of it then. -/
def WlkGo (N nb : Int) (bk : Int → Int) (G : Gb) (t : TrP) (r : Bool × CS × MW) : Prop := Lnk N nb r.2.1.S r.2.1.x G ∧ r.2.2.code = 0 ∧ (r.1 = true ↔ (r.2.2.slot ≠ 0 ∨ r.2.2.ended = true)) ∧ (r.2.2.slot ≠ 0 → Gin N bk G t.k r.2.2.slot ∧ r.2.2.slot ∈ t.due ∧ G.rank r.2.2.slot < t.rk ∧ ∀ u, u ∈ t.met → G.rank r.2.2.slot < G.rank u) ∧ (r.2.2.ended = false → r.2.2.st = 2 ∧ WlkI N bk G r.2.2 { t with met := if r.2.2.slot = 0 then t.met else t.met ++ [r.2.2.slot] }) ∧ (r.2.2.ended = true → r.2.2.st = 3 ∧ ∀ u, u ∈ t.due → G.rem u = 2 ∨ u ∈ (if r.2.2.slot = 0 then t.met else t.met ++ [r.2.2.slot]))
/-- The first step. -/
theorem wlk_go0 (hl : Lnk N nb S x G) (h : GbInv N nb bk G) (hN : N ≤ 4096) (m : MW) (t : TrP) (k0 : 0 ≤ t.k) (k1 : t.k < nb) (hs : m.st = 0) (hk : m.src = t.k) (hc : m.code = 0) (hz : m.slot = 0) (he : m.ended = false) (hr : t.rk = G.ranks) (hm : t.met = []) (hd : ∀ u, u ∈ t.due ↔ Gin N bk G t.k u ∧ G.rem u ≠ 2) : WlkGo N nb bk G t (wlkP S x m) := by
  obtain ⟨st, src, own, slot, pend, ended, code⟩ := m
  simp only at hs hk hc hz he
  subst hs hk hc hz he
  have hi := hl.inb k0 k1
  have e : wlkP S x ⟨0, t.k, own, 0, pend, false, 0⟩ = ((lookW ⟨0, t.k, 4097 + t.k, 0, pend, false, 0⟩ (x.hd t.k.toNat / 2)).1, ⟨S, x.cn1⟩, (lookW ⟨0, t.k, 4097 + t.k, 0, pend, false, 0⟩ (x.hd t.k.toNat / 2)).2) := by
    show (if inB x t.k then _ else _) = _
    rw [if_pos hi]
  rw [e]
  have hx := (h.hx t.k k0 k1).1
  have hg := fun u => h.hgap t.k u k0 k1
  rw [hl.h t.k k0 k1] at hx hg
  rcases lookW_ok hN ⟨0, t.k, 4097 + t.k, 0, pend, false, 0⟩ t.k (x.hd t.k.toNat / 2) k0 rfl hx with ⟨e2, hn⟩ | ⟨e2, hn⟩
  · rw [e2]
    refine ⟨hl.cn, rfl, ⟨fun _ => .inr rfl, fun _ => rfl⟩, fun h => absurd rfl h, fun h => (by cases h), fun _ => ⟨rfl, fun u hu => ?_⟩⟩
    have := (hd u).1 hu
    exact .inl (hg u this.1 (fun hi => absurd hi hn))
  · rw [e2]
    refine ⟨hl.cn, rfl, ⟨fun h => (by cases h), fun h => h.elim (fun h => absurd rfl h) (fun h => (by cases h))⟩, fun h => absurd rfl h, fun _ => ⟨rfl, ?_⟩, fun h => (by cases h)⟩
    refine ⟨rfl, rfl, rfl, hn, ?_, ?_, fun u hu => ((hd u).1 hu).1, fun u hu => ?_, fun u hu => ?_, fun u gu ur _ => (hd u).2 ⟨gu, ur⟩⟩
    · show G.rank (x.hd t.k.toNat / 2) < t.rk
      rw [hr]
      exact (h.rk _ _ hn).2
    · show t.rk ≤ G.ranks
      rw [hr]
      exact Int.le_refl _
    · have := (hd u).1 hu
      by_cases hle : G.rank u ≤ G.rank (x.hd t.k.toNat / 2)
      · exact .inr (.inr hle)
      · exact .inl (hg u this.1 (fun _ => by omega))
    · have hu : u ∈ t.met := hu
      rw [hm] at hu
      cases hu
/-- Every other step. -/
theorem wlk_go2 (hl : Lnk N nb S x G) (h : GbInv N nb bk G) (hN : N ≤ 4096) (m : MW) (t : TrP) (k0 : 0 ≤ t.k) (hs : m.st = 2) (hm : WlkI N bk G m t) : WlkGo N nb bk G t (wlkP S x m) := by
  obtain ⟨st, src, own, slot, pend, ended, code⟩ := m
  obtain ⟨ho, hc, he, g, lt, rks, hd, ha, hmt, cp⟩ := hm
  simp only at hs ho hc he g lt ha hmt
  subst hs ho hc he
  have hv := hl.lv _ g.1 g.2.1
  have hw := hl.w _ g.1 g.2.1
  have nx := h.nx _ _ g
  have dn := h.dn _ _ g
  have gp := fun u => h.gap t.k pend u g
  have mk := h.mrk _ _ g
  rw [hw] at nx dn gp mk
  have p0 : pend ≠ 0 := by have := g.1; omega
  have e : wlkP S x ⟨2, src, 4097 + t.k, slot, pend, false, 0⟩ = ((lookW ⟨2, src, 4097 + t.k, if S.word (atC S pend x.cell) % 2 == 1 then 0 else pend, pend, false, 0⟩ (S.word (atC S pend x.cell) / 2)).1, ⟨acc1 S, x⟩, (lookW ⟨2, src, 4097 + t.k, if S.word (atC S pend x.cell) % 2 == 1 then 0 else pend, pend, false, 0⟩ (S.word (atC S pend x.cell) / 2)).2) := by
    show (if liv S pend then _ else _) = _
    rw [if_pos hv]
  rw [e]
  clear e
  have K : ∀ z : Int, (z = 0 ∧ G.rem pend = 2 ∨ z = pend ∧ G.rem pend ≠ 2) → WlkGo N nb bk G t ((lookW ⟨2, src, 4097 + t.k, z, pend, false, 0⟩ (S.word (atC S pend x.cell) / 2)).1, ⟨acc1 S, x⟩, (lookW ⟨2, src, 4097 + t.k, z, pend, false, 0⟩ (S.word (atC S pend x.cell) / 2)).2) := by
    intro z hz
    have sl : z ≠ 0 → Gin N bk G t.k z ∧ z ∈ t.due ∧ G.rank z < t.rk ∧ ∀ u, u ∈ t.met → G.rank z < G.rank u := fun h0 => by
      rcases hz with hz | hz
      · exact absurd hz.1 h0
      · rw [hz.1]
        exact ⟨g, cp pend g hz.2 lt, lt, fun u hu => (hmt u hu).2⟩
    have inm : ∀ u, u ∈ t.met → u ∈ (if z = 0 then t.met else t.met ++ [z]) := fun u hu => by
      split
      · exact hu
      · exact List.mem_append_left _ hu
    have onm : ∀ u, u ∈ (if z = 0 then t.met else t.met ++ [z]) → u ∈ t.met ∨ u = pend := fun u hu => by
      split at hu
      · exact .inl hu
      · rename_i h0
        rcases List.mem_append.1 hu with h1 | h1
        · exact .inl h1
        · rcases hz with hz | hz
          · exact absurd hz.1 h0
          · exact .inr ((List.mem_singleton.1 h1).trans hz.1)
    have cov : ∀ u, u ∈ t.due → (∀ hl : G.rank u < G.rank pend, G.rem u = 2 ∨ Gin N bk G t.k (S.word (atC S pend x.cell) / 2) ∧ G.rank u ≤ G.rank (S.word (atC S pend x.cell) / 2)) := fun u hu hlt => by
      by_cases h5 : Gin N bk G t.k (S.word (atC S pend x.cell) / 2) ∧ G.rank u ≤ G.rank (S.word (atC S pend x.cell) / 2)
      · exact .inr h5
      · refine .inl (gp u (hd u hu) hlt (fun hi => ?_))
        by_cases h6 : G.rank u ≤ G.rank (S.word (atC S pend x.cell) / 2)
        · exact absurd ⟨hi, h6⟩ h5
        · omega
    have fin : ∀ u, u ∈ t.due → G.rem u = 2 ∨ u ∈ (if z = 0 then t.met else t.met ++ [z]) ∨ Gin N bk G t.k (S.word (atC S pend x.cell) / 2) ∧ G.rank u ≤ G.rank (S.word (atC S pend x.cell) / 2) := fun u hu => by
      rcases ha u hu with h1 | h1 | h1
      · exact .inl h1
      · exact .inr (.inl (inm u h1))
      · by_cases h2 : G.rank u < G.rank pend
        · exact (cov u hu h2).imp id .inr
        · have e : u = pend := h.inj t.k u pend (hd u hu) g (by omega)
          rcases hz with hz | hz
          · exact .inl (by rw [e]; exact hz.2)
          · refine .inr (.inl ?_)
            rw [if_neg (by rw [hz.1]; exact p0), hz.1, e]
            exact List.mem_append_right _ (List.mem_singleton.2 rfl)
    rcases lookW_ok hN ⟨2, src, 4097 + t.k, z, pend, false, 0⟩ t.k (S.word (atC S pend x.cell) / 2) k0 rfl nx with ⟨e2, hn⟩ | ⟨e2, hn⟩
    · rw [e2]
      refine ⟨hl.acc, rfl, ⟨fun _ => .inr rfl, fun _ => rfl⟩, sl, fun h => (by cases h), fun _ => ⟨rfl, fun u hu => ?_⟩⟩
      rcases fin u hu with h1 | h1 | h1
      · exact .inl h1
      · exact .inr h1
      · exact absurd h1.1 hn
    · rw [e2]
      refine ⟨hl.acc, rfl, ⟨fun h => .inl (of_decide_eq_true h), fun h => h.elim (fun h => decide_eq_true h) (fun h => (by cases h))⟩, sl, fun _ => ⟨rfl, ?_⟩, fun h => (by cases h)⟩
      refine ⟨rfl, rfl, rfl, hn, ?_, rks, hd, fun u hu => (fin u hu).imp id (fun h => h.imp id (fun h => h.2)), fun u hu => ?_, cp⟩
      · show G.rank (S.word (atC S pend x.cell) / 2) < t.rk
        have := dn hn
        omega
      · show Gin N bk G t.k u ∧ G.rank (S.word (atC S pend x.cell) / 2) < G.rank u
        have := dn hn
        rcases onm u hu with h1 | h1
        · have := hmt u h1
          exact ⟨this.1, by omega⟩
        · rw [h1]
          exact ⟨g, this⟩
  by_cases hb : (S.word (atC S pend x.cell) % 2 == 1) = true
  · rw [if_pos hb]
    exact K 0 (.inl ⟨rfl, mk.1 (eq_of_beq hb)⟩)
  · rw [if_neg hb]
    exact K pend (.inr ⟨rfl, fun h => hb (beq_iff_eq.2 (mk.2 h))⟩)
end
end Go.Proofs.YteekompojgbkhaaGreat
