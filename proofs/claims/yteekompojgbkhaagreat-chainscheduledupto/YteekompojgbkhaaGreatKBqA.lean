import Derived.Test.YteekompojgbkhaaGreatKRcA
namespace Go.Proofs.YteekompojgbkhaaGreat
open Go.ChangeShapes Go.WideShapes Go.ChangeAt Go.RowKit Go.MuLone Go.RwLone
set_option linter.unusedVariables false
theorem rok6 (x : XS) (m : MR) (h : 6 ≤ m.st) : remOk x m := ⟨fun _ e => absurd e (by omega), fun e => absurd e (by omega), fun e => absurd e (by omega)⟩
theorem rokB (x : XS) (m : MR) (hb : inB x m.bu = true) (h2 : ¬ m.st = 2) (h5 : ¬ m.st = 5) : remOk x m := ⟨fun _ _ => hb, fun e => absurd e h2, fun e => absurd e h5⟩
theorem mv_ok (x : XS) (m : MR) (n : Int) (hb : inB x m.bu = true) : remOk x (mvR m n).2 := by
  by_cases h : 4096 < n
  · have e : mvR m n = (true, { m with st := 6, co := 0 }) := if_pos h
    rw [e]
    exact rok6 _ _ (Nat.le_refl 6)
  · have e : mvR m n = (false, { m with pr := n, st := 4 }) := if_neg h
    rw [e]
    exact rokB _ _ hb (show ¬ 4 = 2 by decide) (show ¬ 4 = 5 by decide)
def RKeep (S : AS) (x : XS) (p : Bool × CS × MR) : Prop := WdOk p.2.1.S p.2.1.x ∧ remOk p.2.1.x p.2.2 ∧ Same S x p.2.1
theorem own_keep (S : AS) (x : XS) (m : MR) (h : WdOk S x) (hb : inB x m.bu = true) : RKeep S x (ownR S x m) := by
  unfold ownR
  by_cases hl : liv S m.sl = true
  · rw [if_pos hl]
    by_cases hz : S.word (atC S m.sl x.cell) = 0
    · rw [if_pos hz]
      exact ⟨h.acc, rok6 _ _ (Nat.le_refl 6), rfl, rfl, rfl, rfl, rfl⟩
    · rw [if_neg hz]
      by_cases hm : (S.word (atC S m.sl x.cell) % 2 == 1) = true
      · rw [if_pos hm]
        exact ⟨h.acc, rokB _ _ hb (show ¬ 3 = 2 by decide) (show ¬ 3 = 5 by decide), rfl, rfl, rfl, rfl, rfl⟩
      · rw [if_neg hm]
        exact ⟨h.acc, ⟨fun _ _ => hb, fun _ => h.1 _, fun e => absurd e (show ¬ 2 = 5 by decide)⟩, rfl, rfl, rfl, rfl, rfl⟩
  · rw [if_neg hl]
    exact ⟨h.mis, rok6 _ _ (Nat.le_refl 6), rfl, rfl, rfl, rfl, rfl⟩
theorem ah_keep (S : AS) (x : XS) (bu ah u y : Int) (h : WdOk S x) (hy : LkOk y) : WdOk (ahR S x bu ah u y).2.2.S (ahR S x bu ah u y).2.2.x ∧ Same S x (ahR S x bu ah u y).2.2 := by
  unfold ahR
  by_cases ha : ah = 0
  · rw [if_pos ha]
    by_cases hu : x.hd bu.toNat = u
    · rw [if_pos hu]
      exact ⟨h.head hy, rfl, rfl, rfl, rfl, rfl⟩
    · rw [if_neg hu]
      exact ⟨h.cn, rfl, rfl, rfl, rfl, rfl⟩
  · rw [if_neg ha]
    by_cases hl : liv S ah = true
    · rw [if_pos hl]
      by_cases hu : S.word (atC S ah x.cell) = u
      · rw [if_pos hu]
        exact ⟨h.put hy, rfl, rfl, rfl, rfl, rfl⟩
      · rw [if_neg hu]
        exact ⟨h.acc, rfl, rfl, rfl, rfl, rfl⟩
    · rw [if_neg hl]
      exact ⟨h.mis, rfl, rfl, rfl, rfl, rfl⟩
theorem inB_same {S : AS} {x : XS} {c : CS} (h : Same S x c) (b : Int) : inB c.x b = inB x b := by
  unfold inB
  rw [h.2.2.2.2]
theorem unl_keep (S : AS) (x : XS) (m : MR) (q : Bool × Int × CS) (hb : inB x m.bu = true) (h : WdOk q.2.2.S q.2.2.x ∧ Same S x q.2.2) : RKeep S x (unlR m q) := by
  have hb2 : inB q.2.2.x m.bu = true := (inB_same h.2 m.bu).trans hb
  unfold unlR
  by_cases h0 : q.2.1 = 0
  · rw [if_pos h0]
    by_cases h1 : q.1 = true
    · rw [if_pos h1]
      by_cases h2 : m.pr = m.sl
      · rw [if_pos h2]
        exact ⟨h.1, rok6 _ _ (Nat.le_refl 6), h.2⟩
      · rw [if_neg h2]
        exact ⟨h.1, mv_ok _ _ _ hb2, h.2⟩
    · rw [if_neg h1]
      exact ⟨h.1, rokB _ _ hb2 (show ¬ 3 = 2 by decide) (show ¬ 3 = 5 by decide), h.2⟩
  · rw [if_neg h0]
    exact ⟨h.1, rok6 _ _ (Nat.le_refl 6), h.2⟩
theorem rem_keep (S : AS) (x : XS) (m : MR) (h : WdOk S x) (hn : S.n ≤ 4096) (ho : remOk x m) : RKeep S x (remP S x m) := by
  obtain ⟨st, co, bu, sl, wd, ah, pr, be, ma, he⟩ := m
  match st with
  | 0 =>
    by_cases hb : inB x bu = true
    · have e : remP S x ⟨0, co, bu, sl, wd, ah, pr, be, ma, he⟩ = ownR S x ⟨0, co, bu, sl, wd, ah, pr, be, ma, he⟩ := if_pos hb
      rw [e]
      exact own_keep S x _ h hb
    · have e : remP S x ⟨0, co, bu, sl, wd, ah, pr, be, ma, he⟩ = (true, ⟨S, x⟩, ⟨6, 40, bu, sl, wd, ah, pr, be, ma, he⟩) := if_neg hb
      rw [e]
      exact ⟨h, rok6 _ _ (Nat.le_refl 6), rfl, rfl, rfl, rfl, rfl⟩
  | 1 => exact own_keep S x _ h (ho.1 (show 1 ≤ 1 by decide) (show 1 ≤ 5 by decide))
  | 2 =>
    have hb := ho.1 (show 1 ≤ 2 by decide) (show 2 ≤ 5 by decide)
    have hw : LkOk wd := ho.2.1 rfl
    by_cases hl : liv S sl = true
    · by_cases hu : S.word (atC S sl x.cell) = wd
      · have e : remP S x ⟨2, co, bu, sl, wd, ah, pr, be, ma, he⟩ = (false, ⟨put1 S (atC S sl x.cell) (2 * (wd / 2) + 1), x⟩, ⟨3, co, bu, sl, wd, ah, pr, be, true, he⟩) := (if_pos hl).trans (if_pos hu)
        rw [e]
        exact ⟨h.put ⟨by have := hw.1; omega, by have := hw.2; omega⟩, rokB _ _ hb (show ¬ 3 = 2 by decide) (show ¬ 3 = 5 by decide), rfl, rfl, rfl, rfl, rfl⟩
      · have e : remP S x ⟨2, co, bu, sl, wd, ah, pr, be, ma, he⟩ = (false, ⟨acc1 S, x⟩, ⟨1, co, bu, sl, wd, ah, pr, be, ma, he⟩) := (if_pos hl).trans (if_neg hu)
        rw [e]
        exact ⟨h.acc, rokB _ _ hb (show ¬ 1 = 2 by decide) (show ¬ 1 = 5 by decide), rfl, rfl, rfl, rfl, rfl⟩
    · have e : remP S x ⟨2, co, bu, sl, wd, ah, pr, be, ma, he⟩ = (true, ⟨mis1 S, x⟩, ⟨6, 22, bu, sl, wd, ah, pr, be, ma, he⟩) := if_neg hl
      rw [e]
      exact ⟨h.mis, rok6 _ _ (Nat.le_refl 6), rfl, rfl, rfl, rfl, rfl⟩
  | 3 =>
    have hb := ho.1 (show 1 ≤ 3 by decide) (show 3 ≤ 5 by decide)
    exact ⟨h.cn, mv_ok _ _ _ hb, rfl, rfl, rfl, rfl, rfl⟩
  | 4 =>
    have hb := ho.1 (show 1 ≤ 4 by decide) (show 4 ≤ 5 by decide)
    by_cases hl : liv S pr = true
    · by_cases hz : S.word (atC S pr x.cell) / 2 = 0
      · have e : remP S x ⟨4, co, bu, sl, wd, ah, pr, be, ma, he⟩ = (true, ⟨acc1 S, x⟩, ⟨6, 42, bu, sl, wd, ah, pr, be, ma, he⟩) := (if_pos hl).trans (if_pos hz)
        rw [e]
        exact ⟨h.acc, rok6 _ _ (Nat.le_refl 6), rfl, rfl, rfl, rfl, rfl⟩
      · by_cases hm : (S.word (atC S pr x.cell) % 2 == 1) = true
        · have e : remP S x ⟨4, co, bu, sl, wd, ah, pr, be, ma, he⟩ = (false, ⟨acc1 S, x⟩, ⟨5, co, bu, sl, wd, ah, pr, S.word (atC S pr x.cell) / 2, ma, he⟩) := ((if_pos hl).trans (if_neg hz)).trans (if_pos hm)
          rw [e]
          have l1 := liv_le hl hn
          have l2 := h.1 (atC S pr x.cell)
          exact ⟨h.acc, ⟨fun _ _ => hb, fun e => absurd e (show ¬ 5 = 2 by decide), fun _ => ⟨⟨by show 0 ≤ pr; omega, by show pr ≤ 2147483647; omega⟩, ⟨by show 0 ≤ S.word (atC S pr x.cell) / 2; have := l2.1; omega, by show S.word (atC S pr x.cell) / 2 ≤ 2147483647; have := l2.2; omega⟩⟩⟩, rfl, rfl, rfl, rfl, rfl⟩
        · have e : remP S x ⟨4, co, bu, sl, wd, ah, pr, be, ma, he⟩ = ((mvR ⟨4, co, bu, sl, wd, pr, pr, be, ma, he⟩ (S.word (atC S pr x.cell) / 2)).1, ⟨acc1 S, x⟩, (mvR ⟨4, co, bu, sl, wd, pr, pr, be, ma, he⟩ (S.word (atC S pr x.cell) / 2)).2) := ((if_pos hl).trans (if_neg hz)).trans (if_neg hm)
          rw [e]
          exact ⟨h.acc, mv_ok _ _ _ hb, rfl, rfl, rfl, rfl, rfl⟩
    · have e : remP S x ⟨4, co, bu, sl, wd, ah, pr, be, ma, he⟩ = (true, ⟨mis1 S, x⟩, ⟨6, 22, bu, sl, wd, ah, pr, be, ma, he⟩) := if_neg hl
      rw [e]
      exact ⟨h.mis, rok6 _ _ (Nat.le_refl 6), rfl, rfl, rfl, rfl, rfl⟩
  | 5 =>
    have hb := ho.1 (show 1 ≤ 5 by decide) (show 5 ≤ 5 by decide)
    have hq : (0 ≤ pr ∧ pr ≤ 2147483647) ∧ (0 ≤ be ∧ be ≤ 2147483647) := ho.2.2 rfl
    exact unl_keep S x _ _ hb (ah_keep S x bu ah (2 * pr) (2 * be) h ⟨by omega, by omega⟩)
  | n + 6 => exact ⟨h, ho, rfl, rfl, rfl, rfl, rfl⟩
end Go.Proofs.YteekompojgbkhaaGreat

namespace Go.Proofs.YteekompojgbkhaaGreat
open Go.ChangeShapes Go.WideShapes Go.ChangeAt Go.RowKit Go.MuLone Go.RwLone
set_option linter.unusedVariables false
set_option linter.unusedSectionVars false
/-- A marked list and the book that is kept of it: the slots' words, the buckets' heads, what has become of each slot (Insert: 0 none, 1 begun, 2 done; Remove: 0 none, 1 begun, 2 marked), how many Inserts were done ahead of its own, how many are done. -/
structure Gb where
  W : Int → Int
  H : Int → Int
  ins : Int → Int
  rem : Int → Int
  rank : Int → Int
  ranks : Int
def updI (f : Int → Int) (i : Int) (x : Int) : Int → Int := fun j => if j = i then x else f j
theorem updI_at (f : Int → Int) (i x : Int) : updI f i x i = x := if_pos rfl
theorem updI_ne (f : Int → Int) {i j : Int} (x : Int) (h : j ≠ i) : updI f i x j = f j := if_neg h
section
variable (N nb : Int) (bk : Int → Int)
/-- A slot of bucket b whose Insert is done. -/
def Gin (G : Gb) (b s : Int) : Prop := 1 ≤ s ∧ s ≤ N ∧ G.ins s = 2 ∧ bk s = b
/-- What a link of bucket b may name: the bucket's end, or a slot of hers. -/
def Gto (G : Gb) (b n : Int) : Prop := n = 4097 + b ∨ Gin N bk G b n
/-- u lies behind what a link names: the link goes over it. -/
def Gov (G : Gb) (b n u : Int) : Prop := Gin N bk G b n → G.rank n < G.rank u
structure GbInv (G : Gb) : Prop where
  nx : ∀ b s, Gin N bk G b s → Gto N bk G b (G.W s / 2)
  dn : ∀ b s, Gin N bk G b s → Gin N bk G b (G.W s / 2) → G.rank (G.W s / 2) < G.rank s
  mrk : ∀ b s, Gin N bk G b s → (G.W s % 2 = 1 ↔ G.rem s = 2)
  hx : ∀ b, 0 ≤ b → b < nb → Gto N bk G b (G.H b / 2) ∧ G.H b % 2 = 0
  gap : ∀ b s u, Gin N bk G b s → Gin N bk G b u → G.rank u < G.rank s → Gov N bk G b (G.W s / 2) u → G.rem u = 2
  hgap : ∀ b u, 0 ≤ b → b < nb → Gin N bk G b u → Gov N bk G b (G.H b / 2) u → G.rem u = 2
  rk : ∀ b s, Gin N bk G b s → 0 ≤ G.rank s ∧ G.rank s < G.ranks
  inj : ∀ b s t, Gin N bk G b s → Gin N bk G b t → G.rank s = G.rank t → s = t
  w0 : ∀ s, 1 ≤ s → s ≤ N → G.ins s = 0 → G.W s = 0
  rm : ∀ s, G.ins s ≠ 2 → G.rem s ≠ 2
  r0 : 0 ≤ G.ranks
/-- What stays whatever a machine does. -/
structure GbLe (G G' : Gb) : Prop where
  ins : ∀ s, G.ins s = 2 → G'.ins s = 2 ∧ G'.rank s = G.rank s
  one : ∀ s, G.ins s = 1 → G'.ins s = 1 ∨ G'.ins s = 2
  rem : ∀ s, G.rem s = 2 → G'.rem s = 2
  rks : G.ranks ≤ G'.ranks
  frz : ∀ s, G.ins s = 2 → G.W s % 2 = 1 → G'.W s = G.W s
  new : ∀ s, G.ins s ≠ 2 → G'.ins s = 2 → G.ranks ≤ G'.rank s
variable {N nb bk}
variable {G G' : Gb}
theorem Gin.le {b s : Int} (h : Gin N bk G b s) (k : GbLe G G') : Gin N bk G' b s ∧ G'.rank s = G.rank s := ⟨⟨h.1, h.2.1, (k.ins s h.2.2.1).1, h.2.2.2⟩, (k.ins s h.2.2.1).2⟩
theorem GbLe.refl (G : Gb) : GbLe G G := ⟨fun s h => ⟨h, rfl⟩, fun s h => .inl h, fun s h => h, Int.le_refl _, fun s _ _ => rfl, fun s h h' => absurd h' h⟩
theorem Gin.pos {b s : Int} (h : Gin N bk G b s) : 1 ≤ s := h.1
/-- A slot that no link of this bucket's slots names. -/
theorem Gto.end_or {b n : Int} (h : Gto N bk G b n) (hN : N ≤ 4096) (hb : 0 ≤ b) : (4096 < n → n = 4097 + b ∧ ¬ Gin N bk G b n) ∧ (¬ 4096 < n → Gin N bk G b n) ∧ n ≠ 0 := by
  have e : 4096 < n → ¬ Gin N bk G b n := fun h1 h2 => by have := h2.2.1; omega
  refine ⟨fun h1 => ⟨?_, e h1⟩, fun h1 => ?_, ?_⟩
  · exact h.resolve_right (e h1)
  · rcases h with h | h
    · omega
    · exact h
  · rintro rfl
    rcases h with h | h
    · omega
    · have := h.1
      omega
/-- Insert: the slot's word is stored ahead of its being linked. -/
theorem GbInv.store (h : GbInv N nb bk G) (s y : Int) (hs : G.ins s = 1) : GbInv N nb bk { G with W := updI G.W s y } ∧ GbLe G { G with W := updI G.W s y } := by
  have ne : ∀ b t, Gin N bk G b t → t ≠ s := fun b t ht e => by have := ht.2.2.1; rw [e, hs] at this; omega
  have W : ∀ b t, Gin N bk G b t → updI G.W s y t = G.W t := fun b t ht => updI_ne _ _ (ne b t ht)
  refine ⟨⟨fun b t ht => ?_, fun b t ht => ?_, fun b t ht => ?_, h.hx, fun b t u ht => ?_, h.hgap, h.rk, h.inj, fun t h1 h2 h3 => ?_, h.rm, h.r0⟩, ⟨fun t ht => ⟨ht, rfl⟩, fun t ht => .inl ht, fun t ht => ht, Int.le_refl _, fun t h1 h2 => ?_, fun t h1 h2 => absurd h2 h1⟩⟩
  · show Gto N bk G b (updI G.W s y t / 2)
    rw [W b t ht]
    exact h.nx b t ht
  · show Gin N bk G b (updI G.W s y t / 2) → G.rank (updI G.W s y t / 2) < G.rank t
    rw [W b t ht]
    exact h.dn b t ht
  · show updI G.W s y t % 2 = 1 ↔ _
    rw [W b t ht]
    exact h.mrk b t ht
  · show Gin N bk G b u → G.rank u < G.rank t → Gov N bk G b (updI G.W s y t / 2) u → G.rem u = 2
    rw [W b t ht]
    exact h.gap b t u ht
  · have h3 : G.ins t = 0 := h3
    have e : t ≠ s := fun e => by rw [e, hs] at h3; omega
    exact (updI_ne _ _ e).trans (h.w0 t h1 h2 h3)
  · have e : t ≠ s := fun e => by rw [e, hs] at h1; omega
    exact updI_ne _ _ e
/-- Remove: a slot is marked. -/
theorem GbInv.mark (h : GbInv N nb bk G) (b s : Int) (hs : Gin N bk G b s) : GbInv N nb bk { G with W := updI G.W s (2 * (G.W s / 2) + 1), rem := updI G.rem s 2 } ∧ (G.W s % 2 = 0 → GbLe G { G with W := updI G.W s (2 * (G.W s / 2) + 1), rem := updI G.rem s 2 }) := by
  have W : ∀ t, updI G.W s (2 * (G.W s / 2) + 1) t / 2 = G.W t / 2 := fun t => by
    by_cases e : t = s
    · rw [e, updI_at]
      omega
    · rw [updI_ne _ _ e]
  have R : ∀ u, G.rem u = 2 → updI G.rem s 2 u = 2 := fun u hu => by
    by_cases e : u = s
    · rw [e, updI_at]
    · rw [updI_ne _ _ e]
      exact hu
  refine ⟨⟨fun c t ht => ?_, fun c t ht => ?_, fun c t ht => ?_, h.hx, fun c t u ht hu h1 h2 => ?_, fun c u h1 h2 hu h3 => R u (h.hgap c u h1 h2 hu h3), h.rk, h.inj, fun t h1 h2 h3 => ?_, fun t ht => ?_, h.r0⟩, fun h0 => ⟨fun t ht => ⟨ht, rfl⟩, fun t ht => .inl ht, R, Int.le_refl _, fun t h1 h2 => ?_, fun t h1 h2 => absurd h2 h1⟩⟩
  · show Gto N bk G c (_ / 2)
    rw [W]
    exact h.nx c t ht
  · show Gin N bk G c (_ / 2) → G.rank (_ / 2) < G.rank t
    rw [W]
    exact h.dn c t ht
  · show updI G.W s _ t % 2 = 1 ↔ updI G.rem s 2 t = 2
    by_cases e : t = s
    · rw [e, updI_at, updI_at]
      constructor
      · intro _
        rfl
      · intro _
        omega
    · rw [updI_ne _ _ e, updI_ne _ _ e]
      exact h.mrk c t ht
  · have h2 : Gov N bk G c (updI G.W s (2 * (G.W s / 2) + 1) t / 2) u := h2
    rw [W] at h2
    exact R u (h.gap c t u ht hu h1 h2)
  · have h3 : G.ins t = 0 := h3
    have e : t ≠ s := fun e => by have := hs.2.2.1; rw [e, this] at h3; omega
    exact (updI_ne _ _ e).trans (h.w0 t h1 h2 h3)
  · have ht : G.ins t ≠ 2 := ht
    have e : t ≠ s := fun e => ht (by rw [e]; exact hs.2.2.1)
    show updI G.rem s 2 t ≠ 2
    rw [updI_ne _ _ e]
    exact h.rm t ht
  · have e : t ≠ s := fun e => by rw [e, h0] at h2; omega
    exact updI_ne _ _ e
/-- What lies behind a marked slot's next lies behind the slot, or is marked. -/
theorem GbInv.over (h : GbInv N nb bk G) {b p u : Int} (hp : Gin N bk G b p) (hm : G.W p % 2 = 1) (hu : Gin N bk G b u) (ho : Gov N bk G b (G.W p / 2) u) : G.rem u = 2 ∨ Gov N bk G b p u := by
  by_cases h1 : G.rank u < G.rank p
  · exact .inl (h.gap b p u hp hu h1 ho)
  · by_cases h2 : G.rank u = G.rank p
    · rw [h.inj b u p hu hp h2]
      exact .inl ((h.mrk b p hp).1 hm)
    · exact .inr fun _ => by omega
/-- Remove: a marked slot p is unlinked from the head. -/
theorem GbInv.unhead (h : GbInv N nb bk G) (b p : Int) (h0 : 0 ≤ b) (h1 : b < nb) (hp : Gin N bk G b p) (hm : G.W p % 2 = 1) (hw : G.H b = 2 * p) : GbInv N nb bk { G with H := updI G.H b (2 * (G.W p / 2)) } ∧ GbLe G { G with H := updI G.H b (2 * (G.W p / 2)) } := by
  refine ⟨⟨h.nx, h.dn, h.mrk, fun c h2 h3 => ?_, h.gap, fun c u h2 h3 hu ho => ?_, h.rk, h.inj, h.w0, h.rm, h.r0⟩, ⟨fun t ht => ⟨ht, rfl⟩, fun t ht => .inl ht, fun t ht => ht, Int.le_refl _, fun t _ _ => rfl, fun t h1 h2 => absurd h2 h1⟩⟩
  · show Gto N bk G c (updI G.H b _ c / 2) ∧ updI G.H b _ c % 2 = 0
    by_cases e : c = b
    · rw [e, updI_at, show 2 * (G.W p / 2) / 2 = G.W p / 2 from by omega]
      exact ⟨h.nx b p hp, by omega⟩
    · rw [updI_ne _ _ e]
      exact h.hx c h2 h3
  · have hu : Gin N bk G c u := hu
    have ho : Gov N bk G c (updI G.H b (2 * (G.W p / 2)) c / 2) u := ho
    by_cases e : c = b
    · rw [e] at hu ho
      rw [updI_at, show 2 * (G.W p / 2) / 2 = G.W p / 2 from by omega] at ho
      rcases h.over hp hm hu ho with h4 | h4
      · exact h4
      · exact h.hgap b u h0 h1 hu (by rw [hw, show 2 * p / 2 = p from by omega]; exact h4)
    · rw [updI_ne _ _ e] at ho
      exact h.hgap c u h2 h3 hu ho
/-- Remove: a marked slot p is unlinked from a slot that is not marked. -/
theorem GbInv.unlink (h : GbInv N nb bk G) (b a p : Int) (ha : Gin N bk G b a) (hp : Gin N bk G b p) (hm : G.W p % 2 = 1) (hw : G.W a = 2 * p) : GbInv N nb bk { G with W := updI G.W a (2 * (G.W p / 2)) } ∧ GbLe G { G with W := updI G.W a (2 * (G.W p / 2)) } := by
  have ea : G.W a / 2 = p := by omega
  have ey : 2 * (G.W p / 2) / 2 = G.W p / 2 := by omega
  have dp : G.rank p < G.rank a := by
    have := h.dn b a ha (by rw [ea]; exact hp)
    rw [ea] at this
    exact this
  have bb : ∀ c, Gin N bk G c a → c = b := fun c hc => by rw [← hc.2.2.2, ← ha.2.2.2]
  refine ⟨⟨fun c t ht => ?_, fun c t ht h2 => ?_, fun c t ht => ?_, h.hx, fun c t u ht hu h2 ho => ?_, h.hgap, h.rk, h.inj, fun t h1 h2 h3 => ?_, h.rm, h.r0⟩, ⟨fun t ht => ⟨ht, rfl⟩, fun t ht => .inl ht, fun t ht => ht, Int.le_refl _, fun t h1 h2 => ?_, fun t h1 h2 => absurd h2 h1⟩⟩
  · show Gto N bk G c (updI G.W a _ t / 2)
    have ht : Gin N bk G c t := ht
    by_cases e : t = a
    · rw [e] at ht ⊢
      rw [updI_at, ey, bb c ht]
      exact h.nx b p hp
    · rw [updI_ne _ _ e]
      exact h.nx c t ht
  · show G.rank (updI G.W a _ t / 2) < G.rank t
    have ht : Gin N bk G c t := ht
    have h2 : Gin N bk G c (updI G.W a (2 * (G.W p / 2)) t / 2) := h2
    by_cases e : t = a
    · rw [e] at ht h2 ⊢
      rw [updI_at, ey] at h2 ⊢
      rw [bb c ht] at h2
      have := h.dn b p hp h2
      omega
    · rw [updI_ne _ _ e] at h2 ⊢
      exact h.dn c t ht h2
  · show updI G.W a _ t % 2 = 1 ↔ _
    have ht : Gin N bk G c t := ht
    by_cases e : t = a
    · rw [e] at ht ⊢
      have := h.mrk c a ht
      rw [updI_at]
      constructor
      · intro h5
        omega
      · intro h5
        have := this.2 h5
        omega
    · rw [updI_ne _ _ e]
      exact h.mrk c t ht
  · have ht : Gin N bk G c t := ht
    have hu : Gin N bk G c u := hu
    have h2 : G.rank u < G.rank t := h2
    have ho : Gov N bk G c (updI G.W a (2 * (G.W p / 2)) t / 2) u := ho
    by_cases e : t = a
    · rw [e] at ht h2 ho
      rw [updI_at, ey] at ho
      rw [bb c ht] at hu ho
      rcases h.over hp hm hu ho with h4 | h4
      · exact h4
      · exact h.gap b a u ha hu h2 (by rw [ea]; exact h4)
    · rw [updI_ne _ _ e] at ho
      exact h.gap c t u ht hu h2 ho
  · have h3 : G.ins t = 0 := h3
    have e : t ≠ a := fun e => by have := ha.2.2.1; rw [e, this] at h3; omega
    exact (updI_ne _ _ e).trans (h.w0 t h1 h2 h3)
  · have e : t ≠ a := fun e => by rw [e, hw] at h2; omega
    exact updI_ne _ _ e
end
end Go.Proofs.YteekompojgbkhaaGreat
