import Derived.Test.YteekompojgbkhaaGreatKReA
import Derived.Test.YteekompojgbkhaaGreatKChI
namespace Go.Proofs.YteekompojgbkhaaGreat
open Go.ChangeShapes Go.WideShapes Go.ChangeAt Go.RowKit Go.MuLone Go.RwLone
set_option linter.unusedVariables false
theorem hideG {P : Prop} (h : Hid P) : P := h.out
abbrev OwI (w : World) (B : Nat) (v : Value) (xs : List Int) : Prop := OwG inZ 3 1 w B v xs
def wdC (x : Int) : List Value := [.int .u64 x]
abbrev OwW (w : World) (B : Nat) (v : Value) (xs : List Int) : Prop := OwG wdC 104 1 w B v xs
def blC (x : Bool) : List Value := [.bool x]
abbrev OwB (w : World) (B : Nat) (v : Value) (xs : List Bool) : Prop := OwG blC 4 1 w B v xs
theorem inZ_one (x : Int) : ∀ u ∈ inZ x, u.oneCell' = true := by intro u hu; simp [inZ] at hu; subst hu; rfl
theorem infoZ : (Tryz.prog.info? 3).map (fun i => (i.zero, i.size, i.bytes)) = some (some (.int .i64 0), 1, 8) := by kernel_rfl
theorem flat_inZ (xs : List Int) : xs.flatMap inZ = xs.map (Value.int .i64) := by
  induction xs with
  | nil => rfl
  | cons x xs ih => rw [List.map_cons, List.flatMap_cons, ih]; rfl
/-- A row of single cells, read. -/
theorem ow_at {α : Type} {f : α → Value} {cs : α → List Value} (hf : ∀ xs : List α, xs.flatMap cs = xs.map f) {e : TypeId} {w : World} {B g n cap : Nat} {xs : List α} (h : OwG cs e 1 w B (.slice (some ⟨g, 0, none⟩) n cap) xs) (j : Nat) (hj : j < xs.length) : w.cell? ⟨g, j, none⟩ = some (f xs[j]) := by
  have hn := (owG_cap h).1
  subst hn
  exact (World.ownsRow.cellAt h j (by omega)).trans (by rw [hf, List.getElem?_map, List.getElem?_eq_getElem hj]; rfl)
/-- The slots that are met from number n on, f at most, and which of them are marked. -/
def rowL (S : AS) (c : Nat) : Nat → Int → List (Int × Bool)
  | 0, _ => []
  | f + 1, n => if liv S n = true then (n, S.word (atC S n c) % 2 == 1) :: rowL S c f (S.word (atC S n c) / 2) else []
theorem rowL_yes {S : AS} {c f : Nat} {n : Int} (h : liv S n = true) : rowL S c (f + 1) n = (n, S.word (atC S n c) % 2 == 1) :: rowL S c f (S.word (atC S n c) / 2) := if_pos h
theorem rowL_no {S : AS} {c f : Nat} {n : Int} (h : liv S n = false) : rowL S c f n = [] := by
  cases f with
  | zero => rfl
  | succ f => exact if_neg (by rw [h]; decide)
def rowX (S : AS) (x : XS) (b : Nat) : List (Int × Bool) := rowL S x.cell 4096 (x.hd b / 2)
/-- Those of them that are not marked. -/
def pickL (l : List (Int × Bool)) : List Int := (l.filter (fun p => !p.2)).map (fun p => p.1)
theorem pickL_app (l : List (Int × Bool)) (n : Int) (m : Bool) : pickL (l ++ [(n, m)]) = if m then pickL l else pickL l ++ [n] := by
  unfold pickL
  rw [List.filter_append, List.map_append]
  cases m <;> simp
theorem pickL_len (l : List (Int × Bool)) : (pickL l).length ≤ l.length := by
  unfold pickL
  rw [List.length_map]
  exact List.length_filter_le _ _
theorem eta_gr (S : AS) (h0 : S.g0 = 0) (h : S.rc = 0) : { S with g0 := 0, rc := 0 } = S := by cases S; simp only at h0 h; subst h0; subst h; rfl
theorem arn_peek_no (L : Lay) (S : AS) (w : World) (Q : List Nat) (x : Int) (h : Arn w L Q S) (hx : liv S x = false) : Calls Tryz.prog 83 #[.pointer (some ⟨L.b, 0, none⟩), .int .i64 x] w fun e w' => e = .returned (.tuple #[.slice none 0 0, .int .i64 22]) ∧ Arn w' L Q S ∧ Keeps L.has w w' := by
  refine (peek_no L S w x h.h h.g0 h.rc (liv_no hx)).mono ?_
  rintro e w' ⟨rfl, h2, k2⟩
  rw [eta_gr S h.g0 h.rc] at h2
  exact ⟨rfl, h.same h2 rfl rfl rfl rfl rfl rfl rfl rfl, k2⟩
/-- The words of a slot in a row just made. -/
structure PkW (w : World) (S : AS) (x : Int) (g : Nat) (W : World) : Prop where
  g0 : w.heap.size ≤ g
  g1 : g < W.heap.size
  wd : ∀ j, j < S.wd → W.cell? ⟨g, j, none⟩ = some (.int .u64 (S.word (atC S x j)))
theorem arn_peek (L : Lay) (S : AS) (w : World) (Q : List Nat) (x : Int) (h : Arn w L Q S) (hx : liv S x = true) : Calls Tryz.prog 83 #[.pointer (some ⟨L.b, 0, none⟩), .int .i64 x] w fun e w' => ∃ g, e = .returned (.tuple #[.slice (some ⟨g, 0, none⟩) S.wd S.wd, .int .i64 0]) ∧ (Arn w' L Q S ∧ Keeps L.has w w') ∧ PkW w S x g w' := by
  obtain ⟨k, hk, rfl, hu⟩ := liv_yes hx
  refine (peek_ok L S w k h.h h.g0 h.rc hk hu).mono ?_
  rintro e w' ⟨g, rfl, hp⟩
  have h2 := hp.h
  rw [eta_gr S h.g0 h.rc] at h2
  refine ⟨g, rfl, ⟨h.same h2 rfl rfl rfl rfl rfl rfl rfl rfl, hp.kp⟩, hp.g0, hp.g1, fun j hj => ?_⟩
  rw [atC_of]
  exact hp.lo j hj
end Go.Proofs.YteekompojgbkhaaGreat

namespace Go.Proofs.YteekompojgbkhaaGreat
open Go.ChangeShapes Go.WideShapes Go.ChangeAt Go.RowKit Go.MuLone Go.RwLone
set_option linter.unusedVariables false
set_option linter.unusedSectionVars false
/-- The ranks given so far are those of as many slots. -/
def RkOk (N : Int) (G : Gb) : Prop := ∃ l : List Int, l.Nodup ∧ (l.length : Int) = G.ranks ∧ ∀ s, s ∈ l → 1 ≤ s ∧ s ≤ N ∧ G.ins s = 2
theorem nd_len : ∀ (n : Nat) (l : List Int), l.Nodup → (∀ s, s ∈ l → 1 ≤ s ∧ s ≤ (n : Int)) → l.length ≤ n
  | 0, [], _, _ => Nat.le_refl _
  | 0, a :: l, _, h => absurd (h a List.mem_cons_self) (by omega)
  | n + 1, l, hn, h => by
    by_cases hm : ((n : Int) + 1) ∈ l
    · have h1 := nd_len n (l.erase ((n : Int) + 1)) (hn.erase _) (fun s hs => by
        have h2 := h s (List.mem_of_mem_erase hs)
        have h3 : s ≠ (n : Int) + 1 := fun e => by
          rw [e] at hs
          exact (List.Nodup.not_mem_erase hn) hs
        omega)
      rw [List.length_erase_of_mem hm] at h1
      omega
    · have h1 := nd_len n l hn (fun s hs => by
        have h2 := h s hs
        have h3 : s ≠ (n : Int) + 1 := fun e => hm (by rw [← e]; exact hs)
        omega)
      omega
section
variable {N nb : Int} {bk : Int → Int} {S : AS} {x : XS} {G G' : Gb} {rows : Int → List Int}
theorem RkOk.most (h : RkOk N G) (h0 : 0 ≤ N) : G.ranks ≤ N := by
  obtain ⟨l, h1, h2, h3⟩ := h
  have := nd_len N.toNat l h1 (fun s hs => by have := h3 s hs; omega)
  omega
theorem RkOk.push (h : RkOk N G) (b s : Int) (h1 : 1 ≤ s) (h2 : s ≤ N) (hs : G.ins s = 1) : RkOk N (G.push b s) := by
  obtain ⟨l, h3, h4, h5⟩ := h
  have ns : ∀ t, t ∈ l → t ≠ s := fun t ht e => by have := (h5 t ht).2.2; rw [e, hs] at this; omega
  refine ⟨s :: l, List.nodup_cons.2 ⟨fun h => ns s h rfl, h3⟩, ?_, fun t ht => ?_⟩
  · show ((l.length + 1 : Nat) : Int) = G.ranks + 1
    omega
  · rcases List.mem_cons.1 ht with e | e
    · rw [e]
      exact ⟨h1, h2, updI_at _ _ _⟩
    · exact ⟨(h5 t e).1, (h5 t e).2.1, (updI_ne _ _ (ns t e)).trans (h5 t e).2.2⟩
theorem RkOk.bsm (h : RkOk N G) (k : Bsm G G') : RkOk N G' := by
  obtain ⟨l, h3, h4, h5⟩ := h
  exact ⟨l, h3, by rw [k.2.2.1]; exact h4, by rw [k.1]; exact h5⟩
theorem gin_bsm (k : Bsm G G') (b u : Int) : Gin N bk G' b u ↔ Gin N bk G b u := by
  unfold Gin
  rw [k.1]
theorem RwOk.bsm (h : RwOk N nb bk G rows) (k : Bsm G G') (hr : G'.rem = G.rem) : RwOk N nb bk G' rows := fun b b0 b1 => ⟨fun u => by rw [gin_bsm k, hr]; exact (h b b0 b1).1 u, by rw [k.2.1]; exact (h b b0 b1).2⟩
/-- A slot is marked: it comes off the book's list. -/
theorem RwOk.mark (h : RwOk N nb bk G rows) (k : Bsm G G') (b s : Int) (g : Gin N bk G b s) (hr : G'.rem = updI G.rem s 2) : RwOk N nb bk G' (fun c => if c = b then (rows b).filter (fun u => !(u == s)) else rows c) := by
  intro c c0 c1
  have h1 := h c c0 c1
  rw [k.2.1, hr]
  by_cases e : c = b
  · subst e
    simp only [if_pos]
    refine ⟨fun u => ?_, h1.2.sublist List.filter_sublist⟩
    rw [List.mem_filter, h1.1 u, gin_bsm k]
    by_cases eu : u = s
    · rw [eu, updI_at]
      simp
    · rw [updI_ne _ _ eu]
      simp [eu]
  · simp only [if_neg e]
    refine ⟨fun u => ?_, h1.2⟩
    rw [h1.1 u, gin_bsm k]
    constructor
    · rintro ⟨h2, h3⟩
      have eu : u ≠ s := fun eu => e (by rw [← h2.2.2.2, eu]; exact g.2.2.2)
      rw [updI_ne _ _ eu]
      exact ⟨h2, h3⟩
    · rintro ⟨h2, h3⟩
      have eu : u ≠ s := fun eu => e (by rw [← h2.2.2.2, eu]; exact g.2.2.2)
      rw [updI_ne _ _ eu] at h3
      exact ⟨h2, h3⟩
/-- An Insert is linked: it stands in front. -/
theorem RwOk.push (h : RwOk N nb bk G rows) (hi : GbInv N nb bk G) (s : Int) (h1 : 1 ≤ s) (h2 : s ≤ N) (hs : G.ins s = 1) : RwOk N nb bk (G.push (bk s) s) (fun c => if c = bk s then s :: rows (bk s) else rows c) := by
  intro c c0 c1
  have h3 := h c c0 c1
  have rs : G.rem s ≠ 2 := hi.rm s (by rw [hs]; decide)
  have ne : ∀ {c t : Int}, Gin N bk G c t → t ≠ s := fun {c t} ht e => by have := ht.2.2.1; rw [e, hs] at this; omega
  have pw : (rows c).Pairwise (fun u v => (G.push (bk s) s).rank v < (G.push (bk s) s).rank u) := h3.2.imp_of_mem (fun {u v} hu hv hlt => by
    rw [push_rank _ (ne ((h3.1 u).1 hu).1), push_rank _ (ne ((h3.1 v).1 hv).1)]
    exact hlt)
  have old : ∀ u, u ≠ s → (Gin N bk (G.push (bk s) s) c u ↔ Gin N bk G c u) := fun u eu => ⟨fun h => gin_push _ h eu, fun h => push_gin _ h⟩
  by_cases e : c = bk s
  · subst e
    simp only [if_pos]
    refine ⟨fun u => ?_, List.pairwise_cons.2 ⟨fun u hu => ?_, pw⟩⟩
    · rw [List.mem_cons]
      by_cases eu : u = s
      · rw [eu]
        exact ⟨fun _ => ⟨⟨h1, h2, updI_at _ _ _, rfl⟩, rs⟩, fun _ => .inl rfl⟩
      · rw [old u eu, h3.1 u]
        exact ⟨fun h => h.resolve_left eu, fun h => .inr h⟩
    · have g := ((h3.1 u).1 hu).1
      rw [push_rank_at, push_rank _ (ne g)]
      exact (hi.rk _ _ g).2
  · simp only [if_neg e]
    refine ⟨fun u => ?_, pw⟩
    by_cases eu : u = s
    · rw [h3.1 u, eu]
      exact ⟨fun h => absurd rfl (ne h.1), fun h => absurd h.1.2.2.2.symm e⟩
    · rw [h3.1 u, old u eu]
      exact Iff.rfl
theorem pickL_cons (n : Int) (m : Bool) (l : List (Int × Bool)) : pickL ((n, m) :: l) = if m = true then pickL l else n :: pickL l := by
  unfold pickL
  cases m <;> simp
/-- What List gives from a link on. -/
theorem rowL_go (hl : Lnk N nb S x G) (h : GbInv N nb bk G) (hN : N ≤ 4096) (k : Int) (k0 : 0 ≤ k) : ∀ (f : Nat) (n : Int), Gto N bk G k n → (Gin N bk G k n → G.rank n < (f : Int)) → (∀ u, u ∈ pickL (rowL S x.cell f n) ↔ (Gin N bk G k u ∧ G.rem u ≠ 2) ∧ Gin N bk G k n ∧ G.rank u ≤ G.rank n) ∧ (pickL (rowL S x.cell f n)).Pairwise (fun u v => G.rank v < G.rank u)
  | 0, n, hn, hf => by
    have e : ¬ Gin N bk G k n := fun g => by
      have := hf g
      have := (h.rk _ _ g).1
      omega
    refine ⟨fun u => ⟨fun hu => ?_, fun hu => absurd hu.2.1 e⟩, List.Pairwise.nil⟩
    cases hu
  | f + 1, n, hn, hf => by
    rcases hn with hn | hn
    · have e : ¬ Gin N bk G k n := fun g => by have := g.2.1; omega
      have hv : liv S n = false := by
        unfold liv
        rw [decide_eq_false (p := n ≤ (S.n : Int)) (by have := hl.n; omega)]
        simp
      rw [rowL_no hv]
      refine ⟨fun u => ⟨fun hu => ?_, fun hu => absurd hu.2.1 e⟩, List.Pairwise.nil⟩
      cases hu
    · have hw := hl.w _ hn.1 hn.2.1
      have nx := h.nx _ _ hn
      have dn := h.dn _ _ hn
      have gp := fun u => h.gap k n u hn
      have mk := h.mrk _ _ hn
      rw [hw] at nx dn gp mk
      rw [rowL_yes (hl.lv _ hn.1 hn.2.1), pickL_cons]
      have ih := rowL_go hl h hN k k0 f (S.word (atC S n x.cell) / 2) nx (fun g => by
        have := dn g
        have := hf hn
        omega)
      have low : ∀ u, u ∈ pickL (rowL S x.cell f (S.word (atC S n x.cell) / 2)) → G.rank u < G.rank n := fun u hu => by
        have := (ih.1 u).1 hu
        have := dn this.2.1
        omega
      have tl : ∀ u, Gin N bk G k u → G.rem u ≠ 2 → G.rank u < G.rank n → u ∈ pickL (rowL S x.cell f (S.word (atC S n x.cell) / 2)) := fun u gu ur hu => by
        by_cases h5 : Gin N bk G k (S.word (atC S n x.cell) / 2) ∧ G.rank u ≤ G.rank (S.word (atC S n x.cell) / 2)
        · exact (ih.1 u).2 ⟨⟨gu, ur⟩, h5⟩
        · refine absurd (gp u gu hu (fun hi => ?_)) ur
          by_cases h6 : G.rank u ≤ G.rank (S.word (atC S n x.cell) / 2)
          · exact absurd ⟨hi, h6⟩ h5
          · omega
      by_cases hb : (S.word (atC S n x.cell) % 2 == 1) = true
      · rw [if_pos hb]
        have hr := mk.1 (eq_of_beq hb)
        refine ⟨fun u => ⟨fun hu => ?_, fun hu => ?_⟩, ih.2⟩
        · exact ⟨((ih.1 u).1 hu).1, hn, Int.le_of_lt (low u hu)⟩
        · refine tl u hu.1.1 hu.1.2 ?_
          by_cases h5 : G.rank u = G.rank n
          · exact absurd (by rw [h.inj k u n hu.1.1 hn h5]; exact hr) hu.1.2
          · have := hu.2.2
            omega
      · rw [if_neg hb]
        have hr : G.rem n ≠ 2 := fun e => hb (beq_iff_eq.2 (mk.2 e))
        refine ⟨fun u => ?_, List.pairwise_cons.2 ⟨low, ih.2⟩⟩
        rw [List.mem_cons]
        constructor
        · rintro (e | hu)
          · rw [e]
            exact ⟨⟨hn, hr⟩, hn, Int.le_refl _⟩
          · exact ⟨((ih.1 u).1 hu).1, hn, Int.le_of_lt (low u hu)⟩
        · intro hu
          by_cases h5 : G.rank u = G.rank n
          · exact .inl (h.inj k u n hu.1.1 hn h5)
          · refine .inr (tl u hu.1.1 hu.1.2 ?_)
            have := hu.2.2
            omega
/-- P4.9, first: List is what the book has. -/
theorem list_rows (hl : Lnk N nb S x G) (h : GbInv N nb bk G) (hr : RwOk N nb bk G rows) (hk : RkOk N G) (h0 : 0 ≤ N) (hN : N ≤ 4096) (k : Nat) (k1 : (k : Int) < nb) : pickL (rowX S x k) = rows k := by
  have k0 : 0 ≤ (k : Int) := by omega
  have hx := (h.hx k k0 k1).1
  have hg := fun u => h.hgap k u k0 k1
  have e : G.H k = x.hd k := hl.h k k0 k1
  rw [e] at hx hg
  have hm := hk.most h0
  have g := rowL_go hl h hN k k0 4096 (x.hd k / 2) hx (fun g => by
    have := (h.rk _ _ g).2
    show G.rank (x.hd k / 2) < 4096
    omega)
  refine pair_uniq G.rank _ _ g.2 (hr k k0 k1).2 (fun u => ?_)
  rw [(hr k k0 k1).1 u]
  refine (g.1 u).trans ⟨fun h => h.1, fun hu => ⟨hu, ?_⟩⟩
  by_cases h5 : Gin N bk G k (x.hd k / 2) ∧ G.rank u ≤ G.rank (x.hd k / 2)
  · exact h5
  · refine absurd (hg u hu.1 (fun hi => ?_)) hu.2
    by_cases h6 : G.rank u ≤ G.rank (x.hd k / 2)
    · exact absurd ⟨hi, h6⟩ h5
    · omega
end
end Go.Proofs.YteekompojgbkhaaGreat
