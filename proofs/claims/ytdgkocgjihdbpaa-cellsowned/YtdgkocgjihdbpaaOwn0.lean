import Derived.BigQuiet
import Derived.Test.YtdgkocgjihdbpaaBook1
import Derived.Test.YtdgkocgjihdbpaaFifoLaw
namespace Go.Proofs.Ytdgkocgjihdbpaa
open Go.ChangeShapes Go.WideShapes Go.ChangeAt Go.RowKit
set_option linter.unusedVariables false
set_option maxRecDepth 100000
set_option maxHeartbeats 1600000
/-- All of it: the arena at rest, and the book. -/
structure OwS (B : Nat) (L : Lay) (bB gH gN gW n wd : Nat) (W : World) : Prop where
  ex : ∃ Q S row, S.n = n ∧ S.wd = wd ∧ Arn W L Q S ∧ Bk W L S B bB gH gN gW row
/-- The call that is looked at, in a variable of its own. -/
structure OpL (W : World) (L : Lay) (g : Nat) (c0 c1 c2 c3 c4 c5 c6 : Value) : Prop where
  h0 : W.cell? ⟨g, 0, none⟩ = some c0
  h1 : W.cell? ⟨g, 1, none⟩ = some c1
  h2 : W.cell? ⟨g, 2, none⟩ = some c2
  h3 : W.cell? ⟨g, 3, none⟩ = some c3
  h4 : W.cell? ⟨g, 4, none⟩ = some c4
  h5 : W.cell? ⟨g, 5, none⟩ = some c5
  h6 : W.cell? ⟨g, 6, none⟩ = some c6
  sz : g < W.heap.size
  nl : ¬ L.has g
theorem OpL.start {w : World} {L : Lay} {S : AS} (h : Holds w L S) (c0 c1 c2 c3 c4 c5 c6 : Value) (t : TypeId) : OpL (w.alloc (.cells #[c0, c1, c2, c3, c4, c5, c6] t)) L w.heap.size c0 c1 c2 c3 c4 c5 c6 := by
  have hg := heap_alloc_new w (.cells #[c0, c1, c2, c3, c4, c5, c6] t)
  exact ⟨(cell?_heap hg _).trans rfl, (cell?_heap hg _).trans rfl, (cell?_heap hg _).trans rfl, (cell?_heap hg _).trans rfl, (cell?_heap hg _).trans rfl, (cell?_heap hg _).trans rfl, (cell?_heap hg _).trans rfl, by simp, h.notNew (Nat.le_refl _)⟩
theorem OpL.keeps {W W' : World} {L : Lay} {g : Nat} {c0 c1 c2 c3 c4 c5 c6 : Value} {P : Nat → Prop} (h : OpL W L g c0 c1 c2 c3 c4 c5 c6) (hk : Keeps P W W') (hP : P g → L.has g) : OpL W' L g c0 c1 c2 c3 c4 c5 c6 := by
  have hn : ¬ P g := fun e => h.nl (hP e)
  have cc : ∀ j, W'.cell? ⟨g, j, none⟩ = W.cell? ⟨g, j, none⟩ := fun j => hk.cell (p := ⟨g, j, none⟩) h.sz hn
  exact ⟨(cc _).trans h.h0, (cc _).trans h.h1, (cc _).trans h.h2, (cc _).trans h.h3, (cc _).trans h.h4, (cc _).trans h.h5, (cc _).trans h.h6, Nat.lt_of_lt_of_le h.sz hk.size, h.nl⟩
theorem Keeps.drewN (B : Nat → Prop) (w : World) (n : Nat) : Keeps B w (w.drewN n) := ⟨rfl, rfl, rfl, Nat.le_refl _, fun _ _ _ => rfl⟩
/-- When a call of the script is looked at. -/
structure Pre (B : Nat) (L : Lay) (Q : List Nat) (S : AS) (bB gH gN gW : Nat) (row : Nat → Nat) (w : World) (g : Nat) (c0 c1 c2 c3 c4 c5 c6 : Value) (W : World) : Prop where
  ol : OpL W L g c0 c1 c2 c3 c4 c5 c6
  arn : Arn W L Q S
  bk : Bk W L S B bB gH gN gW row
  below : Below B w W
  hl : ∀ g, L.has g → B ≤ g
  gb : g ≠ bB ∧ g ≠ gH ∧ g ≠ gN ∧ g ≠ gW
  gr : ∀ x, x < S.n → S.use x = true → g ≠ row x
  hB : B ≤ w.heap.size
  gB : B ≤ g
  sg : g ≤ W.heap.size
theorem Pre.start {B : Nat} {L : Lay} {Q : List Nat} {S : AS} {bB gH gN gW : Nat} {row : Nat → Nat} {w : World} (hL : ∀ g, L.has g → B ≤ g) (hA : Arn w L Q S) (hK : Bk w L S B bB gH gN gW row) (c0 c1 c2 c3 c4 c5 c6 : Value) (t : TypeId) : Pre B L Q S bB gH gN gW row w w.heap.size c0 c1 c2 c3 c4 c5 c6 (w.alloc (.cells #[c0, c1, c2, c3, c4, c5, c6] t)) := by
  obtain ⟨z1, z2, z3, z4⟩ := hK.sz
  have hB : B ≤ w.heap.size := Nat.le_trans hK.lo.1 (Nat.le_of_lt z1)
  exact ⟨OpL.start hA.h c0 c1 c2 c3 c4 c5 c6 t, hA.keeps ((Keeps.refl (fun _ => False) w).alloc _) (fun _ _ e => e), hK.move ((Keeps.refl (fun _ => False) w).alloc _) (fun _ _ e => e.elim), (Below.refl B w).alloc hB _, hL, ⟨by omega, by omega, by omega, by omega⟩, fun x hx hu => by have := hK.sR x hx hu; omega, hB, hB, by simp⟩
theorem Pre.drewN {B : Nat} {L : Lay} {Q : List Nat} {S : AS} {bB gH gN gW : Nat} {row : Nat → Nat} {w : World} {g : Nat} {c0 c1 c2 c3 c4 c5 c6 : Value} {W : World} (h : Pre B L Q S bB gH gN gW row w g c0 c1 c2 c3 c4 c5 c6 W) (n : Nat) : Pre B L Q S bB gH gN gW row w g c0 c1 c2 c3 c4 c5 c6 (W.drewN n) :=
  ⟨h.ol.keeps (Keeps.drewN (fun _ => False) W n) (fun e => e.elim), h.arn.keeps (Keeps.drewN (fun _ => False) W n) (fun _ _ e => e), h.bk.move (Keeps.drewN (fun _ => False) W n) (fun _ _ e => e.elim), h.below.trans ((Keeps.drewN (fun _ => False) W n).below (Nat.le_trans h.hB h.below.size) (fun _ _ e => e)), h.hl, h.gb, h.gr, h.hB, h.gB, h.sg⟩
theorem Pre.grow {B : Nat} {L : Lay} {Q : List Nat} {S : AS} {bB gH gN gW : Nat} {row : Nat → Nat} {w : World} {g : Nat} {c0 c1 c2 c3 c4 c5 c6 : Value} {W W' : World} (h : Pre B L Q S bB gH gN gW row w g c0 c1 c2 c3 c4 c5 c6 W) (hb : Below W.heap.size W W') : Pre B L Q S bB gH gN gW row w g c0 c1 c2 c3 c4 c5 c6 W' :=
  ⟨h.ol.keeps (Below.keeps hb (fun _ => False)) (fun e => e.elim), h.arn.keeps (Below.keeps hb (fun _ => False)) (fun _ _ e => e), h.bk.move (Below.keeps hb (fun _ => False)) (fun _ _ e => e.elim), h.below.trans (hb.mono (Nat.le_trans h.hB h.below.size)), h.hl, h.gb, h.gr, h.hB, h.gB, Nat.le_trans h.sg hb.size⟩
/-- Behind the arena's answer. -/
structure Nx (B : Nat) (L : Lay) (S : AS) (bB gH gN gW : Nat) (row : Nat → Nat) (w : World) (g : Nat) (c0 c1 c2 c3 c4 c5 c6 : Value) (W : World) : Prop where
  ol : OpL W L g c0 c1 c2 c3 c4 c5 c6
  bk : Bk W L S B bB gH gN gW row
  below : Below B w W
  gr : ∀ x, x < S.n → S.use x = true → g ≠ row x
  gH : g ≠ gH
  gN : g ≠ gN
  gW : g ≠ gW
  bs : B ≤ W.heap.size
theorem Pre.next {B : Nat} {L : Lay} {Q : List Nat} {S : AS} {bB gH gN gW : Nat} {row : Nat → Nat} {w : World} {g : Nat} {c0 c1 c2 c3 c4 c5 c6 : Value} {W w1 : World} (h : Pre B L Q S bB gH gN gW row w g c0 c1 c2 c3 c4 c5 c6 W) (k : Keeps L.has W w1) : Nx B L S bB gH gN gW row w g c0 c1 c2 c3 c4 c5 c6 w1 := by
  have k0 : Keeps L.has W w1 := k
  exact ⟨h.ol.keeps k0 (fun e => e), h.bk.move k0 (fun k _ e => e), h.below.trans (k0.below (Nat.le_trans h.hB h.below.size) (fun k hk e => by have := h.hl k e; omega)), h.gr, h.gb.2.1, h.gb.2.2.1, h.gb.2.2.2, Nat.le_trans (Nat.le_trans h.hB h.below.size) k.size⟩
theorem Nx.drewN {B : Nat} {L : Lay} {S : AS} {bB gH gN gW : Nat} {row : Nat → Nat} {w : World} {g : Nat} {c0 c1 c2 c3 c4 c5 c6 : Value} {W : World} (h : Nx B L S bB gH gN gW row w g c0 c1 c2 c3 c4 c5 c6 W) (n : Nat) : Nx B L S bB gH gN gW row w g c0 c1 c2 c3 c4 c5 c6 (W.drewN n) :=
  ⟨h.ol.keeps (Keeps.drewN (fun _ => False) W n) (fun e => e.elim), h.bk.move (Keeps.drewN (fun _ => False) W n) (fun _ _ e => e.elim), h.below.trans ((Keeps.drewN (fun _ => False) W n).below h.bs (fun _ _ e => e)), h.gr, h.gH, h.gN, h.gW, h.bs⟩
def PostF (F : Option Addr → Nat → Act) (R : Option Addr → Nat → World → Prop) : Exit → Act → World → Prop
  | .normal, A, W' => ∃ sp cap, A = F sp cap ∧ R sp cap W'
  | _, _, _ => False
theorem wp_some {P : Program} {c : Code} {Q : Exit → Act → World → Prop} {a : Act} {w : World} {R : Option Addr → Nat → World → Prop} (h : ∃ F, c.wp P (PostF F R) a w ∧ ∀ sp cap W', R sp cap W' → Q .normal (F sp cap) W') : c.wp P Q a w := by
  obtain ⟨F, h1, h2⟩ := h
  refine Code.wp_mono ?_ h1
  intro e b w' h
  cases e <;> first | exact h.elim | (obtain ⟨sp, cap, rfl, hr⟩ := h; exact h2 sp cap w' hr)
def RowP (w' : World) (g bB gW r x j off n wd : Nat) (val : Int) : Prop := w'.cell? ⟨g, 1, none⟩ = some (.int .i64 ((x : Int) + 1)) ∧ w'.cell? ⟨g, 2, none⟩ = some (.int .i64 (j : Int)) ∧ w'.cell? ⟨g, off, none⟩ = some (.int .u64 val) ∧ w'.cell? ⟨bB, 2, none⟩ = some (.slice (some ⟨gW, 0, none⟩) (n + 1) (n + 1)) ∧ w'.cell? ⟨gW, x + 1, none⟩ = some (.slice (some ⟨r, 0, none⟩) wd wd) ∧ w'.cell? ⟨r, j, none⟩ = some (.int .u64 (vAt w' ⟨r, j, none⟩)) ∧ w'.frozen? ⟨r, j, none⟩ = false
theorem RowP.put {w' : World} {g bB gW r x j off n wd : Nat} {val : Int} (n1 : g ≠ r) (n2 : bB ≠ r) (n3 : gW ≠ r) (h : RowP w' g bB gW r x j off n wd val) (z : Int) : RowP (w'.setCell ⟨r, j, none⟩ (.int .u64 z)) g bB gW r x j off n wd val := by
  obtain ⟨h1, h2, h3, h4, h5, h6, h7⟩ := h
  exact ⟨(ne_cell _ _ _ _ _ _ (Or.inl n1)).trans h1, (ne_cell _ _ _ _ _ _ (Or.inl n1)).trans h2, (ne_cell _ _ _ _ _ _ (Or.inl n1)).trans h3, (ne_cell _ _ _ _ _ _ (Or.inl n2)).trans h4, (ne_cell _ _ _ _ _ _ (Or.inl n3)).trans h5, vAt_of (World.cell?_setCell_same _ _ _ h6), by simpa using h7⟩
/-- Behind the book's mark and name. -/
structure A4 (w2 : World) (gH gN k : Nat) (p : ByteArray) (w4 : World) : Prop where
  kp : Keeps (fun k => k = gH ∨ k = gN) w2 w4
  cH : ∀ j, w4.cell? ⟨gH, j, none⟩ = (w2.setCell ⟨gH, k + 1, none⟩ (.bool true)).cell? ⟨gH, j, none⟩
  cN : ∀ j, w4.cell? ⟨gN, j, none⟩ = (w2.setCell ⟨gN, k + 1, none⟩ (.string p)).cell? ⟨gN, j, none⟩
  fH : ∀ j, w4.frozen? ⟨gH, j, none⟩ = false
  fN : ∀ j, w4.frozen? ⟨gN, j, none⟩ = false
  lt : gH < w2.heap.size ∧ gN < w2.heap.size
theorem A4.start {w2 : World} {L : Lay} {S : AS} {B bB gH gN gW : Nat} {row : Nat → Nat} (h : Bk w2 L S B bB gH gN gW row) (k : Nat) (hk : k < S.n) (p : ByteArray) : A4 w2 gH gN k p ((w2.setCell ⟨gH, k + 1, none⟩ (.bool true)).setCell ⟨gN, k + 1, none⟩ (.string p)).drew := by
  refine ⟨(((Keeps.refl (fun k => k = gH ∨ k = gN) w2).setCell (p := ⟨gH, k + 1, none⟩) (Or.inl rfl) _).setCell (p := ⟨gN, k + 1, none⟩) (Or.inr rfl) _).drew, fun j => ne_cell _ _ _ _ _ _ (Or.inl h.HN), fun j => ?_, fun j => ?_, fun j => ?_, h.sz.2.1, h.sz.2.2.1⟩
  · by_cases e : j = k + 1
    · subst e
      show ((w2.setCell ⟨gH, k + 1, none⟩ (.bool true)).setCell ⟨gN, k + 1, none⟩ (.string p)).cell? ⟨gN, k + 1, none⟩ = _
      obtain ⟨u, hc, _⟩ := h.nm k hk
      rw [World.cell?_setCell_same _ _ _ ((ne_cell _ _ _ _ _ _ (Or.inl h.HN.symm)).trans hc), World.cell?_setCell_same _ _ _ hc]
    · show ((w2.setCell ⟨gH, k + 1, none⟩ (.bool true)).setCell ⟨gN, k + 1, none⟩ (.string p)).cell? ⟨gN, j, none⟩ = _
      rw [ne_cell _ _ _ _ _ _ (Or.inr e), ne_cell _ _ _ _ _ _ (Or.inl h.HN.symm), ne_cell _ _ _ _ _ _ (Or.inr e)]
  · have := h.fH j; simpa using this
  · have := h.fN j; simpa using this
theorem A4.keeps {w2 w4 w5 : World} {gH gN k : Nat} {p : ByteArray} (h : A4 w2 gH gN k p w4) {P : Nat → Prop} (hk : Keeps P w4 w5) (hP : ∀ k, P k → w2.heap.size ≤ k) : A4 w2 gH gN k p w5 := by
  have hs := h.kp.size
  have n1 : ¬ P gH := fun e => by have := hP _ e; have := h.lt.1; omega
  have n2 : ¬ P gN := fun e => by have := hP _ e; have := h.lt.2; omega
  refine ⟨⟨hk.os.trans h.kp.os, hk.tape.trans h.kp.tape, hk.output.trans h.kp.output, Nat.le_trans hs hk.size, fun k' h1 h2 => (hk.block k' (Nat.lt_of_lt_of_le h1 hs) (fun e => by have := hP _ e; omega)).trans (h.kp.block k' h1 h2)⟩, fun j => (hk.cell (p := ⟨gH, j, none⟩) (Nat.lt_of_lt_of_le h.lt.1 hs) n1).trans (h.cH j), fun j => (hk.cell (p := ⟨gN, j, none⟩) (Nat.lt_of_lt_of_le h.lt.2 hs) n2).trans (h.cN j), fun j => (hk.frozen (p := ⟨gH, j, none⟩) (Nat.lt_of_lt_of_le h.lt.1 hs) n1).trans (h.fH j), fun j => (hk.frozen (p := ⟨gN, j, none⟩) (Nat.lt_of_lt_of_le h.lt.2 hs) n2).trans (h.fN j), h.lt⟩
/-- The book's new row: t words are copied. -/
structure CopyS (w2 : World) (gH gN k : Nat) (p : ByteArray) (ws : List Int) (wd g5 t : Nat) (wr : World) : Prop where
  a4 : A4 w2 gH gN k p wr
  g0 : w2.heap.size ≤ g5
  g1 : g5 < wr.heap.size
  lo : ∀ i, i < t → wr.cell? ⟨g5, i, none⟩ = some (.int .u64 (ws.getD i 0))
  hi : ∀ i, t ≤ i → i < wd → wr.cell? ⟨g5, i, none⟩ = some (.int .u64 0)
  fz : ∀ i, wr.frozen? ⟨g5, i, none⟩ = false
theorem CopyS.start {w2 w4 : World} {gH gN k : Nat} {p : ByteArray} (h : A4 w2 gH gN k p w4) (ws : List Int) (wd : Nat) : CopyS w2 gH gN k p ws wd w4.heap.size 0 (w4.alloc (.cells (madeCells #[.int .u64 0] wd) 50)) := by
  have hg := heap_alloc_new w4 (.cells (madeCells #[.int .u64 0] wd) 50)
  refine ⟨h.keeps ((Keeps.refl (fun _ => False) w4).alloc _) (fun _ e => e.elim), h.kp.size, by simp, fun i hi => by omega, fun i _ hi => ?_, fun i => frozen?_heap hg i⟩
  rw [cell?_heap hg, getElem?_made _ _ _ hi]
  simp [Nat.mod_one]
theorem CopyS.put {w2 wr : World} {gH gN k : Nat} {p : ByteArray} {ws : List Int} {wd g5 t : Nat} (h : CopyS w2 gH gN k p ws wd g5 t wr) (ht : t < ws.length) (hw : t < wd) : CopyS w2 gH gN k p ws wd g5 (t + 1) (wr.setCell ⟨g5, t, none⟩ (.int .u64 ws[t])) := by
  refine ⟨h.a4.keeps ((Keeps.refl (fun k => k = g5) wr).setCell (p := ⟨g5, t, none⟩) rfl _) (fun k e => by have := h.g0; omega), h.g0, by simpa using h.g1, fun i hi => ?_, fun i hi hd => ?_, fun i => by simpa using h.fz i⟩
  · by_cases e : i = t
    · subst e
      rw [World.cell?_setCell_same _ _ _ (h.hi i (Nat.le_refl _) hw)]
      simp [List.getD, List.getElem?_eq_getElem ht]
    · rw [ne_cell _ _ _ _ _ _ (Or.inr e)]
      exact h.lo i (by omega)
  · rw [ne_cell _ _ _ _ _ _ (Or.inr (by omega))]
    exact h.hi i (by omega) hd
end Go.Proofs.Ytdgkocgjihdbpaa
