import Derived.Test.YtdgkocgjihdbpaaWordsU
namespace Go.Proofs.Ytdgkocgjihdbpaa
open Go.ChangeShapes Go.WideShapes Go.ChangeAt Go.RowKit
set_option linter.unusedVariables false
set_option maxRecDepth 100000
set_option maxHeartbeats 1600000
/-- The book: it mirrors the arena's slots in use. row k: the block of the words that it keeps of slot k + 1. -/
structure Bk (w : World) (L : Lay) (S : AS) (B bB gH gN gW : Nat) (row : Nat → Nat) : Prop where
  p0 : w.cell? ⟨bB, 0, none⟩ = some (.slice (some ⟨gH, 0, none⟩) (S.n + 1) (S.n + 1))
  p1 : w.cell? ⟨bB, 1, none⟩ = some (.slice (some ⟨gN, 0, none⟩) (S.n + 1) (S.n + 1))
  p2 : w.cell? ⟨bB, 2, none⟩ = some (.slice (some ⟨gW, 0, none⟩) (S.n + 1) (S.n + 1))
  h : ∀ k, k < S.n → w.cell? ⟨gH, k + 1, none⟩ = some (.bool (S.use k))
  nm : ∀ k, k < S.n → ∃ s, w.cell? ⟨gN, k + 1, none⟩ = some (.string s) ∧ (S.use k = true → S.pay k = .string s)
  rw : ∀ k, k < S.n → ∃ v, w.cell? ⟨gW, k + 1, none⟩ = some v ∧ (S.use k = true → v = .slice (some ⟨row k, 0, none⟩) S.wd S.wd)
  rc : ∀ k, k < S.n → S.use k = true → ∀ c, c < S.wd → w.cell? ⟨row k, c, none⟩ = some (.int .u64 (S.word (k * S.wd + c)))
  fH : ∀ j, w.frozen? ⟨gH, j, none⟩ = false
  fN : ∀ j, w.frozen? ⟨gN, j, none⟩ = false
  fW : ∀ j, w.frozen? ⟨gW, j, none⟩ = false
  fR : ∀ k, k < S.n → S.use k = true → ∀ j, w.frozen? ⟨row k, j, none⟩ = false
  bH : bB ≠ gH
  bN : bB ≠ gN
  bW : bB ≠ gW
  HN : gH ≠ gN
  HW : gH ≠ gW
  NW : gN ≠ gW
  Rb : ∀ k, k < S.n → S.use k = true → row k ≠ bB ∧ row k ≠ gH ∧ row k ≠ gN ∧ row k ≠ gW
  Ri : ∀ k j, k < S.n → j < S.n → S.use k = true → S.use j = true → row k = row j → k = j
  Lb : ¬ L.has bB
  LH : ¬ L.has gH
  LN : ¬ L.has gN
  LW : ¬ L.has gW
  LR : ∀ k, k < S.n → S.use k = true → ¬ L.has (row k)
  sz : bB < w.heap.size ∧ gH < w.heap.size ∧ gN < w.heap.size ∧ gW < w.heap.size
  sR : ∀ k, k < S.n → S.use k = true → row k < w.heap.size
  lo : B ≤ bB ∧ B ≤ gH ∧ B ≤ gN ∧ B ≤ gW
  lR : ∀ k, k < S.n → S.use k = true → B ≤ row k
theorem Bk.sub {w : World} {L : Lay} {S S' : AS} {B bB gH gN gW : Nat} {row : Nat → Nat} (h : Bk w L S B bB gH gN gW row) (e1 : S'.n = S.n) (e2 : S'.wd = S.wd) (e3 : S'.use = S.use) (e4 : S'.pay = S.pay) (e5 : S'.word = S.word) : Bk w L S' B bB gH gN gW row := by
  obtain ⟨n, wd, g0, rc, lk, front, count, acc, miss, use, pay, turn, word, ring⟩ := S
  obtain ⟨n', wd', g0', rc', lk', front', count', acc', miss', use', pay', turn', word', ring'⟩ := S'
  simp only at e1 e2 e3 e4 e5
  subst e1 e2 e3 e4 e5
  exact ⟨h.p0, h.p1, h.p2, h.h, h.nm, h.rw, h.rc, h.fH, h.fN, h.fW, h.fR, h.bH, h.bN, h.bW, h.HN, h.HW, h.NW, h.Rb, h.Ri, h.Lb, h.LH, h.LN, h.LW, h.LR, h.sz, h.sR, h.lo, h.lR⟩
theorem Bk.move {w w' : World} {L : Lay} {S : AS} {B bB gH gN gW : Nat} {row : Nat → Nat} {P : Nat → Prop} (h : Bk w L S B bB gH gN gW row) (hk : Keeps P w w') (hP : ∀ k, k < w.heap.size → P k → L.has k) : Bk w' L S B bB gH gN gW row := by
  have cc : ∀ g, g < w.heap.size → ¬ L.has g → ∀ j, w'.cell? ⟨g, j, none⟩ = w.cell? ⟨g, j, none⟩ := fun g h1 h2 j => hk.cell (p := ⟨g, j, none⟩) h1 (fun e => h2 (hP g h1 e))
  have cf : ∀ g, g < w.heap.size → ¬ L.has g → ∀ j, w'.frozen? ⟨g, j, none⟩ = w.frozen? ⟨g, j, none⟩ := fun g h1 h2 j => hk.frozen (p := ⟨g, j, none⟩) h1 (fun e => h2 (hP g h1 e))
  obtain ⟨z1, z2, z3, z4⟩ := h.sz
  have hs := hk.size
  exact ⟨(cc _ z1 h.Lb _).trans h.p0, (cc _ z1 h.Lb _).trans h.p1, (cc _ z1 h.Lb _).trans h.p2, fun k hk => (cc _ z2 h.LH _).trans (h.h k hk), fun k hk => by rw [cc _ z3 h.LN]; exact h.nm k hk, fun k hk => by rw [cc _ z4 h.LW]; exact h.rw k hk, fun k hk hu c hc => (cc _ (h.sR k hk hu) (h.LR k hk hu) _).trans (h.rc k hk hu c hc), fun j => (cf _ z2 h.LH _).trans (h.fH j), fun j => (cf _ z3 h.LN _).trans (h.fN j), fun j => (cf _ z4 h.LW _).trans (h.fW j), fun k hk hu j => (cf _ (h.sR k hk hu) (h.LR k hk hu) _).trans (h.fR k hk hu j), h.bH, h.bN, h.bW, h.HN, h.HW, h.NW, h.Rb, h.Ri, h.Lb, h.LH, h.LN, h.LW, h.LR, ⟨by omega, by omega, by omega, by omega⟩, fun k hk hu => Nat.lt_of_lt_of_le (h.sR k hk hu) hs, h.lo, h.lR⟩
theorem ne_cell (w : World) (g j g' j' : Nat) (u : Value) (h : g' ≠ g ∨ j' ≠ j) : (w.setCell ⟨g, j, none⟩ u).cell? ⟨g', j', none⟩ = w.cell? ⟨g', j', none⟩ := World.cell?_setCell_other _ _ _ _ (fun e => h.elim (fun k => k (congrArg Addr.block e).symm) (fun k => k (congrArg Addr.off e).symm))
theorem idx_ne {wd k k' c j : Nat} (hc : c < wd) (hj : j < wd) (h : k' ≠ k ∨ c ≠ j) : k' * wd + c ≠ k * wd + j := by
  intro e
  have h1 : (k' * wd + c) / wd = k' := by rw [Nat.mul_comm, Nat.mul_add_div (by omega), Nat.div_eq_of_lt hc]; omega
  have h2 : (k * wd + j) / wd = k := by rw [Nat.mul_comm, Nat.mul_add_div (by omega), Nat.div_eq_of_lt hj]; omega
  have h3 : k' = k := by rw [← h1, ← h2, e]
  subst h3
  rcases h with h | h
  · exact h rfl
  · omega
/-- Free: the book's mark goes. -/
theorem Bk.free {w : World} {L : Lay} {S : AS} {B bB gH gN gW k : Nat} {row : Nat → Nat} (h : Bk w L S B bB gH gN gW row) (hk : k < S.n) : Bk (w.setCell ⟨gH, k + 1, none⟩ (.bool false)) L (S.free k) B bB gH gN gW row := by
  have hu : ∀ j, (S.free k).use j = true → j ≠ k ∧ S.use j = true := fun j hj => by
    have : upd S.use k false j = true := hj
    unfold upd at this
    split at this
    · cases this
    · exact ⟨by assumption, this⟩
  have hb := h.bH
  refine ⟨(ne_cell _ _ _ _ _ _ (Or.inl hb)).trans h.p0, (ne_cell _ _ _ _ _ _ (Or.inl hb)).trans h.p1, (ne_cell _ _ _ _ _ _ (Or.inl hb)).trans h.p2, fun j hj => ?_, fun j hj => ?_, fun j hj => ?_, fun j hj hju c hc => ?_, fun j => by simpa using h.fH j, fun j => by simpa using h.fN j, fun j => by simpa using h.fW j, fun j hj hju i => by simpa using h.fR j hj (hu j hju).2 i, h.bH, h.bN, h.bW, h.HN, h.HW, h.NW, fun j hj hju => h.Rb j hj (hu j hju).2, fun i j hi hj hiu hju => h.Ri i j hi hj (hu i hiu).2 (hu j hju).2, h.Lb, h.LH, h.LN, h.LW, fun j hj hju => h.LR j hj (hu j hju).2, by simpa using h.sz, fun j hj hju => by simpa using h.sR j hj (hu j hju).2, h.lo, fun j hj hju => h.lR j hj (hu j hju).2⟩
  · show _ = some (Value.bool (upd S.use k false j))
    unfold upd
    by_cases e : j = k
    · subst e
      rw [if_pos rfl]
      exact World.cell?_setCell_same _ _ _ (h.h j hj)
    · rw [if_neg e, ne_cell _ _ _ _ _ _ (Or.inr (by omega))]
      exact h.h j hj
  · obtain ⟨s, h1, h2⟩ := h.nm j hj
    refine ⟨s, (ne_cell _ _ _ _ _ _ (Or.inl h.HN.symm)).trans h1, fun hju => ?_⟩
    show upd S.pay k _ j = _
    unfold upd
    rw [if_neg (hu j hju).1]
    exact h2 (hu j hju).2
  · obtain ⟨v, h1, h2⟩ := h.rw j hj
    exact ⟨v, (ne_cell _ _ _ _ _ _ (Or.inl h.HW.symm)).trans h1, fun hju => h2 (hu j hju).2⟩
  · exact (ne_cell _ _ _ _ _ _ (Or.inl (h.Rb j hj (hu j hju).2).2.1)).trans (h.rc j hj (hu j hju).2 c hc)
/-- Store: a word of a row. -/
theorem Bk.store {w : World} {L : Lay} {S S' : AS} {B bB gH gN gW k j : Nat} {row : Nat → Nat} (h : Bk w L S B bB gH gN gW row) (hk : k < S.n) (hu : S.use k = true) (hj : j < S.wd) (y : Int) (e1 : S'.n = S.n) (e2 : S'.wd = S.wd) (e3 : S'.use = S.use) (e4 : S'.pay = S.pay) (e5 : S'.word = upd S.word (k * S.wd + j) y) : Bk (w.setCell ⟨row k, j, none⟩ (.int .u64 y)) L S' B bB gH gN gW row := by
  refine Bk.sub (S := { S with word := upd S.word (k * S.wd + j) y }) ?_ e1 e2 e3 e4 e5
  obtain ⟨r1, r2, r3, r4⟩ := h.Rb k hk hu
  refine ⟨(ne_cell _ _ _ _ _ _ (Or.inl r1.symm)).trans h.p0, (ne_cell _ _ _ _ _ _ (Or.inl r1.symm)).trans h.p1, (ne_cell _ _ _ _ _ _ (Or.inl r1.symm)).trans h.p2, fun i hi => (ne_cell _ _ _ _ _ _ (Or.inl r2.symm)).trans (h.h i hi), fun i hi => ?_, fun i hi => ?_, fun i hi hiu c hc => ?_, fun j => by simpa using h.fH j, fun j => by simpa using h.fN j, fun j => by simpa using h.fW j, fun j hj hju i => by simpa using h.fR j hj hju i, h.bH, h.bN, h.bW, h.HN, h.HW, h.NW, h.Rb, h.Ri, h.Lb, h.LH, h.LN, h.LW, h.LR, by simpa using h.sz, fun j hj hju => by simpa using h.sR j hj hju, h.lo, h.lR⟩
  · obtain ⟨s, h1, h2⟩ := h.nm i hi
    exact ⟨s, (ne_cell _ _ _ _ _ _ (Or.inl r3.symm)).trans h1, h2⟩
  · obtain ⟨v, h1, h2⟩ := h.rw i hi
    exact ⟨v, (ne_cell _ _ _ _ _ _ (Or.inl r4.symm)).trans h1, h2⟩
  · show _ = some (Value.int .u64 (upd S.word (k * S.wd + j) y (i * S.wd + c)))
    have hc' : c < S.wd := hc
    by_cases e : i = k ∧ c = j
    · obtain ⟨rfl, rfl⟩ := e
      rw [upd_same]
      exact World.cell?_setCell_same _ _ _ (h.rc i hi hu c hc)
    · have e' : i ≠ k ∨ c ≠ j := by
        by_cases e1 : i = k
        · exact Or.inr (fun e2 => e ⟨e1, e2⟩)
        · exact Or.inl e1
      rw [upd_other _ _ (idx_ne hc' hj e')]
      refine (ne_cell _ _ _ _ _ _ ?_).trans (h.rc i hi hiu c hc)
      rcases e' with e1 | e1
      · exact Or.inl (fun e2 => e1 (h.Ri i k hi hk hiu hu e2))
      · exact Or.inr e1
/-- Alloc: the book's marks, name and a new row. -/
theorem Bk.alloc {w w2 : World} {L : Lay} {S : AS} {B bB gH gN gW k g : Nat} {row : Nat → Nat} (h : Bk w L S B bB gH gN gW row) (hk : k < S.n) (hf : S.use k = false) (s : ByteArray) (val : Nat → Int)
    (hg : w.heap.size ≤ g) (hgL : ¬ L.has g) (hK : Keeps (fun k => k = gH ∨ k = gN) w w2) (hg2 : g < w2.heap.size) (cH : ∀ j, w2.cell? ⟨gH, j, none⟩ = (w.setCell ⟨gH, k + 1, none⟩ (.bool true)).cell? ⟨gH, j, none⟩) (cN : ∀ j, w2.cell? ⟨gN, j, none⟩ = (w.setCell ⟨gN, k + 1, none⟩ (.string s)).cell? ⟨gN, j, none⟩) (fH : ∀ j, w2.frozen? ⟨gH, j, none⟩ = false) (fN : ∀ j, w2.frozen? ⟨gN, j, none⟩ = false)
    (cg : ∀ c, c < S.wd → w2.cell? ⟨g, c, none⟩ = some (.int .u64 (val c))) (fg : ∀ j, w2.frozen? ⟨g, j, none⟩ = false) (hB : B ≤ w.heap.size) :
    Bk (w2.setCell ⟨gW, k + 1, none⟩ (.slice (some ⟨g, 0, none⟩) S.wd S.wd)) L (S.alloc k (.string s) val) B bB gH gN gW (upd row k g) := by
  obtain ⟨z1, z2, z3, z4⟩ := h.sz
  have hs := hK.size
  have nb : ∀ g', g' < w.heap.size → g' ≠ gH → g' ≠ gN → ∀ j, w2.cell? ⟨g', j, none⟩ = w.cell? ⟨g', j, none⟩ := fun g' h1 h2 h3 j => hK.cell (p := ⟨g', j, none⟩) h1 (fun e => e.elim h2 h3)
  have nf : ∀ g', g' < w.heap.size → g' ≠ gH → g' ≠ gN → ∀ j, w2.frozen? ⟨g', j, none⟩ = w.frozen? ⟨g', j, none⟩ := fun g' h1 h2 h3 j => hK.frozen (p := ⟨g', j, none⟩) h1 (fun e => e.elim h2 h3)
  have hu : ∀ j, j ≠ k → (S.alloc k (.string s) val).use j = true → S.use j = true := fun j e hj => by
    have : upd S.use k true j = true := hj
    unfold upd at this
    rw [if_neg e] at this
    exact this
  have rk : upd row k g k = g := upd_same _ _ _
  have ro : ∀ j, j ≠ k → upd row k g j = row j := fun j e => upd_other _ _ e
  refine ⟨?_, ?_, ?_, fun j hj => ?_, fun j hj => ?_, fun j hj => ?_, fun j hj hju c hc => ?_, fun j => by simpa using fH j, fun j => by simpa using fN j, fun j => ?_, fun j hj hju i => ?_, h.bH, h.bN, h.bW, h.HN, h.HW, h.NW, fun j hj hju => ?_, fun i j hi hj hiu hju e => ?_, h.Lb, h.LH, h.LN, h.LW, fun j hj hju => ?_, ?_, fun j hj hju => ?_, h.lo, fun j hj hju => ?_⟩
  · exact (ne_cell _ _ _ _ _ _ (Or.inl h.bW)).trans ((nb _ z1 h.bH h.bN _).trans h.p0)
  · exact (ne_cell _ _ _ _ _ _ (Or.inl h.bW)).trans ((nb _ z1 h.bH h.bN _).trans h.p1)
  · exact (ne_cell _ _ _ _ _ _ (Or.inl h.bW)).trans ((nb _ z1 h.bH h.bN _).trans h.p2)
  · show _ = some (Value.bool (upd S.use k true j))
    rw [ne_cell _ _ _ _ _ _ (Or.inl h.HW), cH]
    by_cases e : j = k
    · subst e
      rw [upd_same]
      exact World.cell?_setCell_same _ _ _ (h.h j hj)
    · rw [upd_other _ _ e, ne_cell _ _ _ _ _ _ (Or.inr (by omega))]
      exact h.h j hj
  · rw [ne_cell _ _ _ _ _ _ (Or.inl h.NW), cN]
    obtain ⟨s', h1, h2⟩ := h.nm j hj
    by_cases e : j = k
    · subst e
      exact ⟨s, World.cell?_setCell_same _ _ _ h1, fun _ => upd_same _ _ _⟩
    · refine ⟨s', (ne_cell _ _ _ _ _ _ (Or.inr (by omega))).trans h1, fun hju => ?_⟩
      exact (upd_other S.pay _ e).trans (h2 (hu j e hju))
  · obtain ⟨v, h1, h2⟩ := h.rw j hj
    by_cases e : j = k
    · subst e
      exact ⟨_, World.cell?_setCell_same _ _ _ ((nb _ z4 h.HW.symm h.NW.symm _).trans h1), fun _ => by rw [rk]; rfl⟩
    · refine ⟨v, (ne_cell _ _ _ _ _ _ (Or.inr (by omega))).trans ((nb _ z4 h.HW.symm h.NW.symm _).trans h1), fun hju => ?_⟩
      rw [ro j e]
      exact h2 (hu j e hju)
  · have hc' : c < S.wd := hc
    show _ = some (Value.int .u64 (layW S.word (k * S.wd) S.wd val (j * S.wd + c)))
    by_cases e : j = k
    · subst e
      rw [rk, ne_cell _ _ _ _ _ _ (Or.inl (by omega)), cg c hc']
      unfold layW
      rw [if_pos ⟨by omega, by omega⟩, Nat.add_sub_cancel_left]
    · have hju' := hu j e hju
      obtain ⟨r1, r2, r3, r4⟩ := h.Rb j hj hju'
      rw [ro j e, ne_cell _ _ _ _ _ _ (Or.inl r4), nb _ (h.sR j hj hju') r2 r3, h.rc j hj hju' c hc']
      unfold layW
      rw [if_neg]
      rintro ⟨i1, i2⟩
      have := idx_ne (wd := S.wd) (k := k) (k' := j) (c := c) (j := j * S.wd + c - k * S.wd) hc' (by omega) (Or.inl e)
      omega
  · have := (nf _ z4 h.HW.symm h.NW.symm j).trans (h.fW j)
    simpa using this
  · by_cases e : j = k
    · subst e
      rw [rk]
      simpa using fg i
    · have hju' := hu j e hju
      obtain ⟨r1, r2, r3, r4⟩ := h.Rb j hj hju'
      have := (nf _ (h.sR j hj hju') r2 r3 i).trans (h.fR j hj hju' i)
      rw [ro j e]
      simpa using this
  · by_cases e : j = k
    · subst e
      rw [rk]
      exact ⟨by omega, by omega, by omega, by omega⟩
    · rw [ro j e]
      exact h.Rb j hj (hu j e hju)
  · by_cases e1 : i = k
    · by_cases e2 : j = k
      · omega
      · subst e1
        rw [rk, ro j e2] at e
        have := h.sR j hj (hu j e2 hju)
        omega
    · by_cases e2 : j = k
      · subst e2
        rw [rk, ro i e1] at e
        have := h.sR i hi (hu i e1 hiu)
        omega
      · rw [ro i e1, ro j e2] at e
        exact h.Ri i j hi hj (hu i e1 hiu) (hu j e2 hju) e
  · by_cases e : j = k
    · subst e
      rw [rk]
      exact hgL
    · rw [ro j e]
      exact h.LR j hj (hu j e hju)
  · simp only [World.size_setCell]
    exact ⟨by omega, by omega, by omega, by omega⟩
  · simp only [World.size_setCell]
    by_cases e : j = k
    · subst e
      rw [rk]
      exact hg2
    · rw [ro j e]
      exact Nat.lt_of_lt_of_le (h.sR j hj (hu j e hju)) hs
  · by_cases e : j = k
    · subst e
      rw [rk]
      omega
    · rw [ro j e]
      exact h.lR j hj (hu j e hju)
end Go.Proofs.Ytdgkocgjihdbpaa
