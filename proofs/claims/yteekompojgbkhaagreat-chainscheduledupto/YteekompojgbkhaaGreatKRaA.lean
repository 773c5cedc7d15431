import Derived.Test.YteekompojgbkhaaGreatKHfE
import Derived.Test.YteekompojgbkhaaGreatKRowE
namespace Go.Proofs.YteekompojgbkhaaGreat
open Go.ChangeShapes Go.WideShapes Go.ChangeAt Go.RowKit Go.MuLone Go.RwLone
set_option linter.unusedVariables false
set_option linter.unusedSectionVars false
section
variable {M : Mc} {P : Nat → Hp × M.σ → Prop}
/-- What a step keeps, of the steps left and of harness and machines. -/
def StepInv (M : Mc) (P : Nat → Hp × M.σ → Prop) : Prop := ∀ l a i y t, P (l + 1) a → a.1.q[i]? = some (y :: t) → P l (stepP M a i).1
theorem run_inv (hs : StepInv M P) (x : Int) : ∀ (left : Nat) (n : Int) (a : Hp × M.σ), P left a → P (runP M x left n a).2.1 (runP M x left n a).2.2
  | 0, n, a, h => by
    unfold runP
    split <;> exact h
  | l + 1, n, a, h => by
    unfold runP
    by_cases hc : n ≤ 0 ∨ pendP a.1 x = 0
    · rw [if_pos hc]
      exact h
    · rw [if_neg hc]
      obtain ⟨_, _, y, t, e⟩ := pend_head (fun e => hc (.inr e))
      exact run_inv hs x l (n - 1) _ (hs l a _ y t h e)
theorem fin_inv (hs : StepInv M P) (i : Nat) : ∀ (left : Nat) (a : Hp × M.σ) (y : Pq) (t : List Pq), a.1.q[i]? = some (y :: t) → P left a → P (finP M i left a).2.1 (finP M i left a).2.2
  | 0, a, y, t, e, h => h
  | l + 1, a, y, t, e, h => by
    have h1 := hs l a i y t h e
    unfold finP
    by_cases hd : (stepP M a i).2 = true
    · rw [if_pos hd]
      exact h1
    · rw [if_neg hd]
      exact fin_inv hs i l _ _ _ (stepP_head e (by simpa using hd)) h1
theorem round_inv (hs : StepInv M P) : ∀ (k t left : Nat) (a : Hp × M.σ), P left a → P (roundN M k t left a).2.1 (roundN M k t left a).2.2
  | 0, t, left, a, h => h
  | k + 1, t, left, a, h => by
    have h1 := run_inv hs (t : Int) left 1 a h
    unfold roundN
    split
    · exact round_inv hs k (t + 1) _ _ h1
    · exact h1
theorem rounds_inv (hs : StepInv M P) : ∀ (k : Nat) (n : Int) (left : Nat) (a : Hp × M.σ), P left a → P (roundsF M k n left a).2.1 (roundsF M k n left a).2.2
  | 0, n, left, a, h => h
  | k + 1, n, left, a, h => by
    have h1 := round_inv hs a.1.q.length 0 left a h
    unfold roundsF
    split
    · exact h
    · split
      · exact rounds_inv hs k (n - 1) _ _ h1
      · exact h1
theorem pick_inv (hs : StepInv M P) (p : Int × Int × Int) (left : Nat) (a : Hp × M.σ) (h : P left a) : P (pickP M p left a).2.1 (pickP M p left a).2.2 := by
  unfold pickP
  split
  · exact run_inv hs _ _ _ _ h
  · split
    · exact run_inv hs _ _ _ _ h
    · split
      · unfold finA
        by_cases hp : pendP a.1 p.2.1 = 0
        · rw [if_pos hp]
          exact h
        · rw [if_neg hp]
          obtain ⟨_, _, y, t, e⟩ := pend_head hp
          exact fin_inv hs _ _ _ y t e h
      · split
        · exact rounds_inv hs _ _ _ _ h
        · split
          · exact rounds_inv hs _ _ _ _ h
          · exact h
theorem play_inv (hs : StepInv M P) : ∀ (ps : List (Int × Int × Int)) (left : Nat) (a : Hp × M.σ), P left a → P (playP M ps left a).2.1 (playP M ps left a).2.2
  | [], left, a, h => h
  | p :: ps, left, a, h => by
    have h1 := pick_inv hs p left a h
    unfold playP
    split
    · exact play_inv hs ps _ _ h1
    · exact h1
/-- Where no step is left and nobody waits any more, rounds come to their end. -/
theorem round_true (hs : StepInv M P) (hz : ∀ a, P 0 a → ∀ x, pendP a.1 x = 0) : ∀ (k t left : Nat) (a : Hp × M.σ), P left a → (roundN M k t left a).1 = true
  | 0, t, left, a, h => rfl
  | k + 1, t, left, a, h => by
    have h1 := run_inv hs (t : Int) left 1 a h
    have h2 : (runP M (t : Int) left 1 a).1 = true := by
      rw [runP_one]
      by_cases hp : pendP a.1 (t : Int) = 0
      · rw [if_pos hp]
      · rw [if_neg hp]
        cases left with
        | zero => exact absurd (hz a h _) hp
        | succ l => rfl
    unfold roundN
    rw [if_pos h2]
    exact round_true hs hz k (t + 1) _ _ h1
theorem rounds_true (hs : StepInv M P) (hz : ∀ a, P 0 a → ∀ x, pendP a.1 x = 0) : ∀ (k : Nat) (n : Int) (left : Nat) (a : Hp × M.σ), P left a → (left : Int) < n → left < k → (roundsF M k n left a).1 = true ∧ idleP (roundsF M k n left a).2.2.1 = true
  | 0, n, left, a, h, hn, hk => absurd hk (Nat.not_lt_zero _)
  | k + 1, n, left, a, h, hn, hk => by
    have h1 := round_inv hs a.1.q.length 0 left a h
    have h2 := round_true hs hz a.1.q.length 0 left a h
    unfold roundsF
    by_cases hi : idleP a.1 = true
    · rw [if_pos (.inr hi)]
      exact ⟨rfl, hi⟩
    · rw [if_neg (fun e => e.elim (fun e => by omega) hi), if_pos h2]
      have := roundN_some a.1.q.length 0 left a (idle_some hi) h2
      exact rounds_true hs hz k (n - 1) _ _ h1 (by omega) (by omega)
theorem drain_true (hs : StepInv M P) (hz : ∀ a, P 0 a → ∀ x, pendP a.1 x = 0) (left : Nat) (a : Hp × M.σ) (h : P left a) (hl : left < 9223372036854775807) : (playP M [(6, 0, 0)] left a).1 = true ∧ idleP (playP M [(6, 0, 0)] left a).2.2.1 = true := by
  have k := rounds_true hs hz (left + 1) 9223372036854775807 left a h (by omega) (Nat.lt_succ_self _)
  have e : pickP M (6, 0, 0) left a = roundsF M (left + 1) 9223372036854775807 left a := rfl
  show (if (pickP M (6, 0, 0) left a).1 = true then _ else _ : Bool × Nat × (Hp × M.σ)).1 = true ∧ idleP (if (pickP M (6, 0, 0) left a).1 = true then _ else _ : Bool × Nat × (Hp × M.σ)).2.2.1 = true
  rw [e, if_pos k.1]
  exact ⟨rfl, k.2⟩
end
end Go.Proofs.YteekompojgbkhaaGreat

namespace Go.Proofs.YteekompojgbkhaaGreat
open Go.ChangeShapes Go.WideShapes Go.ChangeAt Go.RowKit Go.MuLone Go.RwLone
set_option linter.unusedVariables false
set_option maxRecDepth 100000
set_option maxHeartbeats 3200000
def inZ (x : Int) : List Value := [.int .i64 x]
/-- A free slot in the queue. -/
def qZ (k : Nat) : Int := (k : Int) + 1
/-- Where the document's arena lies: its block, its slots' row, the words of each slot in use. -/
structure RL where
  b : Nat
  s : Nat
  wb : Nat → Nat
def RL.ws (R : RL) (S : AS) (g : Nat) : Prop := ∃ k, k < S.n ∧ S.use k = true ∧ g = R.wb k
structure RAr (w : World) (R : RL) (cap : Nat) (qv : Value) (Q : List Nat) (S : AS) : Prop where
  c0 : w.cell? ⟨R.b, 0, none⟩ = some (.int .i64 (S.wd : Int))
  c1 : w.cell? ⟨R.b, 1, none⟩ = some (.slice (some ⟨R.s, 0, none⟩) (S.n + 1) cap)
  c2 : w.cell? ⟨R.b, 2, none⟩ = some qv
  c3 : w.cell? ⟨R.b, 3, none⟩ = some (.int .i64 S.acc)
  c4 : w.cell? ⟨R.b, 4, none⟩ = some (.int .i64 S.miss)
  us : ∀ k, k < S.n → w.cell? ⟨R.s, (k + 1) * 6, none⟩ = some (.bool (S.use k))
  nm : ∀ k, k < S.n → w.cell? ⟨R.s, (k + 1) * 6 + 1, none⟩ = some (.string (S.pay k).nm)
  dt : ∀ k, k < S.n → w.cell? ⟨R.s, (k + 1) * 6 + 2, none⟩ = some (.string (S.pay k).dt)
  tl : ∀ k, k < S.n → w.cell? ⟨R.s, (k + 1) * 6 + 3, none⟩ = some (.int .i64 (S.pay k).tl)
  wy : ∀ k, k < S.n → S.use k = true → w.cell? ⟨R.s, (k + 1) * 6 + 4, none⟩ = some (.slice (some ⟨R.wb k, 0, none⟩) S.wd S.wd)
  wn : ∀ k, k < S.n → S.use k = false → w.cell? ⟨R.s, (k + 1) * 6 + 4, none⟩ = some (.slice none 0 0)
  tn : ∀ k, k < S.n → w.cell? ⟨R.s, (k + 1) * 6 + 5, none⟩ = some (.int .i64 (S.turn k))
  wo : ∀ k, k < S.n → S.use k = true → ∀ j, j < S.wd → w.cell? ⟨R.wb k, j, none⟩ = some (.int .u64 (S.word (k * S.wd + j)))
  q : OwG inZ 3 1 w 0 qv (Q.map qZ)
  fb : ∀ j, w.frozen? ⟨R.b, j, none⟩ = false
  fs : ∀ j, w.frozen? ⟨R.s, j, none⟩ = false
  fw : ∀ k, k < S.n → S.use k = true → ∀ j, w.frozen? ⟨R.wb k, j, none⟩ = false
  lb : R.b < w.heap.size
  ls : R.s < w.heap.size
  lw : ∀ k, k < S.n → S.use k = true → R.wb k < w.heap.size
  bs : R.b ≠ R.s
  bw : ∀ k, k < S.n → S.use k = true → R.wb k ≠ R.b ∧ R.wb k ≠ R.s
  ww : ∀ k k', k < S.n → k' < S.n → S.use k = true → S.use k' = true → k ≠ k' → R.wb k ≠ R.wb k'
  qb : ∀ g, qv.ownBlock = some g → g ≠ R.b ∧ g ≠ R.s ∧ ¬ R.ws S g
  hn : 1 ≤ S.n ∧ S.n ≤ 4096
  hw : 1 ≤ S.wd ∧ S.wd ≤ 16
/-- Its blocks. -/
def raF (R : RL) (qv : Value) (S : AS) (g : Nat) : Prop := g = R.b ∨ g = R.s ∨ R.ws S g ∨ qv.ownBlock = some g
theorem RAr.lt {w : World} {R : RL} {cap : Nat} {qv : Value} {Q : List Nat} {S : AS} (h : RAr w R cap qv Q S) (g : Nat) (hg : raF R qv S g) : g < w.heap.size := by
  rcases hg with rfl | rfl | ⟨k, h1, h2, rfl⟩ | e
  · exact h.lb
  · exact h.ls
  · exact h.lw k h1 h2
  · exact (World.ownsRow.lt h.q g e).2
theorem RAr.keeps {w w' : World} {R : RL} {cap : Nat} {qv : Value} {Q : List Nat} {S : AS} {D : Nat → Prop} (h : RAr w R cap qv Q S) (k : Keeps D w w') (hD : ∀ g, raF R qv S g → ¬ D g) : RAr w' R cap qv Q S := by
  have eb : ∀ j, w'.cell? ⟨R.b, j, none⟩ = w.cell? ⟨R.b, j, none⟩ := fun j => k.cell (p := ⟨R.b, j, none⟩) h.lb (hD _ (.inl rfl))
  have es : ∀ j, w'.cell? ⟨R.s, j, none⟩ = w.cell? ⟨R.s, j, none⟩ := fun j => k.cell (p := ⟨R.s, j, none⟩) h.ls (hD _ (.inr (.inl rfl)))
  have ew : ∀ i, i < S.n → S.use i = true → ∀ j, w'.cell? ⟨R.wb i, j, none⟩ = w.cell? ⟨R.wb i, j, none⟩ := fun i hi hu j => k.cell (p := ⟨R.wb i, j, none⟩) (h.lw i hi hu) (hD _ (.inr (.inr (.inl ⟨i, hi, hu, rfl⟩))))
  have fr : ∀ g j, g < w.heap.size → ¬ D g → w'.frozen? ⟨g, j, none⟩ = w.frozen? ⟨g, j, none⟩ := fun g j hg hn => World.frozen?_of_block (w := w) (a := ⟨g, j, none⟩) (k.block g hg hn)
  exact ⟨(eb 0).trans h.c0, (eb 1).trans h.c1, (eb 2).trans h.c2, (eb 3).trans h.c3, (eb 4).trans h.c4, fun i hi => (es _).trans (h.us i hi), fun i hi => (es _).trans (h.nm i hi), fun i hi => (es _).trans (h.dt i hi), fun i hi => (es _).trans (h.tl i hi), fun i hi hu => (es _).trans (h.wy i hi hu), fun i hi hu => (es _).trans (h.wn i hi hu), fun i hi => (es _).trans (h.tn i hi), fun i hi hu j hj => (ew i hi hu j).trans (h.wo i hi hu j hj), owK h.q k (fun g hg => hD g (.inr (.inr (.inr hg)))), fun j => (fr _ j h.lb (hD _ (.inl rfl))).trans (h.fb j), fun j => (fr _ j h.ls (hD _ (.inr (.inl rfl)))).trans (h.fs j), fun i hi hu j => (fr _ j (h.lw i hi hu) (hD _ (.inr (.inr (.inl ⟨i, hi, hu, rfl⟩))))).trans (h.fw i hi hu j), Nat.lt_of_lt_of_le h.lb k.size, Nat.lt_of_lt_of_le h.ls k.size, fun i hi hu => Nat.lt_of_lt_of_le (h.lw i hi hu) k.size, h.bs, h.bw, h.ww, h.qb, h.hn, h.hw⟩
theorem setB {w : World} {b j : Nat} {v : Value} : Keeps (fun g => g = b) w (w.setCell ⟨b, j, none⟩ v) := Keeps.setCell (B := fun g => g = b) (Keeps.refl _ _) rfl _
/-- A count stored. -/
theorem RAr.setCount {w : World} {R : RL} {cap : Nat} {qv : Value} {Q : List Nat} {S : AS} (h : RAr w R cap qv Q S) (j : Nat) (v : Int) (S' : AS) (hj : (j = 3 ∧ S' = { S with acc := v }) ∨ (j = 4 ∧ S' = { S with miss := v })) : RAr (w.setCell ⟨R.b, j, none⟩ (.int .i64 v)) R cap qv Q S' := by
  have o : ∀ i, i ≠ j → (w.setCell ⟨R.b, j, none⟩ (.int .i64 v)).cell? ⟨R.b, i, none⟩ = w.cell? ⟨R.b, i, none⟩ := fun i hi => World.cell?_setCell_other _ _ _ _ (fun e => hi (congrArg Addr.off e).symm)
  have os : ∀ g i, g ≠ R.b → (w.setCell ⟨R.b, j, none⟩ (.int .i64 v)).cell? ⟨g, i, none⟩ = w.cell? ⟨g, i, none⟩ := fun g i hg => World.cell?_setCell_other _ _ _ _ (fun e => hg (congrArg Addr.block e).symm)
  have k : Keeps (fun g => g = R.b) w (w.setCell ⟨R.b, j, none⟩ (.int .i64 v)) := setB
  have hq := owK h.q k (fun g hg => (h.qb g hg).1)
  rcases hj with ⟨rfl, rfl⟩ | ⟨rfl, rfl⟩
  · exact ⟨(o 0 (by decide)).trans h.c0, (o 1 (by decide)).trans h.c1, (o 2 (by decide)).trans h.c2, World.cell?_setCell_same _ _ _ h.c3, (o 4 (by decide)).trans h.c4, fun i hi => (os _ _ (Ne.symm h.bs)).trans (h.us i hi), fun i hi => (os _ _ (Ne.symm h.bs)).trans (h.nm i hi), fun i hi => (os _ _ (Ne.symm h.bs)).trans (h.dt i hi), fun i hi => (os _ _ (Ne.symm h.bs)).trans (h.tl i hi), fun i hi hu => (os _ _ (Ne.symm h.bs)).trans (h.wy i hi hu), fun i hi hu => (os _ _ (Ne.symm h.bs)).trans (h.wn i hi hu), fun i hi => (os _ _ (Ne.symm h.bs)).trans (h.tn i hi), fun i hi hu j hj => (os _ _ (h.bw i hi hu).1).trans (h.wo i hi hu j hj), hq, fun j => by simpa using h.fb j, fun j => by simpa using h.fs j, fun i hi hu j => by simpa using h.fw i hi hu j, by simpa using h.lb, by simpa using h.ls, fun i hi hu => by simpa using h.lw i hi hu, h.bs, h.bw, h.ww, h.qb, h.hn, h.hw⟩
  · exact ⟨(o 0 (by decide)).trans h.c0, (o 1 (by decide)).trans h.c1, (o 2 (by decide)).trans h.c2, (o 3 (by decide)).trans h.c3, World.cell?_setCell_same _ _ _ h.c4, fun i hi => (os _ _ (Ne.symm h.bs)).trans (h.us i hi), fun i hi => (os _ _ (Ne.symm h.bs)).trans (h.nm i hi), fun i hi => (os _ _ (Ne.symm h.bs)).trans (h.dt i hi), fun i hi => (os _ _ (Ne.symm h.bs)).trans (h.tl i hi), fun i hi hu => (os _ _ (Ne.symm h.bs)).trans (h.wy i hi hu), fun i hi hu => (os _ _ (Ne.symm h.bs)).trans (h.wn i hi hu), fun i hi => (os _ _ (Ne.symm h.bs)).trans (h.tn i hi), fun i hi hu j hj => (os _ _ (h.bw i hi hu).1).trans (h.wo i hi hu j hj), hq, fun j => by simpa using h.fb j, fun j => by simpa using h.fs j, fun i hi hu j => by simpa using h.fw i hi hu j, by simpa using h.lb, by simpa using h.ls, fun i hi hu => by simpa using h.lw i hi hu, h.bs, h.bw, h.ww, h.qb, h.hn, h.hw⟩
/-- A word stored. -/
theorem RAr.setWord {w : World} {R : RL} {cap : Nat} {qv : Value} {Q : List Nat} {S : AS} (h : RAr w R cap qv Q S) (k j : Nat) (hk : k < S.n) (hu : S.use k = true) (hj : j < S.wd) (y : Int) : RAr (w.setCell ⟨R.wb k, j, none⟩ (.int .u64 y)) R cap qv Q { S with word := upd S.word (k * S.wd + j) y } := by
  have os : ∀ g i, g ≠ R.wb k → (w.setCell ⟨R.wb k, j, none⟩ (.int .u64 y)).cell? ⟨g, i, none⟩ = w.cell? ⟨g, i, none⟩ := fun g i hg => World.cell?_setCell_other _ _ _ _ (fun e => hg (congrArg Addr.block e).symm)
  have k0 : Keeps (fun g => g = R.wb k) w (w.setCell ⟨R.wb k, j, none⟩ (.int .u64 y)) := setB
  have hq := owK h.q k0 (fun g hg e => (h.qb g hg).2.2 ⟨k, hk, hu, e⟩)
  have n1 := Ne.symm (h.bw k hk hu).1
  have n2 := Ne.symm (h.bw k hk hu).2
  refine ⟨(os _ _ n1).trans h.c0, (os _ _ n1).trans h.c1, (os _ _ n1).trans h.c2, (os _ _ n1).trans h.c3, (os _ _ n1).trans h.c4, fun i hi => (os _ _ n2).trans (h.us i hi), fun i hi => (os _ _ n2).trans (h.nm i hi), fun i hi => (os _ _ n2).trans (h.dt i hi), fun i hi => (os _ _ n2).trans (h.tl i hi), fun i hi hu => (os _ _ n2).trans (h.wy i hi hu), fun i hi hu => (os _ _ n2).trans (h.wn i hi hu), fun i hi => (os _ _ n2).trans (h.tn i hi), fun i hi hui i' hi' => ?_, hq, fun j => by simpa using h.fb j, fun j => by simpa using h.fs j, fun i hi hu j => by simpa using h.fw i hi hu j, by simpa using h.lb, by simpa using h.ls, fun i hi hu => by simpa using h.lw i hi hu, h.bs, h.bw, h.ww, h.qb, h.hn, h.hw⟩
  have hui : S.use i = true := hui
  have hi : i < S.n := hi
  have hi' : i' < S.wd := hi'
  show _ = some (Value.int _ (upd S.word (k * S.wd + j) y (i * S.wd + i')))
  by_cases e : i = k
  · subst e
    by_cases e2 : i' = j
    · subst e2
      rw [upd_same]
      exact World.cell?_setCell_same _ _ _ (h.wo i hi hui i' hi')
    · rw [upd_other _ _ (by omega), World.cell?_setCell_other _ _ _ _ (fun e' => e2 (congrArg Addr.off e').symm)]
      exact h.wo i hi hui i' hi'
  · have hne : i * S.wd + i' ≠ k * S.wd + j := fun e3 => by
      have a1 := Nat.add_mul_div_right i' i (show 0 < S.wd from by have := h.hw.1; omega)
      have a2 := Nat.add_mul_div_right j k (show 0 < S.wd from by have := h.hw.1; omega)
      rw [Nat.div_eq_of_lt hi', Nat.zero_add] at a1
      rw [Nat.div_eq_of_lt hj, Nat.zero_add] at a2
      rw [Nat.add_comm] at a1 a2
      rw [e3] at a1
      exact e (a1.symm.trans a2)
    rw [upd_other _ _ hne, os _ _ (h.ww i k hi hk hui hu e)]
    exact h.wo i hi hui i' hi'
end Go.Proofs.YteekompojgbkhaaGreat
