import Derived.Test.YtegnmflbbpfdhaaGreatSf9
namespace Go.Proofs.YtegnmflbbpfdhaaGreat
open Go.ChangeShapes Go.WideShapes Go.ChangeAt Go.RowKit Go.MuLone Go.RwLone
set_option linter.unusedVariables false
set_option maxRecDepth 100000
set_option maxHeartbeats 3200000
/-- A bench's threads: where they lie, their instructions. -/
structure Bd where
  L : Lay
  n : Nat
  wd : Nat
  T : Nat → Nat
  ia : Nat → Option Addr
  cap : Nat → Nat
  ins : Nat → List I8
/-- A litmus program at work: its words, its registers, its places. -/
structure Ls where
  wo : Nat → Int
  rg : Nat → Nat → Int
  pl : Nat → Nat
def immOk (x : I8) : Prop := (0 ≤ x.ni ∧ x.ni < 18446744073709551616) ∧ (0 ≤ x.oi ∧ x.oi < 18446744073709551616)
structure BdOk (B : Bd) : Prop where
  lT : ∀ i, i < B.n → ¬ B.L.has (B.T i)
  TT : ∀ i j, i < B.n → j < B.n → i ≠ j → B.T i ≠ B.T j
  li : ∀ i ib, i < B.n → B.ia i = some ⟨ib, 0, none⟩ → ¬ B.L.has ib ∧ ∀ j, j < B.n → ib ≠ B.T j
  sd : ∀ i, i < B.n → ∀ x ∈ B.ins i, snd B.wd x ∧ immOk x
  ln : ∀ i, i < B.n → (B.ins i).length ≤ 1000
/-- Threads in their blocks. -/
structure Bo (B : Bd) (w : World) (s : Ls) : Prop where
  ar : ∃ S : AS, Holds w B.L S ∧ S.word = s.wo ∧ S.rc = 0 ∧ S.n = 1 ∧ S.use 0 = true ∧ S.wd = B.wd ∧ S.g0 = 0
  wb : ∀ i, i < B.wd → 0 ≤ s.wo i ∧ s.wo i < 18446744073709551616
  th : ∀ i, i < B.n → Tg w (B.T i) B.L (B.ia i) (B.ins i).length (B.cap i) (s.rg i) (s.pl i)
  ro : ∀ i, i < B.n → Ro w (B.ia i) (B.ins i)
  il : ∀ i ib, i < B.n → B.ia i = some ⟨ib, 0, none⟩ → ib < w.heap.size
def fB (B : Bd) (x : Nat) : Prop := B.L.has x ∨ ∃ i, i < B.n ∧ (x = B.T i ∨ B.ia i = some ⟨x, 0, none⟩)
def stB (B : Bd) (s : Ls) (m : Nat) : Ls := ⟨(tsP s.wo (s.rg m) (B.ins m) (s.pl m)).1, upd s.rg m (tsP s.wo (s.rg m) (B.ins m) (s.pl m)).2.1, upd s.pl m (tsP s.wo (s.rg m) (B.ins m) (s.pl m)).2.2⟩
def dnB (B : Bd) (s : Ls) (m : Nat) : Bool := decide ((B.ins m).length ≤ s.pl m)
theorem Bo.far {B : Bd} {w w' : World} {s : Ls} {D : Nat → Prop} (h : Bo B w s) (k : Keeps D w w') (hD : ∀ x, D x → ¬ fB B x) : Bo B w' s := by
  obtain ⟨S, h1, h2, h3⟩ := h.ar
  exact ⟨⟨S, h1.keeps k (fun g hg e => hD g e (.inl hg)), h2, h3⟩, h.wb, fun i hi => (h.th i hi).keeps k (fun e => hD _ e (.inr ⟨i, hi, .inl rfl⟩)), fun i hi => (h.ro i hi).keeps k (fun ib e e' => hD _ e' (.inr ⟨i, hi, .inr e⟩)), fun i ib hi e => Nat.lt_of_lt_of_le (h.il i ib hi e) k.size⟩
theorem Bo.lt {B : Bd} {w : World} {s : Ls} {x : Nat} (h : Bo B w s) (hx : fB B x) : x < w.heap.size := by
  obtain ⟨S, h1, _⟩ := h.ar
  rcases hx with (e | e | e | e) | ⟨i, hi, e | e⟩
  · rw [e]; exact h1.lb
  · rw [e]; exact h1.ls
  · rw [e]; exact h1.lu
  · rw [e]; exact h1.lq
  · rw [e]; exact (h.th i hi).lt
  · exact h.il i x hi e
theorem valP_b {rg : Nat → Int} {r x : Int} (h : 0 ≤ x ∧ x < 18446744073709551616) : 0 ≤ valP rg r x ∧ valP rg r x < 18446744073709551616 := by
  unfold valP; split
  · exact h
  · omega
theorem exP_b {wo rg : Nat → Int} {x : I8} {wd : Nat} (hx : immOk x) (h : ∀ i, i < wd → 0 ≤ wo i ∧ wo i < 18446744073709551616) : ∀ i, i < wd → 0 ≤ (exP wo rg x).1 i ∧ (exP wo rg x).1 i < 18446744073709551616 := by
  intro i hi
  have hu : ∀ (c : Nat) (v : Int), (0 ≤ v ∧ v < 18446744073709551616) → 0 ≤ upd wo c v i ∧ upd wo c v i < 18446744073709551616 := fun c v hv => by
    by_cases e : i = c
    · subst e; rw [upd_same]; exact hv
    · rw [upd_other _ _ e]; exact h i hi
  have hf := valP_b (rg := rg) (r := x.nr) hx.1
  unfold exP
  split
  · exact h i hi
  · split
    · exact hu _ _ hf
    · split
      · split
        · exact hu _ _ hf
        · exact h i hi
      · split
        · exact hu _ _ (by omega)
        · split <;> exact h i hi
theorem Bo.call {B : Bd} (hB : BdOk B) (w : World) (s : Ls) (m : Nat) (hm : m < B.n) (h : Bo B w s) :
    Calls Tryz.prog 142 #[.pointer (some ⟨B.T m, 0, none⟩)] w fun e w' => e = .returned (.bool (dnB B (stB B s m) m)) ∧ Bo B w' (stB B s m) ∧ Keeps (fB B) w w' := by
  obtain ⟨S, h1, h2, h3, h4, h5, h6, h7⟩ := h.ar
  have hsd : ∀ x ∈ B.ins m, snd S.wd x := fun x hx => by rw [h6]; exact (hB.sd m hm x hx).1
  have hwb : ∀ i, i < S.wd → 0 ≤ S.word i ∧ S.word i < 18446744073709551616 := by rw [h6, h2]; exact h.wb
  refine (tstep_any B.L S w (B.T m) (B.ia m) (B.cap m) (B.ins m) (s.rg m) (s.pl m) hsd hwb h1 (h.th m hm) (h.ro m hm) (hB.lT m hm) (fun ib e => fun e' => e'.elim (hB.li m ib hm e).1 ((hB.li m ib hm e).2 m hm)) h3 h4 h5 (hB.ln m hm)).mono ?_
  rintro e w' ⟨rfl, ac, hd, ht, hr, k⟩
  rw [h2] at hd ht
  have kF : Keeps (fB B) w w' := k.mono (fun x e => e.elim .inl (fun e => .inr ⟨m, hm, .inl e⟩))
  refine ⟨?_, ⟨⟨_, hd, rfl, rfl, h4, h5, h6, h7⟩, fun i hi => ?_, fun i hi => ?_, fun i hi => ?_, fun i ib hi e => Nat.lt_of_lt_of_le (h.il i ib hi e) k.size⟩, kF⟩
  · rw [h2]
    unfold dnB stB
    simp only [upd_same]
  · show 0 ≤ (tsP s.wo (s.rg m) (B.ins m) (s.pl m)).1 i ∧ _
    unfold stB
    dsimp only
    by_cases hp : s.pl m < (B.ins m).length
    · rw [tsP_in hp]
      exact exP_b (hB.sd m hm _ (List.getElem_mem hp)).2 h.wb i hi
    · rw [tsP_out hp]
      exact h.wb i hi
  · unfold stB
    dsimp only
    by_cases e : i = m
    · subst e
      rw [upd_same, upd_same]
      exact ht
    · rw [upd_other _ _ e, upd_other _ _ e]
      exact (h.th i hi).keeps k (fun e' => e'.elim (hB.lT i hi) (hB.TT i m hi hm e))
  · by_cases e : i = m
    · subst e; exact hr
    · exact (h.ro i hi).keeps k (fun ib e' e'' => e''.elim (hB.li i ib hi e').1 ((hB.li i ib hi e').2 m hm))
/-- The machines of a bench. -/
def mcB (B : Bd) (hB : BdOk B) : Mc := { σ := Ls, ok := Bo B, F := fB B, pt := B.T, N := B.n, st := stB B, dn := dnB B, far := fun h k hD => h.far k hD, lt := fun h hx => h.lt hx, call := fun w s m hm h => Bo.call hB w s m hm h }
end Go.Proofs.YtegnmflbbpfdhaaGreat
