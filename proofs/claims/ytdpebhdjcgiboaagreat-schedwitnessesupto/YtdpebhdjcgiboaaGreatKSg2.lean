import Derived.Test.YtdpebhdjcgiboaaGreatKSf9
namespace Go.Proofs.YtdpebhdjcgiboaaGreat
open Go.ChangeShapes Go.WideShapes Go.ChangeAt Go.RowKit Go.MuLone Go.RwLone
set_option linter.unusedVariables false
set_option maxRecDepth 100000
set_option maxHeartbeats 3200000
/-- A bench's threads: where they lie, their instructions. -/
structure Bd where
  L : Lay
  n : Nat
  wd : Nat
  T : Nat → Nat
  ia : Nat → Option Addr
  cap : Nat → Nat
  ins : Nat → List I8
/-- A litmus program at work: its words, its registers, its places. -/
structure Ls where
  wo : Nat → Int
  rg : Nat → Nat → Int
  pl : Nat → Nat
def immOk (x : I8) : Prop := (0 ≤ x.ni ∧ x.ni < 18446744073709551616) ∧ (0 ≤ x.oi ∧ x.oi < 18446744073709551616)
structure BdOk (B : Bd) : Prop where
  lT : ∀ i, i < B.n → ¬ B.L.has (B.T i)
  TT : ∀ i j, i < B.n → j < B.n → i ≠ j → B.T i ≠ B.T j
  li : ∀ i ib, i < B.n → B.ia i = some ⟨ib, 0, none⟩ → ¬ B.L.has ib ∧ ∀ j, j < B.n → ib ≠ B.T j
  sd : ∀ i, i < B.n → ∀ x ∈ B.ins i, snd B.wd x ∧ immOk x
  ln : ∀ i, i < B.n → (B.ins i).length ≤ 1000
/-- Threads in their blocks. -/
structure Bo (B : Bd) (w : World) (s : Ls) : Prop where
  ar : ∃ S : AS, Holds w B.L S ∧ S.word = s.wo ∧ S.rc = 0 ∧ S.n = 1 ∧ S.use 0 = true ∧ S.wd = B.wd ∧ S.g0 = 0
  wb : ∀ i, i < B.wd → 0 ≤ s.wo i ∧ s.wo i < 18446744073709551616
  th : ∀ i, i < B.n → Tg w (B.T i) B.L (B.ia i) (B.ins i).length (B.cap i) (s.rg i) (s.pl i)
  ro : ∀ i, i < B.n → Ro w (B.ia i) (B.ins i)
  il : ∀ i ib, i < B.n → B.ia i = some ⟨ib, 0, none⟩ → ib < w.heap.size
def fB (B : Bd) (x : Nat) : Prop := B.L.has x ∨ ∃ i, i < B.n ∧ (x = B.T i ∨ B.ia i = some ⟨x, 0, none⟩)
def stB (B : Bd) (s : Ls) (m : Nat) : Ls := ⟨(tsP s.wo (s.rg m) (B.ins m) (s.pl m)).1, upd s.rg m (tsP s.wo (s.rg m) (B.ins m) (s.pl m)).2.1, upd s.pl m (tsP s.wo (s.rg m) (B.ins m) (s.pl m)).2.2⟩
def dnB (B : Bd) (s : Ls) (m : Nat) : Bool := decide ((B.ins m).length ≤ s.pl m)
theorem Bo.far {B : Bd} {w w' : World} {s : Ls} {D : Nat → Prop} (h : Bo B w s) (k : Keeps D w w') (hD : ∀ x, D x → ¬ fB B x) : Bo B w' s := by
  obtain ⟨S, h1, h2, h3⟩ := h.ar
  exact ⟨⟨S, h1.keeps k (fun g hg e => hD g e (.inl hg)), h2, h3⟩, h.wb, fun i hi => (h.th i hi).keeps k (fun e => hD _ e (.inr ⟨i, hi, .inl rfl⟩)), fun i hi => (h.ro i hi).keeps k (fun ib e e' => hD _ e' (.inr ⟨i, hi, .inr e⟩)), fun i ib hi e => Nat.lt_of_lt_of_le (h.il i ib hi e) k.size⟩
theorem Bo.lt {B : Bd} {w : World} {s : Ls} {x : Nat} (h : Bo B w s) (hx : fB B x) : x < w.heap.size := by
  obtain ⟨S, h1, _⟩ := h.ar
  rcases hx with (e | e | e | e) | ⟨i, hi, e | e⟩
  · rw [e]; exact h1.lb
  · rw [e]; exact h1.ls
  · rw [e]; exact h1.lu
  · rw [e]; exact h1.lq
  · rw [e]; exact (h.th i hi).lt
  · exact h.il i x hi e
theorem valP_b {rg : Nat → Int} {r x : Int} (h : 0 ≤ x ∧ x < 18446744073709551616) : 0 ≤ valP rg r x ∧ valP rg r x < 18446744073709551616 := by
  unfold valP; split
  · exact h
  · omega
theorem exP_b {wo rg : Nat → Int} {x : I8} {wd : Nat} (hx : immOk x) (h : ∀ i, i < wd → 0 ≤ wo i ∧ wo i < 18446744073709551616) : ∀ i, i < wd → 0 ≤ (exP wo rg x).1 i ∧ (exP wo rg x).1 i < 18446744073709551616 := by
  intro i hi
  have hu : ∀ (c : Nat) (v : Int), (0 ≤ v ∧ v < 18446744073709551616) → 0 ≤ upd wo c v i ∧ upd wo c v i < 18446744073709551616 := fun c v hv => by
    by_cases e : i = c
    · subst e; rw [upd_same]; exact hv
    · rw [upd_other _ _ e]; exact h i hi
  have hf := valP_b (rg := rg) (r := x.nr) hx.1
  unfold exP
  split
  · exact h i hi
  · split
    · exact hu _ _ hf
    · split
      · split
        · exact hu _ _ hf
        · exact h i hi
      · split
        · exact hu _ _ (by omega)
        · split <;> exact h i hi
theorem Bo.call {B : Bd} (hB : BdOk B) (w : World) (s : Ls) (m : Nat) (hm : m < B.n) (h : Bo B w s) :
    Calls Tryz.prog 68 #[.pointer (some ⟨B.T m, 0, none⟩)] w fun e w' => e = .returned (.bool (dnB B (stB B s m) m)) ∧ Bo B w' (stB B s m) ∧ Keeps (fB B) w w' := by
  obtain ⟨S, h1, h2, h3, h4, h5, h6, h7⟩ := h.ar
  have hsd : ∀ x ∈ B.ins m, snd S.wd x := fun x hx => by rw [h6]; exact (hB.sd m hm x hx).1
  have hwb : ∀ i, i < S.wd → 0 ≤ S.word i ∧ S.word i < 18446744073709551616 := by rw [h6, h2]; exact h.wb
  refine (tstep_any B.L S w (B.T m) (B.ia m) (B.cap m) (B.ins m) (s.rg m) (s.pl m) hsd hwb h1 (h.th m hm) (h.ro m hm) (hB.lT m hm) (fun ib e => fun e' => e'.elim (hB.li m ib hm e).1 ((hB.li m ib hm e).2 m hm)) h3 h4 h5 (hB.ln m hm)).mono ?_
  rintro e w' ⟨rfl, ac, hd, ht, hr, k⟩
  rw [h2] at hd ht
  have kF : Keeps (fB B) w w' := k.mono (fun x e => e.elim .inl (fun e => .inr ⟨m, hm, .inl e⟩))
  refine ⟨?_, ⟨⟨_, hd, rfl, rfl, h4, h5, h6, h7⟩, fun i hi => ?_, fun i hi => ?_, fun i hi => ?_, fun i ib hi e => Nat.lt_of_lt_of_le (h.il i ib hi e) k.size⟩, kF⟩
  · rw [h2]
    unfold dnB stB
    simp only [upd_same]
  · show 0 ≤ (tsP s.wo (s.rg m) (B.ins m) (s.pl m)).1 i ∧ _
    unfold stB
    dsimp only
    by_cases hp : s.pl m < (B.ins m).length
    · rw [tsP_in hp]
      exact exP_b (hB.sd m hm _ (List.getElem_mem hp)).2 h.wb i hi
    · rw [tsP_out hp]
      exact h.wb i hi
  · unfold stB
    dsimp only
    by_cases e : i = m
    · subst e
      rw [upd_same, upd_same]
      exact ht
    · rw [upd_other _ _ e, upd_other _ _ e]
      exact (h.th i hi).keeps k (fun e' => e'.elim (hB.lT i hi) (hB.TT i m hi hm e))
  · by_cases e : i = m
    · subst e; exact hr
    · exact (h.ro i hi).keeps k (fun ib e' e'' => e''.elim (hB.li i ib hi e').1 ((hB.li i ib hi e').2 m hm))
/-- The machines of a bench. -/
def mcB (B : Bd) (hB : BdOk B) : Mc := { σ := Ls, ok := Bo B, F := fB B, pt := B.T, N := B.n, st := stB B, dn := dnB B, far := fun h k hD => h.far k hD, lt := fun h hx => h.lt hx, call := fun w s m hm h => Bo.call hB w s m hm h }
end Go.Proofs.YtdpebhdjcgiboaaGreat

namespace Go.Proofs.YtdpebhdjcgiboaaGreat
open Go.ChangeShapes Go.WideShapes Go.ChangeAt Go.RowKit Go.MuLone Go.RwLone
set_option linter.unusedVariables false
set_option maxRecDepth 100000
set_option maxHeartbeats 3200000
def wiB (n a b : Int) : Bool := decide (a ≤ n ∧ n ≤ b)
theorem wiB_t {n a b : Int} (h : wiB n a b = true) : a ≤ n ∧ n ≤ b := by simpa [wiB] using h
theorem within_any (n a b : Int) (w : World) : Calls Tryz.prog 101 #[.int .i64 n, .int .i64 a, .int .i64 b] w fun e w' => e = .returned (.bool (wiB n a b)) ∧ w' = w := by
  by_cases h1 : a ≤ n
  · by_cases h2 : n ≤ b
    · have hd : wiB n a b = true := by simp [wiB, h1, h2]
      rw [hd]
      go_enter Tryz.func101, Tryz.ntmps101
      go_wp2
      go_ret
      exact ⟨rfl, rfl⟩
    · have hd : wiB n a b = false := by simp [wiB, h2]
      rw [hd]
      go_enter Tryz.func101, Tryz.ntmps101
      go_wp2
      go_ret
      exact ⟨rfl, rfl⟩
  · have hd : wiB n a b = false := by simp [wiB, h1]
    rw [hd]
    go_enter Tryz.func101, Tryz.ntmps101
    go_wp2
    go_ret
    exact ⟨rfl, rfl⟩
theorem isVal_any (r x : Int) (w : World) : Calls Tryz.prog 135 #[.agg #[.int .i64 r, .int .u64 x]] w fun e w' => e = .returned (.bool (wiB r (-1) 3)) ∧ Keeps (fun _ => False) w w' := by
  go_enter Tryz.func135, Tryz.ntmps135
  go_wp2_with fail
  refine (within_any r (-1) 3 _).mono ?_
  rintro e w' ⟨rfl, rfl⟩
  go_wp2
  go_ret
  exact ⟨rfl, (Keeps.refl _ _).alloc _⟩
/-- Is it an instruction over wd cells? -/
def sndB (wd : Nat) (x : I8) : Bool :=
  if x.op = 1 then wiB x.c 0 ((wd : Int) - 1) && wiB x.r 0 3
  else if x.op = 2 then wiB x.c 0 ((wd : Int) - 1) && wiB x.nr (-1) 3
  else if x.op = 3 then wiB x.c 0 ((wd : Int) - 1) && wiB x.r 0 3 && wiB x.orr (-1) 3 && wiB x.nr (-1) 3
  else if x.op = 4 then wiB x.c 0 ((wd : Int) - 1) && wiB x.r 0 3 && wiB x.nr (-1) 3
  else if x.op = 5 then wiB x.r 0 3 && wiB x.nr (-1) 3 && wiB x.n 1 10 else false
theorem snd_of {wd : Nat} {x : I8} (h : sndB wd x = true) : snd wd x := by
  have t1 : ∀ {n a b : Int}, wiB n a b = true → a ≤ n ∧ n ≤ b := wiB_t
  unfold sndB at h
  split at h
  · rename_i e
    simp only [Bool.and_eq_true] at h
    have := t1 h.1; have := t1 h.2
    exact .inl ⟨e, by omega, by omega⟩
  · split at h
    · rename_i e
      simp only [Bool.and_eq_true] at h
      have := t1 h.1; have := t1 h.2
      exact .inr (.inl ⟨e, by omega, by unfold vOk; omega⟩)
    · split at h
      · rename_i e
        simp only [Bool.and_eq_true] at h
        have := t1 h.1.1.1; have := t1 h.1.1.2; have := t1 h.1.2; have := t1 h.2
        exact .inr (.inr (.inl ⟨e, by omega, by omega, by unfold vOk; omega, by unfold vOk; omega⟩))
      · split at h
        · rename_i e
          simp only [Bool.and_eq_true] at h
          have := t1 h.1.1; have := t1 h.1.2; have := t1 h.2
          exact .inr (.inr (.inr (.inl ⟨e, by omega, by omega, by unfold vOk; omega⟩)))
        · split at h
          · rename_i e
            simp only [Bool.and_eq_true] at h
            have := t1 h.1.1; have := t1 h.1.2; have := t1 h.2
            exact .inr (.inr (.inr (.inr ⟨e, by omega, by unfold vOk; omega, by omega⟩)))
          · cases h
abbrev itW (w : World) (op c r nr ni orr oi n : Int) : World := w.alloc (.cells #[.int .i64 op, .int .i64 c, .int .i64 r, .int .i64 nr, .int .u64 ni, .int .i64 orr, .int .u64 oi, .int .i64 n] 106)
theorem it_cells {w w1 : World} {op c r nr ni orr oi n : Int} (k : Keeps (fun _ => False) (itW w op c r nr ni orr oi n) w1) : w1.cell? ⟨w.heap.size, 3, none⟩ = some (.int .i64 nr) ∧ w1.cell? ⟨w.heap.size, 4, none⟩ = some (.int .u64 ni) ∧ w1.cell? ⟨w.heap.size, 7, none⟩ = some (.int .i64 n) := by
  have hb1 : w1.heap[w.heap.size]? = some (.cells #[.int .i64 op, .int .i64 c, .int .i64 r, .int .i64 nr, .int .u64 ni, .int .i64 orr, .int .u64 oi, .int .i64 n] 106) := (k.block _ (by simp) (fun e => e)).trans (heap_alloc_last _ _ _ rfl)
  exact ⟨(cell?_heap hb1 3).trans rfl, (cell?_heap hb1 4).trans rfl, (cell?_heap hb1 7).trans rfl⟩
theorem isIn_1_0 (c r nr ni orr oi n : Int) (wd : Nat) (w : World) (hwd : wd ≤ 140737488355328) (hc : wiB c 0 ((wd : Int) - 1) = false) : Calls Tryz.prog 102 #[.agg #[.int .i64 1, .int .i64 c, .int .i64 r, .int .i64 nr, .int .u64 ni, .int .i64 orr, .int .u64 oi, .int .i64 n], .int .i64 (wd : Int)] w fun e w' => e = .returned (.bool false) ∧ Keeps (fun _ => False) w w' := by
  have hw : IntKind.i64.wrap ((wd : Int) - 1) = (wd : Int) - 1 := by rw [IntKind.wrap_i64]; omega
  have K0 : Hid (Keeps (fun _ => False) w (itW w 1 c r nr ni orr oi n)) := (Keeps.refl _ _).alloc _
  have Hc : Hid (wiB c 0 ((wd : Int) - 1) = false) := hc
  clear hc
  go_enter Tryz.func102, Tryz.ntmps102
  go_wp2_with fail
  refine (within_any c 0 ((wd : Int) - 1) _).mono ?_
  rintro e w' ⟨rfl, rfl⟩
  rw [Hc.out]
  go_wp2_with fail
  refine (within_any r 0 3 _).mono ?_
  rintro e w' ⟨rfl, rfl⟩
  generalize wiB r 0 3 = br at *
  go_wp2
  go_ret
  exact ⟨rfl, K0.out⟩
theorem isIn_1_1 (c r nr ni orr oi n : Int) (wd : Nat) (w : World) (hwd : wd ≤ 140737488355328) (hc : wiB c 0 ((wd : Int) - 1) = true) (hr : wiB r 0 3 = false) : Calls Tryz.prog 102 #[.agg #[.int .i64 1, .int .i64 c, .int .i64 r, .int .i64 nr, .int .u64 ni, .int .i64 orr, .int .u64 oi, .int .i64 n], .int .i64 (wd : Int)] w fun e w' => e = .returned (.bool false) ∧ Keeps (fun _ => False) w w' := by
  have hw : IntKind.i64.wrap ((wd : Int) - 1) = (wd : Int) - 1 := by rw [IntKind.wrap_i64]; omega
  have K0 : Hid (Keeps (fun _ => False) w (itW w 1 c r nr ni orr oi n)) := (Keeps.refl _ _).alloc _
  have Hc : Hid (wiB c 0 ((wd : Int) - 1) = true) := hc
  have Hr : Hid (wiB r 0 3 = false) := hr
  clear hc hr
  go_enter Tryz.func102, Tryz.ntmps102
  go_wp2_with fail
  refine (within_any c 0 ((wd : Int) - 1) _).mono ?_
  rintro e w' ⟨rfl, rfl⟩
  rw [Hc.out]
  go_wp2_with fail
  refine (within_any r 0 3 _).mono ?_
  rintro e w' ⟨rfl, rfl⟩
  rw [Hr.out]
  go_wp2
  go_ret
  exact ⟨rfl, K0.out⟩
theorem isIn_1_2 (c r nr ni orr oi n : Int) (wd : Nat) (w : World) (hwd : wd ≤ 140737488355328) (hc : wiB c 0 ((wd : Int) - 1) = true) (hr : wiB r 0 3 = true) : Calls Tryz.prog 102 #[.agg #[.int .i64 1, .int .i64 c, .int .i64 r, .int .i64 nr, .int .u64 ni, .int .i64 orr, .int .u64 oi, .int .i64 n], .int .i64 (wd : Int)] w fun e w' => e = .returned (.bool true) ∧ Keeps (fun _ => False) w w' := by
  have hw : IntKind.i64.wrap ((wd : Int) - 1) = (wd : Int) - 1 := by rw [IntKind.wrap_i64]; omega
  have K0 : Hid (Keeps (fun _ => False) w (itW w 1 c r nr ni orr oi n)) := (Keeps.refl _ _).alloc _
  have Hc : Hid (wiB c 0 ((wd : Int) - 1) = true) := hc
  have Hr : Hid (wiB r 0 3 = true) := hr
  clear hc hr
  go_enter Tryz.func102, Tryz.ntmps102
  go_wp2_with fail
  refine (within_any c 0 ((wd : Int) - 1) _).mono ?_
  rintro e w' ⟨rfl, rfl⟩
  rw [Hc.out]
  go_wp2_with fail
  refine (within_any r 0 3 _).mono ?_
  rintro e w' ⟨rfl, rfl⟩
  rw [Hr.out]
  go_wp2
  go_ret
  exact ⟨rfl, K0.out⟩
theorem isIn_2_0 (c r nr ni orr oi n : Int) (wd : Nat) (w : World) (hwd : wd ≤ 140737488355328) (hc : wiB c 0 ((wd : Int) - 1) = false) : Calls Tryz.prog 102 #[.agg #[.int .i64 2, .int .i64 c, .int .i64 r, .int .i64 nr, .int .u64 ni, .int .i64 orr, .int .u64 oi, .int .i64 n], .int .i64 (wd : Int)] w fun e w' => e = .returned (.bool false) ∧ Keeps (fun _ => False) w w' := by
  have hw : IntKind.i64.wrap ((wd : Int) - 1) = (wd : Int) - 1 := by rw [IntKind.wrap_i64]; omega
  have K0 : Hid (Keeps (fun _ => False) w (itW w 2 c r nr ni orr oi n)) := (Keeps.refl _ _).alloc _
  have Hc : Hid (wiB c 0 ((wd : Int) - 1) = false) := hc
  clear hc
  go_enter Tryz.func102, Tryz.ntmps102
  go_wp2_with fail
  refine (within_any c 0 ((wd : Int) - 1) _).mono ?_
  rintro e w' ⟨rfl, rfl⟩
  rw [Hc.out]
  go_wp2_with fail
  refine (within_any r 0 3 _).mono ?_
  rintro e w' ⟨rfl, rfl⟩
  generalize wiB r 0 3 = br at *
  go_wp2
  go_ret
  exact ⟨rfl, K0.out⟩
theorem isIn_2_1 (c r nr ni orr oi n : Int) (wd : Nat) (w : World) (hwd : wd ≤ 140737488355328) (hc : wiB c 0 ((wd : Int) - 1) = true) (hv : wiB nr (-1) 3 = false) : Calls Tryz.prog 102 #[.agg #[.int .i64 2, .int .i64 c, .int .i64 r, .int .i64 nr, .int .u64 ni, .int .i64 orr, .int .u64 oi, .int .i64 n], .int .i64 (wd : Int)] w fun e w' => e = .returned (.bool false) ∧ Keeps (fun _ => False) w w' := by
  have hw : IntKind.i64.wrap ((wd : Int) - 1) = (wd : Int) - 1 := by rw [IntKind.wrap_i64]; omega
  have K0 : Hid (Keeps (fun _ => False) w (itW w 2 c r nr ni orr oi n)) := (Keeps.refl _ _).alloc _
  have Hc : Hid (wiB c 0 ((wd : Int) - 1) = true) := hc
  have Hv : Hid (wiB nr (-1) 3 = false) := hv
  clear hc hv
  go_enter Tryz.func102, Tryz.ntmps102
  go_wp2_with fail
  refine (within_any c 0 ((wd : Int) - 1) _).mono ?_
  rintro e w' ⟨rfl, rfl⟩
  rw [Hc.out]
  go_wp2_with fail
  refine (within_any r 0 3 _).mono ?_
  rintro e w' ⟨rfl, rfl⟩
  generalize wiB r 0 3 = br at *
  go_wp2_with fail
  refine (isVal_any nr ni _).mono ?_
  rintro e w1 ⟨rfl, k1⟩
  rw [Hv.out]
  have K1 : Hid (Keeps (fun _ => False) (itW w 2 c r nr ni orr oi n) w1) := k1
  obtain ⟨d31, d41, d71⟩ := it_cells K1.out
  clear k1
  go_wp2
  go_ret
  exact ⟨rfl, K0.out.trans K1.out⟩
theorem isIn_2_2 (c r nr ni orr oi n : Int) (wd : Nat) (w : World) (hwd : wd ≤ 140737488355328) (hc : wiB c 0 ((wd : Int) - 1) = true) (hv : wiB nr (-1) 3 = true) : Calls Tryz.prog 102 #[.agg #[.int .i64 2, .int .i64 c, .int .i64 r, .int .i64 nr, .int .u64 ni, .int .i64 orr, .int .u64 oi, .int .i64 n], .int .i64 (wd : Int)] w fun e w' => e = .returned (.bool true) ∧ Keeps (fun _ => False) w w' := by
  have hw : IntKind.i64.wrap ((wd : Int) - 1) = (wd : Int) - 1 := by rw [IntKind.wrap_i64]; omega
  have K0 : Hid (Keeps (fun _ => False) w (itW w 2 c r nr ni orr oi n)) := (Keeps.refl _ _).alloc _
  have Hc : Hid (wiB c 0 ((wd : Int) - 1) = true) := hc
  have Hv : Hid (wiB nr (-1) 3 = true) := hv
  clear hc hv
  go_enter Tryz.func102, Tryz.ntmps102
  go_wp2_with fail
  refine (within_any c 0 ((wd : Int) - 1) _).mono ?_
  rintro e w' ⟨rfl, rfl⟩
  rw [Hc.out]
  go_wp2_with fail
  refine (within_any r 0 3 _).mono ?_
  rintro e w' ⟨rfl, rfl⟩
  generalize wiB r 0 3 = br at *
  go_wp2_with fail
  refine (isVal_any nr ni _).mono ?_
  rintro e w1 ⟨rfl, k1⟩
  rw [Hv.out]
  have K1 : Hid (Keeps (fun _ => False) (itW w 2 c r nr ni orr oi n) w1) := k1
  obtain ⟨d31, d41, d71⟩ := it_cells K1.out
  clear k1
  go_wp2
  go_ret
  exact ⟨rfl, K0.out.trans K1.out⟩
theorem isIn_3_0 (c r nr ni orr oi n : Int) (wd : Nat) (w : World) (hwd : wd ≤ 140737488355328) (hc : wiB c 0 ((wd : Int) - 1) = false) : Calls Tryz.prog 102 #[.agg #[.int .i64 3, .int .i64 c, .int .i64 r, .int .i64 nr, .int .u64 ni, .int .i64 orr, .int .u64 oi, .int .i64 n], .int .i64 (wd : Int)] w fun e w' => e = .returned (.bool false) ∧ Keeps (fun _ => False) w w' := by
  have hw : IntKind.i64.wrap ((wd : Int) - 1) = (wd : Int) - 1 := by rw [IntKind.wrap_i64]; omega
  have K0 : Hid (Keeps (fun _ => False) w (itW w 3 c r nr ni orr oi n)) := (Keeps.refl _ _).alloc _
  have Hc : Hid (wiB c 0 ((wd : Int) - 1) = false) := hc
  clear hc
  go_enter Tryz.func102, Tryz.ntmps102
  go_wp2_with fail
  refine (within_any c 0 ((wd : Int) - 1) _).mono ?_
  rintro e w' ⟨rfl, rfl⟩
  rw [Hc.out]
  go_wp2_with fail
  refine (within_any r 0 3 _).mono ?_
  rintro e w' ⟨rfl, rfl⟩
  generalize wiB r 0 3 = br at *
  go_wp2
  go_ret
  exact ⟨rfl, K0.out⟩
theorem isIn_3_1 (c r nr ni orr oi n : Int) (wd : Nat) (w : World) (hwd : wd ≤ 140737488355328) (hc : wiB c 0 ((wd : Int) - 1) = true) (hr : wiB r 0 3 = false) : Calls Tryz.prog 102 #[.agg #[.int .i64 3, .int .i64 c, .int .i64 r, .int .i64 nr, .int .u64 ni, .int .i64 orr, .int .u64 oi, .int .i64 n], .int .i64 (wd : Int)] w fun e w' => e = .returned (.bool false) ∧ Keeps (fun _ => False) w w' := by
  have hw : IntKind.i64.wrap ((wd : Int) - 1) = (wd : Int) - 1 := by rw [IntKind.wrap_i64]; omega
  have K0 : Hid (Keeps (fun _ => False) w (itW w 3 c r nr ni orr oi n)) := (Keeps.refl _ _).alloc _
  have Hc : Hid (wiB c 0 ((wd : Int) - 1) = true) := hc
  have Hr : Hid (wiB r 0 3 = false) := hr
  clear hc hr
  go_enter Tryz.func102, Tryz.ntmps102
  go_wp2_with fail
  refine (within_any c 0 ((wd : Int) - 1) _).mono ?_
  rintro e w' ⟨rfl, rfl⟩
  rw [Hc.out]
  go_wp2_with fail
  refine (within_any r 0 3 _).mono ?_
  rintro e w' ⟨rfl, rfl⟩
  rw [Hr.out]
  go_wp2
  go_ret
  exact ⟨rfl, K0.out⟩
theorem isIn_3_2 (c r nr ni orr oi n : Int) (wd : Nat) (w : World) (hwd : wd ≤ 140737488355328) (hc : wiB c 0 ((wd : Int) - 1) = true) (hr : wiB r 0 3 = true) (ho : wiB orr (-1) 3 = false) : Calls Tryz.prog 102 #[.agg #[.int .i64 3, .int .i64 c, .int .i64 r, .int .i64 nr, .int .u64 ni, .int .i64 orr, .int .u64 oi, .int .i64 n], .int .i64 (wd : Int)] w fun e w' => e = .returned (.bool false) ∧ Keeps (fun _ => False) w w' := by
  have hw : IntKind.i64.wrap ((wd : Int) - 1) = (wd : Int) - 1 := by rw [IntKind.wrap_i64]; omega
  have K0 : Hid (Keeps (fun _ => False) w (itW w 3 c r nr ni orr oi n)) := (Keeps.refl _ _).alloc _
  have Hc : Hid (wiB c 0 ((wd : Int) - 1) = true) := hc
  have Hr : Hid (wiB r 0 3 = true) := hr
  have Ho : Hid (wiB orr (-1) 3 = false) := ho
  clear hc hr ho
  go_enter Tryz.func102, Tryz.ntmps102
  go_wp2_with fail
  refine (within_any c 0 ((wd : Int) - 1) _).mono ?_
  rintro e w' ⟨rfl, rfl⟩
  rw [Hc.out]
  go_wp2_with fail
  refine (within_any r 0 3 _).mono ?_
  rintro e w' ⟨rfl, rfl⟩
  rw [Hr.out]
  go_wp2_with fail
  refine (isVal_any orr oi _).mono ?_
  rintro e w1 ⟨rfl, k1⟩
  rw [Ho.out]
  have K1 : Hid (Keeps (fun _ => False) (itW w 3 c r nr ni orr oi n) w1) := k1
  obtain ⟨d31, d41, d71⟩ := it_cells K1.out
  clear k1
  go_wp2
  go_ret
  exact ⟨rfl, K0.out.trans K1.out⟩
theorem isIn_3_3 (c r nr ni orr oi n : Int) (wd : Nat) (w : World) (hwd : wd ≤ 140737488355328) (hc : wiB c 0 ((wd : Int) - 1) = true) (hr : wiB r 0 3 = true) (ho : wiB orr (-1) 3 = true) (hv : wiB nr (-1) 3 = false) : Calls Tryz.prog 102 #[.agg #[.int .i64 3, .int .i64 c, .int .i64 r, .int .i64 nr, .int .u64 ni, .int .i64 orr, .int .u64 oi, .int .i64 n], .int .i64 (wd : Int)] w fun e w' => e = .returned (.bool false) ∧ Keeps (fun _ => False) w w' := by
  have hw : IntKind.i64.wrap ((wd : Int) - 1) = (wd : Int) - 1 := by rw [IntKind.wrap_i64]; omega
  have K0 : Hid (Keeps (fun _ => False) w (itW w 3 c r nr ni orr oi n)) := (Keeps.refl _ _).alloc _
  have Hc : Hid (wiB c 0 ((wd : Int) - 1) = true) := hc
  have Hr : Hid (wiB r 0 3 = true) := hr
  have Ho : Hid (wiB orr (-1) 3 = true) := ho
  have Hv : Hid (wiB nr (-1) 3 = false) := hv
  clear hc hr ho hv
  go_enter Tryz.func102, Tryz.ntmps102
  go_wp2_with fail
  refine (within_any c 0 ((wd : Int) - 1) _).mono ?_
  rintro e w' ⟨rfl, rfl⟩
  rw [Hc.out]
  go_wp2_with fail
  refine (within_any r 0 3 _).mono ?_
  rintro e w' ⟨rfl, rfl⟩
  rw [Hr.out]
  go_wp2_with fail
  refine (isVal_any orr oi _).mono ?_
  rintro e w1 ⟨rfl, k1⟩
  rw [Ho.out]
  have K1 : Hid (Keeps (fun _ => False) (itW w 3 c r nr ni orr oi n) w1) := k1
  obtain ⟨d31, d41, d71⟩ := it_cells K1.out
  clear k1
  go_wp2_with fail
  refine (isVal_any nr ni _).mono ?_
  rintro e w2 ⟨rfl, k2⟩
  rw [Hv.out]
  have K2 : Hid (Keeps (fun _ => False) (itW w 3 c r nr ni orr oi n) w2) := K1.out.trans k2
  obtain ⟨d32, d42, d72⟩ := it_cells K2.out
  clear k2
  go_wp2
  go_ret
  exact ⟨rfl, K0.out.trans K2.out⟩
theorem isIn_3_4 (c r nr ni orr oi n : Int) (wd : Nat) (w : World) (hwd : wd ≤ 140737488355328) (hc : wiB c 0 ((wd : Int) - 1) = true) (hr : wiB r 0 3 = true) (ho : wiB orr (-1) 3 = true) (hv : wiB nr (-1) 3 = true) : Calls Tryz.prog 102 #[.agg #[.int .i64 3, .int .i64 c, .int .i64 r, .int .i64 nr, .int .u64 ni, .int .i64 orr, .int .u64 oi, .int .i64 n], .int .i64 (wd : Int)] w fun e w' => e = .returned (.bool true) ∧ Keeps (fun _ => False) w w' := by
  have hw : IntKind.i64.wrap ((wd : Int) - 1) = (wd : Int) - 1 := by rw [IntKind.wrap_i64]; omega
  have K0 : Hid (Keeps (fun _ => False) w (itW w 3 c r nr ni orr oi n)) := (Keeps.refl _ _).alloc _
  have Hc : Hid (wiB c 0 ((wd : Int) - 1) = true) := hc
  have Hr : Hid (wiB r 0 3 = true) := hr
  have Ho : Hid (wiB orr (-1) 3 = true) := ho
  have Hv : Hid (wiB nr (-1) 3 = true) := hv
  clear hc hr ho hv
  go_enter Tryz.func102, Tryz.ntmps102
  go_wp2_with fail
  refine (within_any c 0 ((wd : Int) - 1) _).mono ?_
  rintro e w' ⟨rfl, rfl⟩
  rw [Hc.out]
  go_wp2_with fail
  refine (within_any r 0 3 _).mono ?_
  rintro e w' ⟨rfl, rfl⟩
  rw [Hr.out]
  go_wp2_with fail
  refine (isVal_any orr oi _).mono ?_
  rintro e w1 ⟨rfl, k1⟩
  rw [Ho.out]
  have K1 : Hid (Keeps (fun _ => False) (itW w 3 c r nr ni orr oi n) w1) := k1
  obtain ⟨d31, d41, d71⟩ := it_cells K1.out
  clear k1
  go_wp2_with fail
  refine (isVal_any nr ni _).mono ?_
  rintro e w2 ⟨rfl, k2⟩
  rw [Hv.out]
  have K2 : Hid (Keeps (fun _ => False) (itW w 3 c r nr ni orr oi n) w2) := K1.out.trans k2
  obtain ⟨d32, d42, d72⟩ := it_cells K2.out
  clear k2
  go_wp2
  go_ret
  exact ⟨rfl, K0.out.trans K2.out⟩
theorem isIn_4_0 (c r nr ni orr oi n : Int) (wd : Nat) (w : World) (hwd : wd ≤ 140737488355328) (hc : wiB c 0 ((wd : Int) - 1) = false) : Calls Tryz.prog 102 #[.agg #[.int .i64 4, .int .i64 c, .int .i64 r, .int .i64 nr, .int .u64 ni, .int .i64 orr, .int .u64 oi, .int .i64 n], .int .i64 (wd : Int)] w fun e w' => e = .returned (.bool false) ∧ Keeps (fun _ => False) w w' := by
  have hw : IntKind.i64.wrap ((wd : Int) - 1) = (wd : Int) - 1 := by rw [IntKind.wrap_i64]; omega
  have K0 : Hid (Keeps (fun _ => False) w (itW w 4 c r nr ni orr oi n)) := (Keeps.refl _ _).alloc _
  have Hc : Hid (wiB c 0 ((wd : Int) - 1) = false) := hc
  clear hc
  go_enter Tryz.func102, Tryz.ntmps102
  go_wp2_with fail
  refine (within_any c 0 ((wd : Int) - 1) _).mono ?_
  rintro e w' ⟨rfl, rfl⟩
  rw [Hc.out]
  go_wp2_with fail
  refine (within_any r 0 3 _).mono ?_
  rintro e w' ⟨rfl, rfl⟩
  generalize wiB r 0 3 = br at *
  go_wp2
  go_ret
  exact ⟨rfl, K0.out⟩
theorem isIn_4_1 (c r nr ni orr oi n : Int) (wd : Nat) (w : World) (hwd : wd ≤ 140737488355328) (hc : wiB c 0 ((wd : Int) - 1) = true) (hr : wiB r 0 3 = false) : Calls Tryz.prog 102 #[.agg #[.int .i64 4, .int .i64 c, .int .i64 r, .int .i64 nr, .int .u64 ni, .int .i64 orr, .int .u64 oi, .int .i64 n], .int .i64 (wd : Int)] w fun e w' => e = .returned (.bool false) ∧ Keeps (fun _ => False) w w' := by
  have hw : IntKind.i64.wrap ((wd : Int) - 1) = (wd : Int) - 1 := by rw [IntKind.wrap_i64]; omega
  have K0 : Hid (Keeps (fun _ => False) w (itW w 4 c r nr ni orr oi n)) := (Keeps.refl _ _).alloc _
  have Hc : Hid (wiB c 0 ((wd : Int) - 1) = true) := hc
  have Hr : Hid (wiB r 0 3 = false) := hr
  clear hc hr
  go_enter Tryz.func102, Tryz.ntmps102
  go_wp2_with fail
  refine (within_any c 0 ((wd : Int) - 1) _).mono ?_
  rintro e w' ⟨rfl, rfl⟩
  rw [Hc.out]
  go_wp2_with fail
  refine (within_any r 0 3 _).mono ?_
  rintro e w' ⟨rfl, rfl⟩
  rw [Hr.out]
  go_wp2
  go_ret
  exact ⟨rfl, K0.out⟩
theorem isIn_4_2 (c r nr ni orr oi n : Int) (wd : Nat) (w : World) (hwd : wd ≤ 140737488355328) (hc : wiB c 0 ((wd : Int) - 1) = true) (hr : wiB r 0 3 = true) (hv : wiB nr (-1) 3 = false) : Calls Tryz.prog 102 #[.agg #[.int .i64 4, .int .i64 c, .int .i64 r, .int .i64 nr, .int .u64 ni, .int .i64 orr, .int .u64 oi, .int .i64 n], .int .i64 (wd : Int)] w fun e w' => e = .returned (.bool false) ∧ Keeps (fun _ => False) w w' := by
  have hw : IntKind.i64.wrap ((wd : Int) - 1) = (wd : Int) - 1 := by rw [IntKind.wrap_i64]; omega
  have K0 : Hid (Keeps (fun _ => False) w (itW w 4 c r nr ni orr oi n)) := (Keeps.refl _ _).alloc _
  have Hc : Hid (wiB c 0 ((wd : Int) - 1) = true) := hc
  have Hr : Hid (wiB r 0 3 = true) := hr
  have Hv : Hid (wiB nr (-1) 3 = false) := hv
  clear hc hr hv
  go_enter Tryz.func102, Tryz.ntmps102
  go_wp2_with fail
  refine (within_any c 0 ((wd : Int) - 1) _).mono ?_
  rintro e w' ⟨rfl, rfl⟩
  rw [Hc.out]
  go_wp2_with fail
  refine (within_any r 0 3 _).mono ?_
  rintro e w' ⟨rfl, rfl⟩
  rw [Hr.out]
  go_wp2_with fail
  refine (isVal_any nr ni _).mono ?_
  rintro e w1 ⟨rfl, k1⟩
  rw [Hv.out]
  have K1 : Hid (Keeps (fun _ => False) (itW w 4 c r nr ni orr oi n) w1) := k1
  obtain ⟨d31, d41, d71⟩ := it_cells K1.out
  clear k1
  go_wp2
  go_ret
  exact ⟨rfl, K0.out.trans K1.out⟩
theorem isIn_4_3 (c r nr ni orr oi n : Int) (wd : Nat) (w : World) (hwd : wd ≤ 140737488355328) (hc : wiB c 0 ((wd : Int) - 1) = true) (hr : wiB r 0 3 = true) (hv : wiB nr (-1) 3 = true) : Calls Tryz.prog 102 #[.agg #[.int .i64 4, .int .i64 c, .int .i64 r, .int .i64 nr, .int .u64 ni, .int .i64 orr, .int .u64 oi, .int .i64 n], .int .i64 (wd : Int)] w fun e w' => e = .returned (.bool true) ∧ Keeps (fun _ => False) w w' := by
  have hw : IntKind.i64.wrap ((wd : Int) - 1) = (wd : Int) - 1 := by rw [IntKind.wrap_i64]; omega
  have K0 : Hid (Keeps (fun _ => False) w (itW w 4 c r nr ni orr oi n)) := (Keeps.refl _ _).alloc _
  have Hc : Hid (wiB c 0 ((wd : Int) - 1) = true) := hc
  have Hr : Hid (wiB r 0 3 = true) := hr
  have Hv : Hid (wiB nr (-1) 3 = true) := hv
  clear hc hr hv
  go_enter Tryz.func102, Tryz.ntmps102
  go_wp2_with fail
  refine (within_any c 0 ((wd : Int) - 1) _).mono ?_
  rintro e w' ⟨rfl, rfl⟩
  rw [Hc.out]
  go_wp2_with fail
  refine (within_any r 0 3 _).mono ?_
  rintro e w' ⟨rfl, rfl⟩
  rw [Hr.out]
  go_wp2_with fail
  refine (isVal_any nr ni _).mono ?_
  rintro e w1 ⟨rfl, k1⟩
  rw [Hv.out]
  have K1 : Hid (Keeps (fun _ => False) (itW w 4 c r nr ni orr oi n) w1) := k1
  obtain ⟨d31, d41, d71⟩ := it_cells K1.out
  clear k1
  go_wp2
  go_ret
  exact ⟨rfl, K0.out.trans K1.out⟩
theorem isIn_5_0 (c r nr ni orr oi n : Int) (wd : Nat) (w : World) (hwd : wd ≤ 140737488355328) (hr : wiB r 0 3 = false) : Calls Tryz.prog 102 #[.agg #[.int .i64 5, .int .i64 c, .int .i64 r, .int .i64 nr, .int .u64 ni, .int .i64 orr, .int .u64 oi, .int .i64 n], .int .i64 (wd : Int)] w fun e w' => e = .returned (.bool false) ∧ Keeps (fun _ => False) w w' := by
  have hw : IntKind.i64.wrap ((wd : Int) - 1) = (wd : Int) - 1 := by rw [IntKind.wrap_i64]; omega
  have K0 : Hid (Keeps (fun _ => False) w (itW w 5 c r nr ni orr oi n)) := (Keeps.refl _ _).alloc _
  have Hr : Hid (wiB r 0 3 = false) := hr
  clear hr
  go_enter Tryz.func102, Tryz.ntmps102
  go_wp2_with fail
  refine (within_any c 0 ((wd : Int) - 1) _).mono ?_
  rintro e w' ⟨rfl, rfl⟩
  generalize wiB c 0 ((wd : Int) - 1) = bc at *
  go_wp2_with fail
  refine (within_any r 0 3 _).mono ?_
  rintro e w' ⟨rfl, rfl⟩
  rw [Hr.out]
  go_wp2
  go_ret
  exact ⟨rfl, K0.out⟩
theorem isIn_5_1 (c r nr ni orr oi n : Int) (wd : Nat) (w : World) (hwd : wd ≤ 140737488355328) (hr : wiB r 0 3 = true) (hv : wiB nr (-1) 3 = false) : Calls Tryz.prog 102 #[.agg #[.int .i64 5, .int .i64 c, .int .i64 r, .int .i64 nr, .int .u64 ni, .int .i64 orr, .int .u64 oi, .int .i64 n], .int .i64 (wd : Int)] w fun e w' => e = .returned (.bool false) ∧ Keeps (fun _ => False) w w' := by
  have hw : IntKind.i64.wrap ((wd : Int) - 1) = (wd : Int) - 1 := by rw [IntKind.wrap_i64]; omega
  have K0 : Hid (Keeps (fun _ => False) w (itW w 5 c r nr ni orr oi n)) := (Keeps.refl _ _).alloc _
  have Hr : Hid (wiB r 0 3 = true) := hr
  have Hv : Hid (wiB nr (-1) 3 = false) := hv
  clear hr hv
  go_enter Tryz.func102, Tryz.ntmps102
  go_wp2_with fail
  refine (within_any c 0 ((wd : Int) - 1) _).mono ?_
  rintro e w' ⟨rfl, rfl⟩
  generalize wiB c 0 ((wd : Int) - 1) = bc at *
  go_wp2_with fail
  refine (within_any r 0 3 _).mono ?_
  rintro e w' ⟨rfl, rfl⟩
  rw [Hr.out]
  go_wp2_with fail
  refine (isVal_any nr ni _).mono ?_
  rintro e w1 ⟨rfl, k1⟩
  rw [Hv.out]
  have K1 : Hid (Keeps (fun _ => False) (itW w 5 c r nr ni orr oi n) w1) := k1
  obtain ⟨d31, d41, d71⟩ := it_cells K1.out
  clear k1
  go_wp2
  go_ret
  exact ⟨rfl, K0.out.trans K1.out⟩
theorem isIn_5_2 (c r nr ni orr oi n : Int) (wd : Nat) (w : World) (hwd : wd ≤ 140737488355328) (hr : wiB r 0 3 = true) (hv : wiB nr (-1) 3 = true) (hn : wiB n 1 10 = false) : Calls Tryz.prog 102 #[.agg #[.int .i64 5, .int .i64 c, .int .i64 r, .int .i64 nr, .int .u64 ni, .int .i64 orr, .int .u64 oi, .int .i64 n], .int .i64 (wd : Int)] w fun e w' => e = .returned (.bool false) ∧ Keeps (fun _ => False) w w' := by
  have hw : IntKind.i64.wrap ((wd : Int) - 1) = (wd : Int) - 1 := by rw [IntKind.wrap_i64]; omega
  have K0 : Hid (Keeps (fun _ => False) w (itW w 5 c r nr ni orr oi n)) := (Keeps.refl _ _).alloc _
  have Hr : Hid (wiB r 0 3 = true) := hr
  have Hv : Hid (wiB nr (-1) 3 = true) := hv
  have Hn : Hid (wiB n 1 10 = false) := hn
  clear hr hv hn
  go_enter Tryz.func102, Tryz.ntmps102
  go_wp2_with fail
  refine (within_any c 0 ((wd : Int) - 1) _).mono ?_
  rintro e w' ⟨rfl, rfl⟩
  generalize wiB c 0 ((wd : Int) - 1) = bc at *
  go_wp2_with fail
  refine (within_any r 0 3 _).mono ?_
  rintro e w' ⟨rfl, rfl⟩
  rw [Hr.out]
  go_wp2_with fail
  refine (isVal_any nr ni _).mono ?_
  rintro e w1 ⟨rfl, k1⟩
  rw [Hv.out]
  have K1 : Hid (Keeps (fun _ => False) (itW w 5 c r nr ni orr oi n) w1) := k1
  obtain ⟨d31, d41, d71⟩ := it_cells K1.out
  clear k1
  go_wp2_with fail
  refine (within_any n 1 10 _).mono ?_
  rintro e w' ⟨rfl, rfl⟩
  rw [Hn.out]
  go_wp2
  go_ret
  exact ⟨rfl, K0.out.trans K1.out⟩
theorem isIn_5_3 (c r nr ni orr oi n : Int) (wd : Nat) (w : World) (hwd : wd ≤ 140737488355328) (hr : wiB r 0 3 = true) (hv : wiB nr (-1) 3 = true) (hn : wiB n 1 10 = true) : Calls Tryz.prog 102 #[.agg #[.int .i64 5, .int .i64 c, .int .i64 r, .int .i64 nr, .int .u64 ni, .int .i64 orr, .int .u64 oi, .int .i64 n], .int .i64 (wd : Int)] w fun e w' => e = .returned (.bool true) ∧ Keeps (fun _ => False) w w' := by
  have hw : IntKind.i64.wrap ((wd : Int) - 1) = (wd : Int) - 1 := by rw [IntKind.wrap_i64]; omega
  have K0 : Hid (Keeps (fun _ => False) w (itW w 5 c r nr ni orr oi n)) := (Keeps.refl _ _).alloc _
  have Hr : Hid (wiB r 0 3 = true) := hr
  have Hv : Hid (wiB nr (-1) 3 = true) := hv
  have Hn : Hid (wiB n 1 10 = true) := hn
  clear hr hv hn
  go_enter Tryz.func102, Tryz.ntmps102
  go_wp2_with fail
  refine (within_any c 0 ((wd : Int) - 1) _).mono ?_
  rintro e w' ⟨rfl, rfl⟩
  generalize wiB c 0 ((wd : Int) - 1) = bc at *
  go_wp2_with fail
  refine (within_any r 0 3 _).mono ?_
  rintro e w' ⟨rfl, rfl⟩
  rw [Hr.out]
  go_wp2_with fail
  refine (isVal_any nr ni _).mono ?_
  rintro e w1 ⟨rfl, k1⟩
  rw [Hv.out]
  have K1 : Hid (Keeps (fun _ => False) (itW w 5 c r nr ni orr oi n) w1) := k1
  obtain ⟨d31, d41, d71⟩ := it_cells K1.out
  clear k1
  go_wp2_with fail
  refine (within_any n 1 10 _).mono ?_
  rintro e w' ⟨rfl, rfl⟩
  rw [Hn.out]
  go_wp2
  go_ret
  exact ⟨rfl, K0.out.trans K1.out⟩
theorem isIn_no (op c r nr ni orr oi n : Int) (wd : Nat) (w : World) (hwd : wd ≤ 140737488355328) (h1 : ¬ op = 1) (h2 : ¬ op = 2) (h3 : ¬ op = 3) (h4 : ¬ op = 4) (h5 : ¬ op = 5) : Calls Tryz.prog 102 #[.agg #[.int .i64 op, .int .i64 c, .int .i64 r, .int .i64 nr, .int .u64 ni, .int .i64 orr, .int .u64 oi, .int .i64 n], .int .i64 (wd : Int)] w fun e w' => e = .returned (.bool false) ∧ Keeps (fun _ => False) w w' := by
  have hw : IntKind.i64.wrap ((wd : Int) - 1) = (wd : Int) - 1 := by rw [IntKind.wrap_i64]; omega
  go_enter Tryz.func102, Tryz.ntmps102
  go_wp2_with fail
  refine (within_any c 0 ((wd : Int) - 1) _).mono ?_
  rintro e w' ⟨rfl, rfl⟩
  generalize wiB c 0 ((wd : Int) - 1) = bc at *
  go_wp2_with fail
  refine (within_any r 0 3 _).mono ?_
  rintro e w' ⟨rfl, rfl⟩
  generalize wiB r 0 3 = br at *
  go_wp2
  go_ret
  exact ⟨rfl, (Keeps.refl _ _).alloc _⟩
theorem isInstr_any (x : I8) (wd : Nat) (w : World) (hwd : wd ≤ 140737488355328) : Calls Tryz.prog 102 #[.agg (iV x), .int .i64 (wd : Int)] w fun e w' => e = .returned (.bool (sndB wd x)) ∧ Keeps (fun _ => False) w w' := by
  obtain ⟨op, c, r, nr, ni, orr, oi, n⟩ := x
  unfold iV inC
  dsimp only
  by_cases e1 : op = 1
  · subst e1
    have e : sndB wd ⟨1, c, r, nr, ni, orr, oi, n⟩ = (wiB c 0 ((wd : Int) - 1) && wiB r 0 3) := by simp [sndB]
    rw [e]
    cases hc : wiB c 0 ((wd : Int) - 1) with
    | false =>
      exact isIn_1_0 c r nr ni orr oi n wd w hwd hc
    | true =>
      cases hr : wiB r 0 3 with
      | false =>
        exact isIn_1_1 c r nr ni orr oi n wd w hwd hc hr
      | true =>
        exact isIn_1_2 c r nr ni orr oi n wd w hwd hc hr
  by_cases e2 : op = 2
  · subst e2
    have e : sndB wd ⟨2, c, r, nr, ni, orr, oi, n⟩ = (wiB c 0 ((wd : Int) - 1) && wiB nr (-1) 3) := by simp [sndB]
    rw [e]
    cases hc : wiB c 0 ((wd : Int) - 1) with
    | false =>
      exact isIn_2_0 c r nr ni orr oi n wd w hwd hc
    | true =>
      cases hv : wiB nr (-1) 3 with
      | false =>
        exact isIn_2_1 c r nr ni orr oi n wd w hwd hc hv
      | true =>
        exact isIn_2_2 c r nr ni orr oi n wd w hwd hc hv
  by_cases e3 : op = 3
  · subst e3
    have e : sndB wd ⟨3, c, r, nr, ni, orr, oi, n⟩ = (wiB c 0 ((wd : Int) - 1) && wiB r 0 3 && wiB orr (-1) 3 && wiB nr (-1) 3) := by simp [sndB]
    rw [e]
    cases hc : wiB c 0 ((wd : Int) - 1) with
    | false =>
      exact isIn_3_0 c r nr ni orr oi n wd w hwd hc
    | true =>
      cases hr : wiB r 0 3 with
      | false =>
        exact isIn_3_1 c r nr ni orr oi n wd w hwd hc hr
      | true =>
        cases ho : wiB orr (-1) 3 with
        | false =>
          exact isIn_3_2 c r nr ni orr oi n wd w hwd hc hr ho
        | true =>
          cases hv : wiB nr (-1) 3 with
          | false =>
            exact isIn_3_3 c r nr ni orr oi n wd w hwd hc hr ho hv
          | true =>
            exact isIn_3_4 c r nr ni orr oi n wd w hwd hc hr ho hv
  by_cases e4 : op = 4
  · subst e4
    have e : sndB wd ⟨4, c, r, nr, ni, orr, oi, n⟩ = (wiB c 0 ((wd : Int) - 1) && wiB r 0 3 && wiB nr (-1) 3) := by simp [sndB]
    rw [e]
    cases hc : wiB c 0 ((wd : Int) - 1) with
    | false =>
      exact isIn_4_0 c r nr ni orr oi n wd w hwd hc
    | true =>
      cases hr : wiB r 0 3 with
      | false =>
        exact isIn_4_1 c r nr ni orr oi n wd w hwd hc hr
      | true =>
        cases hv : wiB nr (-1) 3 with
        | false =>
          exact isIn_4_2 c r nr ni orr oi n wd w hwd hc hr hv
        | true =>
          exact isIn_4_3 c r nr ni orr oi n wd w hwd hc hr hv
  by_cases e5 : op = 5
  · subst e5
    have e : sndB wd ⟨5, c, r, nr, ni, orr, oi, n⟩ = (wiB r 0 3 && wiB nr (-1) 3 && wiB n 1 10) := by simp [sndB]
    rw [e]
    cases hr : wiB r 0 3 with
    | false =>
      exact isIn_5_0 c r nr ni orr oi n wd w hwd hr
    | true =>
      cases hv : wiB nr (-1) 3 with
      | false =>
        exact isIn_5_1 c r nr ni orr oi n wd w hwd hr hv
      | true =>
        cases hn : wiB n 1 10 with
        | false =>
          exact isIn_5_2 c r nr ni orr oi n wd w hwd hr hv hn
        | true =>
          exact isIn_5_3 c r nr ni orr oi n wd w hwd hr hv hn
  have e : sndB wd ⟨op, c, r, nr, ni, orr, oi, n⟩ = false := by simp [sndB, e1, e2, e3, e4, e5]
  rw [e]
  exact isIn_no op c r nr ni orr oi n wd w hwd e1 e2 e3 e4 e5
end Go.Proofs.YtdpebhdjcgiboaaGreat
