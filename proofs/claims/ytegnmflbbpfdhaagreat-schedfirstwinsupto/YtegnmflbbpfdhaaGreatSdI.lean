import Derived.Test.YtegnmflbbpfdhaaGreatSdH
namespace Go.Proofs.YtegnmflbbpfdhaaGreat
open Go.ChangeShapes Go.WideShapes Go.ChangeAt Go.RowKit Go.MuLone Go.RwLone
set_option linter.unusedVariables false
set_option maxRecDepth 100000
set_option maxHeartbeats 3200000
/-- Where a bench's things lie: blocks below B. -/
structure Ad where
  B : Nat
  L : Lay
  hb : Nat
  qb : Nat
  n : Nat
  pb : Nat → Nat
  T : Nat → Nat
  ib : Nat → Nat
  cp : Nat → Nat
  cap : Nat → Nat
structure Ly (A : Ad) : Prop where
  n4 : 1 ≤ A.n ∧ A.n ≤ 4
  ap : ∀ i, i < A.n → Ap A.L (A.T i) (A.ib i) A.hb A.qb (A.pb i) A.B
  TT : ∀ i k, i < A.n → k < A.n → i ≠ k → A.T i ≠ A.T k
  pp : ∀ i k, i < A.n → k < A.n → i ≠ k → A.pb i ≠ A.pb k
  Tp : ∀ i k, i < A.n → k < A.n → A.T i ≠ A.pb k
  ip : ∀ i k, i < A.n → k < A.n → A.ib i ≠ A.pb k
  iT : ∀ i k, i < A.n → k < A.n → A.ib i ≠ A.T k
  cp : ∀ i, i < A.n → 1 ≤ A.cp i ∧ A.cp i ≤ 9223372036854775807
/-- How many are not done. -/
def left (dn : Nat → Bool) (n : Nat) : Nat := (List.range n).countP (fun i => !dn i)
theorem left_succ (dn : Nat → Bool) (n : Nat) : left dn (n + 1) = left dn n + (if dn n then 0 else 1) := by
  unfold left
  rw [List.range_succ, List.countP_append]
  cases e : dn n <;> simp [e]
theorem left_same {dn dm : Nat → Bool} {n : Nat} (h : ∀ i, i < n → dn i = dm i) : left dn n = left dm n := by
  induction n with
  | zero => rfl
  | succ n ih => rw [left_succ, left_succ, ih (fun i hi => h i (by omega)), h n (by omega)]
theorem left_set {dn : Nat → Bool} {n i : Nat} (hi : i < n) (hd : dn i = false) : left (upd dn i true) n + 1 = left dn n := by
  induction n with
  | zero => omega
  | succ n ih =>
    rw [left_succ, left_succ]
    by_cases e : i = n
    · subst e
      rw [left_same (dn := upd dn i true) (dm := dn) (fun k hk => upd_other _ _ (by omega)), upd_same, hd]
      simp
    · rw [upd_other _ _ (show n ≠ i from fun h => e h.symm)]
      have := ih (by omega)
      omega
/-- The word that thread i swaps in. -/
def nw (x0 : Int) (i : Nat) : Int := (x0 + 1 + (i : Int)) % 18446744073709551616
theorem nw_ne {x0 : Int} {i : Nat} (h0 : 0 ≤ x0) (h1 : x0 < 18446744073709551616) (hi : i < 4) : ¬ nw x0 i = x0 := by unfold nw; omega
/-- The bench of swaps. -/
structure Fw (w : World) (A : Ad) (x0 : Int) (dn : Nat → Bool) (S : AS) (rg : Nat → Nat → Int) (st : Int) (ev en : Value) (es : List (Int × Int × Int × Int)) (ts : List Nat) : Prop where
  hd : Holds w A.L S
  hr : Hr w A.hb A.qb A.n A.pb (fun i => if dn i then 0 else 1) A.cp st ev en
  th : ∀ i, i < A.n → Th w (A.T i) A.L (A.ib i) 1 (A.cap i) (rg i) (if dn i then 1 else 0)
  ins : ∀ i, i < A.n → In8 w (A.ib i) 0 3 ((1 : Nat) : Int) ((2 : Nat) : Int) (-1) (nw x0 i) (-1) x0 0
  pl : ∀ i, i < A.n → dn i = false → w.cell? ⟨A.pb i, 0, none⟩ = some (.pointer (some ⟨A.T i, 0, none⟩)) ∧ w.cell? ⟨A.pb i, 1, none⟩ = some (.int .i64 (i : Int)) ∧ w.cell? ⟨A.pb i, 2, none⟩ = some (.bool false)
  pf : ∀ i, i < A.n → dn i = false → ∀ j, w.frozen? ⟨A.pb i, j, none⟩ = false
  oe : OwE w A.B ev es
  ot : OwT w A.B en ts
  bs : A.B ≤ w.heap.size
  s1 : S.rc = 0
  s2 : S.n = 1
  s3 : S.use 0 = true
  s4 : S.wd = 2
  s5 : S.g0 = 0
  el : es.length = 2 * ts.length
  tl : ts.length + left dn A.n = A.n
/-- Who won. -/
def Won (x0 : Int) (dn : Nat → Bool) (n : Nat) (S : AS) (rg : Nat → Nat → Int) : Prop :=
  S.word 0 = 7 ∧ (((∀ i, i < n → dn i = false) ∧ S.word 1 = x0 ∧ ∀ i, i < n → rg i 2 = 0) ∨ ∃ v, v < n ∧ dn v = true ∧ S.word 1 = nw x0 v ∧ ∀ i, i < n → rg i 2 = if i = v then 1 else 0)
theorem Won.step {x0 : Int} {dn : Nat → Bool} {n : Nat} {S : AS} {rg : Nat → Nat → Int} {i : Nat} {x : Int} (h0 : 0 ≤ x0) (h1 : x0 < 18446744073709551616) (hn : n ≤ 4) (h : Won x0 dn n S rg) (hi : i < n) (hd : dn i = false) :
    Won x0 (upd dn i true) n { S with rc := 0, acc := x, word := if S.word 1 = x0 then upd S.word 1 (nw x0 i) else S.word } (upd rg i (upd (rg i) 2 (bitI (decide (S.word 1 = x0))))) := by
  obtain ⟨hw, h⟩ := h
  rcases h with ⟨ha, hx, hr⟩ | ⟨v, hv, hdv, hx, hr⟩
  · refine ⟨?_, .inr ⟨i, hi, upd_same _ _ _, ?_, fun k hk => ?_⟩⟩
    · show (if S.word 1 = x0 then upd S.word 1 (nw x0 i) else S.word) 0 = 7
      rw [if_pos hx, upd_other _ _ (by decide)]; exact hw
    · show (if S.word 1 = x0 then upd S.word 1 (nw x0 i) else S.word) 1 = nw x0 i
      rw [if_pos hx, upd_same]
    · by_cases e : k = i
      · subst e
        rw [upd_same, upd_same, decide_eq_true hx, if_pos rfl]; rfl
      · rw [upd_other _ _ e, if_neg e]; exact hr k hk
  · have hne : ¬ S.word 1 = x0 := by rw [hx]; exact nw_ne h0 h1 (by omega)
    have hiv : i ≠ v := fun e => by subst e; rw [hd] at hdv; cases hdv
    refine ⟨?_, .inr ⟨v, hv, ?_, ?_, fun k hk => ?_⟩⟩
    · show (if S.word 1 = x0 then upd S.word 1 (nw x0 i) else S.word) 0 = 7
      rw [if_neg hne]; exact hw
    · rw [upd_other _ _ (fun e => hiv e.symm)]; exact hdv
    · show (if S.word 1 = x0 then upd S.word 1 (nw x0 i) else S.word) 1 = nw x0 v
      rw [if_neg hne]; exact hx
    · by_cases e : k = i
      · subst e
        rw [upd_same, upd_same, decide_eq_false hne, if_neg hiv]; rfl
      · rw [upd_other _ _ e]; exact hr k hk
/-- What a bench's steps may touch. -/
def Tc (A : Ad) (x : Nat) : Prop := ∃ i, i < A.n ∧ Mv A.L (A.T i) A.hb A.qb (A.pb i) A.B x
theorem fw_step (w : World) (A : Ad) (x0 : Int) (dn : Nat → Bool) (S : AS) (rg : Nat → Nat → Int) (st : Int) (ev en : Value) (es : List (Int × Int × Int × Int)) (ts : List Nat) (hA : Ly A) (h : Fw w A x0 dn S rg st ev en es ts) (h0 : 0 ≤ x0) (h1 : x0 < 18446744073709551616) (hW : Won x0 dn A.n S rg) (i : Nat) (hi : i < A.n) (hd : dn i = false) :
    Calls Tryz.prog 110 #[.pointer (some ⟨A.hb, 0, none⟩), .int .i64 (i : Int)] w fun e w' => e = .returned (.bool true) ∧ (∃ S' rg' st' ev' en' es' ts', Fw w' A x0 (upd dn i true) S' rg' st' ev' en' es' ts' ∧ Won x0 (upd dn i true) A.n S' rg') ∧ Keeps (Tc A) w w' ∧ ∀ (k : Nat) (c : Array Value) (t : TypeId) (f : Nat × Nat), A.B ≤ k → w.heap[k]? = some (.cells c t f) → t ≠ 161 → t ≠ 75 → w'.heap[k]? = w.heap[k]? := by
  have a := hA.ap i hi
  have hp := h.pl i hi hd
  have hth := h.th i hi
  rw [hd] at hth
  have hM : Md w w A.B A.L S A.hb A.qb A.n A.pb (fun i => if dn i then 0 else 1) A.cp st ev en i (A.T i) (A.ib i) 1 (A.cap i) (rg i) 0 (i : Int) false es ts :=
    ⟨Keeps.refl _ _, h.hd, h.hr, hth, hp.1, hp.2.1, hp.2.2, h.pf i hi hd, h.oe, h.ot, h.bs, fun _ _ _ _ _ _ _ _ => rfl⟩
  have hn4 := hA.n4
  have htl := h.tl
  have hel := h.el
  refine (hstep_swap w A.B A.L S A.hb A.qb A.n A.pb _ A.cp st ev en i (A.T i) (A.ib i) (A.cap i) (rg i) 1 2 (nw x0 i) x0 0 (i : Int) es ts (decide (S.word 1 = x0)) (if S.word 1 = x0 then upd S.word 1 (nw x0 i) else S.word) ⟨rfl, rfl⟩ a hM (h.ins i hi) hi (by simp [hd]) (hA.cp i hi) h.s1 h.s2 h.s3 (by rw [h.s4]; decide) (by decide) (by omega) (by omega)).mono ?_
  rintro e w' ⟨rfl, ev', en', k, hd', hr', th', oe', ot', bs', fr⟩
  refine ⟨rfl, ⟨_, upd rg i (upd (rg i) 2 (bitI (decide (S.word 1 = x0)))), wrap64 (st + 1), ev', en', _, _, ⟨hd', ?_, fun m hm => ?_, fun m hm => ?_, fun m hm hdm => ?_, fun m hm hdm j => ?_, oe', ot', bs', rfl, h.s2, h.s3, h.s4, h.s5, by simp; omega, ?_⟩, hW.step h0 h1 hn4.2 hi hd⟩, k.mono (fun x e => ⟨i, hi, e⟩), fr⟩
  · rw [show (fun k => if upd dn i true k = true then 0 else 1) = upd (fun k => if dn k = true then 0 else 1) i 0 from by
      funext k
      by_cases e : k = i
      · subst e; rw [upd_same, upd_same]; rfl
      · rw [upd_other _ _ e, upd_other _ _ e]]
    exact hr'
  · by_cases e : m = i
    · subst e
      rw [upd_same, upd_same]
      exact th'
    · rw [upd_other _ _ e, upd_other _ _ e]
      refine (h.th m hm).keeps k ?_
      have b := hA.ap m hm
      rintro (x | x | x | x | x | x)
      · exact b.lT x
      · exact hA.TT m i hm hi e x
      · exact b.Th x.symm
      · exact b.Tq x.symm
      · exact hA.Tp m i hm hi x
      · exact absurd b.bT (by omega)
  · refine (h.ins m hm).keeps k ?_
    have b := hA.ap m hm
    rintro (x | x | x | x | x | x)
    · exact b.li x
    · exact hA.iT m i hm hi x
    · exact b.ih x
    · exact b.iq x
    · exact hA.ip m i hm hi x
    · exact absurd b.bi (by omega)
  · have e : m ≠ i := fun e => by subst e; rw [upd_same] at hdm; cases hdm
    rw [upd_other _ _ e] at hdm
    have b := hA.ap m hm
    have nk : ¬ Mv A.L (A.T i) A.hb A.qb (A.pb i) A.B (A.pb m) := by
      rintro (x | x | x | x | x | x)
      · exact b.lp x
      · exact hA.Tp i m hi hm x.symm
      · exact b.hp x.symm
      · exact b.qp x.symm
      · exact hA.pp m i hm hi e x
      · exact absurd b.bp (by omega)
    have lp : A.pb m < w.heap.size := Nat.lt_of_lt_of_le b.bp h.bs
    obtain ⟨q0, q1, q2⟩ := h.pl m hm hdm
    exact ⟨(k.cell (p := ⟨A.pb m, 0, none⟩) lp nk).trans q0, (k.cell (p := ⟨A.pb m, 1, none⟩) lp nk).trans q1, (k.cell (p := ⟨A.pb m, 2, none⟩) lp nk).trans q2⟩
  · have e : m ≠ i := fun e => by subst e; rw [upd_same] at hdm; cases hdm
    rw [upd_other _ _ e] at hdm
    have b := hA.ap m hm
    have nk : ¬ Mv A.L (A.T i) A.hb A.qb (A.pb i) A.B (A.pb m) := by
      rintro (x | x | x | x | x | x)
      · exact b.lp x
      · exact hA.Tp i m hi hm x.symm
      · exact b.hp x.symm
      · exact b.qp x.symm
      · exact hA.pp m i hm hi e x
      · exact absurd b.bp (by omega)
    have lp : A.pb m < w.heap.size := Nat.lt_of_lt_of_le b.bp h.bs
    exact (k.frozen (p := ⟨A.pb m, j, none⟩) lp nk).trans (h.pf m hm hdm j)
  · have := left_set hi hd
    simp
    omega
end Go.Proofs.YtegnmflbbpfdhaaGreat
