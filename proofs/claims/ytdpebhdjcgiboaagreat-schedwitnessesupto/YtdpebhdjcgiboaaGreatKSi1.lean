import Derived.Test.YtdpebhdjcgiboaaGreatKSg9
import Derived.Test.YtdpebhdjcgiboaaGreatKSrL
namespace Go.Proofs.YtdpebhdjcgiboaaGreat
open Go.ChangeShapes Go.WideShapes Go.ChangeAt Go.RowKit Go.MuLone Go.RwLone
set_option linter.unusedVariables false
set_option maxRecDepth 100000
set_option maxHeartbeats 3200000
/-- Every step of a worker that has something to do spends of Φ. -/
structure Bud (M : Mc) (J : Hp × M.σ → Prop) (Φ : Hp × M.σ → Nat) : Prop where
  s : ∀ a i x l, J a → a.1.q[i]? = some (x :: l) → J (stepP M a i).1 ∧ Φ (stepP M a i).1 + 1 ≤ Φ a
/-- A budget of Φ or more bears it, and any such leads to the same. -/
def Fine (M : Mc) (J : Hp × M.σ → Prop) (Φ : Hp × M.σ → Nat) (f : Nat → Hp × M.σ → Bool × Nat × (Hp × M.σ)) (a : Hp × M.σ) : Prop :=
  ∃ d a', J a' ∧ d + Φ a' ≤ Φ a ∧ ∀ l, Φ a ≤ l → f l a = (true, l - d, a')
variable {M : Mc} {J : Hp × M.σ → Prop} {Φ : Hp × M.σ → Nat}
theorem fine_end {f : Nat → Hp × M.σ → Bool × Nat × (Hp × M.σ)} {a : Hp × M.σ} (j : J a) (h : ∀ l, f l a = (true, l, a)) : Fine M J Φ f a :=
  ⟨0, a, j, by omega, fun l _ => by rw [h l]; simp⟩
theorem fine_run (W : Bud M J Φ) (x : Int) : ∀ (m : Nat) (n : Int) (a : Hp × M.σ), Φ a ≤ m → J a → Fine M J Φ (fun l => runP M x l n) a
  | m, n, a, hm, j => by
    by_cases h : n ≤ 0 ∨ pendP a.1 x = 0
    · exact fine_end j (fun l => runP_end h)
    · obtain ⟨_, _, y, l0, hq⟩ := pend_head (fun e => h (.inr e))
      obtain ⟨j1, p1⟩ := W.s a x.toNat y l0 j hq
      match m, hm with
      | 0, hm => omega
      | m + 1, hm =>
        obtain ⟨d, a', j', p', h'⟩ := fine_run W x m (n - 1) (stepP M a x.toNat).1 (by omega) j1
        refine ⟨d + 1, a', j', by omega, fun l hl => ?_⟩
        match l, hl with
        | 0, hl => omega
        | l + 1, hl =>
          have e := h' l (by omega)
          dsimp only at e ⊢
          simp only [runP]
          rw [if_neg h, e]
          simp
theorem fine_fin (W : Bud M J Φ) (i : Nat) : ∀ (m : Nat) (a : Hp × M.σ), Φ a ≤ m → J a → (∃ y l, a.1.q[i]? = some (y :: l)) → Fine M J Φ (fun l => finP M i l) a
  | m, a, hm, j, hq => by
    obtain ⟨y, l0, hq⟩ := hq
    obtain ⟨j1, p1⟩ := W.s a i y l0 j hq
    match m, hm with
    | 0, hm => omega
    | m + 1, hm =>
      cases hd : (stepP M a i).2 with
      | true =>
        refine ⟨1, (stepP M a i).1, j1, by omega, fun l hl => ?_⟩
        match l, hl with
        | 0, hl => omega
        | l + 1, hl =>
          dsimp only
          simp only [finP]
          rw [hd]
          simp
      | false =>
        obtain ⟨d, a', j', p', h'⟩ := fine_fin W i m (stepP M a i).1 (by omega) j1 ⟨_, _, stepP_head hq hd⟩
        refine ⟨d + 1, a', j', by omega, fun l hl => ?_⟩
        match l, hl with
        | 0, hl => omega
        | l + 1, hl =>
          have e := h' l (by omega)
          dsimp only at e ⊢
          simp only [finP]
          rw [hd, e]
          simp
theorem fine_roundN (W : Bud M J Φ) : ∀ (k t : Nat) (a : Hp × M.σ), J a → Fine M J Φ (fun l => roundN M k t l) a
  | 0, t, a, j => fine_end j (fun l => rfl)
  | k + 1, t, a, j => by
    obtain ⟨d1, a1, j1, p1, h1⟩ := fine_run W (t : Int) (Φ a) 1 a (Nat.le_refl _) j
    obtain ⟨d2, a2, j2, p2, h2⟩ := fine_roundN W k (t + 1) a1 j1
    refine ⟨d1 + d2, a2, j2, by omega, fun l hl => ?_⟩
    have e1 := h1 l hl
    have e2 := h2 (l - d1) (by omega)
    dsimp only at e1 e2 ⊢
    simp only [roundN]
    rw [e1]
    dsimp only
    rw [if_pos rfl, e2, Nat.sub_sub]
theorem fine_rounds (W : Bud M J Φ) : ∀ (m : Nat) (n : Int) (a : Hp × M.σ), Φ a ≤ m → J a → ∃ d a', J a' ∧ d + Φ a' ≤ Φ a ∧ ((Φ a : Int) < n → idleP a'.1 = true) ∧ ∀ l, Φ a ≤ l → roundsA M n l a = (true, l - d, a')
  | m, n, a, hm, j => by
    by_cases h : n ≤ 0 ∨ idleP a.1 = true
    · exact ⟨0, a, j, by omega, fun hn => h.elim (fun e => by omega) (fun e => e), fun l _ => by rw [roundsA_end h]; simp⟩
    · obtain ⟨d1, a1, j1, p1, h1⟩ := fine_roundN W a.1.q.length 0 a j
      have e1 := h1 (Φ a) (Nat.le_refl _)
      dsimp only at e1
      have hs := roundN_some a.1.q.length 0 (Φ a) a (idle_some (fun e => h (.inr e))) (by rw [e1])
      rw [e1] at hs
      dsimp only at hs
      match m, hm with
      | 0, hm => omega
      | m + 1, hm =>
        obtain ⟨d2, a2, j2, p2, hi, h2⟩ := fine_rounds W m (n - 1) a1 (by omega) j1
        refine ⟨d1 + d2, a2, j2, by omega, fun hn => hi (by omega), fun l hl => ?_⟩
        have e3 := h1 l hl
        dsimp only at e3
        rw [roundsA_on h (by rw [e3]), e3]
        dsimp only
        rw [h2 (l - d1) (by omega), Nat.sub_sub]
theorem fine_pick (W : Bud M J Φ) (p : Int × Int × Int) (a : Hp × M.σ) (j : J a) : Fine M J Φ (fun l => pickP M p l) a := by
  by_cases h1 : p.1 = 1
  · obtain ⟨d, a', j', q, h⟩ := fine_run W p.2.1 (Φ a) 1 a (Nat.le_refl _) j
    exact ⟨d, a', j', q, fun l hl => by have e := h l hl; dsimp only at e ⊢; unfold pickP; rw [if_pos h1, e]⟩
  · by_cases h2 : p.1 = 2
    · obtain ⟨d, a', j', q, h⟩ := fine_run W p.2.1 (Φ a) p.2.2 a (Nat.le_refl _) j
      exact ⟨d, a', j', q, fun l hl => by have e := h l hl; dsimp only at e ⊢; unfold pickP; rw [if_neg h1, if_pos h2, e]⟩
    · by_cases h5 : p.1 = 5
      · by_cases hp : pendP a.1 p.2.1 = 0
        · exact ⟨0, a, j, by omega, fun l hl => by dsimp only; unfold pickP finA; rw [if_neg h1, if_neg h2, if_pos h5, if_pos hp]; simp⟩
        · obtain ⟨_, _, y, l0, hq⟩ := pend_head hp
          obtain ⟨d, a', j', q, h⟩ := fine_fin W p.2.1.toNat (Φ a) a (Nat.le_refl _) j ⟨y, l0, hq⟩
          exact ⟨d, a', j', q, fun l hl => by have e := h l hl; dsimp only at e ⊢; unfold pickP finA; rw [if_neg h1, if_neg h2, if_pos h5, if_neg hp, e]⟩
      · by_cases h4 : p.1 = 4
        · obtain ⟨d, a', j', q, _, h⟩ := fine_rounds W (Φ a) p.2.2 a (Nat.le_refl _) j
          exact ⟨d, a', j', q, fun l hl => by have e := h l hl; dsimp only; unfold pickP; rw [if_neg h1, if_neg h2, if_neg h5, if_pos h4, e]⟩
        · by_cases h6 : p.1 = 6
          · obtain ⟨d, a', j', q, _, h⟩ := fine_rounds W (Φ a) 9223372036854775807 a (Nat.le_refl _) j
            exact ⟨d, a', j', q, fun l hl => by have e := h l hl; dsimp only; unfold pickP; rw [if_neg h1, if_neg h2, if_neg h5, if_neg h4, if_pos h6, e]⟩
          · exact fine_end j (fun l => by unfold pickP; rw [if_neg h1, if_neg h2, if_neg h5, if_neg h4, if_neg h6])
theorem fine_play (W : Bud M J Φ) : ∀ (ps : List (Int × Int × Int)) (a : Hp × M.σ), J a → Fine M J Φ (fun l => playP M ps l) a
  | [], a, j => fine_end j (fun l => rfl)
  | p :: ps, a, j => by
    obtain ⟨d1, a1, j1, p1, h1⟩ := fine_pick W p a j
    obtain ⟨d2, a2, j2, p2, h2⟩ := fine_play W ps a1 j1
    refine ⟨d1 + d2, a2, j2, by omega, fun l hl => ?_⟩
    have e1 := h1 l hl
    have e2 := h2 (l - d1) (by omega)
    dsimp only at e1 e2 ⊢
    simp only [playP]
    rw [e1]
    dsimp only
    rw [if_pos rfl, e2, Nat.sub_sub]
/-- A drain ends with every queue empty. -/
theorem fine_drain (W : Bud M J Φ) (a : Hp × M.σ) (j : J a) (hm : Φ a ≤ 1000000) : ∃ d a', J a' ∧ d + Φ a' ≤ Φ a ∧ idleP a'.1 = true ∧ ∀ l, Φ a ≤ l → playP M [(6, 0, 0)] l a = (true, l - d, a') := by
  obtain ⟨d, a', j', q, hi, h⟩ := fine_rounds W (Φ a) 9223372036854775807 a (Nat.le_refl _) j
  refine ⟨d, a', j', q, hi (by omega), fun l hl => ?_⟩
  have e : pickP M (6, 0, 0) l a = (true, l - d, a') := by unfold pickP; simp [h l hl]
  simp only [playP, e]
  simp
/-- A sum that falls at one place. -/
theorem sum_fall (f f' : Nat → Nat) (i : Nat) (ho : ∀ j, j ≠ i → f' j = f j) (hi : f' i + 1 ≤ f i) : ∀ n, (i < n → ((List.range n).map f').sum + 1 ≤ ((List.range n).map f).sum) ∧ (n ≤ i → ((List.range n).map f').sum = ((List.range n).map f).sum)
  | 0 => ⟨fun h => by omega, fun _ => rfl⟩
  | n + 1 => by
    have ih := sum_fall f f' i ho hi n
    rw [List.range_succ, List.map_append, List.map_append, List.sum_append, List.sum_append]
    simp only [List.map_cons, List.map_nil, List.sum_cons, List.sum_nil]
    refine ⟨fun h => ?_, fun h => ?_⟩
    · by_cases e : n = i
      · subst e; have := ih.2 (Nat.le_refl _); omega
      · have := ih.1 (by omega); have := ho n e; omega
    · have := ih.2 (by omega); have := ho n (by omega); omega
theorem exP_ge (wo rg : Nat → Int) (x : I8) : 1 ≤ (exP wo rg x).2.2 := by
  unfold exP
  repeat' split
  all_goals simp
/-- How a bench's harness stands. -/
structure Jb (ins : Nat → List I8) (n : Nat) (a : Hp × Ls) : Prop where
  sz : a.1.q.length = n
  q : ∀ i, i < n → (a.1.q[i]? = some [] ∧ (ins i).length ≤ a.2.pl i) ∨ ∃ tg c, a.1.q[i]? = some [(i, tg, c)]
def phB (ins : Nat → List I8) (a : Hp × Ls) (i : Nat) : Nat := match a.1.q[i]? with | some (_ :: _) => max 1 ((ins i).length - a.2.pl i) | _ => 0
def phA (ins : Nat → List I8) (n : Nat) (a : Hp × Ls) : Nat := ((List.range n).map (phB ins a)).sum
theorem pl_next (wo rg : Nat → Int) (l : List I8) (p : Nat) : l.length ≤ p ∧ (tsP wo rg l p).2.2 = p ∨ p < l.length ∧ p + 1 ≤ (tsP wo rg l p).2.2 := by
  rcases Nat.lt_or_ge p l.length with h | h
  · right
    rw [tsP_in h]
    have := exP_ge wo rg l[p]
    exact ⟨h, by show _ ≤ min _ _; omega⟩
  · left
    unfold tsP
    rw [List.getElem?_eq_none h]
    exact ⟨h, rfl⟩
theorem stepP_two {M : Mc} {a : Hp × M.σ} {i : Nat} {x : Pq} {l : List Pq} (hq : a.1.q[i]? = some (x :: l)) :
    ∃ st' ev' en', (M.dn (M.st a.2 x.1) x.1 = true ∧ (stepP M a i).1 = (⟨a.1.q.set i l, st', ev', en'⟩, M.st a.2 x.1)) ∨ (¬ M.dn (M.st a.2 x.1) x.1 = true ∧ (stepP M a i).1 = (⟨a.1.q.set i ((x.1, x.2.1, true) :: l), st', ev', en'⟩, M.st a.2 x.1)) := by
  unfold stepP
  simp only [hq]
  unfold stepQ
  by_cases hd : M.dn (M.st a.2 x.1) x.1 = true
  · rw [if_pos hd]
    exact ⟨_, _, _, .inl ⟨hd, rfl⟩⟩
  · rw [if_neg hd]
    exact ⟨_, _, _, .inr ⟨hd, rfl⟩⟩
theorem budB_s (ins : Nat → List I8) (n : Nat) (a : Hp × Ls) (i : Nat) (x : Pq) (l : List Pq) (j : Jb ins n a) (hq : a.1.q[i]? = some (x :: l)) : Jb ins n (stepP (pureM ins n) a i).1 ∧ phA ins n (stepP (pureM ins n) a i).1 + 1 ≤ phA ins n a := by
  have hi : i < n := by rw [← j.sz]; exact (List.getElem?_eq_some_iff.1 hq).1
  obtain ⟨⟨q, st, ev, en⟩, s⟩ := a
  dsimp only at hq
  obtain ⟨tg, c, hx⟩ : ∃ tg c, q[i]? = some [(i, tg, c)] := by
    rcases j.q i hi with ⟨e, _⟩ | e
    · dsimp only at e; rw [hq] at e; cases e
    · exact e
  rw [hq] at hx
  injection hx with hx
  injection hx with hx hl
  subst hx hl
  obtain ⟨st', ev', en', h2⟩ := stepP_two (M := pureM ins n) (a := (⟨q, st, ev, en⟩, s)) hq
  suffices h : ∀ z : Hp × Ls, (stepP (pureM ins n) (⟨q, st, ev, en⟩, s) i).1 = z → Jb ins n z ∧ phA ins n z + 1 ≤ phA ins n (⟨q, st, ev, en⟩, s) from h _ rfl
  intro z hz
  have hp := pl_next s.wo (s.rg i) (ins i) (s.pl i)
  have hlen : i < q.length := by have := j.sz; dsimp only at this; omega
  have p1 : (stI ins s i).pl i = (tsP s.wo (s.rg i) (ins i) (s.pl i)).2.2 := upd_same _ _ _
  have p2 : ∀ k, k ≠ i → (stI ins s i).pl k = s.pl k := fun k hk => upd_other _ _ hk
  have f1 : phB ins (⟨q, st, ev, en⟩, s) i = max 1 ((ins i).length - s.pl i) := by unfold phB; simp only [hq]
  have key : ∀ (r : List Pq) (st' : Int) (ev' : List (Int × Int × Int × Int)) (en' : List Nat), ((r = [] ∧ (ins i).length ≤ (stI ins s i).pl i) ∨ ((∃ tg c, r = [(i, tg, c)]) ∧ ¬ (ins i).length ≤ (stI ins s i).pl i)) → Jb ins n (⟨q.set i r, st', ev', en'⟩, stI ins s i) ∧ phA ins n (⟨q.set i r, st', ev', en'⟩, stI ins s i) + 1 ≤ phA ins n (⟨q, st, ev, en⟩, s) := by
    intro r st' ev' en' hr
    have g1 : (q.set i r)[i]? = some r := List.getElem?_set_self hlen
    have g2 : ∀ k, k ≠ i → (q.set i r)[k]? = q[k]? := fun k hk => List.getElem?_set_ne (fun e => hk e.symm)
    refine ⟨⟨by have := j.sz; simpa using this, fun k hk => ?_⟩, (sum_fall (phB ins (⟨q, st, ev, en⟩, s)) _ i (fun k hk => ?_) ?_ n).1 hi⟩
    · dsimp only
      by_cases e : k = i
      · subst e
        rw [g1]
        rcases hr with ⟨rfl, h⟩ | ⟨⟨tg', c', rfl⟩, _⟩
        · exact .inl ⟨rfl, h⟩
        · exact .inr ⟨tg', c', rfl⟩
      · rw [g2 k e, p2 k e]
        exact j.q k hk
    · unfold phB
      dsimp only
      rw [g2 k hk, p2 k hk]
    · rw [f1]
      rcases hr with ⟨rfl, h⟩ | ⟨⟨tg', c', rfl⟩, h⟩
      · have : phB ins (⟨q.set i [], st', ev', en'⟩, stI ins s i) i = 0 := by unfold phB; simp only [g1]
        rw [this]; omega
      · have : phB ins (⟨q.set i [(i, tg', c')], st', ev', en'⟩, stI ins s i) i = max 1 ((ins i).length - (stI ins s i).pl i) := by unfold phB; simp only [g1]
        rw [this]
        rw [p1] at h ⊢
        omega
  rcases h2 with ⟨hd, e⟩ | ⟨hd, e⟩
  · obtain rfl := hz.symm.trans e
    exact key [] _ _ _ (.inl ⟨rfl, of_decide_eq_true hd⟩)
  · obtain rfl := hz.symm.trans e
    exact key _ _ _ _ (.inr ⟨⟨_, _, rfl⟩, fun e => hd (decide_eq_true e)⟩)
theorem budB (ins : Nat → List I8) (n : Nat) : Bud (pureM ins n) (Jb ins n) (phA ins n) := ⟨fun a i x l j hq => budB_s ins n a i x l j hq⟩
theorem goT_sum {wd : Nat} : ∀ (ts : List (List I8)) (lf : Int), 0 ≤ lf → goT wd lf ts = true → (((ts.map List.length).sum : Nat) : Int) ≤ lf
  | [], lf, h0, _ => by simpa using h0
  | l :: r, lf, h0, h => by
    unfold goT at h
    split at h
    · cases h
    · rename_i hn
      simp only [Bool.and_eq_true] at h
      have := goT_sum r _ (by omega) h.2
      simp only [List.map_cons, List.sum_cons]
      omega
theorem sum_max (ts : List (List I8)) : ((List.range ts.length).map (fun i => max 1 (insL ts i).length)).sum ≤ (ts.map List.length).sum + ts.length := by
  have : ∀ (ts : List (List I8)), (ts.map (fun l => max 1 l.length)).sum ≤ (ts.map List.length).sum + ts.length := fun ts => by
    induction ts with
    | nil => simp
    | cons a r ih => simp only [List.map_cons, List.sum_cons, List.length_cons]; omega
  have e : (List.range ts.length).map (fun i => max 1 (insL ts i).length) = ts.map (fun l => max 1 l.length) := by
    apply List.ext_getElem
    · simp
    · intro i h1 h2
      have hi : i < ts.length := by simpa using h1
      simp [insL, List.getElem?_eq_getElem hi]
  rw [e]
  exact this ts
theorem beg_facts {cs : List Int} {ts : List (List I8)} (h : soundP cs ts = true) : Jb (insL ts) ts.length (begA cs ts) ∧ phA (insL ts) ts.length (begA cs ts) ≤ 14 := by
  obtain ⟨_, hn4, _⟩ := sound_facts h
  have hg : ∀ i, i < ts.length → (begA cs ts).1.q[i]? = some [(i, (i : Int), false)] := fun i hi => by simp [begA, hp0, hi]
  refine ⟨⟨by simp [begA, hp0], fun i hi => .inr ⟨_, _, hg i hi⟩⟩, ?_⟩
  have e : (List.range ts.length).map (phB (insL ts) (begA cs ts)) = (List.range ts.length).map (fun i => max 1 (insL ts i).length) := by
    apply List.map_congr_left
    intro i hi
    have hi' := List.mem_range.1 hi
    unfold phB
    rw [hg i hi']
    rfl
  unfold phA
  rw [e]
  have h1 := sum_max ts
  unfold soundP at h
  simp only [Bool.and_eq_true] at h
  have h2 := goT_sum ts 10 (by decide) h.2.2
  omega
/-- The end of a run: every queue is empty, and a greater budget leads to the same. -/
theorem end_facts {J : Hp × Ls → Prop} {cs : List Int} {ts : List (List I8)} (W : Bud (pureM (insL ts) ts.length) J (phA (insL ts) ts.length)) (h : soundP cs ts = true) (j : J (begA cs ts)) (vs : List (Int × Int × Int)) : J (endA cs ts vs) ∧ idleP (endA cs ts vs).1 = true ∧ ∀ l l', 14 ≤ l → 14 ≤ l' → (playP (pureM (insL ts) ts.length) vs l (begA cs ts)).1 = true ∧ (playP (pureM (insL ts) ts.length) [(6, 0, 0)] l' (playP (pureM (insL ts) ts.length) vs l (begA cs ts)).2.2).1 = true ∧ (playP (pureM (insL ts) ts.length) [(6, 0, 0)] l' (playP (pureM (insL ts) ts.length) vs l (begA cs ts)).2.2).2.2 = endA cs ts vs := by
  have b := (beg_facts h).2
  obtain ⟨d1, a1, j1, p1, h1⟩ := fine_play W vs (begA cs ts) j
  obtain ⟨d2, a2, j2, p2, hi, h2⟩ := fine_drain W a1 j1 (by omega)
  have g : ∀ l, 14 ≤ l → playP (pureM (insL ts) ts.length) vs l (begA cs ts) = (true, l - d1, a1) := fun l hl => h1 l (by omega)
  have e : endA cs ts vs = a2 := by
    unfold endA
    rw [g 14 (Nat.le_refl _)]
    dsimp only
    rw [h2 14 (by omega)]
  rw [e]
  refine ⟨j2, hi, fun l l' hl hl' => ?_⟩
  rw [g l hl]
  dsimp only
  rw [h2 l' (by omega)]
  exact ⟨rfl, rfl, rfl⟩
theorem idle_done {ins : Nat → List I8} {n : Nat} {a : Hp × Ls} (j : Jb ins n a) (h : idleP a.1 = true) (i : Nat) (hi : i < n) : (ins i).length ≤ a.2.pl i := by
  rcases j.q i hi with e | ⟨tg, c, e⟩
  · exact e.2
  · exfalso
    have := List.all_eq_true.1 h _ (List.mem_of_getElem? e)
    simp at this
end Go.Proofs.YtdpebhdjcgiboaaGreat

namespace Go.Proofs.YtdpebhdjcgiboaaGreat
open Go.ChangeShapes Go.WideShapes Go.ChangeAt Go.RowKit Go.MuLone Go.RwLone
set_option linter.unusedVariables false
set_option maxRecDepth 100000
set_option maxHeartbeats 3200000
/-- A row of steps that leads from b to e. -/
def pathE : Int → List (Int × Int) → Int → Prop
  | b, [], e => b = e
  | b, x :: r, e => x.1 = b ∧ pathE x.2 r e
def dfS (E : List (Int × Int)) : Int := (E.map (fun x => x.2 - x.1)).sum
def ifI (p : Prop) [Decidable p] : Int := if p then 1 else 0
def evN (w : Int) (x : Int × Int) : Int := ifI (x.2 = w) - ifI (x.1 = w)
def evS (w : Int) (E : List (Int × Int)) : Int := (E.map (evN w)).sum
/-- The additions that a thread has made. -/
def dnG (D : List Int) (rg : Nat → Int) (p : Nat) : List (Int × Int) := (List.range p).map (fun j => (rg j, (rg j + D[j]?.getD 0) % 18446744073709551616))
def dnE (D : Nat → List Int) (n : Nat) (rg : Nat → Nat → Int) (pl : Nat → Nat) : List (Int × Int) := (List.range n).flatMap (fun i => dnG (D i) (rg i) (pl i))
/-- A thread that adds each of d, and keeps what stood there. -/
def addX (j : Nat) (x : Int) : I8 := ⟨4, 0, (j : Int), -1, x, 0, 0, 0⟩
def addI (d : List Int) : List I8 := (List.range d.length).map (fun j => addX j (d[j]?.getD 0))
structure Ka (D : Nat → List Int) (n : Nat) (x0 : Int) (s : Ls) : Prop where
  p : ∃ es, pathE x0 es (s.wo 0) ∧ es.Perm (dnE D n s.rg s.pl)
  l : ∀ i, i < n → s.pl i ≤ (D i).length
  b : 0 ≤ s.wo 0 ∧ s.wo 0 < 18446744073709551616
def tlD (dl : List (List Int)) : List (List I8) := dl.map addI
def Dl (dl : List (List Int)) (i : Nat) : List Int := dl[i]?.getD []
/-- All additions, at the end of a run. -/
def allE (dl : List (List Int)) (rg : Nat → Nat → Int) (t : Nat) : List (Int × Int) := (List.range t).flatMap (fun i => dnG (Dl dl i) (rg i) (Dl dl i).length)
end Go.Proofs.YtdpebhdjcgiboaaGreat

namespace Go.Proofs.YtdpebhdjcgiboaaGreat
set_option linter.unusedSimpArgs false
open Go.ChangeShapes Go.WideShapes Go.ChangeAt Go.RowKit Go.MuLone Go.RwLone
set_option linter.unusedVariables false
set_option maxRecDepth 100000
set_option maxHeartbeats 3200000
/-- In the midst of telling the registers, since wb. -/
structure Oq (wb wr : World) (ob : Nat) (cv rv : Value) (rg : Nat → Nat → Int) (t : Nat) : Prop where
  k : Keeps (fun x => x = ob) wb wr
  b : wr.heap[ob]? = some (.cells #[cv, rv] 51)
  o : OwW wr wb.heap.size rv (regsL rg t)
  l : ob < wb.heap.size
theorem Oq.step {wb wr w' : World} {ob : Nat} {cv rv v' : Value} {rg : Nat → Nat → Int} {t : Nat} (h : Oq wb wr ob cv rv rg t) (ho : OwW w' wb.heap.size v' (regsL rg (t + 1))) (hb : Below wb.heap.size wr w') :
    Oq wb (w'.setCell ⟨ob, 1, none⟩ v') ob cv v' rg (t + 1) ∧ w'.cell? ⟨ob, 1, none⟩ = some rv ∧ w'.frozen? ⟨ob, 1, none⟩ = false := by
  have e : w'.heap[ob]? = some (.cells #[cv, rv] 51) := (hb.block _ h.l).trans h.b
  have ks : Keeps (fun x => x = ob) w' (w'.setCell ⟨ob, 1, none⟩ v') := Keeps.setCell (B := fun x => x = ob) (Keeps.refl _ _) rfl _
  refine ⟨⟨?_, heapSet e _, ho.set (p := ⟨ob, 1, none⟩) h.l _, h.l⟩, (cell?_heap e 1).trans rfl, frozen?_heap e 1⟩
  have hs := h.k.size
  have hs2 := hb.size
  exact ⟨ks.os.trans (hb.os.trans h.k.os), ks.tape.trans (hb.tape.trans h.k.tape), ks.output.trans (hb.output.trans h.k.output), Nat.le_trans (Nat.le_trans hs hs2) ks.size, fun x hx hn => (ks.block x (by omega) hn).trans ((hb.block x hx).trans (h.k.block x hx hn))⟩
theorem RP.words {R : Rd} {w : World} {s : Ls} (h : RP R w s) (hc : R.wd ≤ R.cc) : InG wdC w w.heap.size (.slice (some ⟨R.cb, 0, none⟩) (wlL s.wo R.wd).length R.cc) (wlL s.wo R.wd) := by
  have hl : (wlL s.wo R.wd).length = R.wd := by simp [wlL]
  refine ⟨some ⟨R.cb, 0, none⟩, R.cc, rfl, by omega, (fun e => by cases e), fun j u hj => ⟨R.cb, 0, rfl, h.lt _ (.inl (.inr (.inl rfl))), ?_⟩⟩
  have hlt := (List.getElem?_eq_some_iff.1 hj).1
  rw [flat_wd, List.length_map, hl] at hlt
  rw [flat_wd, List.getElem?_map] at hj
  rw [Nat.zero_add, h.ce j hlt, ← hj]
  simp [wlL, hlt]
theorem RP.regs {R : Rd} {w : World} {s : Ls} (h : RP R w s) (i : Nat) (hi : i < R.n) : InG wdC w w.heap.size (.slice (some ⟨R.rb i, 0, none⟩) 4 (4 + R.rk i)) [s.rg i 0, s.rg i 1, s.rg i 2, s.rg i 3] := by
  refine ⟨some ⟨R.rb i, 0, none⟩, 4 + R.rk i, rfl, Nat.le_add_right _ _, (fun e => by cases e), fun j u hj => ⟨R.rb i, 0, rfl, h.lt _ (.inl (.inr (.inr ⟨i, hi, rfl⟩))), ?_⟩⟩
  have hlt := (List.getElem?_eq_some_iff.1 hj).1
  have hl : ([s.rg i 0, s.rg i 1, s.rg i 2, s.rg i 3].flatMap wdC).length = 4 := rfl
  have : j = 0 ∨ j = 1 ∨ j = 2 ∨ j = 3 := by omega
  rw [Nat.zero_add]
  rcases this with rfl | rfl | rfl | rfl
  · exact (h.rg i 0 hi (by decide)).trans hj
  · exact (h.rg i 1 hi (by decide)).trans hj
  · exact (h.rg i 2 hi (by decide)).trans hj
  · exact (h.rg i 3 hi (by decide)).trans hj
abbrev zo1 (w : World) : World := w.alloc (.cells #[.slice none 0 0, .slice none 0 0] 51)
/-- The document's Outcome. -/
theorem rout_any (R : Rd) (hR : RdOk R) (w : World) (s : Ls) (h : RP R w s) (hc : R.wd ≤ R.cc) (hn : R.wd ≤ 100) :
    Calls Tryz.prog 54 #[.pointer (some ⟨R.bk, 0, none⟩)] w fun e w' => ∃ ca cc ra rc, e = .returned (.agg #[.slice ca (wlL s.wo R.wd).length cc, .slice ra (regsL s.rg R.n).length rc]) ∧ OwW w' w.heap.size (.slice ca (wlL s.wo R.wd).length cc) (wlL s.wo R.wd) ∧ OwW w' w.heap.size (.slice ra (regsL s.rg R.n).length rc) (regsL s.rg R.n) ∧ Below w.heap.size w w' := by
  have hl : (wlL s.wo R.wd).length = R.wd := by simp [wlL]
  have b1 : Below w.heap.size w (zo1 w) := (Below.refl _ _).alloc (Nat.le_refl _) _
  have k1 : Keeps (fun _ => False) w (zo1 w) := (Keeps.refl _ _).alloc _
  have h1 := h.still k1
  have sz1 : (zo1 w).heap.size = w.heap.size + 1 := szAl _ _
  have HW := rwords_any (zo1 w) (zo1 w).heap.size (Nat.le_refl _) (some ⟨R.cb, 0, none⟩) R.cc (wlL s.wo R.wd) (h1.words hc) (by omega)
  rw [sz1] at HW
  have HWW : Hid (∀ _ : Unit, _) := fun _ => HW
  have c0 : (zo1 w).cell? ⟨R.bk, 0, none⟩ = some (.slice (some ⟨R.cb, 0, none⟩) (wlL s.wo R.wd).length R.cc) := by rw [hl]; exact h1.p0
  have HH : Hid (∀ W, Keeps (fun x => w.heap.size ≤ x) w W → RP R W s) := fun W k => h.keeps k (fun y e hy => by have := h.lt y hy; omega)
  have HLT : Hid (∀ y, fR R y → y < w.heap.size) := h.lt
  have hn4 := hR.n4
  clear HW h1 k1 h hl
  generalize wlL s.wo R.wd = ws at *
  go_enter Tryz.func54, Tryz.ntmps54
  go_wp2_with fail
  refine (HWW.out ()).mono ?_
  rintro e w3 ⟨va, vc, rfl, ow, b3⟩
  have s3 := b3.size
  rw [sz1] at s3
  have sz4 : (w3.alloc (.cells #[.slice va ws.length vc, .slice none 0 0] 51)).heap.size = w3.heap.size + 1 := szAl _ _
  have b34 : Below w3.heap.size w3 (w3.alloc (.cells #[.slice va ws.length vc, .slice none 0 0] 51)) := (Below.refl _ _).alloc (Nat.le_refl _) _
  have k4 : Keeps (fun x => w.heap.size ≤ x) w (w3.alloc (.cells #[.slice va ws.length vc, .slice none 0 0] 51)) := by
    have bb := (b1.trans (b3.mono (by omega))).trans (b34.mono (by omega))
    exact ⟨bb.os, bb.tape, bb.output, bb.size, fun x hx hn => bb.block x hx⟩
  have HS : Hid (Oq (w3.alloc (.cells #[.slice va ws.length vc, .slice none 0 0] 51)) (w3.alloc (.cells #[.slice va ws.length vc, .slice none 0 0] 51)) w3.heap.size (.slice va ws.length vc) (.slice none 0 0) s.rg 0) := ⟨Keeps.refl _ _, heap_alloc_last _ _ _ rfl, OwG.nil _ _ _ _ _, by omega⟩
  have HB : Hid (Keeps (fun x => w.heap.size ≤ x) w (w3.alloc (.cells #[.slice va ws.length vc, .slice none 0 0] 51)) ∧ OwW (w3.alloc (.cells #[.slice va ws.length vc, .slice none 0 0] 51)) (w.heap.size + 1) (.slice va ws.length vc) ws ∧ (w3.alloc (.cells #[.slice va ws.length vc, .slice none 0 0] 51)).heap.size = w3.heap.size + 1 ∧ (w3.alloc (.cells #[.slice va ws.length vc, .slice none 0 0] 51)).heap[w.heap.size]? = some (.cells #[.slice none 0 0, .slice none 0 0] 51) ∧ (∀ g, (Value.slice va ws.length vc).ownBlock = some g → g < w3.heap.size)) := ⟨k4, ow.later b34, sz4, (b34.block _ (by omega)).trans ((b3.block _ (by omega)).trans (heap_alloc_last _ _ _ rfl)), fun g hg => (World.ownsRow.lt ow g hg).2⟩
  have hob : w.heap.size + 1 ≤ w3.heap.size := s3
  clear ow b3 b34 k4 sz4 HWW c0 b1 s3 sz1
  go_wp2_with fail
  generalize w3.alloc (.cells #[.slice va ws.length vc, .slice none 0 0] 51) = wb at *
  generalize w3.heap.size = ob at *
  go_loopw [4] (fun c wr => ∃ (t : Nat) (rv : Value), c = .int .i64 t ∧ t ≤ R.n ∧ Oq wb wr ob (.slice va ws.length vc) rv s.rg t) (fun c _ => R.n - (intOf c).toNat)
  case atStart => exact ⟨0, _, rfl, by omega, HS.out⟩
  case round =>
    obtain ⟨t, rv, rfl, ht, hoq⟩ := hrel
    have HQ : Hid (Oq wb wr ob (.slice va ws.length vc) rv s.rg t) := hoq
    have kw : Keeps (fun x => w.heap.size ≤ x) w wr := HB.out.1.trans (hoq.k.mono (fun x e => by show w.heap.size ≤ x; omega)) 
    have rp := HH.out wr kw
    have c1 := rp.p1
    obtain ⟨ra, rc, hrv⟩ := hoq.o.form
    subst hrv
    clear hoq HS kw
    by_cases h5 : t < R.n
    · have t0 : (0 : Int) ≤ (t : Int) := Int.natCast_nonneg _
      have t1 : (t : Int) < (R.n : Int) := by omega
      have HE : Hid (regsL s.rg t ++ [s.rg t 0, s.rg t 1, s.rg t 2, s.rg t 3] = regsL s.rg (t + 1)) := (regsL_succ s.rg t).symm
      have hle : (regsL s.rg t).length ≤ 16 := by rw [regsL_len]; omega
      have HI : Hid (InG wdC wr.drew wr.heap.size (.slice (some ⟨R.rb t, 0, none⟩) 4 (4 + R.rk t)) [s.rg t 0, s.rg t 1, s.rg t 2, s.rg t 3]) := (rp.regs t h5).later (Below.refl _ _).drew
      have cR : wr.drew.cell? ⟨ob, 1, none⟩ = some (.slice ra (regsL s.rg t).length rc) := (cell?_heap HQ.out.b 1).trans rfl
      have HSS : Hid (∀ W, Below wb.heap.size wr W → W.cell? ⟨R.bk, 1, none⟩ = some (.slice (some ⟨R.tb, 0, none⟩) R.n R.tc) ∧ W.cell? ⟨R.tb, t * 3 + 1, none⟩ = some (.slice (some ⟨R.rb t, 0, none⟩) 4 (4 + R.rk t))) := fun W k => by
        have l1 := HLT.out R.bk (.inr (.inl rfl))
        have l2 := HLT.out R.tb (.inl (.inl rfl))
        have hz := HB.out.2.2.1
        exact ⟨(k.cell (p := ⟨R.bk, 1, none⟩) (by show R.bk < _; omega)).trans rp.p1, (k.cell (p := ⟨R.tb, t * 3 + 1, none⟩) (by show R.tb < _; omega)).trans (rp.t1 t h5)⟩
      have hwz : wb.heap.size ≤ wr.heap.size := HQ.out.k.size
      have HO : Hid (OwW wr.drew wb.heap.size (.slice ra (regsL s.rg t).length rc) (regsL s.rg t)) := HQ.out.o.later (Below.refl _ _).drew
      clear rp
      generalize regsL s.rg t = xs at *
      go_wp2_with fail
      clear c1
      (refine wp_region_held_drew (S := (fun W => W.cell? ⟨R.bk, 1, none⟩ = some (.slice (some ⟨R.tb, 0, none⟩) R.n R.tc) ∧ W.cell? ⟨R.tb, t * 3 + 1, none⟩ = some (.slice (some ⟨R.rb t, 0, none⟩) 4 (4 + R.rk t)))) (by kernel_rfl) (HSS.out _ (Below.refl _ _).drew) (fun hHeld => ?_); simp only [List.size_toArray, List.length_cons, List.length_nil, Nat.reduceAdd, Array.replicate_succ, Array.replicate_zero, List.push_toArray, List.append_toArray, List.nil_append, List.cons_append])
      refine rgT 0 (h := ?_)
      refine rgT 2 (h := ?_)
      refine rgT 3 (h := ?_)
      refine rgT 4 (h := ?_)
      refine rgT 5 (h := ?_)
      refine rgT 6 (h := ?_)
      refine rgT 7 (h := ?_)
      refine rgT 8 (h := ?_)
      refine rgT 9 (h := ?_)
      (refine rgS 1 (h := fun K hK => ?_); go_simp)
      (refine hK.out _ _ (HSS.out _ (Below.refl _ _).drew) (fun hHeld => ?_); clear hK K; try simp only [Act.put, List.setIfInBounds_toArray, List.set_cons_zero, List.set_cons_succ])
      (refine rgS 10 (h := fun K hK => ?_); rw [if_pos (by rfl)])
      refine app_in_wp (cs := wdC) (w := wr.drew) (.tmp 21) (.tmp 29) 46 55 (by rfl) Tryz.underlying46 infoU64 rfl (by decide) (fun _ => rfl) wb.heap.size _ xs HO.out (by rfl) wr.heap.size _ [s.rg t 0, s.rg t 1, s.rg t 2, s.rg t 3] (by rfl) HI.out (fun y _ => wdC_one y) (by unfold maxLen; simp; omega) (by simp; omega) hwz ?_
      intro v' w' ho hb hk
      rw [HE.out] at ho
      have hb' : Below wb.heap.size wr w' := (Below.refl _ _).drew.trans hb
      obtain ⟨f3, c3, z3⟩ := HQ.out.step ho hb'
      obtain ⟨a3, k3, rfl⟩ := ho.form
      have S3 := HSS.out w' hb'
      generalize (regsL s.rg (t + 1)).length = mm at *
      have S4 : (w'.setCell ⟨ob, 1, none⟩ (.slice a3 mm k3)).cell? ⟨R.bk, 1, none⟩ = some (.slice (some ⟨R.tb, 0, none⟩) R.n R.tc) ∧ (w'.setCell ⟨ob, 1, none⟩ (.slice a3 mm k3)).cell? ⟨R.tb, t * 3 + 1, none⟩ = some (.slice (some ⟨R.rb t, 0, none⟩) 4 (4 + R.rk t)) := by
        have l1 := HLT.out R.bk (.inr (.inl rfl))
        have l2 := HLT.out R.tb (.inl (.inl rfl))
        have e2 : ∀ g j, g < w.heap.size → (w'.setCell ⟨ob, 1, none⟩ (.slice a3 mm k3)).cell? ⟨g, j, none⟩ = w'.cell? ⟨g, j, none⟩ := fun g j hn => World.cell?_setCell_other _ _ _ _ (fun e => by have : ob = g := congrArg Addr.block e; omega)
        exact ⟨(e2 _ _ l1).trans S3.1, (e2 _ _ l2).trans S3.2⟩
      have HN : Hid (Oq wb (w'.setCell ⟨ob, 1, none⟩ (.slice a3 mm k3)) ob (.slice va ws.length vc) (.slice a3 mm k3) s.rg (t + 1)) := f3
      clear f3 ho hb hb' hk HQ HI cR
      (refine hK.out _ _ S3 (fun hHeld => ?_); clear hK K; try simp only [Act.put, List.setIfInBounds_toArray, List.set_cons_zero, List.set_cons_succ])
      refine rgT 11 (h := ?_)
      (refine rgS 12 (h := fun K hK => ?_); go_simp)
      (refine hK.out _ _ S4 (fun hHeld => ?_); clear hK K; try simp only [Act.put, List.setIfInBounds_toArray, List.set_cons_zero, List.set_cons_succ])
      refine wpAnyH_done (by kernel_rfl) ?_ _
      clear S3 S4 c3 z3
      go_wp2
      go_roundw
      case rel => exact ⟨t + 1, _, by go_num, by omega, HN.out⟩
      case measure => simp [intOf]; omega
    · have htn : t = R.n := by omega
      have er : wr.heap[w.heap.size]? = some (.cells #[.slice none 0 0, .slice none 0 0] 51) := (HQ.out.k.block _ (by have := HB.out.2.2.1; omega) (by show ¬ w.heap.size = ob; omega)).trans HB.out.2.2.2.1
      have cA : wr.cell? ⟨ob, 0, none⟩ = some (.slice va ws.length vc) := (cell?_heap HQ.out.b 0).trans rfl
      have cB : wr.cell? ⟨ob, 1, none⟩ = some (.slice ra (regsL s.rg t).length rc) := (cell?_heap HQ.out.b 1).trans rfl
      have r0 := (cell?_heap er 0).trans rfl
      have r1 := (cell?_heap er 1).trans rfl
      have q0 := frozen?_heap er 0
      have q1 := frozen?_heap er 1
      have e1 : (wr.setCell ⟨w.heap.size, 0, none⟩ (.slice va ws.length vc)).heap[w.heap.size]? = some (.cells #[.slice va ws.length vc, .slice none 0 0] 51) := heapSet er _
      have z1 : ((wr.setCell ⟨w.heap.size, 0, none⟩ (.slice va ws.length vc)).setCell ⟨w.heap.size, 1, none⟩ (.slice ra (regsL s.rg t).length rc)).heap[w.heap.size]? = some (.cells #[.slice va ws.length vc, .slice ra (regsL s.rg t).length rc] 51) := heapSet e1 _
      have ks : Keeps (fun x => x = w.heap.size) wr ((wr.setCell ⟨w.heap.size, 0, none⟩ (.slice va ws.length vc)).setCell ⟨w.heap.size, 1, none⟩ (.slice ra (regsL s.rg t).length rc)) := Keeps.setCell (B := fun x => x = w.heap.size) (Keeps.setCell (B := fun x => x = w.heap.size) (Keeps.refl _ _) rfl _) rfl _
      have HX : Hid (OwW ((wr.setCell ⟨w.heap.size, 0, none⟩ (.slice va ws.length vc)).setCell ⟨w.heap.size, 1, none⟩ (.slice ra (regsL s.rg t).length rc)) w.heap.size (.slice va ws.length vc) ws ∧ OwW ((wr.setCell ⟨w.heap.size, 0, none⟩ (.slice va ws.length vc)).setCell ⟨w.heap.size, 1, none⟩ (.slice ra (regsL s.rg t).length rc)) w.heap.size (.slice ra (regsL s.rg t).length rc) (regsL s.rg t) ∧ Below w.heap.size w ((wr.setCell ⟨w.heap.size, 0, none⟩ (.slice va ws.length vc)).setCell ⟨w.heap.size, 1, none⟩ (.slice ra (regsL s.rg t).length rc)) ∧ t = R.n) := by
        have hz := HB.out.2.2.1
        have o1 : OwW wr (w.heap.size + 1) (.slice va ws.length vc) ws := owK HB.out.2.1 HQ.out.k (fun g hg e => by have := HB.out.2.2.2.2 g hg; omega)
        refine ⟨(owK o1 ks (fun g hg e => by have := (World.ownsRow.lt o1 g hg).1; omega)).down (by omega), (owK HQ.out.o ks (fun g hg e => by have := (World.ownsRow.lt HQ.out.o g hg).1; omega)).down (by omega), ?_, htn⟩
        have kk : Keeps (fun x => w.heap.size ≤ x) w ((wr.setCell ⟨w.heap.size, 0, none⟩ (.slice va ws.length vc)).setCell ⟨w.heap.size, 1, none⟩ (.slice ra (regsL s.rg t).length rc)) := (HB.out.1.trans (HQ.out.k.mono (fun x e => by show w.heap.size ≤ x; omega))).trans (ks.mono (fun x e => by show w.heap.size ≤ x; omega))
        exact kk.below (Nat.le_refl _) (fun x hx e => by omega)
      clear e1 ks htn rp
      go_wp2
      refine bodyPost_ret (results_cell_row rfl _ _ w.heap.size _ _ (0, 0) _ (by rfl) z1 Tryz.underlying51 rfl (by kernel_rfl)) rfl ⟨va, vc, ra, rc, by rw [← HX.out.2.2.2], HX.out.1, by rw [← HX.out.2.2.2]; exact HX.out.2.1, HX.out.2.2.1⟩
end Go.Proofs.YtdpebhdjcgiboaaGreat

namespace Go.Proofs.YtdpebhdjcgiboaaGreat
set_option linter.unusedSimpArgs false
open Go.ChangeShapes Go.WideShapes Go.ChangeAt Go.RowKit Go.MuLone Go.RwLone
set_option linter.unusedVariables false
set_option maxRecDepth 100000
set_option maxHeartbeats 3200000
theorem rrun_no (w : World) (C : Nat) (ca : Option Addr) (cc : Nat) (ta : Option Addr) (tc : Nat) (tvf : Nat → Value) (cs : List Int) (tl : List (List I8)) (h : LitG w C ca cc ta tc tvf cs tl) (hC : C ≤ w.heap.size) (hsd : soundP cs tl = false) (s : ByteArray) :
    Calls Tryz.prog 26 #[.agg (litC ca cs.length cc ta tl.length tc), .string s] w fun e w' => e = .returned (.tuple #[.agg #[.slice none 0 0, .slice none 0 0], .int .i64 35]) ∧ Below w.heap.size w w' := by
  have k0 : Keeps (fun _ => False) w (rnG w (litC ca cs.length cc ta tl.length tc)) := ((Keeps.refl _ _).alloc _).alloc _
  have sz : (rnG w (litC ca cs.length cc ta tl.length tc)).heap.size = w.heap.size + 2 := by rw [szAl, szAl]
  have HL := rlay_no (rnG w (litC ca cs.length cc ta tl.length tc)) C ca cc ta tc tvf cs tl (h.later (k0.below hC (fun _ _ e => e))) (by omega) hsd
  have HLL : Hid (∀ _ : Unit, _) := fun _ => HL
  have HR : Hid ((rnG w (litC ca cs.length cc ta tl.length tc)).heap[w.heap.size + 1]? = some (.cells #[.slice none 0 0, .slice none 0 0] 51) ∧ Keeps (fun _ => False) w (rnG w (litC ca cs.length cc ta tl.length tc))) := ⟨heap_alloc_last _ _ _ (szAl _ _).symm, k0⟩
  clear h hsd HL k0
  go_enter Tryz.func26, Tryz.ntmps26
  go_wp2_with fail
  refine (HLL.out ()).mono ?_
  rintro e w2 ⟨rfl, k2⟩
  have er : w2.heap[w.heap.size + 1]? = some (.cells #[.slice none 0 0, .slice none 0 0] 51) := (k2.block _ (by omega) (fun e => e)).trans HR.out.1
  have r0 := (cell?_heap er 0).trans rfl
  have r1 := (cell?_heap er 1).trans rfl
  have q0 := frozen?_heap er 0
  have q1 := frozen?_heap er 1
  have z1 : ((w2.setCell ⟨w.heap.size + 1, 0, none⟩ (.slice none 0 0)).setCell ⟨w.heap.size + 1, 1, none⟩ (.slice none 0 0)).heap[w.heap.size + 1]? = some (.cells #[.slice none 0 0, .slice none 0 0] 51) := by simp [World.setCell, Array.getElem?_modify, er]
  have HX : Hid (Below w.heap.size w ((w2.setCell ⟨w.heap.size + 1, 0, none⟩ (.slice none 0 0)).setCell ⟨w.heap.size + 1, 1, none⟩ (.slice none 0 0))) := Keeps.below (B := fun x => w.heap.size ≤ x) ((Keeps.setCell (B := fun x => w.heap.size ≤ x) (((HR.out.2.trans k2).mono (fun _ e => e.elim)).setCell (p := ⟨w.heap.size + 1, 0, none⟩) (by show w.heap.size ≤ w.heap.size + 1; omega) _) (by show w.heap.size ≤ w.heap.size + 1; omega) _)) (Nat.le_refl _) (fun x hx e => by omega)
  clear k2 er HR HLL
  go_wp2
  exact bodyPost_ret (results_row_tmp (p := 4) (ty := 51) (q := 5) rfl _ _ (w.heap.size + 1) 51 _ (0, 0) _ rfl z1 Tryz.underlying51 rfl (by kernel_rfl)) rfl ⟨rfl, HX.out⟩
theorem PM_play {R : Rd} {ins : Nat → List I8} {n : Nat} (hi : R.ins = ins) (hn : R.n = n) (vs us : List (Int × Int × Int)) (l l' : Nat) (a : Hp × Ls) : (playP (PM R) us l' (playP (PM R) vs l a).2.2).2.2 = (playP (pureM ins n) us l' (playP (pureM ins n) vs l a).2.2).2.2 := by
  subst hi hn
  rfl
theorem dL_drain : dL (ByteArray.mk #[160]).data.toList = [(6, 0, 0)] := by decide
/-- The document's Run. -/
theorem rrunG (w : World) (C : Nat) (ca : Option Addr) (cc : Nat) (ta : Option Addr) (tc : Nat) (tvf : Nat → Value) (cs : List Int) (tl : List (List I8)) (h : LitG w C ca cc ta tc tvf cs tl) (hC : C ≤ w.heap.size) (hsd : soundP cs tl = true) (s : ByteArray) (hs : s.size ≤ 1048576) :
    Calls Tryz.prog 26 #[.agg (litC ca cs.length cc ta tl.length tc), .string s] w fun e w' => ∃ c1 k1 c2 k2, e = .returned (.tuple #[.agg #[.slice c1 (wlL (endA cs tl (dL s.data.toList)).2.wo cs.length).length k1, .slice c2 (regsL (endA cs tl (dL s.data.toList)).2.rg tl.length).length k2], .int .i64 0]) ∧ OwW w' w.heap.size (.slice c1 (wlL (endA cs tl (dL s.data.toList)).2.wo cs.length).length k1) (wlL (endA cs tl (dL s.data.toList)).2.wo cs.length) ∧ OwW w' w.heap.size (.slice c2 (regsL (endA cs tl (dL s.data.toList)).2.rg tl.length).length k2) (regsL (endA cs tl (dL s.data.toList)).2.rg tl.length) ∧ Below w.heap.size w w' := by
  obtain ⟨hc4, hn4, -⟩ := sound_facts hsd
  have hef := (end_facts (budB (insL tl) tl.length) hsd (beg_facts hsd).1 (dL s.data.toList)).2.2 1099511627776 1099511627776 (by omega) (by omega)
  have k0 : Keeps (fun _ => False) w (rnG w (litC ca cs.length cc ta tl.length tc)) := ((Keeps.refl _ _).alloc _).alloc _
  have sz : (rnG w (litC ca cs.length cc ta tl.length tc)).heap.size = w.heap.size + 2 := by rw [szAl, szAl]
  have HL := rlay_any (rnG w (litC ca cs.length cc ta tl.length tc)) C ca cc ta tc tvf cs tl (h.later (k0.below hC (fun _ _ e => e))) (by omega) hsd
  have HLL : Hid (∀ _ : Unit, _) := fun _ => HL
  have HR : Hid ((rnG w (litC ca cs.length cc ta tl.length tc)).heap[w.heap.size + 1]? = some (.cells #[.slice none 0 0, .slice none 0 0] 51) ∧ Keeps (fun _ => False) w (rnG w (litC ca cs.length cc ta tl.length tc))) := ⟨heap_alloc_last _ _ _ (szAl _ _).symm, k0⟩
  have HEF : Hid ((playP (pureM (insL tl) tl.length) [(6, 0, 0)] 1099511627776 (playP (pureM (insL tl) tl.length) (dL s.data.toList) 1099511627776 (begA cs tl)).2.2).2.2 = endA cs tl (dL s.data.toList)) := hef.2.2
  clear h hsd HL k0 hef
  generalize hvs : dL s.data.toList = vs at *
  have HVS : Hid (dL s.data.toList = vs) := hvs
  clear hvs
  generalize hE : endA cs tl vs = E at *
  clear hE
  go_enter Tryz.func26, Tryz.ntmps26
  go_wp2_with fail
  refine (HLL.out ()).mono ?_
  rintro e w2 ⟨R, hb, qb, rfl, hRok, hRn, hRw, hRi, b⟩
  have HB : Hid (Bs (rnG w (litC ca cs.length cc ta tl.length tc)) w2 R hb qb (begA cs tl)) := b
  have HRR : Hid (RdOk R ∧ R.n = tl.length ∧ R.wd = cs.length ∧ R.ins = insL tl) := ⟨hRok, hRn, hRw, hRi⟩
  clear b hRok hRn hRw hRi HLL
  go_wp2_with fail
  refine (rbplay _ w2 R HRR.out.1 hb qb (begA cs tl) HB.out s hs).mono ?_
  rintro e w3 ⟨d3, -, -, rfl, b3⟩
  rw [HVS.out] at b3
  have H3 : Hid (Bs (rnG w (litC ca cs.length cc ta tl.length tc)) w3 R hb qb (playP (PM R) vs 1099511627776 (begA cs tl)).2.2) := b3
  clear b3 HB
  go_wp2_with fail
  refine (rbplay _ w3 R HRR.out.1 hb qb _ H3.out (ByteArray.mk #[160]) (by decide)).mono ?_
  rintro e w4 ⟨d4, -, -, rfl, b4⟩
  rw [dL_drain] at b4
  have H4 : Hid (Bs (rnG w (litC ca cs.length cc ta tl.length tc)) w4 R hb qb E) := by
    have q := (PM_play HRR.out.2.2.2 HRR.out.2.1 vs [(6, 0, 0)] 1099511627776 1099511627776 (begA cs tl)).trans HEF.out
    show Bs _ _ _ _ _ _
    rw [← q]
    exact b4
  clear b4 H3
  go_wp2_with fail
  refine (rout_any R HRR.out.1 w4 E.2 H4.out.o H4.out.cw (by rw [HRR.out.2.2.1]; omega)).mono ?_
  rintro e w5 ⟨c1, k1, c2, k2, rfl, o1, o2, b5⟩
  rw [HRR.out.2.2.1] at o1 ⊢
  rw [HRR.out.2.1] at o2 ⊢
  have s4 := H4.out.bl.size
  have s5 := b5.size
  have er : w5.heap[w.heap.size + 1]? = some (.cells #[.slice none 0 0, .slice none 0 0] 51) := (b5.block _ (by omega)).trans ((H4.out.bl.block _ (by omega)).trans HR.out.1)
  have r0 := (cell?_heap er 0).trans rfl
  have r1 := (cell?_heap er 1).trans rfl
  have q0 := frozen?_heap er 0
  have q1 := frozen?_heap er 1
  obtain ⟨m1, hm1⟩ : ∃ m1, (wlL E.2.wo cs.length).length = m1 := ⟨_, rfl⟩
  obtain ⟨m2, hm2⟩ : ∃ m2, (regsL E.2.rg tl.length).length = m2 := ⟨_, rfl⟩
  rw [hm1] at o1
  rw [hm2] at o2
  rw [hm1, hm2]
  have e1 : (w5.setCell ⟨w.heap.size + 1, 0, none⟩ (.slice c1 m1 k1)).heap[w.heap.size + 1]? = some (.cells #[.slice c1 m1 k1, .slice none 0 0] 51) := heapSet er _
  have z1 : ((w5.setCell ⟨w.heap.size + 1, 0, none⟩ (.slice c1 m1 k1)).setCell ⟨w.heap.size + 1, 1, none⟩ (.slice c2 m2 k2)).heap[w.heap.size + 1]? = some (.cells #[.slice c1 m1 k1, .slice c2 m2 k2] 51) := heapSet e1 _
  have ks : Keeps (fun x => x = w.heap.size + 1) w5 ((w5.setCell ⟨w.heap.size + 1, 0, none⟩ (.slice c1 m1 k1)).setCell ⟨w.heap.size + 1, 1, none⟩ (.slice c2 m2 k2)) := Keeps.setCell (B := fun x => x = w.heap.size + 1) (Keeps.setCell (B := fun x => x = w.heap.size + 1) (Keeps.refl _ _) rfl _) rfl _
  have HX : Hid (OwW ((w5.setCell ⟨w.heap.size + 1, 0, none⟩ (.slice c1 m1 k1)).setCell ⟨w.heap.size + 1, 1, none⟩ (.slice c2 m2 k2)) w.heap.size (.slice c1 m1 k1) (wlL E.2.wo cs.length) ∧ OwW ((w5.setCell ⟨w.heap.size + 1, 0, none⟩ (.slice c1 m1 k1)).setCell ⟨w.heap.size + 1, 1, none⟩ (.slice c2 m2 k2)) w.heap.size (.slice c2 m2 k2) (regsL E.2.rg tl.length) ∧ Below w.heap.size w ((w5.setCell ⟨w.heap.size + 1, 0, none⟩ (.slice c1 m1 k1)).setCell ⟨w.heap.size + 1, 1, none⟩ (.slice c2 m2 k2)) ∧ (wlL E.2.wo cs.length).length = m1 ∧ (regsL E.2.rg tl.length).length = m2) := by
    refine ⟨(owK o1 ks (fun g hg e => by have := (World.ownsRow.lt o1 g hg).1; omega)).down (by omega), (owK o2 ks (fun g hg e => by have := (World.ownsRow.lt o2 g hg).1; omega)).down (by omega), ?_, hm1, hm2⟩
    have b0 : Below w.heap.size w (rnG w (litC ca cs.length cc ta tl.length tc)) := HR.out.2.below (Nat.le_refl _) (fun _ _ e => e)
    exact ((b0.trans (H4.out.bl.mono (by omega))).trans (b5.mono (by omega))).trans (ks.below (by omega) (fun x hx e => by omega))
  clear e1 ks o1 o2 b5 H4 HR er hm1 hm2 HRR
  go_wp2
  refine bodyPost_ret (results_row_tmp (p := 4) (ty := 51) (q := 5) rfl _ _ (w.heap.size + 1) 51 _ (0, 0) _ rfl z1 Tryz.underlying51 rfl (by kernel_rfl)) rfl ⟨c1, k1, c2, k2, ?_, ?_⟩
  · rw [HX.out.2.2.2.1, HX.out.2.2.2.2]
    rfl
  · rw [HX.out.2.2.2.1, HX.out.2.2.2.2]
    exact ⟨HX.out.1, HX.out.2.1, HX.out.2.2.1⟩
end Go.Proofs.YtdpebhdjcgiboaaGreat

namespace Go.Proofs.YtdpebhdjcgiboaaGreat
set_option linter.unusedSimpArgs false
open Go.ChangeShapes Go.WideShapes Go.ChangeAt Go.RowKit Go.MuLone Go.RwLone
set_option linter.unusedVariables false
set_option maxRecDepth 100000
set_option maxHeartbeats 3200000
/-- The places that Submit puts, the first t of them. -/
def plS (tg : Int) (ms : List Nat) (t : Nat) : List Pq := (List.range t).map (fun k => (ms.getD k 0, IntKind.i64.wrap (tg + (k : Int)), false))
/-- What Submit does. -/
def subP (h : Hp) (x tg : Int) (ms : List Nat) : Int × Hp :=
  if 0 ≤ x ∧ x < (h.q.length : Int) then (if 64 < ((h.q[x.toNat]?).getD []).length + ms.length then (32, h) else (0, { h with q := h.q.set x.toNat ((h.q[x.toNat]?).getD [] ++ plS tg ms ms.length) })) else (31, h)
end Go.Proofs.YtdpebhdjcgiboaaGreat

namespace Go.Proofs.YtdpebhdjcgiboaaGreat
set_option linter.unusedSimpArgs false
open Go.ChangeShapes Go.WideShapes Go.ChangeAt Go.RowKit Go.MuLone Go.RwLone
set_option linter.unusedVariables false
set_option maxRecDepth 100000
set_option maxHeartbeats 3200000
/-- What stays so of a harness while it plays, by number. -/
structure Iw (N cc : Nat) (h : Hp) : Prop where
  a : ∀ (i : Nat) (l : List Pq), h.q[i]? = some l → l.length ≤ 64 ∧ ∀ x ∈ l, x.1 < N
  b : h.ev.length + wtq h.q ≤ cc
  c : h.en.length + szq h.q ≤ cc
  e : ∀ m ∈ h.en, m < N
section
variable {M : Mc} {J : Hp × M.σ → Prop}
end
end Go.Proofs.YtdpebhdjcgiboaaGreat

namespace Go.Proofs.YtdpebhdjcgiboaaGreat
set_option linter.unusedSimpArgs false
open Go.ChangeShapes Go.WideShapes Go.ChangeAt Go.RowKit Go.MuLone Go.RwLone
set_option linter.unusedVariables false
set_option maxRecDepth 100000
set_option maxHeartbeats 3200000
theorem InG.wd2 {w : World} {C : Nat} {a : Option Addr} {n c : Nat} {xs : List Int} (h : InG wdC w C (.slice a n c) xs) (i : Nat) (hi : i < xs.length) : ∃ b off, a = some ⟨b, off, none⟩ ∧ b < C ∧ w.cell? ⟨b, off + i, none⟩ = some (.int .u64 xs[i]) := by
  obtain ⟨b, off, e, hl, hc⟩ := InG.cell (cs := wdC) (n := 1) (fun _ => rfl) h i hi (by decide)
  have := hc 0 (by decide)
  rw [Nat.mul_one, Nat.add_zero] at this
  exact ⟨b, off, e, hl, this⟩
/-- Two lists that are the same. -/
theorem sameW (w : World) (C : Nat) (hC : C ≤ w.heap.size) (a1 : Option Addr) (c1 : Nat) (a2 : Option Addr) (c2 : Nat) (xs : List Int) (h1 : InG wdC w C (.slice a1 xs.length c1) xs) (h2 : InG wdC w C (.slice a2 xs.length c2) xs) (hn : xs.length ≤ 140737488355328) :
    Calls Tryz.prog 49 #[.slice a1 xs.length c1, .slice a2 xs.length c2] w fun e w' => e = .returned (.bool true) ∧ Keeps (fun _ => False) w w' := by
  have H : Hid (∀ W, Keeps (fun _ => False) w W → InG wdC W C (.slice a1 xs.length c1) xs ∧ InG wdC W C (.slice a2 xs.length c2) xs) := fun W k => ⟨h1.later (k.below hC (fun _ _ e => e)), h2.later (k.below hC (fun _ _ e => e))⟩
  clear h1 h2
  go_enter Tryz.func49, Tryz.ntmps49
  go_wp2_with fail
  go_loopw [5] (fun c wr => ∃ t : Nat, c = .int .i64 t ∧ t ≤ xs.length ∧ Keeps (fun _ => False) w wr) (fun c _ => xs.length - (intOf c).toNat)
  case atStart => exact ⟨0, rfl, by omega, Keeps.refl _ _⟩
  case round =>
    obtain ⟨t, rfl, ht, hk⟩ := hrel
    have HK : Hid (Keeps (fun _ => False) w wr) := hk
    clear hk
    by_cases h5 : t < xs.length
    · have t0 : (0 : Int) ≤ (t : Int) := Int.natCast_nonneg _
      have t1 : (t : Int) < (xs.length : Int) := by omega
      obtain ⟨b1, o1, rfl, -, q1⟩ := (H.out wr HK.out).1.wd2 t h5
      obtain ⟨b2, o2, rfl, -, q2⟩ := (H.out wr HK.out).2.wd2 t h5
      have HN : Hid (Keeps (fun _ => False) w wr.drew) := HK.out.drew
      generalize xs[t] = x at *
      go_wp2_with fail
      (refine wp_region_held_drew (S := (fun W => W.cell? ⟨b1, o1 + t, none⟩ = some (.int .u64 x) ∧ W.cell? ⟨b2, o2 + t, none⟩ = some (.int .u64 x))) (by kernel_rfl) ⟨q1, q2⟩ (fun hHeld => ?_); simp only [List.size_toArray, List.length_cons, List.length_nil, Nat.reduceAdd, Array.replicate_succ, Array.replicate_zero, List.push_toArray, List.append_toArray, List.nil_append, List.cons_append])
      refine rgT 0 (h := ?_)
      refine rgT 1 (h := ?_)
      refine rgT 2 (h := ?_)
      refine rgT 3 (h := ?_)
      refine rgT 4 (h := ?_)
      refine rgT 5 (h := ?_)
      refine rgT 6 (h := ?_)
      refine rgT 7 (h := ?_)
      refine rgT 8 (h := ?_)
      refine wpAnyH_done (by kernel_rfl) ?_ _
      clear q1 q2
      go_wp2
      go_roundw
      case rel => exact ⟨t + 1, by go_num, by omega, HN.out⟩
      case measure => simp [intOf]; omega
    · go_wp2
      go_ret
      exact ⟨rfl, HK.out⟩
/-- Two outcomes that are the same. -/
theorem sameO (w : World) (C : Nat) (hC : C ≤ w.heap.size) (a1 : Option Addr) (c1 : Nat) (a2 : Option Addr) (c2 : Nat) (xs : List Int) (a3 : Option Addr) (c3 : Nat) (a4 : Option Addr) (c4 : Nat) (ys : List Int) (h1 : InG wdC w C (.slice a1 xs.length c1) xs) (h2 : InG wdC w C (.slice a2 xs.length c2) xs) (hn : xs.length ≤ 140737488355328) (h3 : InG wdC w C (.slice a3 ys.length c3) ys) (h4 : InG wdC w C (.slice a4 ys.length c4) ys) (hm : ys.length ≤ 140737488355328) :
    Calls Tryz.prog 23 #[.agg #[.slice a1 xs.length c1, .slice a3 ys.length c3], .agg #[.slice a2 xs.length c2, .slice a4 ys.length c4]] w fun e w' => e = .returned (.bool true) ∧ Keeps (fun _ => False) w w' := by
  have k0 : Keeps (fun _ => False) w ((w.alloc (.cells #[.slice a1 xs.length c1, .slice a3 ys.length c3] 51)).alloc (.cells #[.slice a2 xs.length c2, .slice a4 ys.length c4] 51)) := ((Keeps.refl _ _).alloc _).alloc _
  have HK0 : Hid (Keeps (fun _ => False) w ((w.alloc (.cells #[.slice a1 xs.length c1, .slice a3 ys.length c3] 51)).alloc (.cells #[.slice a2 xs.length c2, .slice a4 ys.length c4] 51))) := k0
  have lt : ∀ {v : Value} {zs : List Int}, InG wdC w C v zs → ∀ W, Keeps (fun _ => False) w W → InG wdC W C v zs := fun h W k => h.later (k.below hC (fun _ _ e => e))
  have HX := sameW _ C (Nat.le_trans hC k0.size) a1 c1 a2 c2 xs (lt h1 _ k0) (lt h2 _ k0) hn
  have HXX : Hid (∀ _ : Unit, _) := fun _ => HX
  have HY : Hid (∀ W, Keeps (fun _ => False) w W → Calls Tryz.prog 49 #[.slice a3 ys.length c3, .slice a4 ys.length c4] W fun e w' => e = .returned (.bool true) ∧ Keeps (fun _ => False) W w') := fun W k => sameW W C (Nat.le_trans hC k.size) a3 c3 a4 c4 ys (lt h3 W k) (lt h4 W k) hm
  have HC : Hid (∀ W, Keeps (fun _ => False) ((w.alloc (.cells #[.slice a1 xs.length c1, .slice a3 ys.length c3] 51)).alloc (.cells #[.slice a2 xs.length c2, .slice a4 ys.length c4] 51)) W → W.cell? ⟨w.heap.size, 1, none⟩ = some (.slice a3 ys.length c3) ∧ W.cell? ⟨w.heap.size + 1, 1, none⟩ = some (.slice a4 ys.length c4)) := fun W k => by
    have s : ((w.alloc (.cells #[.slice a1 xs.length c1, .slice a3 ys.length c3] 51)).alloc (.cells #[.slice a2 xs.length c2, .slice a4 ys.length c4] 51)).heap.size = w.heap.size + 2 := by rw [szAl, szAl]
    have e1 : W.heap[w.heap.size]? = some (.cells #[.slice a1 xs.length c1, .slice a3 ys.length c3] 51) := (k.block _ (by omega) (fun e => e)).trans ((Below.heap_alloc _ _ _ (by rw [szAl]; omega)).trans (heap_alloc_last _ _ _ rfl))
    have e2 : W.heap[w.heap.size + 1]? = some (.cells #[.slice a2 xs.length c2, .slice a4 ys.length c4] 51) := (k.block _ (by omega) (fun e => e)).trans (heap_alloc_last _ _ _ (szAl _ _).symm)
    exact ⟨(cell?_heap e1 1).trans rfl, (cell?_heap e2 1).trans rfl⟩
  clear h1 h2 h3 h4 lt HX k0
  go_enter Tryz.func23, Tryz.ntmps23
  go_wp2_with fail
  refine (HXX.out ()).mono ?_
  rintro e w2 ⟨rfl, k2⟩
  obtain ⟨q1, q2⟩ := HC.out w2 k2
  have HK2 : Hid (Keeps (fun _ => False) w w2) := HK0.out.trans k2
  clear k2 HXX
  go_wp2_with fail
  refine (HY.out w2 HK2.out).mono ?_
  rintro e w3 ⟨rfl, k3⟩
  have HK3 : Hid (Keeps (fun _ => False) w w3) := HK2.out.trans k3
  clear k3 q1 q2
  go_wp2
  go_ret
  exact ⟨rfl, HK3.out⟩
end Go.Proofs.YtdpebhdjcgiboaaGreat
