import Derived.Test.YtdpebhdjcgiboaaGreatSg9
namespace Go.Proofs.YtdpebhdjcgiboaaGreat
open Go.ChangeShapes Go.WideShapes Go.ChangeAt Go.RowKit Go.MuLone Go.RwLone
set_option linter.unusedVariables false
set_option maxRecDepth 100000
set_option maxHeartbeats 3200000
/-- Every step of a worker that has something to do spends of Φ. -/
structure Bud (M : Mc) (J : Hp × M.σ → Prop) (Φ : Hp × M.σ → Nat) : Prop where
  s : ∀ a i x l, J a → a.1.q[i]? = some (x :: l) → J (stepP M a i).1 ∧ Φ (stepP M a i).1 + 1 ≤ Φ a
/-- A budget of Φ or more bears it, and any such leads to the same. -/
def Fine (M : Mc) (J : Hp × M.σ → Prop) (Φ : Hp × M.σ → Nat) (f : Nat → Hp × M.σ → Bool × Nat × (Hp × M.σ)) (a : Hp × M.σ) : Prop :=
  ∃ d a', J a' ∧ d + Φ a' ≤ Φ a ∧ ∀ l, Φ a ≤ l → f l a = (true, l - d, a')
variable {M : Mc} {J : Hp × M.σ → Prop} {Φ : Hp × M.σ → Nat}
theorem fine_end {f : Nat → Hp × M.σ → Bool × Nat × (Hp × M.σ)} {a : Hp × M.σ} (j : J a) (h : ∀ l, f l a = (true, l, a)) : Fine M J Φ f a :=
  ⟨0, a, j, by omega, fun l _ => by rw [h l]; simp⟩
theorem fine_run (W : Bud M J Φ) (x : Int) : ∀ (m : Nat) (n : Int) (a : Hp × M.σ), Φ a ≤ m → J a → Fine M J Φ (fun l => runP M x l n) a
  | m, n, a, hm, j => by
    by_cases h : n ≤ 0 ∨ pendP a.1 x = 0
    · exact fine_end j (fun l => runP_end h)
    · obtain ⟨_, _, y, l0, hq⟩ := pend_head (fun e => h (.inr e))
      obtain ⟨j1, p1⟩ := W.s a x.toNat y l0 j hq
      match m, hm with
      | 0, hm => omega
      | m + 1, hm =>
        obtain ⟨d, a', j', p', h'⟩ := fine_run W x m (n - 1) (stepP M a x.toNat).1 (by omega) j1
        refine ⟨d + 1, a', j', by omega, fun l hl => ?_⟩
        match l, hl with
        | 0, hl => omega
        | l + 1, hl =>
          have e := h' l (by omega)
          dsimp only at e ⊢
          simp only [runP]
          rw [if_neg h, e]
          simp
theorem fine_fin (W : Bud M J Φ) (i : Nat) : ∀ (m : Nat) (a : Hp × M.σ), Φ a ≤ m → J a → (∃ y l, a.1.q[i]? = some (y :: l)) → Fine M J Φ (fun l => finP M i l) a
  | m, a, hm, j, hq => by
    obtain ⟨y, l0, hq⟩ := hq
    obtain ⟨j1, p1⟩ := W.s a i y l0 j hq
    match m, hm with
    | 0, hm => omega
    | m + 1, hm =>
      cases hd : (stepP M a i).2 with
      | true =>
        refine ⟨1, (stepP M a i).1, j1, by omega, fun l hl => ?_⟩
        match l, hl with
        | 0, hl => omega
        | l + 1, hl =>
          dsimp only
          simp only [finP]
          rw [hd]
          simp
      | false =>
        obtain ⟨d, a', j', p', h'⟩ := fine_fin W i m (stepP M a i).1 (by omega) j1 ⟨_, _, stepP_head hq hd⟩
        refine ⟨d + 1, a', j', by omega, fun l hl => ?_⟩
        match l, hl with
        | 0, hl => omega
        | l + 1, hl =>
          have e := h' l (by omega)
          dsimp only at e ⊢
          simp only [finP]
          rw [hd, e]
          simp
theorem fine_roundN (W : Bud M J Φ) : ∀ (k t : Nat) (a : Hp × M.σ), J a → Fine M J Φ (fun l => roundN M k t l) a
  | 0, t, a, j => fine_end j (fun l => rfl)
  | k + 1, t, a, j => by
    obtain ⟨d1, a1, j1, p1, h1⟩ := fine_run W (t : Int) (Φ a) 1 a (Nat.le_refl _) j
    obtain ⟨d2, a2, j2, p2, h2⟩ := fine_roundN W k (t + 1) a1 j1
    refine ⟨d1 + d2, a2, j2, by omega, fun l hl => ?_⟩
    have e1 := h1 l hl
    have e2 := h2 (l - d1) (by omega)
    dsimp only at e1 e2 ⊢
    simp only [roundN]
    rw [e1]
    dsimp only
    rw [if_pos rfl, e2, Nat.sub_sub]
theorem fine_rounds (W : Bud M J Φ) : ∀ (m : Nat) (n : Int) (a : Hp × M.σ), Φ a ≤ m → J a → ∃ d a', J a' ∧ d + Φ a' ≤ Φ a ∧ ((Φ a : Int) < n → idleP a'.1 = true) ∧ ∀ l, Φ a ≤ l → roundsA M n l a = (true, l - d, a')
  | m, n, a, hm, j => by
    by_cases h : n ≤ 0 ∨ idleP a.1 = true
    · exact ⟨0, a, j, by omega, fun hn => h.elim (fun e => by omega) (fun e => e), fun l _ => by rw [roundsA_end h]; simp⟩
    · obtain ⟨d1, a1, j1, p1, h1⟩ := fine_roundN W a.1.q.length 0 a j
      have e1 := h1 (Φ a) (Nat.le_refl _)
      dsimp only at e1
      have hs := roundN_some a.1.q.length 0 (Φ a) a (idle_some (fun e => h (.inr e))) (by rw [e1])
      rw [e1] at hs
      dsimp only at hs
      match m, hm with
      | 0, hm => omega
      | m + 1, hm =>
        obtain ⟨d2, a2, j2, p2, hi, h2⟩ := fine_rounds W m (n - 1) a1 (by omega) j1
        refine ⟨d1 + d2, a2, j2, by omega, fun hn => hi (by omega), fun l hl => ?_⟩
        have e3 := h1 l hl
        dsimp only at e3
        rw [roundsA_on h (by rw [e3]), e3]
        dsimp only
        rw [h2 (l - d1) (by omega), Nat.sub_sub]
theorem fine_pick (W : Bud M J Φ) (p : Int × Int × Int) (a : Hp × M.σ) (j : J a) : Fine M J Φ (fun l => pickP M p l) a := by
  by_cases h1 : p.1 = 1
  · obtain ⟨d, a', j', q, h⟩ := fine_run W p.2.1 (Φ a) 1 a (Nat.le_refl _) j
    exact ⟨d, a', j', q, fun l hl => by have e := h l hl; dsimp only at e ⊢; unfold pickP; rw [if_pos h1, e]⟩
  · by_cases h2 : p.1 = 2
    · obtain ⟨d, a', j', q, h⟩ := fine_run W p.2.1 (Φ a) p.2.2 a (Nat.le_refl _) j
      exact ⟨d, a', j', q, fun l hl => by have e := h l hl; dsimp only at e ⊢; unfold pickP; rw [if_neg h1, if_pos h2, e]⟩
    · by_cases h5 : p.1 = 5
      · by_cases hp : pendP a.1 p.2.1 = 0
        · exact ⟨0, a, j, by omega, fun l hl => by dsimp only; unfold pickP finA; rw [if_neg h1, if_neg h2, if_pos h5, if_pos hp]; simp⟩
        · obtain ⟨_, _, y, l0, hq⟩ := pend_head hp
          obtain ⟨d, a', j', q, h⟩ := fine_fin W p.2.1.toNat (Φ a) a (Nat.le_refl _) j ⟨y, l0, hq⟩
          exact ⟨d, a', j', q, fun l hl => by have e := h l hl; dsimp only at e ⊢; unfold pickP finA; rw [if_neg h1, if_neg h2, if_pos h5, if_neg hp, e]⟩
      · by_cases h4 : p.1 = 4
        · obtain ⟨d, a', j', q, _, h⟩ := fine_rounds W (Φ a) p.2.2 a (Nat.le_refl _) j
          exact ⟨d, a', j', q, fun l hl => by have e := h l hl; dsimp only; unfold pickP; rw [if_neg h1, if_neg h2, if_neg h5, if_pos h4, e]⟩
        · by_cases h6 : p.1 = 6
          · obtain ⟨d, a', j', q, _, h⟩ := fine_rounds W (Φ a) 9223372036854775807 a (Nat.le_refl _) j
            exact ⟨d, a', j', q, fun l hl => by have e := h l hl; dsimp only; unfold pickP; rw [if_neg h1, if_neg h2, if_neg h5, if_neg h4, if_pos h6, e]⟩
          · exact fine_end j (fun l => by unfold pickP; rw [if_neg h1, if_neg h2, if_neg h5, if_neg h4, if_neg h6])
theorem fine_play (W : Bud M J Φ) : ∀ (ps : List (Int × Int × Int)) (a : Hp × M.σ), J a → Fine M J Φ (fun l => playP M ps l) a
  | [], a, j => fine_end j (fun l => rfl)
  | p :: ps, a, j => by
    obtain ⟨d1, a1, j1, p1, h1⟩ := fine_pick W p a j
    obtain ⟨d2, a2, j2, p2, h2⟩ := fine_play W ps a1 j1
    refine ⟨d1 + d2, a2, j2, by omega, fun l hl => ?_⟩
    have e1 := h1 l hl
    have e2 := h2 (l - d1) (by omega)
    dsimp only at e1 e2 ⊢
    simp only [playP]
    rw [e1]
    dsimp only
    rw [if_pos rfl, e2, Nat.sub_sub]
/-- A drain ends with every queue empty. -/
theorem fine_drain (W : Bud M J Φ) (a : Hp × M.σ) (j : J a) (hm : Φ a ≤ 1000000) : ∃ d a', J a' ∧ d + Φ a' ≤ Φ a ∧ idleP a'.1 = true ∧ ∀ l, Φ a ≤ l → playP M [(6, 0, 0)] l a = (true, l - d, a') := by
  obtain ⟨d, a', j', q, hi, h⟩ := fine_rounds W (Φ a) 9223372036854775807 a (Nat.le_refl _) j
  refine ⟨d, a', j', q, hi (by omega), fun l hl => ?_⟩
  have e : pickP M (6, 0, 0) l a = (true, l - d, a') := by unfold pickP; simp [h l hl]
  simp only [playP, e]
  simp
/-- A sum that falls at one place. -/
theorem sum_fall (f f' : Nat → Nat) (i : Nat) (ho : ∀ j, j ≠ i → f' j = f j) (hi : f' i + 1 ≤ f i) : ∀ n, (i < n → ((List.range n).map f').sum + 1 ≤ ((List.range n).map f).sum) ∧ (n ≤ i → ((List.range n).map f').sum = ((List.range n).map f).sum)
  | 0 => ⟨fun h => by omega, fun _ => rfl⟩
  | n + 1 => by
    have ih := sum_fall f f' i ho hi n
    rw [List.range_succ, List.map_append, List.map_append, List.sum_append, List.sum_append]
    simp only [List.map_cons, List.map_nil, List.sum_cons, List.sum_nil]
    refine ⟨fun h => ?_, fun h => ?_⟩
    · by_cases e : n = i
      · subst e; have := ih.2 (Nat.le_refl _); omega
      · have := ih.1 (by omega); have := ho n e; omega
    · have := ih.2 (by omega); have := ho n (by omega); omega
theorem exP_ge (wo rg : Nat → Int) (x : I8) : 1 ≤ (exP wo rg x).2.2 := by
  unfold exP
  repeat' split
  all_goals simp
/-- How a bench's harness stands. -/
structure Jb (ins : Nat → List I8) (n : Nat) (a : Hp × Ls) : Prop where
  sz : a.1.q.length = n
  q : ∀ i, i < n → (a.1.q[i]? = some [] ∧ (ins i).length ≤ a.2.pl i) ∨ ∃ tg c, a.1.q[i]? = some [(i, tg, c)]
def phB (ins : Nat → List I8) (a : Hp × Ls) (i : Nat) : Nat := match a.1.q[i]? with | some (_ :: _) => max 1 ((ins i).length - a.2.pl i) | _ => 0
def phA (ins : Nat → List I8) (n : Nat) (a : Hp × Ls) : Nat := ((List.range n).map (phB ins a)).sum
theorem pl_next (wo rg : Nat → Int) (l : List I8) (p : Nat) : l.length ≤ p ∧ (tsP wo rg l p).2.2 = p ∨ p < l.length ∧ p + 1 ≤ (tsP wo rg l p).2.2 := by
  rcases Nat.lt_or_ge p l.length with h | h
  · right
    rw [tsP_in h]
    have := exP_ge wo rg l[p]
    exact ⟨h, by show _ ≤ min _ _; omega⟩
  · left
    unfold tsP
    rw [List.getElem?_eq_none h]
    exact ⟨h, rfl⟩
theorem stepP_two {M : Mc} {a : Hp × M.σ} {i : Nat} {x : Pq} {l : List Pq} (hq : a.1.q[i]? = some (x :: l)) :
    ∃ st' ev' en', (M.dn (M.st a.2 x.1) x.1 = true ∧ (stepP M a i).1 = (⟨a.1.q.set i l, st', ev', en'⟩, M.st a.2 x.1)) ∨ (¬ M.dn (M.st a.2 x.1) x.1 = true ∧ (stepP M a i).1 = (⟨a.1.q.set i ((x.1, x.2.1, true) :: l), st', ev', en'⟩, M.st a.2 x.1)) := by
  unfold stepP
  simp only [hq]
  unfold stepQ
  by_cases hd : M.dn (M.st a.2 x.1) x.1 = true
  · rw [if_pos hd]
    exact ⟨_, _, _, .inl ⟨hd, rfl⟩⟩
  · rw [if_neg hd]
    exact ⟨_, _, _, .inr ⟨hd, rfl⟩⟩
theorem budB_s (ins : Nat → List I8) (n : Nat) (a : Hp × Ls) (i : Nat) (x : Pq) (l : List Pq) (j : Jb ins n a) (hq : a.1.q[i]? = some (x :: l)) : Jb ins n (stepP (pureM ins n) a i).1 ∧ phA ins n (stepP (pureM ins n) a i).1 + 1 ≤ phA ins n a := by
  have hi : i < n := by rw [← j.sz]; exact (List.getElem?_eq_some_iff.1 hq).1
  obtain ⟨⟨q, st, ev, en⟩, s⟩ := a
  dsimp only at hq
  obtain ⟨tg, c, hx⟩ : ∃ tg c, q[i]? = some [(i, tg, c)] := by
    rcases j.q i hi with ⟨e, _⟩ | e
    · dsimp only at e; rw [hq] at e; cases e
    · exact e
  rw [hq] at hx
  injection hx with hx
  injection hx with hx hl
  subst hx hl
  obtain ⟨st', ev', en', h2⟩ := stepP_two (M := pureM ins n) (a := (⟨q, st, ev, en⟩, s)) hq
  suffices h : ∀ z : Hp × Ls, (stepP (pureM ins n) (⟨q, st, ev, en⟩, s) i).1 = z → Jb ins n z ∧ phA ins n z + 1 ≤ phA ins n (⟨q, st, ev, en⟩, s) from h _ rfl
  intro z hz
  have hp := pl_next s.wo (s.rg i) (ins i) (s.pl i)
  have hlen : i < q.length := by have := j.sz; dsimp only at this; omega
  have p1 : (stI ins s i).pl i = (tsP s.wo (s.rg i) (ins i) (s.pl i)).2.2 := upd_same _ _ _
  have p2 : ∀ k, k ≠ i → (stI ins s i).pl k = s.pl k := fun k hk => upd_other _ _ hk
  have f1 : phB ins (⟨q, st, ev, en⟩, s) i = max 1 ((ins i).length - s.pl i) := by unfold phB; simp only [hq]
  have key : ∀ (r : List Pq) (st' : Int) (ev' : List (Int × Int × Int × Int)) (en' : List Nat), ((r = [] ∧ (ins i).length ≤ (stI ins s i).pl i) ∨ ((∃ tg c, r = [(i, tg, c)]) ∧ ¬ (ins i).length ≤ (stI ins s i).pl i)) → Jb ins n (⟨q.set i r, st', ev', en'⟩, stI ins s i) ∧ phA ins n (⟨q.set i r, st', ev', en'⟩, stI ins s i) + 1 ≤ phA ins n (⟨q, st, ev, en⟩, s) := by
    intro r st' ev' en' hr
    have g1 : (q.set i r)[i]? = some r := List.getElem?_set_self hlen
    have g2 : ∀ k, k ≠ i → (q.set i r)[k]? = q[k]? := fun k hk => List.getElem?_set_ne (fun e => hk e.symm)
    refine ⟨⟨by have := j.sz; simpa using this, fun k hk => ?_⟩, (sum_fall (phB ins (⟨q, st, ev, en⟩, s)) _ i (fun k hk => ?_) ?_ n).1 hi⟩
    · dsimp only
      by_cases e : k = i
      · subst e
        rw [g1]
        rcases hr with ⟨rfl, h⟩ | ⟨⟨tg', c', rfl⟩, _⟩
        · exact .inl ⟨rfl, h⟩
        · exact .inr ⟨tg', c', rfl⟩
      · rw [g2 k e, p2 k e]
        exact j.q k hk
    · unfold phB
      dsimp only
      rw [g2 k hk, p2 k hk]
    · rw [f1]
      rcases hr with ⟨rfl, h⟩ | ⟨⟨tg', c', rfl⟩, h⟩
      · have : phB ins (⟨q.set i [], st', ev', en'⟩, stI ins s i) i = 0 := by unfold phB; simp only [g1]
        rw [this]; omega
      · have : phB ins (⟨q.set i [(i, tg', c')], st', ev', en'⟩, stI ins s i) i = max 1 ((ins i).length - (stI ins s i).pl i) := by unfold phB; simp only [g1]
        rw [this]
        rw [p1] at h ⊢
        omega
  rcases h2 with ⟨hd, e⟩ | ⟨hd, e⟩
  · obtain rfl := hz.symm.trans e
    exact key [] _ _ _ (.inl ⟨rfl, of_decide_eq_true hd⟩)
  · obtain rfl := hz.symm.trans e
    exact key _ _ _ _ (.inr ⟨⟨_, _, rfl⟩, fun e => hd (decide_eq_true e)⟩)
theorem budB (ins : Nat → List I8) (n : Nat) : Bud (pureM ins n) (Jb ins n) (phA ins n) := ⟨fun a i x l j hq => budB_s ins n a i x l j hq⟩
theorem goT_sum {wd : Nat} : ∀ (ts : List (List I8)) (lf : Int), 0 ≤ lf → goT wd lf ts = true → (((ts.map List.length).sum : Nat) : Int) ≤ lf
  | [], lf, h0, _ => by simpa using h0
  | l :: r, lf, h0, h => by
    unfold goT at h
    split at h
    · cases h
    · rename_i hn
      simp only [Bool.and_eq_true] at h
      have := goT_sum r _ (by omega) h.2
      simp only [List.map_cons, List.sum_cons]
      omega
theorem sum_max (ts : List (List I8)) : ((List.range ts.length).map (fun i => max 1 (insL ts i).length)).sum ≤ (ts.map List.length).sum + ts.length := by
  have : ∀ (ts : List (List I8)), (ts.map (fun l => max 1 l.length)).sum ≤ (ts.map List.length).sum + ts.length := fun ts => by
    induction ts with
    | nil => simp
    | cons a r ih => simp only [List.map_cons, List.sum_cons, List.length_cons]; omega
  have e : (List.range ts.length).map (fun i => max 1 (insL ts i).length) = ts.map (fun l => max 1 l.length) := by
    apply List.ext_getElem
    · simp
    · intro i h1 h2
      have hi : i < ts.length := by simpa using h1
      simp [insL, List.getElem?_eq_getElem hi]
  rw [e]
  exact this ts
theorem beg_facts {cs : List Int} {ts : List (List I8)} (h : soundP cs ts = true) : Jb (insL ts) ts.length (begA cs ts) ∧ phA (insL ts) ts.length (begA cs ts) ≤ 14 := by
  obtain ⟨_, hn4, _⟩ := sound_facts h
  have hg : ∀ i, i < ts.length → (begA cs ts).1.q[i]? = some [(i, (i : Int), false)] := fun i hi => by simp [begA, hp0, hi]
  refine ⟨⟨by simp [begA, hp0], fun i hi => .inr ⟨_, _, hg i hi⟩⟩, ?_⟩
  have e : (List.range ts.length).map (phB (insL ts) (begA cs ts)) = (List.range ts.length).map (fun i => max 1 (insL ts i).length) := by
    apply List.map_congr_left
    intro i hi
    have hi' := List.mem_range.1 hi
    unfold phB
    rw [hg i hi']
    rfl
  unfold phA
  rw [e]
  have h1 := sum_max ts
  unfold soundP at h
  simp only [Bool.and_eq_true] at h
  have h2 := goT_sum ts 10 (by decide) h.2.2
  omega
/-- The end of a run: every queue is empty, and a greater budget leads to the same. -/
theorem end_facts {J : Hp × Ls → Prop} {cs : List Int} {ts : List (List I8)} (W : Bud (pureM (insL ts) ts.length) J (phA (insL ts) ts.length)) (h : soundP cs ts = true) (j : J (begA cs ts)) (vs : List (Int × Int × Int)) : J (endA cs ts vs) ∧ idleP (endA cs ts vs).1 = true ∧ ∀ l l', 14 ≤ l → 14 ≤ l' → (playP (pureM (insL ts) ts.length) vs l (begA cs ts)).1 = true ∧ (playP (pureM (insL ts) ts.length) [(6, 0, 0)] l' (playP (pureM (insL ts) ts.length) vs l (begA cs ts)).2.2).1 = true ∧ (playP (pureM (insL ts) ts.length) [(6, 0, 0)] l' (playP (pureM (insL ts) ts.length) vs l (begA cs ts)).2.2).2.2 = endA cs ts vs := by
  have b := (beg_facts h).2
  obtain ⟨d1, a1, j1, p1, h1⟩ := fine_play W vs (begA cs ts) j
  obtain ⟨d2, a2, j2, p2, hi, h2⟩ := fine_drain W a1 j1 (by omega)
  have g : ∀ l, 14 ≤ l → playP (pureM (insL ts) ts.length) vs l (begA cs ts) = (true, l - d1, a1) := fun l hl => h1 l (by omega)
  have e : endA cs ts vs = a2 := by
    unfold endA
    rw [g 14 (Nat.le_refl _)]
    dsimp only
    rw [h2 14 (by omega)]
  rw [e]
  refine ⟨j2, hi, fun l l' hl hl' => ?_⟩
  rw [g l hl]
  dsimp only
  rw [h2 l' (by omega)]
  exact ⟨rfl, rfl, rfl⟩
theorem idle_done {ins : Nat → List I8} {n : Nat} {a : Hp × Ls} (j : Jb ins n a) (h : idleP a.1 = true) (i : Nat) (hi : i < n) : (ins i).length ≤ a.2.pl i := by
  rcases j.q i hi with e | ⟨tg, c, e⟩
  · exact e.2
  · exfalso
    have := List.all_eq_true.1 h _ (List.mem_of_getElem? e)
    simp at this
end Go.Proofs.YtdpebhdjcgiboaaGreat

namespace Go.Proofs.YtdpebhdjcgiboaaGreat
open Go.ChangeShapes Go.WideShapes Go.ChangeAt Go.RowKit Go.MuLone Go.RwLone
set_option linter.unusedVariables false
set_option maxRecDepth 100000
set_option maxHeartbeats 3200000
/-- A row of steps that leads from b to e. -/
def pathE : Int → List (Int × Int) → Int → Prop
  | b, [], e => b = e
  | b, x :: r, e => x.1 = b ∧ pathE x.2 r e
theorem pathE_app : ∀ (es : List (Int × Int)) (b m : Int) (x : Int × Int), pathE b es m → x.1 = m → pathE b (es ++ [x]) x.2
  | [], b, m, x, h, hx => ⟨by rw [hx]; exact h.symm, rfl⟩
  | y :: es, b, m, x, h, hx => ⟨h.1, pathE_app es _ m x h.2 hx⟩
theorem perm_sum {l l' : List Int} (h : l.Perm l') : l.sum = l'.sum := by
  induction h with
  | nil => rfl
  | cons x _ ih => simp only [List.sum_cons, ih]
  | swap x y l => simp only [List.sum_cons]; omega
  | trans _ _ h1 h2 => exact h1.trans h2
def dfS (E : List (Int × Int)) : Int := (E.map (fun x => x.2 - x.1)).sum
theorem path_sum : ∀ (es : List (Int × Int)) (b e : Int), pathE b es e → dfS es = e - b
  | [], b, e, h => by have : b = e := h; subst this; simp [dfS]
  | x :: es, b, e, h => by
    have := path_sum es _ _ h.2
    have h1 := h.1
    unfold dfS at this ⊢
    simp only [List.map_cons, List.sum_cons, this]
    omega
theorem dfS_app (E : List (Int × Int)) (x : Int × Int) : dfS (E ++ [x]) = dfS E + (x.2 - x.1) := by
  unfold dfS
  rw [List.map_append, List.sum_append]
  simp
def ifI (p : Prop) [Decidable p] : Int := if p then 1 else 0
def evN (w : Int) (x : Int × Int) : Int := ifI (x.2 = w) - ifI (x.1 = w)
def evS (w : Int) (E : List (Int × Int)) : Int := (E.map (evN w)).sum
theorem evS_app (w : Int) (E : List (Int × Int)) (x : Int × Int) : evS w (E ++ [x]) = evS w E + evN w x := by
  unfold evS
  rw [List.map_append, List.sum_append]
  simp
theorem evS_bound (w : Int) (E : List (Int × Int)) : -(E.length : Int) ≤ evS w E ∧ evS w E ≤ (E.length : Int) := by
  induction E with
  | nil => simp [evS]
  | cons x r ih =>
    unfold evS at ih ⊢
    simp only [List.map_cons, List.sum_cons, List.length_cons]
    have : -1 ≤ evN w x ∧ evN w x ≤ 1 := by
      unfold evN ifI
      split <;> split <;> omega
    omega
theorem path_even (w : Int) : ∀ (es : List (Int × Int)) (b e : Int), pathE b es e → evS w es + ifI (w = b) - ifI (w = e) = 0
  | [], b, e, h => by have : b = e := h; subst this; simp [evS]
  | x :: es, b, e, h => by
    have := path_even w es _ _ h.2
    have h1 := h.1
    unfold evS at this ⊢
    simp only [List.map_cons, List.sum_cons]
    have e1 : ifI (x.1 = w) = ifI (w = b) := by
      unfold ifI
      by_cases hh : w = b
      · rw [if_pos hh, if_pos (by omega)]
      · rw [if_neg hh, if_neg (by omega)]
    have e2 : ifI (x.2 = w) = ifI (w = x.2) := by
      unfold ifI
      by_cases hh : w = x.2
      · rw [if_pos hh, if_pos hh.symm]
      · rw [if_neg hh, if_neg (fun e => hh e.symm)]
    have e0 : evN w x = ifI (x.2 = w) - ifI (x.1 = w) := rfl
    omega
/-- A set of places that holds each step that begins at b, or where one of its own leads to, holds them all. -/
theorem path_reach (E : List (Int × Int)) (R : Nat → Bool) (b0 : Int) (hc : ∀ i (hi : i < E.length), (E[i].1 = b0 ∨ ∃ j, ∃ hj : j < E.length, R j = true ∧ E[j].2 = E[i].1) → R i = true) : ∀ (es : List (Int × Int)) (b e : Int), pathE b es e → (∀ x ∈ es, x ∈ E) → (∀ i (hi : i < E.length), E[i].1 = b → R i = true) → ∀ x ∈ es, ∀ i (hi : i < E.length), E[i] = x → R i = true
  | [], b, e, h, hm, hb, x, hx => by cases hx
  | y :: es, b, e, h, hm, hb, x, hx => by
    have hy : ∀ i (hi : i < E.length), E[i] = y → R i = true := fun i hi e => hb i hi (by rw [e]; exact h.1)
    rcases List.mem_cons.1 hx with rfl | hx
    · exact hy
    · refine path_reach E R b0 hc es y.2 e h.2 (fun z hz => hm z (List.mem_cons_of_mem _ hz)) (fun i hi e => ?_) x hx
      obtain ⟨j, hj, ej⟩ := List.getElem_of_mem (hm y (List.mem_cons_self ..))
      exact hc i hi (.inr ⟨j, hj, hy j hj ej, by rw [ej]; exact e.symm⟩)
/-- The additions that a thread has made. -/
def dnG (D : List Int) (rg : Nat → Int) (p : Nat) : List (Int × Int) := (List.range p).map (fun j => (rg j, (rg j + D[j]?.getD 0) % 18446744073709551616))
def dnE (D : Nat → List Int) (n : Nat) (rg : Nat → Nat → Int) (pl : Nat → Nat) : List (Int × Int) := (List.range n).flatMap (fun i => dnG (D i) (rg i) (pl i))
theorem flat_more {α : Type} (F F' : Nat → List α) (i : Nat) (x : α) (ho : ∀ j, j ≠ i → F' j = F j) (hi : F' i = F i ++ [x]) : ∀ n, (i < n → ((List.range n).flatMap F').Perm ((List.range n).flatMap F ++ [x])) ∧ (n ≤ i → (List.range n).flatMap F' = (List.range n).flatMap F)
  | 0 => ⟨fun h => by omega, fun _ => rfl⟩
  | n + 1 => by
    have ih := flat_more F F' i x ho hi n
    rw [List.range_succ, List.flatMap_append, List.flatMap_append]
    simp only [List.flatMap_cons, List.flatMap_nil, List.append_nil]
    refine ⟨fun h => ?_, fun h => ?_⟩
    · by_cases e : n = i
      · subst e
        rw [ih.2 (Nat.le_refl _), hi, List.append_assoc]
      · rw [ho n e]
        refine ((ih.1 (by omega)).append_right _).trans ?_
        rw [List.append_assoc, List.append_assoc]
        exact List.Perm.append_left _ List.perm_append_comm
    · rw [ih.2 (by omega), ho n (by omega)]
theorem upd_id {α : Type} (f : Nat → α) (i : Nat) : upd f i (f i) = f := by
  funext j
  by_cases e : j = i
  · subst e; exact upd_same _ _ _
  · exact upd_other _ _ e
/-- A thread that adds each of d, and keeps what stood there. -/
def addX (j : Nat) (x : Int) : I8 := ⟨4, 0, (j : Int), -1, x, 0, 0, 0⟩
def addI (d : List Int) : List I8 := (List.range d.length).map (fun j => addX j (d[j]?.getD 0))
theorem addI_len (d : List Int) : (addI d).length = d.length := by simp [addI]
theorem addI_get (d : List Int) (j : Nat) (hj : j < (addI d).length) : (addI d)[j] = addX j (d[j]?.getD 0) := by simp [addI]
theorem addI_app (d : List Int) (x : Int) : addI (d ++ [x]) = addI d ++ [addX d.length x] := by
  apply List.ext_getElem
  · simp [addI]
  · intro i h1 h2
    have hi : i < d.length + 1 := by simpa [addI] using h1
    rw [addI_get]
    rcases Nat.lt_or_ge i d.length with h | h
    · rw [List.getElem_append_left (by rw [addI_len]; exact h), addI_get, List.getElem?_append_left h]
    · obtain rfl : i = d.length := by omega
      rw [List.getElem_append_right (by rw [addI_len]; exact Nat.le_refl _)]
      simp
structure Ka (D : Nat → List Int) (n : Nat) (x0 : Int) (s : Ls) : Prop where
  p : ∃ es, pathE x0 es (s.wo 0) ∧ es.Perm (dnE D n s.rg s.pl)
  l : ∀ i, i < n → s.pl i ≤ (D i).length
  b : 0 ≤ s.wo 0 ∧ s.wo 0 < 18446744073709551616
theorem dnG_more (D : List Int) (rg : Nat → Int) (p : Nat) (v : Int) : dnG D (upd rg p v) (p + 1) = dnG D rg p ++ [(v, (v + D[p]?.getD 0) % 18446744073709551616)] := by
  unfold dnG
  rw [List.range_succ, List.map_append]
  congr 1
  · apply List.map_congr_left
    intro j hj
    have := List.mem_range.1 hj
    rw [upd_other _ _ (by omega)]
  · simp [upd_same]
theorem Ka.step {D : Nat → List Int} {n : Nat} {x0 : Int} {s : Ls} {ins : Nat → List I8} (hI : ∀ i, i < n → ins i = addI (D i)) (h : Ka D n x0 s) (i : Nat) (hi : i < n) : Ka D n x0 (stI ins s i) := by
  obtain ⟨es, hp, hq⟩ := h.p
  rcases Nat.lt_or_ge (s.pl i) (D i).length with hl | hl
  · have hl' : s.pl i < (ins i).length := by rw [hI i hi, addI_len]; exact hl
    have e : tsP s.wo (s.rg i) (ins i) (s.pl i) = (upd s.wo 0 ((s.wo 0 + (D i)[s.pl i]?.getD 0) % 18446744073709551616), upd (s.rg i) (s.pl i) (s.wo 0), s.pl i + 1) := by
      have ex : (ins i)[s.pl i] = addX (s.pl i) ((D i)[s.pl i]?.getD 0) := by
        simp only [hI i hi]
        rw [addI_get]
      rw [tsP_in hl', ex]
      have : exP s.wo (s.rg i) (addX (s.pl i) ((D i)[s.pl i]?.getD 0)) = (upd s.wo 0 ((s.wo 0 + (D i)[s.pl i]?.getD 0) % 18446744073709551616), upd (s.rg i) (s.pl i) (s.wo 0), 1) := by
        unfold exP addX valP
        simp
      rw [this]
      dsimp only
      congr 2
      omega
    unfold stI
    rw [e]
    dsimp only
    refine ⟨⟨es ++ [(s.wo 0, (s.wo 0 + (D i)[s.pl i]?.getD 0) % 18446744073709551616)], ?_, ?_⟩, fun j hj => ?_, ?_⟩
    · dsimp only
      rw [upd_same]
      exact pathE_app es x0 _ _ hp rfl
    · refine (hq.append_right _).trans ((flat_more _ _ i _ (fun j hj => ?_) ?_ n).1 hi).symm
      · dsimp only
        rw [upd_other _ _ hj, upd_other _ _ hj]
      · dsimp only
        rw [upd_same, upd_same]
        exact dnG_more _ _ _ _
    · dsimp only
      by_cases ej : j = i
      · subst ej; rw [upd_same]; exact hl
      · rw [upd_other _ _ ej]; exact h.l j hj
    · dsimp only
      rw [upd_same]
      omega
  · have e : tsP s.wo (s.rg i) (ins i) (s.pl i) = (s.wo, s.rg i, s.pl i) := by
      unfold tsP
      rw [List.getElem?_eq_none (by rw [hI i hi, addI_len]; exact hl)]
    have : stI ins s i = s := by
      unfold stI
      rw [e]
      dsimp only
      rw [upd_id, upd_id]
    rw [this]
    exact h
theorem Jb.state {ins : Nat → List I8} {n : Nat} {a : Hp × Ls} (j : Jb ins n a) {i : Nat} {x : Pq} {l : List Pq} (hq : a.1.q[i]? = some (x :: l)) : i < n ∧ (stepP (pureM ins n) a i).1.2 = stI ins a.2 i := by
  have hi : i < n := by rw [← j.sz]; exact (List.getElem?_eq_some_iff.1 hq).1
  refine ⟨hi, ?_⟩
  obtain ⟨tg, c, hx⟩ : ∃ tg c, a.1.q[i]? = some [(i, tg, c)] := by
    rcases j.q i hi with ⟨e, _⟩ | e
    · rw [hq] at e; cases e
    · exact e
  rw [hq] at hx
  injection hx with hx
  injection hx with hx hl
  subst hx hl
  obtain ⟨st', ev', en', h2⟩ := stepP_two (M := pureM ins n) (a := a) hq
  rcases h2 with ⟨_, e⟩ | ⟨_, e⟩
  · exact congrArg Prod.snd e
  · exact congrArg Prod.snd e
theorem budK (D : Nat → List Int) (n : Nat) (x0 : Int) (ins : Nat → List I8) (hI : ∀ i, i < n → ins i = addI (D i)) : Bud (pureM ins n) (fun a => Jb ins n a ∧ Ka D n x0 a.2) (phA ins n) := by
  refine ⟨fun a i x l j hq => ?_⟩
  have h := (budB ins n).s a i x l j.1 hq
  obtain ⟨hi, e⟩ := j.1.state hq
  have k : Ka D n x0 (stI ins a.2 i) := j.2.step hI i hi
  have k2 : ∀ s : Ls, s = stI ins a.2 i → Ka D n x0 s := fun s e => e ▸ k
  exact ⟨⟨h.1, k2 _ e⟩, h.2⟩
def tlD (dl : List (List Int)) : List (List I8) := dl.map addI
def Dl (dl : List (List Int)) (i : Nat) : List Int := dl[i]?.getD []
theorem insD (dl : List (List Int)) (i : Nat) (hi : i < dl.length) : insL (tlD dl) i = addI (Dl dl i) := by
  unfold insL tlD Dl
  simp [hi]
/-- All additions, at the end of a run. -/
def allE (dl : List (List Int)) (rg : Nat → Nat → Int) (t : Nat) : List (Int × Int) := (List.range t).flatMap (fun i => dnG (Dl dl i) (rg i) (Dl dl i).length)
theorem adds_end (x0 : Int) (dl : List (List Int)) (vs : List (Int × Int × Int)) (h0 : 0 ≤ x0) (h1 : x0 < 18446744073709551616) (hs : soundP [x0] (tlD dl) = true) : ∃ es, pathE x0 es ((endA [x0] (tlD dl) vs).2.wo 0) ∧ es.Perm (allE dl (endA [x0] (tlD dl) vs).2.rg dl.length) ∧ 0 ≤ (endA [x0] (tlD dl) vs).2.wo 0 ∧ (endA [x0] (tlD dl) vs).2.wo 0 < 18446744073709551616 := by
  have hn : (tlD dl).length = dl.length := by simp [tlD]
  have W := budK (Dl dl) (tlD dl).length x0 (insL (tlD dl)) (fun i hi => insD dl i (by omega))
  have hk : Ka (Dl dl) (tlD dl).length x0 (begA [x0] (tlD dl)).2 := by
    refine ⟨⟨[], rfl, ?_⟩, fun i _ => Nat.zero_le _, ⟨h0, h1⟩⟩
    have : dnE (Dl dl) (tlD dl).length (begA [x0] (tlD dl)).2.rg (begA [x0] (tlD dl)).2.pl = [] := by
      unfold dnE
      apply List.flatMap_eq_nil_iff.2
      intro i _
      rfl
    rw [this]
  obtain ⟨j, hi, -⟩ := end_facts W hs ⟨(beg_facts hs).1, hk⟩ vs
  obtain ⟨es, hp, hq⟩ := j.2.p
  refine ⟨es, hp, ?_, j.2.b⟩
  have e : dnE (Dl dl) (tlD dl).length (endA [x0] (tlD dl) vs).2.rg (endA [x0] (tlD dl) vs).2.pl = allE dl (endA [x0] (tlD dl) vs).2.rg dl.length := by
    unfold dnE allE
    rw [hn, List.flatMap_def, List.flatMap_def]
    congr 1
    apply List.map_congr_left
    intro i hm
    have hm' := List.mem_range.1 hm
    have d := idle_done j.1 hi i (by omega)
    rw [insD dl i hm', addI_len] at d
    have := j.2.l i (by omega)
    have : (endA [x0] (tlD dl) vs).2.pl i = (Dl dl i).length := by omega
    rw [this]
  rw [← e]
  exact hq
end Go.Proofs.YtdpebhdjcgiboaaGreat
