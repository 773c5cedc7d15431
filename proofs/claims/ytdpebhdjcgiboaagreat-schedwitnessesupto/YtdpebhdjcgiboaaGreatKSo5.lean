import Derived.Test.YtdpebhdjcgiboaaGreatKSnB
namespace Go.Proofs.YtdpebhdjcgiboaaGreat
open Go.ChangeShapes Go.WideShapes Go.ChangeAt Go.RowKit Go.MuLone Go.RwLone
set_option linter.unusedVariables false
set_option linter.unusedSectionVars false
set_option maxRecDepth 100000
set_option maxHeartbeats 3200000
/-- Threads that step on their own: how many, a step, whether one is done. -/
structure Ts (σ : Type) where
  n : Nat
  st : σ → Nat → σ
  dn : σ → Nat → Bool
section
variable {σ : Type} (T : Ts σ)
/-- From one state to another by these threads' steps, none of them done. -/
def wrd : List Nat → σ → σ → Prop
  | [], s, t => s = t
  | m :: ws, s, t => m < T.n ∧ T.dn s m = false ∧ wrd ws (T.st s m) t
theorem wrd_app {ws : List Nat} : ∀ {vs : List Nat} {s t u : σ}, wrd T ws s t → wrd T vs t u → wrd T (ws ++ vs) s u := by
  induction ws with
  | nil => intro vs s t u h g; rw [show s = t from h]; exact g
  | cons m ws ih => intro vs s t u h g; exact ⟨h.1, h.2.1, ih h.2.2 g⟩
theorem wrd_end {ws : List Nat} {m : Nat} {s t : σ} (h : wrd T ws s t) (hm : m < T.n) (hd : T.dn t m = false) : wrd T (ws ++ [m]) s (T.st t m) := wrd_app T h ⟨hm, hd, rfl⟩
theorem wrd_one : ∀ {ws : List Nat} {s t u : σ}, wrd T ws s t → wrd T ws s u → t = u
  | [], s, t, u, h, g => by rw [← show s = t from h]; exact g
  | m :: ws, s, t, u, h, g => wrd_one h.2.2 g.2.2
theorem wrd_mem : ∀ {ws : List Nat} {s t : σ}, wrd T ws s t → ∀ m ∈ ws, m < T.n
  | [], s, t, h, m, hm => by cases hm
  | k :: ws, s, t, h, m, hm => by
    rcases List.mem_cons.1 hm with e | e
    · rw [e]; exact h.1
    · exact wrd_mem h.2.2 m e
/-- A visit: a state, from which visit, by whom. -/
abbrev Vi (σ : Type) := σ × Nat × Nat
variable [DecidableEq σ]
def meetP (V : List (Vi σ)) (v : Vi σ) : List (Vi σ) := if v.1 ∈ V.map (·.1) then V else V ++ [v]
/-- The first k threads stepped from a state. -/
def leaveP (s : σ) (i : Nat) : Nat → List (Vi σ) → List (Vi σ)
  | 0, V => V
  | k + 1, V => if T.dn s k = true then leaveP s i k V else meetP (leaveP s i k V) (T.st s k, i, k)
def allD (s : σ) : Bool := (List.range T.n).all (fun m => T.dn s m)
/-- Visits that hang together: i of them are left, j threads of the next. -/
structure Vo (s0 : σ) (V : List (Vi σ)) (i j : Nat) : Prop where
  z : V[0]? = some (s0, 0, 0)
  u : (V.map (·.1)).Nodup
  f : ∀ k v, V[k]? = some v → 0 < k → ∃ p, V[v.2.1]? = some p ∧ v.2.1 < k ∧ v.2.2 < T.n ∧ T.dn p.1 v.2.2 = false ∧ v.1 = T.st p.1 v.2.2
  c : ∀ k v, V[k]? = some v → ∀ m, m < T.n → T.dn v.1 m = false → (k < i ∨ (k = i ∧ m < j)) → T.st v.1 m ∈ V.map (·.1)
theorem Vo.start (s0 : σ) : Vo T s0 [(s0, 0, 0)] 0 0 := by
  refine ⟨rfl, by simp, fun k v h hk => ?_, fun k v h m hm hd hc => by omega⟩
  cases k with
  | zero => omega
  | succ k => simp at h
theorem Vo.meet {s0 : σ} {V : List (Vi σ)} {i j : Nat} {p : Vi σ} (h : Vo T s0 V i j) (hp : V[i]? = some p) (hj : j < T.n) (hd : T.dn p.1 j = false) : Vo T s0 (meetP V (T.st p.1 j, i, j)) i (j + 1) := by
  unfold meetP
  by_cases hm : T.st p.1 j ∈ V.map (·.1)
  · rw [if_pos hm]
    refine ⟨h.z, h.u, h.f, fun k v hk m hmn hdm hc => ?_⟩
    by_cases e : k = i ∧ m = j
    · obtain ⟨rfl, rfl⟩ := e
      rw [hp] at hk
      injection hk with hk
      subst hk
      exact hm
    · exact h.c k v hk m hmn hdm (by omega)
  · rw [if_neg hm]
    have hi := (List.getElem?_eq_some_iff.1 hp).1
    have old : ∀ k v, V[k]? = some v → (V ++ [(T.st p.1 j, i, j)])[k]? = some v := fun k v hk => by
      rw [List.getElem?_append_left (List.getElem?_eq_some_iff.1 hk).1]; exact hk
    have new : ∀ k v, (V ++ [(T.st p.1 j, i, j)])[k]? = some v → V[k]? = some v ∨ (k = V.length ∧ v = (T.st p.1 j, i, j)) := fun k v hk => by
      by_cases hl : k < V.length
      · rw [List.getElem?_append_left hl] at hk; exact .inl hk
      · rw [List.getElem?_append_right (by omega)] at hk
        have : k - V.length = 0 := by
          rcases Nat.eq_zero_or_pos (k - V.length) with e | e
          · exact e
          · rw [List.getElem?_eq_none (by simp; omega)] at hk; cases hk
        rw [this] at hk
        injection hk with hk
        exact .inr ⟨by omega, hk.symm⟩
    refine ⟨old 0 _ h.z, ?_, fun k v hk h0 => ?_, fun k v hk m hmn hdm hc => ?_⟩
    · rw [List.map_append, List.nodup_append]
      refine ⟨h.u, by simp, fun a ha b hb => ?_⟩
      rw [List.map_cons, List.map_nil, List.mem_singleton] at hb
      intro e
      exact hm (by have : a = T.st p.1 j := e.trans hb; rw [← this]; exact ha)
    · rcases new k v hk with hk | ⟨rfl, rfl⟩
      · obtain ⟨q, h1, h2⟩ := h.f k v hk h0
        exact ⟨q, old _ _ h1, h2⟩
      · exact ⟨p, old _ _ hp, hi, hj, hd, rfl⟩
    · rw [List.map_append]
      rcases new k v hk with hk2 | ⟨rfl, rfl⟩
      · by_cases e : k = i ∧ m = j
        · obtain ⟨rfl, rfl⟩ := e
          rw [hp] at hk2
          injection hk2 with hk2
          subst hk2
          simp
        · exact List.mem_append_left _ (h.c k v hk2 m hmn hdm (by omega))
      · omega
theorem Vo.pass {s0 : σ} {V : List (Vi σ)} {i j : Nat} {p : Vi σ} (h : Vo T s0 V i j) (hp : V[i]? = some p) (hd : T.dn p.1 j = true) : Vo T s0 V i (j + 1) := by
  refine ⟨h.z, h.u, h.f, fun k v hk m hmn hdm hc => ?_⟩
  by_cases e : k = i ∧ m = j
  · obtain ⟨rfl, rfl⟩ := e
    rw [hp] at hk
    injection hk with hk
    subst hk
    rw [hd] at hdm; cases hdm
  · exact h.c k v hk m hmn hdm (by omega)
theorem Vo.left {s0 : σ} {V : List (Vi σ)} {i : Nat} (h : Vo T s0 V i T.n) : Vo T s0 V (i + 1) 0 :=
  ⟨h.z, h.u, h.f, fun k v hk m hmn hdm hc => h.c k v hk m hmn hdm (by omega)⟩
theorem meet_pre (V : List (Vi σ)) (v : Vi σ) : ∃ r, meetP V v = V ++ r := by
  unfold meetP
  split
  · exact ⟨[], by simp⟩
  · exact ⟨[v], rfl⟩
/-- Every state that can be come to is among the visits in the end. -/
theorem Vo.all {s0 : σ} {V : List (Vi σ)} {j : Nat} (h : Vo T s0 V V.length j) : ∀ {ws : List Nat} {s t : σ}, s ∈ V.map (·.1) → wrd T ws s t → t ∈ V.map (·.1)
  | [], s, t, hs, hw => by rw [← show s = t from hw]; exact hs
  | m :: ws, s, t, hs, hw => by
    obtain ⟨v, hv, e⟩ := List.mem_map.1 hs
    obtain ⟨k, hk⟩ := List.getElem?_of_mem hv
    have hl := (List.getElem?_eq_some_iff.1 hk).1
    subst e
    exact Vo.all h (h.c k v hk m hw.1 hw.2.1 (.inl hl)) hw.2.2
theorem Vo.from0 {s0 : σ} {V : List (Vi σ)} {j : Nat} (h : Vo T s0 V V.length j) {ws : List Nat} {t : σ} (hw : wrd T ws s0 t) : t ∈ V.map (·.1) :=
  h.all T (List.mem_map.2 ⟨_, List.mem_of_getElem? h.z, rfl⟩) hw
/-- The steps by which a visit was come to. -/
def pathP (V : List (Vi σ)) : Nat → Nat → List Nat
  | 0, _ => []
  | _ + 1, 0 => []
  | g + 1, k + 1 => match V[k + 1]? with
    | some v => pathP V g v.2.1 ++ [v.2.2]
    | none => []
theorem path_wrd {s0 : σ} {V : List (Vi σ)} {i j : Nat} (h : Vo T s0 V i j) : ∀ (g k : Nat) (v : Vi σ), k ≤ g → V[k]? = some v → wrd T (pathP V g k) s0 v.1
  | 0, k, v, hg, hk => by
    obtain rfl : k = 0 := by omega
    rw [h.z] at hk
    injection hk with hk
    rw [← hk]; exact rfl
  | g + 1, 0, v, hg, hk => by
    rw [h.z] at hk
    injection hk with hk
    rw [← hk]; exact rfl
  | g + 1, k + 1, v, hg, hk => by
    obtain ⟨p, h1, h2, h3, h4, h5⟩ := h.f (k + 1) v hk (by omega)
    have := path_wrd h g v.2.1 p (by omega) h1
    unfold pathP
    rw [hk, h5]
    exact wrd_end T this h3 h4
end
/-- Numbers below N, none twice, are N at most. -/
theorem pigeon : ∀ (N : Nat) (l : List Nat), l.Nodup → (∀ x ∈ l, x < N) → l.length ≤ N
  | 0, l, _, h => by
    cases l with
    | nil => simp
    | cons a l => have := h a (List.mem_cons_self ..); omega
  | N + 1, l, hn, h => by
    by_cases hN : N ∈ l
    · have h1 := pigeon N (l.erase N) (hn.erase N) (fun x hx => by
        have h2 := (hn.mem_erase_iff).1 hx
        have := h x h2.2
        have := h2.1
        omega)
      rw [List.length_erase_of_mem hN] at h1
      omega
    · have := pigeon N l hn (fun x hx => by
        have := h x hx
        rcases Nat.lt_or_ge x N with e | e
        · exact e
        · exact absurd (by rw [show N = x by omega]; exact hx) hN)
      omega
/-- A word as a number. -/
def codeW (n : Nat) : List Nat → Nat
  | [] => 0
  | m :: ws => (m + 1) + (n + 1) * codeW n ws
theorem codeW_inj {n : Nat} : ∀ {ws vs : List Nat}, (∀ m ∈ ws, m < n) → (∀ m ∈ vs, m < n) → codeW n ws = codeW n vs → ws = vs
  | [], [], _, _, _ => rfl
  | [], v :: vs, _, _, h => by unfold codeW at h; omega
  | w :: ws, [], _, _, h => by unfold codeW at h; omega
  | w :: ws, v :: vs, hw, hv, h => by
    have h1 := hw w (List.mem_cons_self ..)
    have h2 := hv v (List.mem_cons_self ..)
    unfold codeW at h
    have e1 : (w + 1 + (n + 1) * codeW n ws) % (n + 1) = w + 1 := by rw [Nat.add_mul_mod_self_left]; exact Nat.mod_eq_of_lt (by omega)
    have e2 : (v + 1 + (n + 1) * codeW n vs) % (n + 1) = v + 1 := by rw [Nat.add_mul_mod_self_left]; exact Nat.mod_eq_of_lt (by omega)
    have e3 : w = v := by rw [h] at e1; omega
    subst e3
    have e4 : (n + 1) * codeW n ws = (n + 1) * codeW n vs := by omega
    have e5 := Nat.eq_of_mul_eq_mul_left (by omega) e4
    rw [codeW_inj (fun m hm => hw m (List.mem_cons_of_mem _ hm)) (fun m hm => hv m (List.mem_cons_of_mem _ hm)) e5]
theorem codeW_lt {n : Nat} : ∀ {ws : List Nat}, (∀ m ∈ ws, m < n) → codeW n ws < (n + 1) ^ ws.length
  | [], _ => by simp [codeW]
  | w :: ws, h => by
    have h1 := h w (List.mem_cons_self ..)
    have h2 := codeW_lt (fun m hm => h m (List.mem_cons_of_mem _ hm))
    rw [List.length_cons, Nat.pow_succ, Nat.mul_comm]
    unfold codeW
    have h3 : (n + 1) * (codeW n ws + 1) ≤ (n + 1) * (n + 1) ^ ws.length := Nat.mul_le_mul_left _ h2
    rw [Nat.mul_add, Nat.mul_one] at h3
    omega
section
variable {σ : Type} (T : Ts σ) [DecidableEq σ]
/-- So many visits at most. -/
theorem Vo.few {s0 : σ} {V : List (Vi σ)} {i j R : Nat} (h : Vo T s0 V i j) (hR : ∀ ws t, wrd T ws s0 t → ws.length ≤ R) : V.length ≤ (T.n + 1) ^ R := by
  have hw : ∀ k, k < V.length → ∃ v, V[k]? = some v ∧ wrd T (pathP V V.length k) s0 v.1 := fun k hk => ⟨V[k], List.getElem?_eq_getElem hk, path_wrd T h V.length k _ (by omega) (List.getElem?_eq_getElem hk)⟩
  have hl := pigeon ((T.n + 1) ^ R) ((List.range V.length).map (fun k => codeW T.n (pathP V V.length k))) ?_ ?_
  · rw [List.length_map, List.length_range] at hl
    exact hl
  · refine List.Pairwise.map _ (R := fun a b => a ≠ b ∧ a < V.length ∧ b < V.length) ?_ ?_
    · rintro a b ⟨hab, ha, hb⟩ e
      obtain ⟨va, h1, h2⟩ := hw a ha
      obtain ⟨vb, h3, h4⟩ := hw b hb
      have e2 := codeW_inj (wrd_mem T h2) (wrd_mem T h4) e
      rw [e2] at h2
      have e3 := wrd_one T h2 h4
      have i1 : (V.map (·.1))[a]? = some va.1 := by rw [List.getElem?_map, h1]; rfl
      have i2 : (V.map (·.1))[b]? = some vb.1 := by rw [List.getElem?_map, h3]; rfl
      rw [← e3] at i2
      exact hab ((List.getElem?_inj (by rw [List.length_map]; exact ha) h.u).1 (i1.trans i2.symm))
    · have hp : (List.range V.length).Pairwise (fun a b => a ≠ b) := List.nodup_range
      refine List.Pairwise.imp_of_mem ?_ hp
      intro a b ha hb hab
      exact ⟨hab, List.mem_range.1 ha, List.mem_range.1 hb⟩
  · intro x hx
    obtain ⟨k, hk, rfl⟩ := List.mem_map.1 hx
    obtain ⟨v, h1, h2⟩ := hw k (List.mem_range.1 hk)
    have := codeW_lt (wrd_mem T h2)
    exact Nat.lt_of_lt_of_le this (Nat.pow_le_pow_right (by omega) (hR _ _ h2))
end
end Go.Proofs.YtdpebhdjcgiboaaGreat

namespace Go.Proofs.YtdpebhdjcgiboaaGreat
open Go.ChangeShapes Go.WideShapes Go.ChangeAt Go.RowKit Go.MuLone Go.RwLone
set_option linter.unusedVariables false
set_option maxRecDepth 100000
set_option maxHeartbeats 3200000
/-- Nought wherever there is no cell, register, thread. -/
structure Can (wd n : Nat) (s : Ls) : Prop where
  w : ∀ i, wd ≤ i → s.wo i = 0
  r : ∀ i r, n ≤ i ∨ 4 ≤ r → s.rg i r = 0
  p : ∀ i, n ≤ i → s.pl i = 0
/-- A state's words, as the program lays them. -/
def encS (s : Ls) : List Int := (List.range 24).map (fun k => if k < 4 then s.wo k else if k < 20 then s.rg ((k - 4) / 4) ((k - 4) % 4) else ((s.pl (k - 20) : Nat) : Int))
def decS (v : List Int) : Ls := ⟨fun i => if i < 4 then v.getD i 0 else 0, fun i r => if i < 4 ∧ r < 4 then v.getD (4 + 4 * i + r) 0 else 0, fun i => if i < 4 then (v.getD (20 + i) 0).toNat else 0⟩
theorem encS_at (s : Ls) (k : Nat) (h : k < 24) : (encS s).getD k 0 = if k < 4 then s.wo k else if k < 20 then s.rg ((k - 4) / 4) ((k - 4) % 4) else ((s.pl (k - 20) : Nat) : Int) := by
  unfold encS
  rw [List.getD_eq_getElem?_getD, List.getElem?_map, List.getElem?_range h]
  rfl
theorem dec_enc {wd n : Nat} {s : Ls} (h : Can wd n s) (h1 : wd ≤ 4) (h2 : n ≤ 4) : decS (encS s) = s := by
  obtain ⟨wo, rg, pl⟩ := s
  unfold decS
  congr 1
  · funext i
    by_cases hi : i < 4
    · rw [if_pos hi, encS_at _ _ (by omega), if_pos hi]
    · rw [if_neg hi]; exact (h.w i (by omega)).symm
  · funext i r
    by_cases hi : i < 4 ∧ r < 4
    · rw [if_pos hi, encS_at _ _ (by omega), if_neg (by omega), if_pos (by omega), show (4 + 4 * i + r - 4) / 4 = i by omega, show (4 + 4 * i + r - 4) % 4 = r by omega]
    · rw [if_neg hi]; exact (h.r i r (by omega)).symm
  · funext i
    by_cases hi : i < 4
    · rw [if_pos hi, encS_at _ _ (by omega), if_neg (by omega), if_neg (by omega), show 20 + i - 20 = i by omega, Int.toNat_natCast]
    · rw [if_neg hi]; exact (h.p i (by omega)).symm
theorem upd_zero {f : Nat → Int} {k c : Nat} {v : Int} (hk : ∀ i, k ≤ i → f i = 0) (hc : c < k) : ∀ i, k ≤ i → upd f c v i = 0 := fun i hi => by rw [upd_other _ _ (by omega)]; exact hk i hi
theorem exP_zero {wo rg : Nat → Int} {x : I8} {wd : Nat} (hs : snd wd x) (hw : ∀ i, wd ≤ i → wo i = 0) (hr : ∀ r, 4 ≤ r → rg r = 0) : (∀ i, wd ≤ i → (exP wo rg x).1 i = 0) ∧ ∀ r, 4 ≤ r → (exP wo rg x).2.1 r = 0 := by
  unfold exP
  rcases hs with ⟨e, hc, h4⟩ | ⟨e, hc, _⟩ | ⟨e, hc, h4, _⟩ | ⟨e, hc, h4, _⟩ | ⟨e, h4, _⟩
  · rw [if_pos e]
    exact ⟨hw, upd_zero hr (by omega)⟩
  · rw [if_neg (by omega), if_pos e]
    exact ⟨upd_zero hw (by omega), hr⟩
  · rw [if_neg (by omega), if_neg (by omega), if_pos e]
    split
    · exact ⟨upd_zero hw (by omega), upd_zero hr (by omega)⟩
    · exact ⟨hw, upd_zero hr (by omega)⟩
  · rw [if_neg (by omega), if_neg (by omega), if_neg (by omega), if_pos e]
    exact ⟨upd_zero hw (by omega), upd_zero hr (by omega)⟩
  · rw [if_neg (by omega), if_neg (by omega), if_neg (by omega), if_neg (by omega)]
    split <;> exact ⟨hw, hr⟩
theorem stI_can {ins : Nat → List I8} {wd n m : Nat} {s : Ls} (h : Can wd n s) (hm : m < n) (hs : ∀ x ∈ ins m, snd wd x) : Can wd n (stI ins s m) := by
  unfold stI
  by_cases hp : s.pl m < (ins m).length
  · rw [tsP_in hp]
    obtain ⟨e1, e2⟩ := exP_zero (hs _ (List.getElem_mem hp)) h.w (fun r hr => h.r m r (.inr hr))
    refine ⟨e1, fun i r hir => ?_, fun i hi => ?_⟩
    · dsimp only
      by_cases e : i = m
      · subst e; rw [upd_same]; exact e2 r (by omega)
      · rw [upd_other _ _ e]; exact h.r i r hir
    · dsimp only
      rw [upd_other _ _ (by omega)]; exact h.p i hi
  · rw [tsP_out hp]
    refine ⟨h.w, fun i r hir => ?_, fun i hi => ?_⟩
    · dsimp only
      by_cases e : i = m
      · subst e; rw [upd_same]; exact h.r i r hir
      · rw [upd_other _ _ e]; exact h.r i r hir
    · dsimp only
      rw [upd_other _ _ (by omega)]; exact h.p i hi
theorem stI_done {ins : Nat → List I8} {m : Nat} {s : Ls} (hp : ¬ s.pl m < (ins m).length) : stI ins s m = s := by
  obtain ⟨wo, rg, pl⟩ := s
  unfold stI
  rw [tsP_out hp]
  congr 1
  · funext i
    by_cases e : i = m
    · subst e; rw [upd_same]
    · rw [upd_other _ _ e]
  · funext i
    by_cases e : i = m
    · subst e; rw [upd_same]
    · rw [upd_other _ _ e]
/-- A program's threads over its states. -/
def tsL (ins : Nat → List I8) (n : Nat) : Ts (List Int) := ⟨n, fun v m => encS (stI ins (decS v) m), fun v m => dnI ins (decS v) m⟩
section
variable {ins : Nat → List I8} {wd n : Nat} (h1 : wd ≤ 4) (h2 : n ≤ 4) (hs : ∀ m, m < n → ∀ x ∈ ins m, snd wd x)
theorem tsL_step {m : Nat} {s t : Ls} {ws : List Nat} (h : Can wd n s) (hm : m < n) (hd : s.pl m < (ins m).length) (hw : wrd (tsL ins n) ws (encS (stI ins s m)) (encS t)) (h1 : wd ≤ 4) (h2 : n ≤ 4) : wrd (tsL ins n) (m :: ws) (encS s) (encS t) := by
  refine ⟨hm, ?_, ?_⟩
  · show dnI ins (decS (encS s)) m = false
    rw [dec_enc h h1 h2]
    unfold dnI
    simp
    omega
  · show wrd (tsL ins n) ws (encS (stI ins (decS (encS s)) m)) (encS t)
    rw [dec_enc h h1 h2]
    exact hw
theorem step_ls (a : Hp × (pureM ins n).σ) (i : Nat) (x : Pq) (l : List Pq) (h : a.1.q[i]? = some (x :: l)) (hx : x.1 = i) : (stepP (pureM ins n) a i).1.2 = stI ins a.2 i := by
  unfold stepP
  rw [h]
  dsimp only
  unfold stepQ
  rw [hx]
  split <;> rfl
/-- What is played goes from state to state. -/
theorem gone_reach {a b : Hp × (pureM ins n).σ} {k : Nat} (g : Gone (pureM ins n) a k b) (h1 : wd ≤ 4) (h2 : n ≤ 4) (hs : ∀ m, m < n → ∀ x ∈ ins m, snd wd x) : Jb ins n a → Can wd n a.2 → Can wd n b.2 ∧ Jb ins n b ∧ ∃ ws, wrd (tsL ins n) ws (encS a.2) (encS b.2) := by
  induction g using Gone.ind with
  | nil a => exact fun j c => ⟨c, j, [], rfl⟩
  | @cons a b k i x l h _ ih =>
    intro j c
    have hlt := (List.getElem?_eq_some_iff.1 h).1
    have hi : i < n := by rw [← j.sz]; exact hlt
    have hx : x.1 = i := by
      rcases j.q i hi with e | ⟨tg, c', e⟩
      · rw [e.1] at h; cases h
      · rw [e] at h
        injection h with h
        injection h with h _
        rw [← h]
    have hst := step_ls a i x l h hx
    have j1 := ((budB ins n).s a i x l j h).1
    have c1 : Can wd n (stepP (pureM ins n) a i).1.2 := by rw [hst]; exact stI_can c hi (hs i hi)
    obtain ⟨r1, r2, ws, r3⟩ := ih j1 c1
    refine ⟨r1, r2, ?_⟩
    rw [hst] at r3
    by_cases hd : a.2.pl i < (ins i).length
    · exact ⟨i :: ws, tsL_step c hi hd r3 h1 h2⟩
    · rw [stI_done hd] at r3
      exact ⟨ws, r3⟩
end
end Go.Proofs.YtdpebhdjcgiboaaGreat

namespace Go.Proofs.YtdpebhdjcgiboaaGreat
open Go.ChangeShapes Go.WideShapes Go.ChangeAt Go.RowKit Go.MuLone Go.RwLone
set_option linter.unusedVariables false
set_option maxRecDepth 100000
set_option maxHeartbeats 3200000
theorem beg_can (cs : List Int) (ts : List (List I8)) : Can cs.length ts.length (begA cs ts).2 := by
  refine ⟨fun i hi => ?_, fun i r h => rfl, fun i h => rfl⟩
  show wds cs i = 0
  unfold wds
  rw [List.getElem?_eq_none (by omega)]
  rfl
theorem sound_snd {cs : List Int} {ts : List (List I8)} (h : soundP cs ts = true) : ∀ m, m < ts.length → ∀ x ∈ insL ts m, snd cs.length x := by
  obtain ⟨_, _, h3⟩ := sound_facts h
  intro m hm x hx
  unfold insL at hx
  rw [List.getElem?_eq_getElem hm] at hx
  exact (h3 m hm).2 x hx
/-- Where a run ends: a state that can be come to, all threads done. -/
theorem end_reach {cs : List Int} {ts : List (List I8)} (h : soundP cs ts = true) (vs : List (Int × Int × Int)) : Can cs.length ts.length (endA cs ts vs).2 ∧ (∀ i, i < ts.length → (insL ts i).length ≤ (endA cs ts vs).2.pl i) ∧ ∃ ws, wrd (tsL (insL ts) ts.length) ws (encS (begA cs ts).2) (encS (endA cs ts vs).2) := by
  obtain ⟨hc4, hn4, _⟩ := sound_facts h
  obtain ⟨j, idl, _⟩ := end_facts (budB (insL ts) ts.length) h (beg_facts h).1 vs
  obtain ⟨k1, _, g1⟩ := mk_play (M := pureM (insL ts) ts.length) vs 14 (begA cs ts)
  obtain ⟨k2, _, g2⟩ := mk_play (M := pureM (insL ts) ts.length) [(6, 0, 0)] 14 (playP (pureM (insL ts) ts.length) vs 14 (begA cs ts)).2.2
  obtain ⟨r1, r2, r3⟩ := gone_reach (g1.trans g2) hc4.2 hn4.2 (sound_snd h) (beg_facts h).1 (beg_can cs ts)
  exact ⟨r1, fun i hi => idle_done j idl i hi, r3⟩
/-- Where all threads are done, whatever is played changes nothing. -/
theorem gone_same {ins : Nat → List I8} {n : Nat} {a b : Hp × (pureM ins n).σ} {k : Nat} (g : Gone (pureM ins n) a k b) : Jb ins n a → (∀ i, i < n → (ins i).length ≤ Ls.pl a.2 i) → b.2 = a.2 := by
  induction g using Gone.ind with
  | nil a => exact fun _ _ => rfl
  | @cons a b k i x l h _ ih =>
    intro j hd
    have hlt := (List.getElem?_eq_some_iff.1 h).1
    have hi : i < n := by rw [← j.sz]; exact hlt
    have hx : x.1 = i := by
      rcases j.q i hi with e | ⟨tg, c', e⟩
      · rw [e.1] at h; cases h
      · rw [e] at h
        injection h with h
        injection h with h _
        rw [← h]
    have hst := step_ls a i x l h hx
    have hd' := hd i hi
    rw [stI_done (ins := ins) (m := i) (s := a.2) (by omega)] at hst
    have := ih ((budB ins n).s a i x l j h).1 (by rw [hst]; exact hd)
    rw [this, hst]
theorem pick_step {M : Mc} {m l : Nat} {a : Hp × M.σ} {x : Pq} {r : List Pq} (h : a.1.q[m]? = some (x :: r)) : pickP M (1, (m : Int), 1) (l + 1) a = (true, l, (stepP M a m).1) := by
  have hp : ¬ pendP a.1 (m : Int) = 0 := by
    unfold pendP
    rw [if_neg (by omega), Int.toNat_natCast, h]
    simp
  unfold pickP
  rw [if_pos rfl]
  simp only [runP]
  rw [if_neg (by omega), Int.toNat_natCast, runP_end (.inl (by omega))]
/-- A word of steps, played one by one. -/
theorem play_word {ins : Nat → List I8} {wd n : Nat} (h1 : wd ≤ 4) (h2 : n ≤ 4) (hs : ∀ m, m < n → ∀ x ∈ ins m, snd wd x) : ∀ (ws : List Nat) (a : Hp × (pureM ins n).σ) (l : Nat) (v : List Int), Jb ins n a → Can wd n a.2 → phA ins n a ≤ l → wrd (tsL ins n) ws (encS a.2) v → ∃ b : Hp × (pureM ins n).σ, (playP (pureM ins n) (ws.map (fun m : Nat => ((1 : Int), (m : Int), (1 : Int)))) l a).2.2 = b ∧ Jb ins n b ∧ Can wd n b.2 ∧ encS b.2 = v
  | [], a, l, v, j, c, hl, hw => ⟨a, rfl, j, c, hw⟩
  | m :: ws, a, l, v, j, c, hl, hw => by
    obtain ⟨hm, hd, hw⟩ := hw
    have hm : m < n := hm
    have hd : dnI ins (decS (encS a.2)) m = false := hd
    rw [dec_enc c h1 h2] at hd
    have hd2 : Ls.pl a.2 m < (ins m).length := by
      unfold dnI at hd
      simp at hd
      omega
    have hq : ∃ tg c', a.1.q[m]? = some [(m, tg, c')] := by
      rcases j.q m hm with e | e
      · exfalso; have := e.2; omega
      · exact e
    obtain ⟨tg, c', hq⟩ := hq
    obtain ⟨j1, p1⟩ := (budB ins n).s a m _ _ j hq
    obtain ⟨l, rfl⟩ : ∃ l', l = l' + 1 := ⟨l - 1, by omega⟩
    have hst := step_ls a m _ _ hq rfl
    have hw2 : wrd (tsL ins n) ws (encS (stI ins (decS (encS a.2)) m)) v := hw
    rw [dec_enc c h1 h2] at hw2
    have c1 : Can wd n (stepP (pureM ins n) a m).1.2 := by rw [hst]; exact stI_can c hm (hs m hm)
    obtain ⟨b, e, r⟩ := play_word h1 h2 hs ws (stepP (pureM ins n) a m).1 l v j1 c1 (by omega) (by rw [hst]; exact hw2)
    refine ⟨b, ?_, r⟩
    rw [List.map_cons]
    unfold playP
    rw [pick_step hq]
    exact e
/-- The word of an end, played: the run ends there. -/
theorem end_word {cs : List Int} {ts : List (List I8)} (h : soundP cs ts = true) {ws : List Nat} {v : List Int} (hw : wrd (tsL (insL ts) ts.length) ws (encS (begA cs ts).2) v) (hd : ∀ i, i < ts.length → dnI (insL ts) (decS v) i = true) : encS (endA cs ts (ws.map (fun m : Nat => ((1 : Int), (m : Int), (1 : Int))))).2 = v := by
  obtain ⟨hc4, hn4, _⟩ := sound_facts h
  obtain ⟨j0, p0⟩ := beg_facts h
  obtain ⟨b, e, j, c, hb⟩ := play_word hc4.2 hn4.2 (sound_snd h) ws (begA cs ts) 14 v j0 (beg_can cs ts) p0 hw
  obtain ⟨k2, _, g2⟩ := mk_play (M := pureM (insL ts) ts.length) [(6, 0, 0)] 14 b
  have hs := gone_same g2 j (fun i hi => by
    have := hd i hi
    rw [← hb, dec_enc c hc4.2 hn4.2] at this
    unfold dnI at this
    simpa using this)
  unfold endA
  rw [e, hs]
  exact hb
/-- A word has ten steps at most. -/
theorem word_ten {cs : List Int} {ts : List (List I8)} (h : soundP cs ts = true) {ws : List Nat} {v : List Int} (hw : wrd (tsL (insL ts) ts.length) ws (encS (begA cs ts).2) v) : ws.length ≤ 14 := by
  obtain ⟨hc4, hn4, _⟩ := sound_facts h
  obtain ⟨j0, p0⟩ := beg_facts h
  have key : ∀ (ws : List Nat) (a : Hp × (pureM (insL ts) ts.length).σ) (v : List Int), Jb (insL ts) ts.length a → Can cs.length ts.length a.2 → wrd (tsL (insL ts) ts.length) ws (encS a.2) v → ws.length ≤ phA (insL ts) ts.length a := by
    intro ws
    induction ws with
    | nil => intro a v _ _ _; simp
    | cons m ws ih =>
      intro a v j c hw
      obtain ⟨hm, hd, hw⟩ := hw
      have hm : m < ts.length := hm
      have hd : dnI (insL ts) (decS (encS a.2)) m = false := hd
      rw [dec_enc c hc4.2 hn4.2] at hd
      have hd2 : Ls.pl a.2 m < (insL ts m).length := by
        unfold dnI at hd
        simp at hd
        omega
      have hq : ∃ tg c', a.1.q[m]? = some [(m, tg, c')] := by
        rcases j.q m hm with e | e
        · exfalso; have := e.2; omega
        · exact e
      obtain ⟨tg, c', hq⟩ := hq
      obtain ⟨j1, p1⟩ := (budB (insL ts) ts.length).s a m _ _ j hq
      have hst := step_ls a m _ _ hq rfl
      have hw2 : wrd (tsL (insL ts) ts.length) ws (encS (stI (insL ts) (decS (encS a.2)) m)) v := hw
      rw [dec_enc c hc4.2 hn4.2] at hw2
      have := ih (stepP (pureM (insL ts) ts.length) a m).1 v j1 (by rw [hst]; exact stI_can c hm (sound_snd h m hm)) (by rw [hst]; exact hw2)
      rw [List.length_cons]
      omega
  exact Nat.le_trans (key ws (begA cs ts) v j0 (beg_can cs ts) hw) p0
end Go.Proofs.YtdpebhdjcgiboaaGreat

namespace Go.Proofs.YtdpebhdjcgiboaaGreat
open Go.ChangeShapes Go.WideShapes Go.ChangeAt Go.RowKit Go.MuLone Go.RwLone
set_option linter.unusedVariables false
set_option maxRecDepth 100000
set_option maxHeartbeats 6400000
/-- Two words held against each other; two lists of words. -/
def cmU (x y : Int) : Int := if x < y then -1 else if y < x then 1 else 0
def cmL : List Int → List Int → Int
  | [], [] => 0
  | [], _ :: _ => -1
  | _ :: _, [] => 1
  | x :: xs, y :: ys => if cmU x y = 0 then cmL xs ys else cmU x y
theorem nan_no (w : World) (x : Int) : Calls Tryz.prog 165 #[.int .u64 x] w fun e w' => e = .returned (.bool false) ∧ w' = w := by
  go_enter Tryz.func165, Tryz.ntmps165
  go_wp2
  go_ret
  exact ⟨rfl, rfl⟩
theorem cmp_u64 (w : World) (x y : Int) : Calls Tryz.prog 121 #[.int .u64 x, .int .u64 y] w fun e w' => e = .returned (.int .i64 (cmU x y)) ∧ w' = w := by
  have N : Hid (∀ X z, Calls Tryz.prog 165 #[.int .u64 z] X fun e w' => e = .returned (.bool false) ∧ w' = X) := fun X z => nan_no X z
  unfold cmU
  by_cases h1 : x < y
  · rw [if_pos h1]
    go_enter Tryz.func121, Tryz.ntmps121
    go_wp2_with fail
    refine (N.out w x).mono ?_
    rintro e w1 ⟨rfl, h⟩
    have h := h.symm
    subst h
    go_wp2_with fail
    refine (N.out w y).mono ?_
    rintro e w1 ⟨rfl, h⟩
    have h := h.symm
    subst h
    go_wp2
    go_ret
    exact ⟨rfl, rfl⟩
  · rw [if_neg h1]
    by_cases h2 : y < x
    · rw [if_pos h2]
      have h3 : x > y := h2
      go_enter Tryz.func121, Tryz.ntmps121
      go_wp2_with fail
      refine (N.out w x).mono ?_
      rintro e w1 ⟨rfl, h⟩
      have h := h.symm
      subst h
      go_wp2_with fail
      refine (N.out w y).mono ?_
      rintro e w1 ⟨rfl, h⟩
      have h := h.symm
      subst h
      go_wp2
      go_ret
      exact ⟨rfl, rfl⟩
    · rw [if_neg h2]
      have h3 : ¬ x > y := h2
      go_enter Tryz.func121, Tryz.ntmps121
      go_wp2_with fail
      refine (N.out w x).mono ?_
      rintro e w1 ⟨rfl, h⟩
      have h := h.symm
      subst h
      go_wp2_with fail
      refine (N.out w y).mono ?_
      rintro e w1 ⟨rfl, h⟩
      have h := h.symm
      subst h
      go_wp2
      go_ret
      exact ⟨rfl, rfl⟩
theorem cmL_drop {xs ys : List Int} {t : Nat} (h1 : t < xs.length) (h2 : t < ys.length) : cmL (xs.drop t) (ys.drop t) = if cmU xs[t] ys[t] = 0 then cmL (xs.drop (t + 1)) (ys.drop (t + 1)) else cmU xs[t] ys[t] := by
  rw [List.drop_eq_getElem_cons h1, List.drop_eq_getElem_cons h2]
  rfl
theorem slices_cmp (w : World) (C : Nat) (a b : Option Addr) (ac bc : Nat) (xs ys : List Int) (ha : InG wdC w C (.slice a xs.length ac) xs) (hb : InG wdC w C (.slice b ys.length bc) ys) (hx : xs.length ≤ 1000000) :
    Calls Tryz.prog 89 #[.slice a xs.length ac, .slice b ys.length bc] w fun e w' => e = .returned (.int .i64 (cmL xs ys)) ∧ w' = w := by
  have HA : Hid (InG wdC w C (.slice a xs.length ac) xs) := ha
  have HB : Hid (InG wdC w C (.slice b ys.length bc) ys) := hb
  have HC : Hid (∀ x y, Calls Tryz.prog 121 #[.int .u64 x, .int .u64 y] w fun e w' => e = .returned (.int .i64 (cmU x y)) ∧ w' = w) := fun x y => cmp_u64 w x y
  obtain ⟨n, hn⟩ : ∃ n, xs.length = n := ⟨_, rfl⟩
  obtain ⟨m, hm⟩ : ∃ m, ys.length = m := ⟨_, rfl⟩
  have HN : Hid (xs.length = n ∧ ys.length = m) := ⟨hn, hm⟩
  have hn1 : n ≤ 1000000 := by omega
  rw [hn, hm]
  clear ha hb hn hm hx
  go_enter Tryz.func89, Tryz.ntmps89
  go_wp2_with fail
  go_loopw [11] (fun c wr => ∃ t : Nat, c = .int .i64 t ∧ t ≤ n ∧ t ≤ m ∧ cmL xs ys = cmL (xs.drop t) (ys.drop t) ∧ wr = w) (fun c _ => n - (intOf c).toNat)
  case atStart => exact ⟨0, rfl, by omega, by omega, by simp, rfl⟩
  case round =>
    obtain ⟨t, rfl, ht, htm, hc, rfl⟩ := hrel
    rename World => w
    have HQ : Hid (cmL xs ys = cmL (xs.drop t) (ys.drop t)) := hc
    clear hc
    have t0 : (0 : Int) ≤ (t : Int) := Int.natCast_nonneg _
    by_cases h5 : t < n
    · have t1 : (t : Int) < (n : Int) := by omega
      have hxl : t < xs.length := by have := HN.out.1; omega
      have ha := HA.out
      rw [HN.out.1] at ha
      obtain ⟨b1, o1, rfl, -, q1⟩ := InG.cell (cs := wdC) (n := 1) (fun _ => rfl) ha t hxl (by decide)
      have p1 : w.cell? ⟨b1, o1 + t, none⟩ = some (.int .u64 xs[t]) := by have := q1 0 (by decide); rw [Nat.mul_one, Nat.add_zero] at this; exact this
      clear q1 ha
      by_cases h6 : t < m
      · have t2 : (t : Int) < (m : Int) := by omega
        have t3 : ¬ (t : Int) ≥ (m : Int) := by omega
        have hyl : t < ys.length := by have := HN.out.2; omega
        have hb := HB.out
        rw [HN.out.2] at hb
        obtain ⟨b2, o2, rfl, -, q2⟩ := InG.cell (cs := wdC) (n := 1) (fun _ => rfl) hb t hyl (by decide)
        have p2 : w.cell? ⟨b2, o2 + t, none⟩ = some (.int .u64 ys[t]) := by have := q2 0 (by decide); rw [Nat.mul_one, Nat.add_zero] at this; exact this
        clear q2 hb
        have HD : Hid (cmL (xs.drop t) (ys.drop t) = if cmU xs[t] ys[t] = 0 then cmL (xs.drop (t + 1)) (ys.drop (t + 1)) else cmU xs[t] ys[t]) := cmL_drop hxl hyl
        generalize xs[t] = x at *
        generalize ys[t] = y at *
        obtain ⟨c, hcv⟩ : ∃ c, cmU x y = c := ⟨_, rfl⟩
        have HCV : Hid (cmU x y = c) := hcv
        clear hcv
        by_cases h7 : c = 0
        · go_wp2_with fail
          refine (HC.out x y).mono ?_
          rintro e w1 ⟨rfl, h⟩
          have h := h.symm
          subst h
          rw [HCV.out]
          have HE : Hid (cmL xs ys = cmL (xs.drop (t + 1)) (ys.drop (t + 1))) := by show _ = _; rw [HQ.out, HD.out, HCV.out, if_pos h7]
          clear HD
          go_wp2
          go_roundw
          case rel => exact ⟨t + 1, by go_num, by omega, by omega, HE.out, by trivial⟩
          case measure => simp [intOf]; omega
        · go_wp2_with fail
          refine (HC.out x y).mono ?_
          rintro e w1 ⟨rfl, h⟩
          have h := h.symm
          subst h
          rw [HCV.out]
          have HE : Hid (cmL xs ys = c) := by show _ = _; rw [HQ.out, HD.out, HCV.out, if_neg h7]
          clear HD
          go_wp2
          go_ret
          exact ⟨by rw [HE.out]; rfl, rfl⟩
      · have t3 : (t : Int) ≥ (m : Int) := by omega
        have HE : Hid (cmL xs ys = 1) := by
          show _ = _
          rw [HQ.out, List.drop_eq_getElem_cons hxl, show ys.drop t = [] from List.drop_of_length_le (by have := HN.out.2; omega)]
          rfl
        generalize xs[t] = x at *
        go_wp2
        go_ret
        exact ⟨by rw [HE.out]; rfl, rfl⟩
    · have t1 : ¬ (t : Int) < (n : Int) := by omega
      have e1 : xs.drop t = [] := List.drop_of_length_le (by have := HN.out.1; omega)
      by_cases h6 : n < m
      · have t2 : (n : Int) < (m : Int) := by omega
        have HE : Hid (cmL xs ys = -1) := by
          show _ = _
          rw [HQ.out, e1, List.drop_eq_getElem_cons (by have := HN.out.2; omega)]
          rfl
        clear e1
        go_wp2
        go_ret
        exact ⟨by rw [HE.out]; rfl, rfl⟩
      · have t2 : ¬ (n : Int) < (m : Int) := by omega
        have HE : Hid (cmL xs ys = 0) := by
          show _ = _
          rw [HQ.out, e1, show ys.drop t = [] from List.drop_of_length_le (by have := HN.out.2; omega)]
          rfl
        clear e1
        go_wp2
        go_ret
        exact ⟨by rw [HE.out]; rfl, rfl⟩
end Go.Proofs.YtdpebhdjcgiboaaGreat

namespace Go.Proofs.YtdpebhdjcgiboaaGreat
set_option linter.unusedSimpArgs false
open Go.ChangeShapes Go.WideShapes Go.ChangeAt Go.RowKit Go.MuLone Go.RwLone
set_option linter.unusedVariables false
set_option maxRecDepth 100000
set_option maxHeartbeats 6400000
def orI (p q : Int) : Int := if p = 0 then q else p
theorem cmp_or (w : World) (g : Nat) (p q : Int) (h0 : w.cell? ⟨g, 0, none⟩ = some (.int .i64 p)) (h1 : w.cell? ⟨g, 1, none⟩ = some (.int .i64 q)) :
    Calls Tryz.prog 88 #[.slice (some ⟨g, 0, none⟩) 2 2] w fun e w' => e = .returned (.int .i64 (orI p q)) ∧ w' = w := by
  have HG : Hid (∀ t : Nat, t < 2 → w.cell? ⟨g, t, none⟩ = some (.int .i64 (if t = 0 then p else q))) := fun t ht => by
    match t, ht with
    | 0, _ => exact h0
    | 1, _ => exact h1
  clear h0 h1
  go_enter Tryz.func88, Tryz.ntmps88
  go_wp2_with fail
  go_loopw [8] (fun c wr => ∃ t : Nat, c = .int .i64 t ∧ t ≤ 2 ∧ (0 < t → p = 0) ∧ (1 < t → q = 0) ∧ wr = w) (fun c _ => 2 - (intOf c).toNat)
  case atStart => exact ⟨0, rfl, by omega, fun h => by omega, fun h => by omega, rfl⟩
  case round =>
    obtain ⟨t, rfl, ht, hp, hq, rfl⟩ := hrel
    rename World => w
    have HP : Hid ((0 < t → p = 0) ∧ (1 < t → q = 0)) := ⟨hp, hq⟩
    clear hp hq
    have t0 : (0 : Int) ≤ (t : Int) := Int.natCast_nonneg _
    by_cases h5 : t < 2
    · have t1 : (t : Int) < 2 := by omega
      have cG := HG.out t h5
      obtain ⟨v, hv⟩ : ∃ v, (if t = 0 then p else q) = v := ⟨_, rfl⟩
      have HV : Hid ((if t = 0 then p else q) = v) := hv
      rw [hv] at cG
      clear hv
      by_cases h6 : v = 0
      · have HN : Hid ((0 < t + 1 → p = 0) ∧ (1 < t + 1 → q = 0)) := by
          have e := HV.out
          rw [h6] at e
          refine ⟨fun _ => ?_, fun h => ?_⟩
          · by_cases e0 : t = 0
            · rw [if_pos e0] at e; exact e
            · exact HP.out.1 (by omega)
          · rw [if_neg (by omega)] at e; exact e
        go_wp2
        go_roundw
        case rel => exact ⟨t + 1, by go_num, by omega, HN.out.1, HN.out.2, by trivial⟩
        case measure => simp [intOf]; omega
      · have HE : Hid (orI p q = v) := by
          show _ = _
          unfold orI
          have e := HV.out
          by_cases e0 : t = 0
          · rw [if_pos e0] at e; rw [if_neg (by rw [e]; exact h6)]; exact e
          · rw [if_neg e0] at e; rw [if_pos (HP.out.1 (by omega))]; exact e
        go_wp2
        go_ret
        exact ⟨by rw [HE.out]; rfl, rfl⟩
    · have t1 : ¬ (t : Int) < 2 := by omega
      have HE : Hid (orI p q = 0) := by
        show _ = _
        unfold orI
        rw [if_pos (HP.out.1 (by omega)), HP.out.2 (by omega)]
      go_wp2
      go_ret
      exact ⟨by rw [HE.out]; rfl, rfl⟩
/-- Two outcomes held against each other. -/
def cmO (x1 x2 y1 y2 : List Int) : Int := orI (cmL x1 y1) (cmL x2 y2)
theorem compare_any (w : World) (C : Nat) (hC : C ≤ w.heap.size) (a1 a2 b1 b2 : Option Addr) (c1 c2 d1 d2 : Nat) (x1 x2 y1 y2 : List Int) (h1 : InG wdC w C (.slice a1 x1.length c1) x1) (h2 : InG wdC w C (.slice a2 x2.length c2) x2) (h3 : InG wdC w C (.slice b1 y1.length d1) y1) (h4 : InG wdC w C (.slice b2 y2.length d2) y2) (l1 : x1.length ≤ 1000000) (l2 : x2.length ≤ 1000000) :
    Calls Tryz.prog 45 #[.agg #[.slice a1 x1.length c1, .slice a2 x2.length c2], .agg #[.slice b1 y1.length d1, .slice b2 y2.length d2]] w fun e w' => e = .returned (.int .i64 (cmO x1 x2 y1 y2)) ∧ Keeps (fun _ => False) w w' ∧ w.drawn ≤ w'.drawn := by
  have HS : Hid (∀ X, Keeps (fun _ => False) w X → (Calls Tryz.prog 89 #[.slice a1 x1.length c1, .slice b1 y1.length d1] X fun e w' => e = .returned (.int .i64 (cmL x1 y1)) ∧ w' = X) ∧ Calls Tryz.prog 89 #[.slice a2 x2.length c2, .slice b2 y2.length d2] X fun e w' => e = .returned (.int .i64 (cmL x2 y2)) ∧ w' = X) := fun X k => by
    have kb := k.below hC (fun _ _ e => e)
    exact ⟨slices_cmp X C a1 b1 c1 d1 x1 y1 (h1.later kb) (h3.later kb) l1, slices_cmp X C a2 b2 c2 d2 x2 y2 (h2.later kb) (h4.later kb) l2⟩
  unfold cmO
  generalize cmL x1 y1 = p at *
  generalize cmL x2 y2 = q at *
  generalize x1.length = n1 at *
  generalize x2.length = n2 at *
  generalize y1.length = m1 at *
  generalize y2.length = m2 at *
  have k0 : Keeps (fun _ => False) w ((w.alloc (.cells #[.slice a1 n1 c1, .slice a2 n2 c2] 51)).alloc (.cells #[.slice b1 m1 d1, .slice b2 m2 d2] 51)) := ((Keeps.refl _ _).alloc _).alloc _
  have e0 : ((w.alloc (.cells #[.slice a1 n1 c1, .slice a2 n2 c2] 51)).alloc (.cells #[.slice b1 m1 d1, .slice b2 m2 d2] 51)).heap[w.heap.size]? = some (.cells #[.slice a1 n1 c1, .slice a2 n2 c2] 51) := (Below.heap_alloc _ _ _ (by rw [szAl]; omega)).trans (heap_alloc_last _ _ _ rfl)
  have e1 : ((w.alloc (.cells #[.slice a1 n1 c1, .slice a2 n2 c2] 51)).alloc (.cells #[.slice b1 m1 d1, .slice b2 m2 d2] 51)).heap[w.heap.size + 1]? = some (.cells #[.slice b1 m1 d1, .slice b2 m2 d2] 51) := heap_alloc_last _ _ _ (szAl _ _).symm
  have HK : Hid (Keeps (fun _ => False) w ((w.alloc (.cells #[.slice a1 n1 c1, .slice a2 n2 c2] 51)).alloc (.cells #[.slice b1 m1 d1, .slice b2 m2 d2] 51))) := k0
  have f0 := (cell?_heap e0 0).trans rfl
  have f1 := (cell?_heap e0 1).trans rfl
  have f2 := (cell?_heap e1 0).trans rfl
  have f3 := (cell?_heap e1 1).trans rfl
  have lz : ((w.alloc (.cells #[.slice a1 n1 c1, .slice a2 n2 c2] 51)).alloc (.cells #[.slice b1 m1 d1, .slice b2 m2 d2] 51)).heap.size = w.heap.size + 2 := by rw [szAl, szAl]
  clear k0 e0 e1 h1 h2 h3 h4 l1 l2
  go_enter Tryz.func45, Tryz.ntmps45
  go_wp2_with fail
  have HD : Hid (w.drawn ≤ ((w.alloc (.cells #[.slice a1 n1 c1, .slice a2 n2 c2] 51)).alloc (.cells #[.slice b1 m1 d1, .slice b2 m2 d2] 51)).drawn) := Nat.le_refl _
  generalize ((w.alloc (.cells #[.slice a1 n1 c1, .slice a2 n2 c2] 51)).alloc (.cells #[.slice b1 m1 d1, .slice b2 m2 d2] 51)) = W1 at *
  (refine wp_region_held_drew (S := (fun X => X.cell? ⟨w.heap.size, 0, none⟩ = some (.slice a1 n1 c1) ∧ X.cell? ⟨w.heap.size, 1, none⟩ = some (.slice a2 n2 c2) ∧ X.cell? ⟨w.heap.size + 1, 0, none⟩ = some (.slice b1 m1 d1) ∧ X.cell? ⟨w.heap.size + 1, 1, none⟩ = some (.slice b2 m2 d2))) (by kernel_rfl) ⟨f0, f1, f2, f3⟩ (fun hHeld => ?_); simp only [List.size_toArray, List.length_cons, List.length_nil, Nat.reduceAdd, Array.replicate_succ, Array.replicate_zero, List.push_toArray, List.append_toArray, List.nil_append, List.cons_append])
  refine rgT 0 (h := ?_)
  refine rgT 1 (h := ?_)
  refine rgT 2 (h := ?_)
  refine rgT 3 (h := ?_)
  refine rgT 5 (h := ?_)
  refine rgT 6 (h := ?_)
  refine rgT 7 (h := ?_)
  refine rgT 8 (h := ?_)
  (refine rgS 4 (h := fun K hK => ?_); go_simp)
  refine (HS.out W1.drew HK.out.drew).1.mono ?_
  rintro e w3 ⟨rfl, h⟩
  have h := h.symm
  subst h
  (refine hK.out _ _ ⟨f0, f1, f2, f3⟩ (fun hHeld => ?_); clear hK K; try simp only [Act.put, List.setIfInBounds_toArray, List.set_cons_zero, List.set_cons_succ])
  (refine rgS 9 (h := fun K hK => ?_); go_simp)
  refine (HS.out W1.drew HK.out.drew).2.mono ?_
  rintro e w3 ⟨rfl, h⟩
  have h := h.symm
  subst h
  (refine hK.out _ _ ⟨f0, f1, f2, f3⟩ (fun hHeld => ?_); clear hK K; try simp only [Act.put, List.setIfInBounds_toArray, List.set_cons_zero, List.set_cons_succ])
  (refine rgS 10 (h := fun K hK => ?_); go_simp)
  have HA : Hid (∀ cc, (W1.drew.alloc cc).cell? ⟨w.heap.size, 0, none⟩ = some (.slice a1 n1 c1) ∧ (W1.drew.alloc cc).cell? ⟨w.heap.size, 1, none⟩ = some (.slice a2 n2 c2) ∧ (W1.drew.alloc cc).cell? ⟨w.heap.size + 1, 0, none⟩ = some (.slice b1 m1 d1) ∧ (W1.drew.alloc cc).cell? ⟨w.heap.size + 1, 1, none⟩ = some (.slice b2 m2 d2)) := fun cc => by
    have hb : w.heap.size < W1.drew.heap.size := by show w.heap.size < W1.heap.size; omega
    have hb1 : w.heap.size + 1 < W1.drew.heap.size := by show w.heap.size + 1 < W1.heap.size; omega
    exact ⟨(World.cell?_of_block (w := W1) (Below.heap_alloc W1.drew _ _ hb)).trans f0, (World.cell?_of_block (w := W1) (Below.heap_alloc W1.drew _ _ hb)).trans f1, (World.cell?_of_block (w := W1) (Below.heap_alloc W1.drew _ _ hb1)).trans f2, (World.cell?_of_block (w := W1) (Below.heap_alloc W1.drew _ _ hb1)).trans f3⟩
  (refine hK.out _ _ (HA.out _) (fun hHeld => ?_); clear hK K; try simp only [Act.put, List.setIfInBounds_toArray, List.set_cons_zero, List.set_cons_succ])
  (refine rgS 11 (h := fun K hK => ?_); go_simp)
  have eL : (W1.alloc (.cells #[.int .i64 p, .int .i64 q] 3)).drew.heap[w.heap.size + 2]? = some (.cells #[.int .i64 p, .int .i64 q] 3) := heap_alloc_last _ _ _ lz.symm
  have cA := HA.out (.cells #[.int .i64 p, .int .i64 q] 3)
  have HK2 : Hid (Keeps (fun _ => False) w (W1.alloc (.cells #[.int .i64 p, .int .i64 q] 3)).drew) := (HK.out.alloc _).drew
  have cB : (W1.alloc (.cells #[.int .i64 p, .int .i64 q] 3)).drew.cell? ⟨w.heap.size, 0, none⟩ = some (.slice a1 n1 c1) ∧ (W1.alloc (.cells #[.int .i64 p, .int .i64 q] 3)).drew.cell? ⟨w.heap.size, 1, none⟩ = some (.slice a2 n2 c2) ∧ (W1.alloc (.cells #[.int .i64 p, .int .i64 q] 3)).drew.cell? ⟨w.heap.size + 1, 0, none⟩ = some (.slice b1 m1 d1) ∧ (W1.alloc (.cells #[.int .i64 p, .int .i64 q] 3)).drew.cell? ⟨w.heap.size + 1, 1, none⟩ = some (.slice b2 m2 d2) := cA
  clear cA
  refine (cmp_or (W1.alloc (.cells #[.int .i64 p, .int .i64 q] 3)).drew (w.heap.size + 2) p q ((cell?_heap eL 0).trans rfl) ((cell?_heap eL 1).trans rfl)).mono ?_
  rintro e w3 ⟨rfl, h⟩
  have h := h.symm
  subst h
  (refine hK.out _ _ cB (fun hHeld => ?_); clear hK K; try simp only [Act.put, List.setIfInBounds_toArray, List.set_cons_zero, List.set_cons_succ])
  refine rgT 12 (h := ?_)
  refine wpAnyH_done (by kernel_rfl) ?_ _
  clear cB eL
  go_wp2
  go_ret
  exact ⟨rfl, HK2.out, Nat.le_trans HD.out (Nat.le_succ _)⟩
end Go.Proofs.YtdpebhdjcgiboaaGreat
