import Derived.Test.YteekompojgbkhaaGreatKRaA
import Derived.Test.YteekompojgbkhaaGreatKBqR
import Derived.Test.YteekompojgbkhaaGreatKBqF
namespace Go.Proofs.YteekompojgbkhaaGreat
open Go.ChangeShapes Go.WideShapes Go.ChangeAt Go.RowKit Go.MuLone Go.RwLone
set_option linter.unusedVariables false
set_option linter.unusedSectionVars false
/-- Arena, index and Inserts, and which of them are done. -/
structure IS where
  S : AS
  x : XS
  mi : Nat → MI
  dn : Nat → Bool
/-- A step of the m-th Insert. -/
def IS.st (s : IS) (m : Nat) : IS := ⟨(insP s.S s.x (s.mi m)).2.1.S, (insP s.S s.x (s.mi m)).2.1.x, fun j => if j = m then (insP s.S s.x (s.mi m)).2.2 else s.mi j, fun j => if j = m then (insP s.S s.x (s.mi m)).1 else s.dn j⟩
/-- The m-th as a machine of the book. -/
def onS (s : IS) (m : Nat) : On := ⟨0, (m : Int) + 1, s.mi m, ⟨0, 0, 0, 0, 0, 0, 0, 0, false, 0⟩, ⟨0, 0, 0, 0, 0, false, 0⟩, s.dn m, false, false, ⟨0, 0, [], []⟩⟩
def ons (s : IS) (T : Nat) : List On := (List.range T).map (onS s)
theorem ons_at {s : IS} {T m : Nat} (h : m < T) : (ons s T)[m]? = some (onS s m) := by
  unfold ons
  rw [List.getElem?_map, List.getElem?_range h]
  rfl
theorem ons_st {s : IS} {T m : Nat} (h : m < T) : ons (s.st m) T = (ons s T).set m { onS s m with mi := (insP s.S s.x (s.mi m)).2.2, dn := (insP s.S s.x (s.mi m)).1 } := by
  refine List.ext_getElem? (fun j => ?_)
  by_cases e : j = m
  · subst e
    rw [ons_at h, List.getElem?_set_self (by unfold ons; simp; exact h)]
    show some (onS (s.st j) j) = _
    unfold onS IS.st
    simp
  · rw [List.getElem?_set_ne (fun e2 => e e2.symm)]
    by_cases hj : j < T
    · rw [ons_at hj, ons_at hj]
      unfold onS IS.st
      simp [e]
    · rw [List.getElem?_eq_none (by unfold ons; simp; omega), List.getElem?_eq_none (by unfold ons; simp; omega)]
/-- The tags of those that the events say are done. -/
def dnE (ev : List (Int × Int × Int × Int)) : List Int := (ev.filter (fun e => e.1 == 2)).map (fun e => e.2.2.1)
theorem dnE_app (a b : List (Int × Int × Int × Int)) : dnE (a ++ b) = dnE a ++ dnE b := by
  unfold dnE
  rw [List.filter_append, List.map_append]
theorem dnE_call (h : Hp) (i : Nat) (x : Pq) : dnE (callE h i x) = dnE h.ev := by
  unfold callE
  split
  · rfl
  · rw [dnE_app]
    show _ ++ [] = _
    rw [List.append_nil]
/-- A step of worker i, at whose queue's head x stands. -/
def stI (h : Hp) (s : IS) (i : Nat) (x : Pq) (l : List Pq) : Hp × IS :=
  if (s.st x.1).dn x.1 then (⟨h.q.set i l, wrap64 (h.st + 1), callE h i x ++ [(2, (i : Int), x.2.1, wrap64 (h.st + 1))], h.en ++ [x.1]⟩, s.st x.1)
  else (⟨h.q.set i ((x.1, x.2.1, true) :: l), wrap64 (h.st + 1), callE h i x, h.en⟩, s.st x.1)
def pqN (l : List Pq) : List Nat := l.map (fun x => x.1)
/-- The harness's queues: T machines were handed in, in turn, to kq workers. -/
structure QI (T kq : Nat) (h : Hp) (dn : Nat → Bool) : Prop where
  k : h.q.length = kq
  q : ∀ i l, h.q[i]? = some l → (pqN l).Nodup ∧ ∀ x ∈ l, x.1 < T ∧ x.2.1 = (x.1 : Int) + 1 ∧ dn x.1 = false ∧ (x.1 + 1) % kq = i
  c : ∀ m, m < T → dn m = false → ∃ l, h.q[(m + 1) % kq]? = some l ∧ m ∈ pqN l
/-- A queue is another. -/
theorem QI.set {T kq : Nat} {h h' : Hp} {dn dn' : Nat → Bool} (j : QI T kq h dn) {i : Nat} {x : Pq} {l l' : List Pq} (hq : h.q[i]? = some (x :: l)) (hh : h'.q = h.q.set i l') (ho : ∀ m, m ≠ x.1 → dn' m = dn m) (hl : (dn' x.1 = true ∧ l' = l) ∨ (dn' x.1 = false ∧ l' = (x.1, x.2.1, true) :: l)) : QI T kq h' dn' := by
  have hi := (List.getElem?_eq_some_iff.1 hq).1
  obtain ⟨n1, n2⟩ := j.q i _ hq
  have nd : x.1 ∉ pqN l ∧ (pqN l).Nodup := List.nodup_cons.1 n1
  have hx := n2 x List.mem_cons_self
  have nl : ∀ y ∈ l, y.1 ≠ x.1 := fun y hy e => nd.1 (by rw [← e]; exact List.mem_map.2 ⟨y, hy, rfl⟩)
  refine ⟨by rw [hh, List.length_set]; exact j.k, fun i' l0 h0 => ?_, fun m hm hd => ?_⟩
  · rw [hh] at h0
    by_cases e : i' = i
    · subst e
      rw [List.getElem?_set_self hi] at h0
      injection h0 with h0
      subst h0
      rcases hl with ⟨d1, rfl⟩ | ⟨d1, rfl⟩
      · refine ⟨nd.2, fun y hy => ?_⟩
        have := n2 y (List.mem_cons_of_mem _ hy)
        rw [ho y.1 (nl y hy)]
        exact this
      · refine ⟨n1, fun y hy => ?_⟩
        rcases List.mem_cons.1 hy with e | e
        · rw [e]
          exact ⟨hx.1, hx.2.1, d1, hx.2.2.2⟩
        · have := n2 y (List.mem_cons_of_mem _ e)
          rw [ho y.1 (nl y e)]
          exact this
    · rw [List.getElem?_set_ne (fun e2 => e e2.symm)] at h0
      have k := j.q i' l0 h0
      refine ⟨k.1, fun y hy => ?_⟩
      have f := k.2 y hy
      rw [ho y.1 (fun e2 => e (by rw [← f.2.2.2, e2]; exact hx.2.2.2))]
      exact f
  · rw [hh]
    by_cases e : m = x.1
    · rw [e] at hd ⊢
      rcases hl with ⟨d1, _⟩ | ⟨_, e2⟩
      · rw [hd] at d1
        cases d1
      · rw [hx.2.2.2, List.getElem?_set_self hi, e2]
        exact ⟨_, rfl, List.mem_cons_self⟩
    · rw [ho m e] at hd
      obtain ⟨l0, c1, c2⟩ := j.c m hm hd
      by_cases e3 : (m + 1) % kq = i
      · rw [e3, hq] at c1
        injection c1 with c1
        rw [e3, List.getElem?_set_self hi]
        refine ⟨l', rfl, ?_⟩
        rw [← c1] at c2
        have c3 : m ∈ pqN l := by
          rcases List.mem_cons.1 c2 with f | f
          · exact absurd f e
          · exact f
        rcases hl with ⟨_, e2⟩ | ⟨_, e2⟩
        · rw [e2]; exact c3
        · rw [e2]; exact List.mem_cons_of_mem _ c3
      · rw [List.getElem?_set_ne (fun e2 => e3 e2.symm)]
        exact ⟨l0, c1, c2⟩
/-- A machine more is handed in. -/
theorem QI.sub {T kq : Nat} {h h' : Hp} {dn : Nat → Bool} (j : QI T kq h dn) {i : Nat} {l : List Pq} (hq : h.q[i]? = some l) (hi : (T + 1) % kq = i) (hh : h'.q = h.q.set i (l ++ [(T, (T : Int) + 1, false)])) (hd : dn T = false) : QI (T + 1) kq h' dn := by
  have hlt := (List.getElem?_eq_some_iff.1 hq).1
  refine ⟨by rw [hh, List.length_set]; exact j.k, fun i' l0 h0 => ?_, fun m hm hmd => ?_⟩
  · rw [hh] at h0
    by_cases e : i' = i
    · subst e
      rw [List.getElem?_set_self hlt] at h0
      injection h0 with h0
      subst h0
      obtain ⟨n1, n2⟩ := j.q i' l hq
      refine ⟨?_, fun y hy => ?_⟩
      · unfold pqN
        rw [List.map_append]
        refine List.nodup_append.2 ⟨n1, by simp, fun a ha b hb => ?_⟩
        simp at hb
        rw [hb]
        obtain ⟨y, hy, rfl⟩ := List.mem_map.1 ha
        have := (n2 y hy).1
        show y.1 ≠ T
        omega
      · rcases List.mem_append.1 hy with f | f
        · have := n2 y f
          exact ⟨by omega, this.2⟩
        · simp at f
          subst f
          exact ⟨Nat.lt_succ_self _, rfl, hd, hi⟩
    · rw [List.getElem?_set_ne (fun e2 => e e2.symm)] at h0
      have k := j.q i' l0 h0
      exact ⟨k.1, fun y hy => ⟨by have := (k.2 y hy).1; omega, (k.2 y hy).2⟩⟩
  · rw [hh]
    by_cases e : m = T
    · subst e
      rw [hi, List.getElem?_set_self hlt]
      refine ⟨_, rfl, ?_⟩
      unfold pqN
      rw [List.map_append]
      exact List.mem_append_right _ (by simp)
    · obtain ⟨l0, c1, c2⟩ := j.c m (by omega) hmd
      by_cases e3 : (m + 1) % kq = i
      · rw [e3, hq] at c1
        injection c1 with c1
        rw [e3, List.getElem?_set_self hlt]
        refine ⟨_, rfl, ?_⟩
        rw [← c1] at c2
        unfold pqN at c2 ⊢
        rw [List.map_append]
        exact List.mem_append_left _ c2
      · rw [List.getElem?_set_ne (fun e2 => e3 e2.symm)]
        exact ⟨l0, c1, c2⟩
/-- Nobody waits: all are done. -/
theorem QI.idle {T kq : Nat} {h : Hp} {dn : Nat → Bool} (j : QI T kq h dn) (hi : idleP h = true) : ∀ m, m < T → dn m = true := by
  intro m hm
  by_cases e : dn m = true
  · exact e
  · obtain ⟨l, c1, c2⟩ := j.c m hm (by simpa using e)
    unfold idleP at hi
    rw [List.all_eq_true] at hi
    have := hi l (List.mem_of_getElem? c1)
    have hl : l = [] := List.isEmpty_iff.1 this
    rw [hl] at c2
    cases c2
/-- What holds between the steps: the book's list is that of the ended ones, the last one in front. -/
structure SJ (N T kq : Nat) (nb : Int) (bk : Int → Int) (h : Hp) (s : IS) (G : Gb) (rows : Int → List Int) : Prop where
  i : BkI N nb bk s.S s.x G rows (ons s T)
  z : ∀ t, G.rem t = 0
  e : rows 0 = (dnE h.ev).reverse
  q : QI T kq h s.dn
/-- What is left of the m-th. -/
def pmF (N : Nat) (bk : Int → Int) (G : Gb) (s : IS) (t : Int) : Nat := if s.dn (t - 1).toNat = true then 0 else phi N bk G (onS s (t - 1).toNat)
def Phi (N T : Nat) (bk : Int → Int) (G : Gb) (s : IS) : Nat := sumF (pmF N bk G s) T
section
variable {N T kq : Nat} {nb : Int} {bk : Int → Int} {h : Hp} {s : IS} {G : Gb} {rows : Int → List Int}
theorem SJ.step (j : SJ N T kq nb bk h s G rows) (h1 : 1 ≤ N) (hN : N ≤ 4096) (hb : ∀ s, 0 ≤ bk s ∧ bk s < nb) (hbk : ∀ s, bk s = 0) {i : Nat} {x : Pq} {l : List Pq} (hq : h.q[i]? = some (x :: l)) : ∃ G' rows', SJ N T kq nb bk (stI h s i x l).1 (stI h s i x l).2 G' rows' ∧ Phi N T bk G' (stI h s i x l).2 + 1 ≤ Phi N T bk G s := by
  obtain ⟨x1, x2, x3, x4⟩ := (j.q.q i _ hq).2 x List.mem_cons_self
  have hat := ons_at (s := s) x1
  obtain ⟨G', rows', k1, k2, k3⟩ := j.i.mvI hN hb hat rfl
  have k1 : BkI N nb bk (insP s.S s.x (s.mi x.1)).2.1.S (insP s.S s.x (s.mi x.1)).2.1.x G' rows' ((ons s T).set x.1 { onS s x.1 with mi := (insP s.S s.x (s.mi x.1)).2.2, dn := (insP s.S s.x (s.mi x.1)).1 }) := k1
  rw [← ons_st x1] at k1
  have es : (stI h s i x l).2 = s.st x.1 := by
    unfold stI
    split <;> rfl
  have ed : (s.st x.1).dn x.1 = (insP s.S s.x (s.mi x.1)).1 := if_pos rfl
  have od : ∀ m, m ≠ x.1 → (s.st x.1).dn m = s.dn m := fun m hm => if_neg hm
  have om : ∀ m, m ≠ x.1 → onS (s.st x.1) m = onS s m := fun m hm => by
    unfold onS
    rw [od m hm, show (s.st x.1).mi m = s.mi m from if_neg hm]
  have hr := k1.ranks
  have eo : onS (s.st x.1) x.1 = { onS s x.1 with mi := (insP s.S s.x (s.mi x.1)).2.2, dn := (insP s.S s.x (s.mi x.1)).1 } := by
    unfold onS
    rw [ed, show (s.st x.1).mi x.1 = (insP s.S s.x (s.mi x.1)).2.2 from if_pos rfl]
  obtain ⟨d1, d2, d3, d4⟩ := k3.2 x3
  have a0 := j.i.ok x.1 _ hat
  have a1 := k1.ok x.1 _ (ons_at (s := s.st x.1) x1)
  have own : phi N bk G' (onS (s.st x.1) x.1) + 1 ≤ phi N bk G (onS s x.1) := by
    refine phi_own d2 ?_ a0 x3 a1 j.i.g k1.g hN hb hr h1
    rw [eo]
    exact d3
  have pl : Phi N T bk G' (s.st x.1) + 1 ≤ Phi N T bk G s := by
    unfold Phi
    refine sum_lt _ _ ((x.1 : Int) + 1) T (fun t t1 t2 => ?_) (by omega) (by omega) ?_
    · unfold pmF
      by_cases e : (t - 1).toNat = x.1
      · rw [e, x3, if_neg (by decide : ¬ false = true)]
        split
        · exact Nat.zero_le _
        · omega
      · rw [od _ e, om _ e]
        split
        · exact Nat.le_refl _
        · have hm : (t - 1).toNat < T := by omega
          have b1 := k1.ok _ _ (ons_at (s := s.st x.1) hm)
          rw [om _ e] at b1
          exact phi_oth d2 (j.i.ok _ _ (ons_at (s := s) hm)) b1 j.i.g k1.g hN hb hr h1
    · have e : ((x.1 : Int) + 1 - 1).toNat = x.1 := by omega
      unfold pmF
      rw [e, x3, if_neg (by decide : ¬ false = true)]
      split
      · have := phi_pos (N := N) a0 x3
        omega
      · exact own
  rw [es]
  refine ⟨G', rows', ⟨k1, ?_, ?_, ?_⟩, pl⟩
  · rcases k2 with ⟨_, _, _, f, _⟩ | ⟨_, _, _, _, _, f, _⟩
    · rw [f]; exact j.z
    · rw [f]; exact j.z
  · rcases k2 with ⟨f0, f1, _⟩ | ⟨f0, _, _, f1, _⟩
    · have e : (stI h s i x l).1.ev = callE h i x := by
        unfold stI
        rw [if_neg (by rw [ed]; intro e; have f0 : (insP s.S s.x (s.mi x.1)).1 = s.dn x.1 := f0; rw [f0, x3] at e; cases e)]
      rw [e, dnE_call, f1]
      exact j.e
    · have e : (stI h s i x l).1.ev = callE h i x ++ [(2, (i : Int), x.2.1, wrap64 (h.st + 1))] := by
        unfold stI
        rw [if_pos (by rw [ed]; exact f0)]
      rw [e, dnE_app, dnE_call, List.reverse_append, ← j.e, f1]
      show (if (0 : Int) = bk ((x.1 : Int) + 1) then ((x.1 : Int) + 1) :: rows (bk ((x.1 : Int) + 1)) else rows 0) = [x.2.1] ++ rows 0
      rw [hbk, if_pos rfl, x2]
      rfl
  · refine j.q.set (l' := if (insP s.S s.x (s.mi x.1)).1 = true then l else (x.1, x.2.1, true) :: l) hq ?_ od ?_
    · unfold stI
      rw [ed]
      split <;> rfl
    · rw [ed]
      by_cases e : (insP s.S s.x (s.mi x.1)).1 = true
      · exact .inl ⟨e, if_pos e⟩
      · exact .inr ⟨by simpa using e, if_neg e⟩
/-- Where nothing is left nobody waits. -/
theorem SJ.zero (j : SJ N T kq nb bk h s G rows) (h0 : Phi N T bk G s = 0) (x : Int) : pendP h x = 0 := by
  by_cases hp : pendP h x = 0
  · exact hp
  · obtain ⟨_, _, y, t, e⟩ := pend_head hp
    obtain ⟨y1, y2, y3, y4⟩ := (j.q.q _ _ e).2 y List.mem_cons_self
    have a0 := j.i.ok y.1 _ (ons_at (s := s) y1)
    have := sum_lt (pmF N bk G s) (fun _ => 0) ((y.1 : Int) + 1) T (fun _ _ _ => Nat.zero_le _) (by omega) (by omega) (by
      have e : ((y.1 : Int) + 1 - 1).toNat = y.1 := by omega
      unfold pmF
      rw [e, y3, if_neg (by decide : ¬ false = true)]
      exact phi_pos a0 y3)
    unfold Phi at h0
    omega
theorem SJ.most (j : SJ N T kq nb bk h s G rows) (h1 : 1 ≤ N) : Phi N T bk G s ≤ (3 * N + 2) * (3 * N + 8) * T := by
  have hr := j.i.ranks
  refine Nat.le_trans (sum_le (fun _ => (3 * N + 2) * (3 * N + 8)) (pmF N bk G s) T (fun t t1 t2 => ?_)) (sum_most _ _ (fun _ => Nat.le_refl _) T)
  unfold pmF
  split
  · exact Nat.zero_le _
  · exact phi_most (j.i.ok _ _ (ons_at (s := s) (by omega))) j.i.g hr h1
theorem nd_ge : ∀ (n : Nat) (l : List Int), (∀ s : Int, 1 ≤ s → s ≤ (n : Int) → s ∈ l) → n ≤ l.length
  | 0, l, h => Nat.zero_le _
  | n + 1, l, h => by
    have hm := h ((n : Int) + 1) (by omega) (by omega)
    have := nd_ge n (l.erase ((n : Int) + 1)) (fun s s1 s2 => (List.mem_erase_of_ne (by omega)).2 (h s s1 (by omega)))
    rw [List.length_erase_of_mem hm] at this
    have := List.length_pos_of_mem hm
    omega
/-- At the end the book's list holds each slot once. -/
theorem SJ.fin (j : SJ N N kq nb bk h s G rows) (h0 : 0 < nb) (hbk : ∀ s, bk s = 0) (hi : idleP h = true) : (rows 0).length = N ∧ (rows 0).Nodup ∧ ∀ u, u ∈ rows 0 → 1 ≤ u ∧ u ≤ N := by
  have r := j.i.r 0 (by omega) h0
  have nd : (rows 0).Nodup := r.2.imp (fun {a b} hab e => by rw [e] at hab; omega)
  have lo : ∀ u, u ∈ rows 0 → 1 ≤ u ∧ u ≤ N := fun u hu => by
    have := ((r.1 u).1 hu).1
    exact ⟨this.1, this.2.1⟩
  refine ⟨Nat.le_antisymm (nd_len N _ nd lo) (nd_ge N _ (fun u u1 u2 => ?_)), nd, lo⟩
  have hm : (u - 1).toNat < N := by omega
  have hd := j.q.idle hi _ hm
  have a0 := (j.i.ok _ _ (ons_at (s := s) hm)).i rfl
  have s4 : (s.mi (u - 1).toNat).st = 4 := a0.2.2.1 hd
  have i2 := (a0.1.dn s4).2
  have es : (onS s (u - 1).toNat).mi.sl = u := by
    rw [a0.2.1]
    show ((u - 1).toNat : Int) + 1 = u
    omega
  rw [es] at i2
  exact (r.1 u).2 ⟨⟨u1, u2, i2, hbk u⟩, by rw [j.z]; decide⟩
end
end Go.Proofs.YteekompojgbkhaaGreat

namespace Go.Proofs.YteekompojgbkhaaGreat
open Go.ChangeShapes Go.WideShapes Go.ChangeAt Go.RowKit Go.MuLone Go.RwLone
set_option linter.unusedVariables false
/-- A machine that begins. -/
theorem Bo.push {w w2 : World} {l : WL} {qv : Value} {s : WS} (h : Bo w l qv s) (m : PM) (k : Keeps (fun _ => False) w w2) (hm : m.H w2 l) (hi : m.ix < 2) (hok : m.ok (s.x m.ix)) (h1 : w.heap.size ≤ m.pb) (h2 : w.heap.size ≤ m.rb) (h3 : m.pb ≠ m.rb) : Bo w2 l qv { s with ms := s.ms ++ [m] } := by
  have b := h.keeps k (fun _ _ e => e)
  have lt : ∀ g, aF l qv s g → g ≠ m.pb ∧ g ≠ m.rb := fun g hg => by
    have := h.lt g hg
    omega
  refine ⟨b.a, b.i, b.r, b.j, fun m2 hm2 => ?_, ?_, b.da, b.dx, b.dr, b.dy, b.pd, b.c, b.wd⟩
  · rcases List.mem_append.1 (show m2 ∈ s.ms ++ [m] from hm2) with e | e
    · exact b.m m2 e
    · obtain rfl : m2 = m := by simpa using e
      exact ⟨hm, hi, hok, h3, fun e => (lt _ (.inl e)).1 rfl, fun e => (lt _ (.inl e)).2 rfl, fun e => (lt _ (.inr (.inl e))).1 rfl, fun e => (lt _ (.inr (.inl e))).2 rfl⟩
  · show (s.ms ++ [m]).Pairwise PM.dj
    rw [List.pairwise_append]
    refine ⟨h.mm, by simp, fun a ha c hc => ?_⟩
    obtain rfl : c = m := by simpa using hc
    have l1 := lt a.pb (.inr (.inr ⟨a, ha, .inl rfl⟩))
    have l2 := lt a.rb (.inr (.inr ⟨a, ha, .inr rfl⟩))
    exact ⟨l1.1, l1.2, l2.1, l2.2⟩
/-- The arena was changed, on both sides. -/
theorem Bo.arena {w w2 : World} {l : WL} {qv : Value} {s : WS} (h : Bo w l qv s) (R' : RL) (qv' : Value) (S' : AS) (Q' : List Nat) (ha : Arn w2 l.L Q' S') (hr : RAr w2 R' l.cap qv' Q' S') (k : Keeps (fun g => l.L.has g ∨ raF l.R qv s.S g) w w2)
    (hn : ∀ g, raF R' qv' S' g → raF l.R qv s.S g ∨ w.heap.size ≤ g) (eb : R'.b = l.R.b) (ew : S'.wd = s.S.wd) (hw : ∀ i, LkOk (S'.word i)) : Bo w2 { l with R := R' } qv' { s with S := S', Q := Q' } := by
  have nn : ∀ g, aF l qv s g → ¬ raF l.R qv s.S g → ¬ raF R' qv' S' g := fun g h1 h2 e => by
    rcases hn g e with e | e
    · exact h2 e
    · have := h.lt g h1; omega
  have dd : ∀ g, aF l qv s g → ¬ dF l qv s.S g → ¬ dF { l with R := R' } qv' S' g := fun g h1 h2 e => by
    rcases e with e | e
    · exact nn g h1 (fun e => h2 (.inl e)) e
    · exact h2 (.inr e)
  refine ⟨ha, fun i hi => (h.i i hi).keeps k (fun g hg e => ?_), hr, fun i hi => ?_, fun m hm => ?_, h.mm, h.da, h.dx, fun i hi g hg => nn g (.inr (.inl (.inr ⟨i, hi, hg⟩))) (h.dr i hi g hg), h.dy, fun g hg => dd g (.inl hg) (h.pd g hg), fun i hi => by show (s.x i).cell < S'.wd; rw [ew]; exact h.c i hi, fun i hi => ⟨hw, (h.wd i hi).2⟩⟩
  · rcases e with e | e
    · exact h.da i hi g hg e
    · exact h.pd g (.inr ⟨i, hi, hg⟩) (.inl e)
  · show RxH w2 R'.b (l.Y i) (l.hc i) (s.x i)
    rw [eb]
    refine (h.j i hi).keeps k (fun g hg e => ?_)
    rcases e with e | e
    · exact h.pd g (.inl e) (.inr ⟨i, hi, hg⟩)
    · exact h.dr i hi g hg e
  · obtain ⟨n1, n2, n3, n4, n5, n6, n7, n8⟩ := h.m m hm
    have np : ∀ g, ¬ pF l g → ¬ dF l qv s.S g → ¬ (l.L.has g ∨ raF l.R qv s.S g) := fun g h1 h2 e => e.elim (fun e => h1 (.inl e)) (fun e => h2 (.inl e))
    exact ⟨(n1.keeps k (np _ n5 n7) (np _ n6 n8)).same rfl rfl, n2, n3, n4, n5, n6, dd _ (.inr (.inr ⟨m, hm, .inl rfl⟩)) n7, dd _ (.inr (.inr ⟨m, hm, .inr rfl⟩)) n8⟩
/-- A pair of the law. -/
def pmC (m : PM) : List Value := [.int .i64 (m.kd : Int), if m.kd = 1 then .pointer (some ⟨m.pb, 0, none⟩) else .pointer none, if m.kd = 2 then .pointer (some ⟨m.pb, 0, none⟩) else .pointer none, if m.kd = 4 then .pointer (some ⟨m.pb, 0, none⟩) else .pointer none, if m.kd = 1 then .pointer (some ⟨m.rb, 0, none⟩) else .pointer none, if m.kd = 2 then .pointer (some ⟨m.rb, 0, none⟩) else .pointer none, if m.kd = 4 then .pointer (some ⟨m.rb, 0, none⟩) else .pointer none]
/-- The law's world. -/
structure St4 (w : World) (B wb : Nat) (hold : Int) (l : WL) (qv av : Value) (s : WS) : Prop where
  b : Bo w l qv s
  c0 : w.cell? ⟨wb, 0, none⟩ = some (.pointer (some ⟨l.L.b, 0, none⟩))
  c1 : ∀ i, i < 2 → w.cell? ⟨wb, 1 + i, none⟩ = some (.pointer (some ⟨(l.X i).x, 0, none⟩))
  c3 : w.cell? ⟨wb, 3, none⟩ = some (.pointer (some ⟨l.R.b, 0, none⟩))
  c4 : ∀ i, i < 2 → w.cell? ⟨wb, 4 + i, none⟩ = some (.pointer (some ⟨(l.Y i).x, 0, none⟩))
  c6 : w.cell? ⟨wb, 6, none⟩ = some av
  c7 : w.cell? ⟨wb, 7, none⟩ = some (.int .i64 hold)
  fz : ∀ j, w.frozen? ⟨wb, j, none⟩ = false
  o : OwG pmC 188 7 w B av s.ms
  lw : wb < w.heap.size
  lB : B ≤ wb
  nw : ¬ aF l qv s wb
  na : ∀ g, av.ownBlock = some g → ¬ aF l qv s g ∧ g ≠ wb
  lo : ∀ g, aF l qv s g → B ≤ g
/-- The blocks of all. -/
def sF (wb : Nat) (l : WL) (qv av : Value) (s : WS) (g : Nat) : Prop := aF l qv s g ∨ g = wb ∨ av.ownBlock = some g
theorem St4.low {w : World} {B wb : Nat} {hold : Int} {l : WL} {qv av : Value} {s : WS} (h : St4 w B wb hold l qv av s) (g : Nat) (hg : sF wb l qv av s g) : B ≤ g ∧ g < w.heap.size := by
  rcases hg with e | rfl | e
  · exact ⟨h.lo g e, h.b.lt g e⟩
  · exact ⟨h.lB, h.lw⟩
  · exact World.ownsRow.lt h.o g e
theorem St4.keeps {w w' : World} {D : Nat → Prop} {B wb : Nat} {hold : Int} {l : WL} {qv av : Value} {s : WS} (h : St4 w B wb hold l qv av s) (k : Keeps D w w') (hD : ∀ g, sF wb l qv av s g → ¬ D g) : St4 w' B wb hold l qv av s := by
  have cc : ∀ j, w'.cell? ⟨wb, j, none⟩ = w.cell? ⟨wb, j, none⟩ := fun j => k.cell (p := ⟨wb, j, none⟩) h.lw (hD _ (.inr (.inl rfl)))
  exact ⟨h.b.keeps k (fun g hg => hD g (.inl hg)), (cc 0).trans h.c0, fun i hi => (cc _).trans (h.c1 i hi), (cc 3).trans h.c3, fun i hi => (cc _).trans (h.c4 i hi), (cc 6).trans h.c6, (cc 7).trans h.c7, fun j => (k.frozen (p := ⟨wb, j, none⟩) h.lw (hD _ (.inr (.inl rfl)))).trans (h.fz j), owK h.o k (fun g hg => hD g (.inr (.inr hg))), Nat.lt_of_lt_of_le h.lw k.size, h.lB, h.nw, h.na, h.lo⟩
theorem St4.later {w w' : World} {B wb : Nat} {hold : Int} {l : WL} {qv av : Value} {s : WS} (h : St4 w B wb hold l qv av s) (k : Below w.heap.size w w') : St4 w' B wb hold l qv av s := h.keeps (Below.keeps k (fun _ => False)) (fun _ _ e => e)
/-- What both sides did, in one: the law's own cells stay. -/
theorem St4.go {w w' : World} {D : Nat → Prop} {B wb : Nat} {hold : Int} {l l' : WL} {qv qv' av : Value} {s s' : WS} (h : St4 w B wb hold l qv av s) (hb : Bo w' l' qv' s') (k : Keeps D w w') (hD : ∀ g, D g → aF l qv s g) (hn : ∀ g, aF l' qv' s' g → aF l qv s g ∨ w.heap.size ≤ g)
    (e1 : l'.L = l.L) (e2 : l'.X = l.X) (e3 : l'.R.b = l.R.b) (e4 : l'.Y = l.Y) (e5 : s'.ms = s.ms ∨ (∀ i : Nat, (s'.ms[i]?).map pmC = (s.ms[i]?).map pmC)) (hs : B ≤ w.heap.size) : St4 w' B wb hold l' qv' av s' ∧ Below B w w' := by
  have cc : ∀ j, w'.cell? ⟨wb, j, none⟩ = w.cell? ⟨wb, j, none⟩ := fun j => k.cell (p := ⟨wb, j, none⟩) h.lw (fun e => h.nw (hD _ e))
  have hmap : s'.ms.map pmC = s.ms.map pmC := by
    rcases e5 with e | e
    · rw [e]
    · apply List.ext_getElem?
      intro i
      rw [List.getElem?_map, List.getElem?_map]
      exact e i
  have hlen : s'.ms.length = s.ms.length := by
    have := congrArg List.length hmap
    simpa using this
  have hfl : s'.ms.flatMap pmC = s.ms.flatMap pmC := by rw [List.flatMap_def, List.flatMap_def, hmap]
  have ho := owK h.o k (fun g hg e => (h.na g hg).1 (hD g e))
  refine ⟨⟨hb, by rw [e1]; exact (cc 0).trans h.c0, fun i hi => by rw [e2]; exact (cc _).trans (h.c1 i hi), by rw [e3]; exact (cc 3).trans h.c3, fun i hi => by rw [e4]; exact (cc _).trans (h.c4 i hi), (cc 6).trans h.c6, (cc 7).trans h.c7, fun j => (k.frozen (p := ⟨wb, j, none⟩) h.lw (fun e => h.nw (hD _ e))).trans (h.fz j), ?_, Nat.lt_of_lt_of_le h.lw k.size, h.lB, fun e => ?_, fun g hg => ⟨fun e => ?_, (h.na g hg).2⟩, fun g hg => ?_⟩, k.below hs (fun g hg e => by have := h.lo g (hD g e); omega)⟩
  · unfold OwG at ho ⊢
    rw [hfl, hlen]
    exact ho
  · rcases hn _ e with e | e
    · exact h.nw e
    · have := h.lw; omega
  · rcases hn _ e with e | e
    · exact (h.na g hg).1 e
    · have := (World.ownsRow.lt h.o g hg).2; omega
  · rcases hn _ hg with e | e
    · exact h.lo g e
    · omega
end Go.Proofs.YteekompojgbkhaaGreat
