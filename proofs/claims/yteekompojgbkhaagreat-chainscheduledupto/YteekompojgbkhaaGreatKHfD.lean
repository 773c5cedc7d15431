import Derived.Test.YteekompojgbkhaaGreatKHfC
namespace Go.Proofs.YteekompojgbkhaaGreat
open Go.ChangeShapes Go.WideShapes Go.ChangeAt Go.RowKit Go.MuLone Go.RwLone
set_option linter.unusedVariables false
set_option maxRecDepth 100000
set_option maxHeartbeats 3200000
theorem sum_set {α : Type} (f : α → Nat) : ∀ (q : List α) (i : Nat) (hi : i < q.length) (l : α), ((q.set i l).map f).sum + f q[i] = (q.map f).sum + f l
  | a :: q, 0, _, l => by simp; omega
  | a :: q, i + 1, hi, l => by
    have := sum_set f q i (by simpa using hi) l
    simp at this ⊢
    omega
def szq (q : List (List Pq)) : Nat := (q.map List.length).sum
/-- What stays so of a harness while it plays. -/
structure Iv (N : Nat) (h : Hp) : Prop where
  a : ∀ (i : Nat) (l : List Pq), h.q[i]? = some l → l.length ≤ 64 ∧ ∀ x ∈ l, x.1 < N
  b : h.ev.length + wtq h.q ≤ 68719476000
  c : h.en.length + szq h.q ≤ 68719476000
theorem Iv.set {N : Nat} {h : Hp} (v : Iv N h) {i : Nat} {l l' : List Pq} (hi : h.q[i]? = some l) (hl : l'.length ≤ l.length) (hm : ∀ x ∈ l', x.1 < N) {st : Int} {ev : List (Int × Int × Int × Int)} {en : List Nat} (h1 : ev.length + wtl l' ≤ h.ev.length + wtl l) (h2 : en.length + l'.length ≤ h.en.length + l.length) : Iv N ⟨h.q.set i l', st, ev, en⟩ := by
  obtain ⟨hlt, hge⟩ := List.getElem?_eq_some_iff.1 hi
  have s1 := sum_set wtl h.q i hlt l'
  have s2 := sum_set List.length h.q i hlt l'
  rw [hge] at s1 s2
  have b := v.b
  have c := v.c
  unfold wtq at b
  unfold szq at c
  refine ⟨fun j m hj => ?_, ?_, ?_⟩
  · by_cases e : j = i
    · subst e
      dsimp only at hj
      rw [List.getElem?_set_self hlt] at hj
      injection hj with hj
      subst hj
      exact ⟨Nat.le_trans hl (v.a j l hi).1, hm⟩
    · dsimp only at hj
      rw [List.getElem?_set_ne (fun e' => e e'.symm)] at hj
      exact v.a j m hj
  · show ev.length + ((h.q.set i l').map wtl).sum ≤ _
    omega
  · show en.length + ((h.q.set i l').map List.length).sum ≤ _
    omega
theorem wtl_cons (x : Pq) (l : List Pq) : wtl (x :: l) = wtp x + wtl l := by simp [wtl]
theorem stepQ_iv {M : Mc} {h : Hp} {s : M.σ} {i : Nat} {x : Pq} {l : List Pq} (v : Iv M.N h) (hi : h.q[i]? = some (x :: l)) : Iv M.N (stepQ M h s i x l).1 := by
  have ha := (v.a i _ hi).2
  have w1 : wtp x = if x.2.2 then 1 else 2 := rfl
  have ce : (callE h i x).length = if x.2.2 then h.ev.length else h.ev.length + 1 := by
    unfold callE; split <;> simp
  unfold stepQ
  split
  · refine v.set hi (by simp) (fun y hy => ha y (List.mem_cons_of_mem _ hy)) ?_ ?_
    · rw [List.length_append, ce, wtl_cons, w1]
      split <;> simp <;> omega
    · simp; omega
  · refine v.set hi (by simp) (fun y hy => ?_) ?_ ?_
    · rcases List.mem_cons.1 hy with rfl | hy
      · exact ha x (List.mem_cons_self ..)
      · exact ha y (List.mem_cons_of_mem _ hy)
    · rw [ce, wtl_cons, wtl_cons, w1]
      have : wtp (x.1, x.2.1, true) = 1 := rfl
      rw [this]
      split <;> omega
    · simp
/-- How many places stand in a worker's queue. -/
def pendP (h : Hp) (x : Int) : Nat := if x < 0 then 0 else ((h.q[x.toNat]?).getD []).length
/-- A step of a worker. -/
def stepP (M : Mc) (a : Hp × M.σ) (i : Nat) : (Hp × M.σ) × Bool :=
  match a.1.q[i]? with
  | some (x :: l) => (((stepQ M a.1 a.2 i x l).1, (stepQ M a.1 a.2 i x l).2.1), (stepQ M a.1 a.2 i x l).2.2)
  | _ => (a, false)
theorem pend_head {h : Hp} {x : Int} (hp : ¬ pendP h x = 0) : 0 ≤ x ∧ x.toNat < h.q.length ∧ ∃ y l, h.q[x.toNat]? = some (y :: l) := by
  unfold pendP at hp
  split at hp
  · exact absurd rfl hp
  · cases e : h.q[x.toNat]? with
    | none => rw [e] at hp; exact absurd rfl hp
    | some l =>
      rw [e] at hp
      match l, hp with
      | [], hp => exact absurd rfl hp
      | y :: l, _ => exact ⟨by omega, (List.getElem?_eq_some_iff.1 e).1, y, l, rfl⟩
/-- Up to n steps of worker x. -/
def runP (M : Mc) (x : Int) : Nat → Int → (Hp × M.σ) → Bool × Nat × (Hp × M.σ)
  | 0, n, a => if n ≤ 0 ∨ pendP a.1 x = 0 then (true, 0, a) else (false, 0, a)
  | l + 1, n, a => if n ≤ 0 ∨ pendP a.1 x = 0 then (true, l + 1, a) else runP M x l (n - 1) (stepP M a x.toNat).1
theorem runP_end {M : Mc} {x : Int} {l : Nat} {n : Int} {a : Hp × M.σ} (h : n ≤ 0 ∨ pendP a.1 x = 0) : runP M x l n a = (true, l, a) := by
  cases l <;> simp only [runP, if_pos h]
/-- Steps of worker x till its head is done. -/
def finP (M : Mc) (i : Nat) : Nat → (Hp × M.σ) → Bool × Nat × (Hp × M.σ)
  | 0, a => (false, 0, a)
  | l + 1, a => if (stepP M a i).2 then (true, l, (stepP M a i).1) else finP M i l (stepP M a i).1
/-- A play in its block g, lf steps left, since w. -/
structure Pg (M : Mc) (w wr : World) (F : Nat → Prop) (hb qb g lf : Nat) (a : Hp × M.σ) : Prop where
  mid : ∃ F' qv ev en, Hm wr F' M.pt hb qb qv ev en a.1 ∧ (∀ y, F' y → F y ∨ w.heap.size ≤ y) ∧ (∀ y, F' y → ¬ M.F y)
  o : M.ok wr a.2
  k : Keeps (fun x => F x ∨ M.F x ∨ x = g) w wr
  gb : wr.heap[g]? = some (.cells #[.pointer (some ⟨hb, 0, none⟩), .int .i64 (lf : Int)] 108)
  gl : g < w.heap.size
  gF : ¬ F g
  gM : ¬ M.F g
  iv : Iv M.N a.1
  lm : lf ≤ 9223372036854775807
theorem Pg.c0 {M : Mc} {w wr : World} {F : Nat → Prop} {hb qb g lf : Nat} {a : Hp × M.σ} (p : Pg M w wr F hb qb g lf a) : wr.cell? ⟨g, 0, none⟩ = some (.pointer (some ⟨hb, 0, none⟩)) := (cell?_heap p.gb 0).trans rfl
theorem Pg.c1 {M : Mc} {w wr : World} {F : Nat → Prop} {hb qb g lf : Nat} {a : Hp × M.σ} (p : Pg M w wr F hb qb g lf a) : wr.cell? ⟨g, 1, none⟩ = some (.int .i64 (lf : Int)) := (cell?_heap p.gb 1).trans rfl
theorem Pg.spend {M : Mc} {w wr : World} {F : Nat → Prop} {hb qb g lf : Nat} {a : Hp × M.σ} (p : Pg M w wr F hb qb g (lf + 1) a) : Pg M w (wr.setCell ⟨g, 1, none⟩ (.int .i64 (lf : Int))) F hb qb g lf a := by
  obtain ⟨F', qv, ev, en, m, f, d⟩ := p.mid
  have k : Keeps (fun x => x = g) wr (wr.setCell ⟨g, 1, none⟩ (.int .i64 (lf : Int))) := Keeps.setCell (B := fun x => x = g) (Keeps.refl _ _) rfl _
  have ng : ¬ F' g := fun e => (f g e).elim p.gF (fun e => by have := p.gl; omega)
  refine ⟨⟨F', qv, ev, en, m.keeps k (fun x e hx => ng (e ▸ hx)), f, d⟩, M.far p.o k (fun x e hx => p.gM (e ▸ hx)), p.k.trans (k.mono (fun _ e => .inr (.inr e))), ?_, p.gl, p.gF, p.gM, p.iv, by have := p.lm; omega⟩
  exact heapSet p.gb _
theorem Pg.still {M : Mc} {w wr wy : World} {F : Nat → Prop} {hb qb g lf : Nat} {a : Hp × M.σ} (p : Pg M w wr F hb qb g lf a) (k : Keeps (fun _ => False) wr wy) : Pg M w wy F hb qb g lf a := by
  obtain ⟨F', qv, ev, en, m, f, d⟩ := p.mid
  exact ⟨⟨F', qv, ev, en, m.still k, f, d⟩, M.still p.o k, p.k.trans (k.mono (fun _ e => e.elim)), (k.block g (Array.getElem?_eq_some_iff.1 p.gb).1 (fun e => e)).trans p.gb, p.gl, p.gF, p.gM, p.iv, p.lm⟩
theorem pspend_ok {M : Mc} {w wr : World} {F : Nat → Prop} {hb qb g lf : Nat} {a : Hp × M.σ} (p : Pg M w wr F hb qb g (lf + 1) a) :
    Calls Tryz.prog 138 #[.pointer (some ⟨g, 0, none⟩)] wr fun e w' => e = .returned (.bool true) ∧ Pg M w w' F hb qb g lf a := by
  have HS : Hid (Pg M w (wr.setCell ⟨g, 1, none⟩ (.int .i64 (lf : Int))) F hb qb g lf a) := p.spend
  have c1 := p.c1
  have z1 : wr.frozen? ⟨g, 1, none⟩ = false := frozen?_heap p.gb 1
  have hm := p.lm
  obtain ⟨y, hy⟩ : ∃ y : Int, ((lf + 1 : Nat) : Int) = y := ⟨_, rfl⟩
  rw [hy] at c1
  have hx : ¬ y = 0 := by omega
  have hw : IntKind.i64.wrap (y - 1) = (lf : Int) := by rw [IntKind.wrap_i64]; omega
  clear p hy
  go_enter Tryz.func138, Tryz.ntmps138
  go_wp2
  go_ret
  exact ⟨rfl, HS.out⟩
theorem pspend_no {M : Mc} {w wr : World} {F : Nat → Prop} {hb qb g : Nat} {a : Hp × M.σ} (p : Pg M w wr F hb qb g 0 a) :
    Calls Tryz.prog 138 #[.pointer (some ⟨g, 0, none⟩)] wr fun e w' => e = .returned (.bool false) ∧ w' = wr := by
  have c1 : wr.cell? ⟨g, 1, none⟩ = some (.int .i64 0) := p.c1
  clear p
  go_enter Tryz.func138, Tryz.ntmps138
  go_wp2
  go_ret
  exact ⟨rfl, rfl⟩
/-- A step of worker i within a play. -/
theorem pstep_any {M : Mc} {w wr : World} {F : Nat → Prop} {hb qb g lf : Nat} {a : Hp × M.σ} (p : Pg M w wr F hb qb g lf a) (i : Nat) (x : Pq) (l : List Pq) (hq : a.1.q[i]? = some (x :: l)) :
    Calls Tryz.prog 139 #[.pointer (some ⟨hb, 0, none⟩), .int .i64 (i : Int)] wr fun e w' => e = .returned (.bool (stepP M a i).2) ∧ Pg M w w' F hb qb g lf (stepP M a i).1 := by
  obtain ⟨F', qv, ev, en, m, f, d⟩ := p.mid
  obtain ⟨hlt, hge⟩ := List.getElem?_eq_some_iff.1 hq
  have ha := p.iv.a i _ hq
  have hb1 := p.iv.b
  have hc1 := p.iv.c
  refine (hstep_any M wr F' hb qb qv ev en a.1 a.2 i x l m p.o d hlt hge (ha.2 x (List.mem_cons_self ..)) (by have := ha.1; simp at this; omega) (by omega) (by omega)).mono ?_
  rintro e w' ⟨rfl, F2, qv2, ev2, en2, md⟩
  have es : stepP M a i = (((stepQ M a.1 a.2 i x l).1, (stepQ M a.1 a.2 i x l).2.1), (stepQ M a.1 a.2 i x l).2.2) := by unfold stepP; rw [hq]
  have hw := p.k.size
  have ng : ¬ F' g := fun e => (f g e).elim p.gF (fun e => by have := p.gl; omega)
  have lg : g < wr.heap.size := by have := p.gl; omega
  rw [es]
  refine ⟨rfl, ⟨F2, qv2, ev2, en2, md.m, fun y hy => ?_, md.d⟩, md.o, ?_, (md.k.block g lg (fun e => e.elim ng p.gM)).trans p.gb, p.gl, p.gF, p.gM, stepQ_iv p.iv hq, p.lm⟩
  · rcases md.f y hy with e | e
    · exact f y e
    · right; omega
  · refine ⟨md.k.os.trans p.k.os, md.k.tape.trans p.k.tape, md.k.output.trans p.k.output, Nat.le_trans p.k.size md.k.size, fun y hy hn => (md.k.block y (by omega) (fun e => ?_)).trans (p.k.block y hy hn)⟩
    rcases e with e | e
    · rcases f y e with e | e
      · exact hn (.inl e)
      · omega
    · exact hn (.inr (.inl e))
end Go.Proofs.YteekompojgbkhaaGreat

namespace Go.Proofs.YteekompojgbkhaaGreat
open Go.ChangeShapes Go.WideShapes Go.ChangeAt Go.RowKit Go.MuLone Go.RwLone
set_option linter.unusedVariables false
set_option maxRecDepth 100000
set_option maxHeartbeats 3200000
theorem hpend_any {w : World} {F : Nat → Prop} {pt : Nat → Nat} {hb qb : Nat} {qv : Nat → Value} {ev en : Value} {h : Hp} (m : Hm w F pt hb qb qv ev en h) (x : Int) : Calls Tryz.prog 137 #[.pointer (some ⟨hb, 0, none⟩), .int .i64 x] w fun e w' => e = .returned (.int .i64 ((pendP h x : Nat) : Int)) ∧ w' = w := by
  by_cases hx : 0 ≤ x ∧ x < (h.q.length : Int)
  · obtain ⟨i, rfl⟩ : ∃ i : Nat, x = (i : Int) := ⟨x.toNat, by omega⟩
    have hi : i < h.q.length := by omega
    have e : pendP h (i : Int) = h.q[i].length := by
      unfold pendP
      rw [if_neg (by omega)]
      simp [hi]
    rw [e]
    exact hpend_in m i hi
  · have e : pendP h x = 0 := by
      unfold pendP
      split
      · rfl
      · rw [List.getElem?_eq_none (by omega)]; rfl
    rw [e]
    exact hpend_out m x hx
theorem prun_any {M : Mc} {w wr : World} {F : Nat → Prop} {hb qb g lf : Nat} {a : Hp × M.σ} (p : Pg M w wr F hb qb g lf a) (x n : Int) (hn : n ≤ 9223372036854775807) :
    Calls Tryz.prog 91 #[.pointer (some ⟨g, 0, none⟩), .int .i64 x, .int .i64 n] wr fun e w' => e = .returned (.bool (runP M x lf n a).1) ∧ Pg M w w' F hb qb g (runP M x lf n a).2.1 (runP M x lf n a).2.2 := by
  obtain ⟨r, hr⟩ : ∃ r, runP M x lf n a = r := ⟨_, rfl⟩
  rw [hr]
  have HP : Hid (Pg M w wr F hb qb g lf a ∧ runP M x lf n a = r) := ⟨p, hr⟩
  clear p hr
  go_enter Tryz.func91, Tryz.ntmps91
  go_wp2_with fail
  go_loopw [2] (fun c wq => ∃ (y : Int) (l' : Nat) (a' : Hp × M.σ), c = .int .i64 y ∧ y ≤ n ∧ Pg M w wq F hb qb g l' a' ∧ runP M x l' y a' = r) (fun c _ => (intOf c).toNat)
  case atStart => exact ⟨n, lf, a, rfl, Int.le_refl _, HP.out.1, HP.out.2⟩
  case round =>
    obtain ⟨y, l', a', rfl, hy, hp, hr⟩ := hrel
    have c0 := hp.c0
    have HQ : Hid (Pg M w wr F hb qb g l' a' ∧ runP M x l' y a' = r) := ⟨hp, hr⟩
    obtain ⟨F', qv, ev, en, m, -, -⟩ := hp.mid
    have HH : Hid (Hm wr F' M.pt hb qb qv ev en a'.1) := m
    clear hp hr m HP
    by_cases hy0 : 0 < y
    · go_wp2_with fail
      refine (hpend_any HH.out x).mono ?_
      rintro e w1 ⟨rfl, rfl⟩
      by_cases hp0 : pendP a'.1 x = 0
      · have HE : Hid (runP M x l' y a' = (true, l', a')) := runP_end (.inr hp0)
        rw [hp0]
        go_wp2
        go_ret
        rw [← HQ.out.2, HE.out]
        exact ⟨rfl, HQ.out.1⟩
      · obtain ⟨x0, hxl, z, lz, hz⟩ := pend_head hp0
        obtain ⟨pp, hpp⟩ : ∃ pp, pendP a'.1 x = pp := ⟨_, rfl⟩
        have hnn : ¬ (y ≤ 0 ∨ pendP a'.1 x = 0) := fun e => e.elim (fun e => by omega) hp0
        rw [hpp]
        have hp1 : (0 : Int) < (pp : Int) := by omega
        cases l' with
        | zero =>
          have HE : Hid (runP M x 0 y a' = (false, 0, a')) := by show _ = _; simp only [runP, if_neg hnn]
          clear hnn hp0 hpp hz
          go_wp2_with fail
          refine (pspend_no HQ.out.1).mono ?_
          rintro e w2 ⟨rfl, rfl⟩
          go_wp2
          go_ret
          rw [← HQ.out.2, HE.out]
          exact ⟨rfl, HQ.out.1⟩
        | succ l =>
          have HE : Hid (runP M x (l + 1) y a' = runP M x l (y - 1) (stepP M a' x.toNat).1) := by show _ = _; simp only [runP, if_neg hnn]
          have HZ : Hid (a'.1.q[x.toNat]? = some (z :: lz)) := hz
          clear hnn hp0 hpp hz
          go_wp2_with fail
          refine (pspend_ok HQ.out.1).mono ?_
          rintro e w2 ⟨rfl, p2⟩
          have c2 := p2.c0
          have H2 : Hid (Pg M w w2 F hb qb g l a') := p2
          clear p2 c0
          obtain ⟨xi, hxi⟩ : ∃ xi : Nat, x = (xi : Int) := ⟨x.toNat, by omega⟩
          subst hxi
          have HZ2 : Hid (a'.1.q[xi]? = some (z :: lz)) := HZ.out
          have HE2 : Hid (runP M (xi : Int) (l + 1) y a' = runP M (xi : Int) l (y - 1) (stepP M a' xi).1) := HE.out
          go_wp2_with fail
          refine (pstep_any H2.out xi z lz HZ2.out).mono ?_
          rintro e w3 ⟨rfl, p3⟩
          have H3 : Hid (Pg M w w3 F hb qb g l (stepP M a' xi).1 ∧ runP M (xi : Int) l (y - 1) (stepP M a' xi).1 = r) := ⟨p3, by rw [← HE2.out]; exact HQ.out.2⟩
          clear p3 H2 HZ HE HZ2 HE2 HQ HH c2
          have hyw : IntKind.i64.wrap (y - 1) = y - 1 := by rw [IntKind.wrap_i64]; omega
          go_wp2
          go_roundw
          case rel => exact ⟨y - 1, l, _, rfl, by omega, H3.out.1, H3.out.2⟩
          case measure => simp [intOf]; omega
    · have HE : Hid (runP M x l' y a' = (true, l', a')) := runP_end (.inl (by omega))
      go_wp2
      go_ret
      rw [← HQ.out.2, HE.out]
      exact ⟨rfl, HQ.out.1⟩
end Go.Proofs.YteekompojgbkhaaGreat

namespace Go.Proofs.YteekompojgbkhaaGreat
open Go.ChangeShapes Go.WideShapes Go.ChangeAt Go.RowKit Go.MuLone Go.RwLone
set_option linter.unusedVariables false
set_option maxRecDepth 100000
set_option maxHeartbeats 3200000
def finA (M : Mc) (x : Int) (lf : Nat) (a : Hp × M.σ) : Bool × Nat × (Hp × M.σ) := if pendP a.1 x = 0 then (true, lf, a) else finP M x.toNat lf a
theorem stepP_head {M : Mc} {a : Hp × M.σ} {i : Nat} {z : Pq} {lz : List Pq} (h : a.1.q[i]? = some (z :: lz)) (hd : (stepP M a i).2 = false) : (stepP M a i).1.1.q[i]? = some ((z.1, z.2.1, true) :: lz) := by
  have hlt := (List.getElem?_eq_some_iff.1 h).1
  have es : stepP M a i = (((stepQ M a.1 a.2 i z lz).1, (stepQ M a.1 a.2 i z lz).2.1), (stepQ M a.1 a.2 i z lz).2.2) := by unfold stepP; rw [h]
  rw [es] at hd ⊢
  unfold stepQ at hd ⊢
  by_cases e : M.dn (M.st a.2 z.1) z.1 = true
  · rw [if_pos e] at hd; cases hd
  · rw [if_neg e]
    exact List.getElem?_set_self hlt
def lfAt (g : Nat) (w : World) : Nat := (intOf ((w.cell? ⟨g, 1, none⟩).getD undef)).toNat
theorem Pg.lf {M : Mc} {w wr : World} {F : Nat → Prop} {hb qb g lf : Nat} {a : Hp × M.σ} (p : Pg M w wr F hb qb g lf a) : lfAt g wr = lf := by
  unfold lfAt; rw [p.c1]; simp [intOf]
theorem pfin_any {M : Mc} {w wr : World} {F : Nat → Prop} {hb qb g lf : Nat} {a : Hp × M.σ} (p : Pg M w wr F hb qb g lf a) (x : Int) :
    Calls Tryz.prog 92 #[.pointer (some ⟨g, 0, none⟩), .int .i64 x] wr fun e w' => e = .returned (.bool (finA M x lf a).1) ∧ Pg M w w' F hb qb g (finA M x lf a).2.1 (finA M x lf a).2.2 := by
  have HP : Hid (Pg M w wr F hb qb g lf a) := p
  have c0 := p.c0
  obtain ⟨F', qv, ev, en, m, -, -⟩ := p.mid
  have HH : Hid (Hm wr F' M.pt hb qb qv ev en a.1) := m
  clear p m
  by_cases hp0 : pendP a.1 x = 0
  · have HE : Hid (finA M x lf a = (true, lf, a)) := by show _ = _; unfold finA; rw [if_pos hp0]
    go_enter Tryz.func92, Tryz.ntmps92
    go_wp2_with fail
    refine (hpend_any HH.out x).mono ?_
    rintro e w1 ⟨rfl, rfl⟩
    rw [hp0]
    go_wp2
    go_ret
    rw [HE.out]
    exact ⟨rfl, HP.out⟩
  · have he : finA M x lf a = finP M x.toNat lf a := by unfold finA; rw [if_neg hp0]
    rw [he]
    obtain ⟨x0, hxl, z, lz, hz⟩ := pend_head hp0
    obtain ⟨i, rfl⟩ : ∃ i : Nat, x = (i : Int) := ⟨x.toNat, by omega⟩
    have ei : ((i : Int)).toNat = i := by omega
    rw [ei] at hz hxl ⊢
    obtain ⟨r, hr⟩ : ∃ r, finP M i lf a = r := ⟨_, rfl⟩
    rw [hr]
    have HZ : Hid (a.1.q[i]? = some (z :: lz) ∧ finP M i lf a = r) := ⟨hz, hr⟩
    obtain ⟨pp, hpp⟩ : ∃ pp, pendP a.1 (i : Int) = pp := ⟨_, rfl⟩
    have hp1 : ¬ (pp : Int) = 0 := by omega
    have HPP : Hid (pendP a.1 (i : Int) = pp) := hpp
    clear hz hr he ei hp0 hpp
    go_enter Tryz.func92, Tryz.ntmps92
    go_wp2_with fail
    refine (hpend_any HH.out i).mono ?_
    rintro e w1 ⟨rfl, rfl⟩
    rw [HPP.out]
    clear HPP HH c0
    go_wp2_with fail
    have hpb : ((pp : Int) == 0) = false := by rw [beq_eq_false_iff_ne]; exact hp1
    rw [hpb]
    go_loopw [] (fun wq => ∃ (l' : Nat) (a' : Hp × M.σ) (z : Pq) (lz : List Pq), Pg M w wq F hb qb g l' a' ∧ a'.1.q[i]? = some (z :: lz) ∧ finP M i l' a' = r) (fun wq => lfAt g wq)
    case atStart => exact ⟨lf, a, z, lz, HP.out, HZ.out.1, HZ.out.2⟩
    case round =>
      obtain ⟨l', a', z', lz', hp, hz', hr'⟩ := hrel
      have HL : Hid (lfAt g wr = l') := hp.lf
      have HQ : Hid (Pg M w wr F hb qb g l' a' ∧ a'.1.q[i]? = some (z' :: lz') ∧ finP M i l' a' = r) := ⟨hp, hz', hr'⟩
      clear hp hz' hr' HZ HP
      cases l' with
      | zero =>
        go_wp2_with fail
        refine (pspend_no HQ.out.1).mono ?_
        rintro e w2 ⟨rfl, rfl⟩
        go_wp2
        go_ret
        rw [← HQ.out.2.2]
        exact ⟨rfl, HQ.out.1⟩
      | succ l =>
        go_wp2_with fail
        refine (pspend_ok HQ.out.1).mono ?_
        rintro e w2 ⟨rfl, p2⟩
        have c2 := p2.c0
        have H2 : Hid (Pg M w w2 F hb qb g l a') := p2
        clear p2
        go_wp2_with fail
        refine (pstep_any H2.out i z' lz' HQ.out.2.1).mono ?_
        rintro e w3 ⟨rfl, p3⟩
        by_cases hd : (stepP M a' i).2 = true
        · have HE : Hid (finP M i (l + 1) a' = (true, l, (stepP M a' i).1)) := by show _ = _; simp only [finP, if_pos hd]
          have H3 : Hid (Pg M w w3 F hb qb g l (stepP M a' i).1) := p3
          rw [hd]
          clear p3 H2 c2 hd
          go_wp2
          go_ret
          rw [← HQ.out.2.2, HE.out]
          exact ⟨rfl, H3.out⟩
        · have hd' : (stepP M a' i).2 = false := by simpa using hd
          have HE : Hid (finP M i (l + 1) a' = finP M i l (stepP M a' i).1) := by show _ = _; simp only [finP, if_neg hd]
          have H3 : Hid (Pg M w w3 F hb qb g l (stepP M a' i).1 ∧ (stepP M a' i).1.1.q[i]? = some ((z'.1, z'.2.1, true) :: lz') ∧ finP M i l (stepP M a' i).1 = r) := ⟨p3, stepP_head HQ.out.2.1 hd', by rw [← HE.out]; exact HQ.out.2.2⟩
          have HL3 : Hid (lfAt g w3 = l) := p3.lf
          rw [hd']
          clear p3 H2 c2 hd hd' HE
          go_wp2
          go_roundw
          case rel => exact ⟨l, _, _, _, H3.out.1, H3.out.2.1, H3.out.2.2⟩
          case measure => rw [HL3.out, HL.out]; omega
/-- Are all queues empty? -/
def idleP (h : Hp) : Bool := h.q.all (fun l => l.isEmpty)
theorem hidle_any {w : World} {F : Nat → Prop} {pt : Nat → Nat} {hb qb : Nat} {qv : Nat → Value} {ev en : Value} {h : Hp} (m : Hm w F pt hb qb qv ev en h) : Calls Tryz.prog 140 #[.pointer (some ⟨hb, 0, none⟩)] w fun e w' => e = .returned (.bool (idleP h)) ∧ w' = w := by
  have HM : Hid (Hm w F pt hb qb qv ev en h) := m
  have ch : w.cell? ⟨hb, 0, none⟩ = some (.slice (some ⟨qb, 0, none⟩) h.q.length h.q.length) := (cell?_heap m.hc 0).trans rfl
  have hn16 := m.n16
  clear m
  go_enter Tryz.func140, Tryz.ntmps140
  go_wp2_with fail
  go_loopw [12] (fun c wr => wr = w ∧ ∃ t : Nat, c = .int .i64 t ∧ t ≤ h.q.length ∧ ∀ k (hk : k < h.q.length), k < t → h.q[k] = []) (fun c _ => h.q.length - (intOf c).toNat)
  case atStart => exact ⟨rfl, 0, rfl, by omega, fun k _ hk => by omega⟩
  case round =>
    obtain ⟨rfl, t, rfl, ht, hall⟩ := hrel
    have HD : Hid (∀ k (hk : k < h.q.length), k < t → h.q[k] = []) := hall
    clear hall ch
    by_cases h4 : t < h.q.length
    · have cr := HM.out.qc t h4
      obtain ⟨qa, qcap, eqv⟩ := (HM.out.ql t h4).form
      rw [eqv] at cr
      have t0 : (0 : Int) ≤ (t : Int) := Int.natCast_nonneg _
      have t1 : (t : Int) < (h.q.length : Int) := by omega
      clear eqv
      by_cases hd : h.q[t] = []
      · have hl0 : h.q[t].length = 0 := by rw [hd]; rfl
        rw [hl0] at cr
        have HD2 : Hid (h.q[t] = []) := hd
        clear hd hl0
        go_wp2
        go_roundw
        case rel =>
          refine ⟨trivial, t + 1, by go_num, by omega, fun k hk hkt => ?_⟩
          by_cases e : k = t
          · subst e; exact HD2.out
          · exact HD.out k hk (by omega)
        case measure => simp [intOf]; omega
      · have hl1 : (0 : Int) < (h.q[t].length : Int) := by
          have : h.q[t].length ≠ 0 := fun e => hd (List.eq_nil_of_length_eq_zero e)
          omega
        have HE : Hid (idleP h = false) := by
          show _ = _
          unfold idleP
          rw [List.all_eq_false]
          exact ⟨h.q[t], List.getElem_mem h4, by simpa using hd⟩
        clear hd
        generalize h.q[t].length = ln at *
        go_wp2
        go_ret
        rw [HE.out]
        exact ⟨rfl, rfl⟩
    · have HE : Hid (idleP h = true) := by
        show _ = _
        unfold idleP
        rw [List.all_eq_true]
        intro l hl
        obtain ⟨k, hk, rfl⟩ := List.getElem_of_mem hl
        rw [HD.out k hk (by omega)]; rfl
      go_wp2
      go_ret
      rw [HE.out]
      exact ⟨rfl, rfl⟩
end Go.Proofs.YteekompojgbkhaaGreat
