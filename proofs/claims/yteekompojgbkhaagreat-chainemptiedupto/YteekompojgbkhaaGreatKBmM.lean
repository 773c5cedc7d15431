import Derived.Test.YteekompojgbkhaaGreatKBmK
import Derived.Test.YteekompojgbkhaaGreatKBqT
namespace Go.Proofs.YteekompojgbkhaaGreat
open Go.ChangeShapes Go.WideShapes Go.ChangeAt Go.RowKit Go.MuLone Go.RwLone
set_option linter.unusedVariables false
set_option maxRecDepth 100000
set_option maxHeartbeats 3200000
/-- A list of slots whose Inserts are done, the one done last in front. -/
def LOk (N : Nat) (ins rank : Int → Int) (xs : List Int) : Prop := xs.Pairwise (fun u v => rank v < rank u) ∧ ∀ u, u ∈ xs → 1 ≤ u ∧ u ≤ (N : Int) ∧ ins u = 2
theorem LOk.len {N : Nat} {ins rank : Int → Int} {xs : List Int} (h : LOk N ins rank xs) : xs.length ≤ N := by
  refine nd_len N xs ?_ (fun s hs => ⟨(h.2 s hs).1, (h.2 s hs).2.1⟩)
  exact h.1.imp (fun {a b} hab e => by rw [e] at hab; omega)
theorem LOk.to {N : Nat} {ins rank ins' rank' : Int → Int} {xs : List Int} (h : LOk N ins rank xs) (k : ∀ u, ins u = 2 → ins' u = 2 ∧ rank' u = rank u) : LOk N ins' rank' xs := by
  refine ⟨h.1.imp_of_mem (fun {a b} ha hb hab => ?_), fun u hu => ⟨(h.2 u hu).1, (h.2 u hu).2.1, (k u (h.2 u hu).2.2).1⟩⟩
  rw [(k a (h.2 a ha).2.2).2, (k b (h.2 b hb).2.2).2]
  exact hab
theorem LOk.nil (N : Nat) (ins rank : Int → Int) : LOk N ins rank [] := ⟨List.Pairwise.nil, fun u hu => by cases hu⟩
abbrev bkO (nb : Nat) : Int → Int := fun t => t % (nb : Int)
theorem bkO_in {nb : Nat} (h : 1 ≤ nb) : ∀ t, 0 ≤ bkO nb t ∧ bkO nb t < (nb : Int) := fun t => ⟨Int.emod_nonneg t (by omega), Int.emod_lt_of_pos t (by omega)⟩
/-- The book is kept. -/
structure BkJ (s : BkS) (G : Gb) : Prop where
  i : BkI (s.N : Int) (s.nb : Int) (bkO s.nb) s.S s.x G s.rows (s.all.map OL.o)
  e1 : G.ins = s.ins
  e2 : G.rem = s.rem
  e3 : G.rank = s.rank
  e4 : G.ranks = s.ranks
  n0 : 1 ≤ s.N ∧ s.N ≤ 24
  n1 : 1 ≤ s.nb ∧ s.nb ≤ 4
  wd : WdOk s.S s.x
  mi : ∀ (i : Nat) (q : OL), s.all[i]? = some q → q.o.kd = 0 → insOk s.x q.o.mi ∧ (q.o.mi.st = 2 → LkOk q.o.mi.hd)
  mr : ∀ (i : Nat) (q : OL), s.all[i]? = some q → q.o.kd = 1 → remOk s.x q.o.mr
  mw : ∀ (i : Nat) (q : OL), s.all[i]? = some q → LOk s.N s.ins s.rank q.o.t.due ∧ LOk s.N s.ins s.rank q.o.t.met
  rw : ∀ c, LOk s.N s.ins s.rank (s.rows c)
  un : RmAll s.N G (s.all.map OL.o)
theorem insOk.nb {x x' : XS} {m : MI} (h : insOk x m) (e : x'.nb = x.nb) : insOk x' m := fun a b => by
  have := h a b
  unfold inB at this ⊢
  rw [e]
  exact this
theorem remOk.nb {x x' : XS} {m : MR} (h : remOk x m) (e : x'.nb = x.nb) : remOk x' m := ⟨fun a b => by
  have := h.1 a b
  unfold inB at this ⊢
  rw [e]
  exact this, h.2⟩
theorem map_o {s : BkS} {i : Nat} {q : OL} (hi : s.all[i]? = some q) : (s.all.map OL.o)[i]? = some q.o := by rw [List.getElem?_map, hi]; rfl
section
variable {s s' : BkS} {G : Gb}
theorem BkJ.ok (h : BkJ s G) {i : Nat} {q : OL} (hi : s.all[i]? = some q) : OnOk (s.N : Int) (s.nb : Int) (bkO s.nb) G q.o := h.i.ok i q.o (map_o hi)
theorem BkJ.sn (h : BkJ s G) : s.S.n ≤ 4096 := by
  have := h.i.l.n
  have := h.n0.2
  omega
/-- The book behind an Insert's step. -/
theorem BkJ.ins (h : BkJ s G) {i : Nat} {q : OL} (hi : s.all[i]? = some q) (h0 : q.o.kd = 0) (hn : InsNx s i q (insP s.S s.x q.o.mi) s') : ∃ G' o', BkJ s' G' ∧ MvP s.N (s.nb : Int) (bkO s.nb) s.S s.x G q.o s'.S s'.x G' o' ∧ s'.all.map OL.o = (s.all.map OL.o).set i o' ∧ s'.N = s.N ∧ s'.nb = s.nb ∧ s'.all.length = s.all.length := by
  have hb := bkO_in h.n1.1
  obtain ⟨G', rows', k1, k2, k3⟩ := h.i.mvI (by have := h.n0.2; omega) hb (map_o hi) h0
  obtain ⟨m1, m2, m3⟩ := h.mi i q hi h0 |> fun a => (⟨a.1, a.2, ()⟩ : insOk s.x q.o.mi ×' (q.o.mi.st = 2 → LkOk q.o.mi.hd) ×' Unit)
  have kp := ins_keep s.S s.x q.o.mi h.wd h.sn m1 m2
  have hlt := (List.getElem?_eq_some_iff.1 hi).1
  rcases hn with ⟨a1, a2⟩ | ⟨a1, a2, rv', T', a3⟩
  · rcases k2 with ⟨_, f0, f1, f2, f3, f4⟩ | ⟨g1, g2, _⟩
    · subst f0
      have em : s'.all.map OL.o = (s.all.map OL.o).set i { q.o with mi := (insP s.S s.x q.o.mi).2.2, dn := (insP s.S s.x q.o.mi).1 } := by
        rw [a2, a1]
        exact List.map_set
      refine ⟨G', _, ⟨?_, ?_, ?_, ?_, ?_, ?_, ?_, ?_, ?_, ?_, ?_, ?_, ?_⟩, ?_, em, by rw [a2], by rw [a2], by rw [a2]; exact List.length_set⟩
      · rw [em, a2]
        exact k1
      · rw [a2]; exact f1.trans h.e1
      · rw [a2]; exact f2.trans h.e2
      · rw [a2]; exact f3.trans h.e3
      · rw [a2]; exact f4.trans h.e4
      · rw [a2]; exact h.n0
      · rw [a2]; exact h.n1
      · rw [a2]; exact kp.1
      · intro j p hp e
        rw [a2] at hp ⊢
        rcases set_at hlt hp with ⟨rfl, rfl⟩ | ⟨e2, hp⟩
        · exact ⟨kp.2.1, kp.2.2.1⟩
        · exact ⟨(h.mi j p hp e).1.nb kp.2.2.2.2.2.2.2, (h.mi j p hp e).2⟩
      · intro j p hp e
        rw [a2] at hp ⊢
        rcases set_at hlt hp with ⟨rfl, rfl⟩ | ⟨e2, hp⟩
        · have e : q.o.kd = 1 := e
          omega
        · exact (h.mr j p hp e).nb kp.2.2.2.2.2.2.2
      · intro j p hp
        rw [a2] at hp ⊢
        rcases set_at hlt hp with ⟨rfl, rfl⟩ | ⟨e2, hp⟩
        · exact h.mw j q hi
        · exact h.mw j p hp
      · rw [a2]; exact h.rw
      · rw [em, a2]
        exact h.un.set h.i hb (map_o hi) rfl rfl (h.i.lkI (by have := h.n0.2; omega) hb (map_o hi) h0 k1.l k3 (.inl ⟨a1, f1, f2, f3, f4⟩)) (fun t _ => by rw [f3]) (fun u hu => .inl (by rw [f2] at hu; exact hu)) (fun e => absurd (h0.symm.trans e) (by decide))
      · rw [a2]
        exact k3
    · rw [a1, g2] at g1
      cases g1
  · rcases k2 with ⟨g0, _⟩ | ⟨_, _, _, f0, f1, f2, f3, f4⟩
    · have g0 : (insP s.S s.x q.o.mi).1 = q.o.dn := g0
      rw [a1, a2] at g0
      cases g0
    · subst f0
      have onn := ((h.ok hi).i h0)
      have slq := onn.2.1
      have st3 : q.o.mi.st ≤ 3 := by
        have := onn.1.st
        have : ¬ q.o.mi.st = 4 := fun e => by have := onn.2.2.2 e; rw [a2] at this; cases this
        omega
      have on1 : s.ins q.o.sl = 1 := by
        have := onn.1.on st3
        rw [slq, h.e1] at this
        exact this
      have low : 1 ≤ q.o.sl ∧ q.o.sl ≤ (s.N : Int) := by
        have a := onn.1.lo
        have b := onn.1.up
        rw [slq] at a b
        exact ⟨a, b⟩
      have le : ∀ u, s.ins u = 2 → updI s.ins q.o.sl 2 u = 2 ∧ updI s.rank q.o.sl s.ranks u = s.rank u := fun u hu => by
        have ne : u ≠ q.o.sl := fun e => by rw [e, on1] at hu; omega
        exact ⟨(updI_ne _ _ ne).trans hu, updI_ne _ _ ne⟩
      have rk : ∀ u, 1 ≤ u → u ≤ (s.N : Int) → s.ins u = 2 → s.rank u < s.ranks := fun u u1 u2 hu => by
        have := (h.i.g.rk (bkO s.nb u) u ⟨u1, u2, by rw [h.e1]; exact hu, rfl⟩).2
        rw [h.e3, h.e4] at this
        exact this
      have em : s'.all.map OL.o = (s.all.map OL.o).set i { q.o with mi := (insP s.S s.x q.o.mi).2.2, dn := (insP s.S s.x q.o.mi).1 } := by
        rw [a3, a1]
        exact List.map_set
      refine ⟨G', _, ⟨?_, ?_, ?_, ?_, ?_, ?_, ?_, ?_, ?_, ?_, ?_, ?_, ?_⟩, ?_, em, by rw [a3], by rw [a3], by rw [a3]; exact List.length_set⟩
      · rw [em, a3]
        exact k1
      · rw [a3, f1, h.e1]
      · rw [a3, f2, h.e2]
      · rw [a3, f3, h.e3, h.e4]
      · rw [a3, f4, h.e4]
      · rw [a3]; exact h.n0
      · rw [a3]; exact h.n1
      · rw [a3]; exact kp.1
      · intro j p hp e
        rw [a3] at hp ⊢
        rcases set_at hlt hp with ⟨rfl, rfl⟩ | ⟨e2, hp⟩
        · exact ⟨kp.2.1, kp.2.2.1⟩
        · exact ⟨(h.mi j p hp e).1.nb kp.2.2.2.2.2.2.2, (h.mi j p hp e).2⟩
      · intro j p hp e
        rw [a3] at hp ⊢
        rcases set_at hlt hp with ⟨rfl, rfl⟩ | ⟨e2, hp⟩
        · have e : q.o.kd = 1 := e
          omega
        · exact (h.mr j p hp e).nb kp.2.2.2.2.2.2.2
      · intro j p hp
        rw [a3] at hp ⊢
        rcases set_at hlt hp with ⟨rfl, rfl⟩ | ⟨e2, hp⟩
        · exact ⟨(h.mw j q hi).1.to le, (h.mw j q hi).2.to le⟩
        · exact ⟨(h.mw j p hp).1.to le, (h.mw j p hp).2.to le⟩
      · intro c
        rw [a3]
        show LOk s.N (updI s.ins q.o.sl 2) (updI s.rank q.o.sl s.ranks) (if c = q.o.sl % (s.nb : Int) then q.o.sl :: s.rows (q.o.sl % (s.nb : Int)) else s.rows c)
        split
        · have h1 := h.rw (q.o.sl % (s.nb : Int))
          have h2 := h1.to le
          refine ⟨List.pairwise_cons.2 ⟨fun u hu => ?_, h2.1⟩, fun u hu => ?_⟩
          · have a := h1.2 u hu
            rw [(le u a.2.2).2, updI_at]
            exact rk u a.1 a.2.1 a.2.2
          · rcases List.mem_cons.1 hu with e | e
            · rw [e]
              exact ⟨low.1, low.2, updI_at _ _ _⟩
            · exact h2.2 u e
        · exact (h.rw c).to le
      · rw [em, a3]
        have on1G : G.ins q.o.sl = 1 := by rw [h.e1]; exact on1
        exact h.un.set h.i hb (map_o hi) rfl rfl (h.i.lkI (by have := h.n0.2; omega) hb (map_o hi) h0 k1.l k3 (.inr ⟨a1, f1, f2⟩)) (fun t ht => by rw [f3]; exact updI_ne _ _ (fun e => by rw [e, on1G] at ht; omega)) (fun u hu => .inl (by rw [f2] at hu; exact hu)) (fun e => absurd (h0.symm.trans e) (by decide))
      · rw [a3]
        exact k3
end
end Go.Proofs.YteekompojgbkhaaGreat

namespace Go.Proofs.YteekompojgbkhaaGreat
open Go.ChangeShapes Go.WideShapes Go.ChangeAt Go.RowKit Go.MuLone Go.RwLone
set_option linter.unusedVariables false
set_option maxRecDepth 100000
set_option maxHeartbeats 3200000
section
variable {s s' : BkS} {G : Gb}
/-- The book behind a Remove's step. -/
theorem BkJ.rem (h : BkJ s G) {i : Nat} {q : OL} (hi : s.all[i]? = some q) (h0 : q.o.kd = 1) (hn : RemNx s i q (remP s.S s.x q.o.mr) s') : ∃ G' o', BkJ s' G' ∧ MvP s.N (s.nb : Int) (bkO s.nb) s.S s.x G q.o s'.S s'.x G' o' ∧ s'.all.map OL.o = (s.all.map OL.o).set i o' ∧ s'.N = s.N ∧ s'.nb = s.nb ∧ s'.all.length = s.all.length := by
  have hb := bkO_in h.n1.1
  obtain ⟨G', rows', k1, k2, k3⟩ := h.i.mvR (by have := h.n0.2; omega) hb (map_o hi) h0
  obtain ⟨_, _, f1, f3, f4, k2⟩ := k2
  have kp := rem_keep s.S s.x q.o.mr h.wd h.sn (h.mr i q hi h0)
  have hlt := (List.getElem?_eq_some_iff.1 hi).1
  rcases hn with ⟨a1, a2⟩ | ⟨a1, a3, a4, a5, rv', T', a2⟩
  · rcases k2 with ⟨_, f0, f2⟩ | ⟨g1, g2, _⟩
    · subst f0
      have em : s'.all.map OL.o = (s.all.map OL.o).set i { q.o with mr := (remP s.S s.x q.o.mr).2.2, dn := (remP s.S s.x q.o.mr).1, mq := (remP s.S s.x q.o.mr).2.2.ma } := by
        rw [a2, a1]
        exact List.map_set
      refine ⟨G', _, ⟨?_, ?_, ?_, ?_, ?_, ?_, ?_, ?_, ?_, ?_, ?_, ?_, ?_⟩, ?_, em, by rw [a2], by rw [a2], by rw [a2]; exact List.length_set⟩
      · rw [em, a2]
        exact k1
      · rw [a2]; exact f1.trans h.e1
      · rw [a2]; exact f2.trans h.e2
      · rw [a2]; exact f3.trans h.e3
      · rw [a2]; exact f4.trans h.e4
      · rw [a2]; exact h.n0
      · rw [a2]; exact h.n1
      · rw [a2]; exact kp.1
      · intro j p hp e
        rw [a2] at hp ⊢
        rcases set_at hlt hp with ⟨rfl, rfl⟩ | ⟨e2, hp⟩
        · have e : q.o.kd = 0 := e
          omega
        · exact ⟨(h.mi j p hp e).1.nb kp.2.2.2.2.2.2, (h.mi j p hp e).2⟩
      · intro j p hp e
        rw [a2] at hp ⊢
        rcases set_at hlt hp with ⟨rfl, rfl⟩ | ⟨e2, hp⟩
        · exact kp.2.1
        · exact (h.mr j p hp e).nb kp.2.2.2.2.2.2
      · intro j p hp
        rw [a2] at hp ⊢
        rcases set_at hlt hp with ⟨rfl, rfl⟩ | ⟨e2, hp⟩
        · exact h.mw j q hi
        · exact h.mw j p hp
      · rw [a2]; exact h.rw
      · rw [em, a2]
        have kl := h.i.lkR (by have := h.n0.2; omega) hb (map_o hi) h0 k1.l k3 f1 f3 f4 (.inl ⟨a1, f2⟩) (h.un.l i q.o (map_o hi) h0)
        exact h.un.set h.i hb (map_o hi) rfl rfl kl.1 (fun t _ => by rw [f3]) (fun u hu => .inl (by rw [f2] at hu; exact hu)) (fun _ => kl.2)
      · rw [a2]
        exact k3
    · rw [a1] at g2
      have g1 : q.o.mq = false := g1
      rw [g1] at g2
      cases g2
  · rcases k2 with ⟨g0, _⟩ | ⟨_, _, f0, f2⟩
    · have g0 : (remP s.S s.x q.o.mr).2.2.ma = q.o.mq := g0
      rw [a1, a3] at g0
      cases g0
    · subst f0
      have em : s'.all.map OL.o = (s.all.map OL.o).set i { q.o with mr := (remP s.S s.x q.o.mr).2.2, dn := (remP s.S s.x q.o.mr).1, mq := (remP s.S s.x q.o.mr).2.2.ma } := by
        rw [a2, a3, a4, ← a5]
        exact List.map_set
      refine ⟨G', _, ⟨?_, ?_, ?_, ?_, ?_, ?_, ?_, ?_, ?_, ?_, ?_, ?_, ?_⟩, ?_, em, by rw [a2], by rw [a2], by rw [a2]; exact List.length_set⟩
      · rw [em, a2]
        exact k1
      · rw [a2]; exact f1.trans h.e1
      · rw [a2, f2, h.e2]
      · rw [a2]; exact f3.trans h.e3
      · rw [a2]; exact f4.trans h.e4
      · rw [a2]; exact h.n0
      · rw [a2]; exact h.n1
      · rw [a2]; exact kp.1
      · intro j p hp e
        rw [a2] at hp ⊢
        rcases set_at hlt hp with ⟨rfl, rfl⟩ | ⟨e2, hp⟩
        · have e : q.o.kd = 0 := e
          omega
        · exact ⟨(h.mi j p hp e).1.nb kp.2.2.2.2.2.2, (h.mi j p hp e).2⟩
      · intro j p hp e
        rw [a2] at hp ⊢
        rcases set_at hlt hp with ⟨rfl, rfl⟩ | ⟨e2, hp⟩
        · exact kp.2.1
        · exact (h.mr j p hp e).nb kp.2.2.2.2.2.2
      · intro j p hp
        rw [a2] at hp ⊢
        rcases set_at hlt hp with ⟨rfl, rfl⟩ | ⟨e2, hp⟩
        · exact h.mw j q hi
        · exact h.mw j p hp
      · intro c
        rw [a2]
        show LOk s.N s.ins s.rank (if c = q.o.sl % (s.nb : Int) then (s.rows (q.o.sl % (s.nb : Int))).filter (fun u => !(u == q.o.sl)) else s.rows c)
        split
        · have h1 := h.rw (q.o.sl % (s.nb : Int))
          exact ⟨h1.1.sublist List.filter_sublist, fun u hu => h1.2 u ((List.mem_filter.1 hu).1)⟩
        · exact h.rw c
      · rw [em, a2]
        have kl := h.i.lkR (by have := h.n0.2; omega) hb (map_o hi) h0 k1.l k3 f1 f3 f4 (.inr ⟨a1, a3, f2⟩) (h.un.l i q.o (map_o hi) h0)
        refine h.un.set h.i hb (map_o hi) rfl rfl kl.1 (fun t _ => by rw [f3]) (fun u hu => ?_) (fun _ => kl.2)
        rw [f2] at hu
        by_cases e : u = q.o.sl
        · exact .inr ⟨h0, e⟩
        · rw [updI_ne _ _ e] at hu
          exact .inl hu
      · rw [a2]
        exact k3
theorem wlk_wd (S : AS) (x : XS) (m : MW) (h : WdOk S x) : WdOk (wlkP S x m).2.1.S (wlkP S x m).2.1.x ∧ (wlkP S x m).2.1.x.nb = x.nb := by
  obtain ⟨st, src, own, slot, pend, ended, code⟩ := m
  match st with
  | 0 =>
    show WdOk (if inB x src then _ else _ : Bool × CS × MW).2.1.S (if inB x src then _ else _ : Bool × CS × MW).2.1.x ∧ (if inB x src then _ else _ : Bool × CS × MW).2.1.x.nb = _
    split
    · exact ⟨⟨h.1, h.2⟩, rfl⟩
    · exact ⟨h, rfl⟩
  | 1 =>
    show WdOk (if liv S src then _ else _ : Bool × CS × MW).2.1.S (if liv S src then _ else _ : Bool × CS × MW).2.1.x ∧ (if liv S src then _ else _ : Bool × CS × MW).2.1.x.nb = _
    split
    · exact ⟨⟨h.1, h.2⟩, rfl⟩
    · exact ⟨⟨h.1, h.2⟩, rfl⟩
  | 2 =>
    show WdOk (if liv S pend then _ else _ : Bool × CS × MW).2.1.S (if liv S pend then _ else _ : Bool × CS × MW).2.1.x ∧ (if liv S pend then _ else _ : Bool × CS × MW).2.1.x.nb = _
    split
    · exact ⟨⟨h.1, h.2⟩, rfl⟩
    · exact ⟨⟨h.1, h.2⟩, rfl⟩
  | n + 3 => exact ⟨h, rfl⟩
theorem tr_same (h : BkJ s G) (o : On) : tr0 G s.rows o = trS s o := by
  unfold tr0 trS
  rw [h.e4]
/-- The book behind a walk's step. -/
theorem BkJ.wlk (h : BkJ s G) {i : Nat} {q : OL} (hi : s.all[i]? = some q) (h0 : q.o.kd = 2) (hn : WlkNx s i q (wlkP s.S s.x q.o.mw) s') : ∃ G' o', BkJ s' G' ∧ MvP s.N (s.nb : Int) (bkO s.nb) s.S s.x G q.o s'.S s'.x G' o' ∧ s'.all.map OL.o = (s.all.map OL.o).set i o' ∧ s'.N = s.N ∧ s'.nb = s.nb ∧ s'.all.length = s.all.length := by
  have k := h.i.walk (by have := h.n0.2; omega) (map_o hi) h0
  have mv := h.i.mvW (by have := h.n0.2; omega) (map_o hi) h0 { trS s q.o with met := met1 (trS s q.o) (wlkP s.S s.x q.o.mw).2.2 }
  rw [tr_same h] at k
  have kw := wlk_wd s.S s.x q.o.mw h.wd
  have hlt := (List.getElem?_eq_some_iff.1 hi).1
  obtain ⟨dv', mv', T', a2⟩ := hn
  have em : s'.all.map OL.o = (s.all.map OL.o).set i { q.o with mw := (wlkP s.S s.x q.o.mw).2.2, bg := true, t := { trS s q.o with met := met1 (trS s q.o) (wlkP s.S s.x q.o.mw).2.2 }, dn := (wlkP s.S s.x q.o.mw).2.2.ended } := by
    rw [a2]
    exact List.map_set
  have td : LOk s.N s.ins s.rank (trS s q.o).due ∧ LOk s.N s.ins s.rank (trS s q.o).met := by
    unfold trS
    split
    · exact h.mw i q hi
    · exact ⟨h.rw _, (h.mw i q hi).2⟩
  refine ⟨G, _, ⟨?_, ?_, ?_, ?_, ?_, ?_, ?_, ?_, ?_, ?_, ?_, ?_, ?_⟩, ?_, em, by rw [a2], by rw [a2], by rw [a2]; exact List.length_set⟩
  · rw [em, a2]
    exact k.1
  · rw [a2]; exact h.e1
  · rw [a2]; exact h.e2
  · rw [a2]; exact h.e3
  · rw [a2]; exact h.e4
  · rw [a2]; exact h.n0
  · rw [a2]; exact h.n1
  · rw [a2]; exact kw.1
  · intro j p hp e
    rw [a2] at hp ⊢
    rcases set_at hlt hp with ⟨rfl, rfl⟩ | ⟨e2, hp⟩
    · have e : q.o.kd = 0 := e
      omega
    · exact ⟨(h.mi j p hp e).1.nb kw.2, (h.mi j p hp e).2⟩
  · intro j p hp e
    rw [a2] at hp ⊢
    rcases set_at hlt hp with ⟨rfl, rfl⟩ | ⟨e2, hp⟩
    · have e : q.o.kd = 1 := e
      omega
    · exact (h.mr j p hp e).nb kw.2
  · intro j p hp
    rw [a2] at hp ⊢
    rcases set_at hlt hp with ⟨rfl, rfl⟩ | ⟨e2, hp⟩
    · refine ⟨td.1, ?_⟩
      show LOk s.N s.ins s.rank (met1 (trS s q.o) (wlkP s.S s.x q.o.mw).2.2)
      unfold met1
      split
      · exact td.2
      · rename_i hs
        obtain ⟨b1, _, _, b4⟩ := k.2.2.2.2.1 hs
        rw [h.e3] at b4
        refine ⟨List.pairwise_append.2 ⟨td.2.1, List.pairwise_singleton _ _, fun a ha b hb => ?_⟩, fun u hu => ?_⟩
        · rw [List.mem_singleton] at hb
          rw [hb]
          exact b4 a ha
        · rcases List.mem_append.1 hu with e | e
          · exact td.2.2 u e
          · rw [List.mem_singleton] at e
            rw [e, ← h.e1]
            exact ⟨b1.1, b1.2.1, b1.2.2.1⟩
    · exact h.mw j p hp
  · rw [a2]; exact h.rw
  · rw [em, a2]
    exact h.un.set h.i (bkO_in h.n1.1) (map_o hi) rfl rfl (fun _ _ _ _ _ hk => hk) (fun _ _ => rfl) (fun u hu => .inl hu) (fun e => absurd (h0.symm.trans e) (by decide))
  · rw [a2]
    exact mv
end
/-- The book's move, whatever machine. -/
theorem bk_move_w (w : World) (bb g n cap i : Nat) (kd : Nat) (R : World → Prop) (hi : i < n) (hn : n ≤ 1048576) (hk : kd ≤ 2) (c9 : w.cell? ⟨bb, 9, none⟩ = some (.slice (some ⟨g, 0, none⟩) n cap)) (c0 : w.cell? ⟨g, i * 12, none⟩ = some (.int .i64 (kd : Int)))
    (H0 : kd = 0 → Calls Tryz.prog 41 #[.pointer (some ⟨bb, 0, none⟩), .pointer (some ⟨g, i * 12, none⟩)] w fun e w' => e = .returned (.bool true) ∧ R w')
    (H1 : kd = 1 → Calls Tryz.prog 42 #[.pointer (some ⟨bb, 0, none⟩), .pointer (some ⟨g, i * 12, none⟩)] w fun e w' => e = .returned (.bool true) ∧ R w')
    (H2 : kd = 2 → Calls Tryz.prog 43 #[.pointer (some ⟨bb, 0, none⟩), .pointer (some ⟨g, i * 12, none⟩)] w fun e w' => e = .returned (.bool true) ∧ R w') :
    Calls Tryz.prog 15 #[.pointer (some ⟨bb, 0, none⟩), .int .i64 (i : Int)] w fun e w' => e = .returned (.bool true) ∧ R w' := by
  have i0 : (0 : Int) ≤ (i : Int) := Int.natCast_nonneg _
  have i1 : (i : Int) < (n : Int) := by omega
  rcases (by omega : kd = 0 ∨ kd = 1 ∨ kd = 2) with rfl | rfl | rfl
  · have HH : Hid (∀ _ : Unit, _) := fun _ => H0 rfl
    have d0 : w.cell? ⟨g, i * 12, none⟩ = some (.int .i64 0) := c0
    clear H0 H1 H2 c0 hk
    go_enter Tryz.func15, Tryz.ntmps15
    go_wp2_with fail
    refine (HH.out ()).mono ?_
    rintro e w1 ⟨rfl, h1⟩
    have H9 : Hid (R w1) := h1
    clear h1 HH c9 d0
    go_wp2
    go_ret
    exact ⟨rfl, H9.out⟩
  · have HH : Hid (∀ _ : Unit, _) := fun _ => H1 rfl
    have d0 : w.cell? ⟨g, i * 12, none⟩ = some (.int .i64 1) := c0
    clear H0 H1 H2 c0 hk
    go_enter Tryz.func15, Tryz.ntmps15
    go_wp2_with fail
    refine (HH.out ()).mono ?_
    rintro e w1 ⟨rfl, h1⟩
    have H9 : Hid (R w1) := h1
    clear h1 HH c9 d0
    go_wp2
    go_ret
    exact ⟨rfl, H9.out⟩
  · have HH : Hid (∀ _ : Unit, _) := fun _ => H2 rfl
    have d0 : w.cell? ⟨g, i * 12, none⟩ = some (.int .i64 2) := c0
    clear H0 H1 H2 c0 hk
    go_enter Tryz.func15, Tryz.ntmps15
    go_wp2_with fail
    refine (HH.out ()).mono ?_
    rintro e w1 ⟨rfl, h1⟩
    have H9 : Hid (R w1) := h1
    clear h1 HH c9 d0
    go_wp2
    go_ret
    exact ⟨rfl, H9.out⟩
/-- What a move leaves. -/
def Mvd (s : BkS) (G : Gb) (i : Nat) (o : On) (s' : BkS) (G' : Gb) (o' : On) : Prop := BkJ s' G' ∧ MvP s.N (s.nb : Int) (bkO s.nb) s.S s.x G o s'.S s'.x G' o' ∧ s'.all.map OL.o = (s.all.map OL.o).set i o' ∧ s'.N = s.N ∧ s'.nb = s.nb ∧ s'.all.length = s.all.length
theorem bk_move (w : World) (B bb : Nat) (l : BkL) (s : BkS) (G : Gb) (i : Nat) (q : OL) (h : BkM w B bb l s) (hJ : BkJ s G) (hi : s.all[i]? = some q) (hl : s.all.length ≤ 1048576) :
    Calls Tryz.prog 15 #[.pointer (some ⟨bb, 0, none⟩), .int .i64 (i : Int)] w fun e w' => e = .returned (.bool true) ∧ ∃ s' G' o', BkM w' B bb l s' ∧ Below B w w' ∧ Mvd s G i q.o s' G' o' := by
  obtain ⟨g, cap, hv, g0, g1, g2, g3⟩ := h.ones i q hi
  have hlt := (List.getElem?_eq_some_iff.1 hi).1
  have hok := hJ.ok hi
  have n0 := hJ.n0
  have n1 := hJ.n1
  have rw4 : ∀ c, (s.rows c).length ≤ 4000 := fun c => by have := (hJ.rw c).len; omega
  have hb := bkO_in n1.1
  have r0 : 0 ≤ s.ranks ∧ s.ranks ≤ 24 := by
    have a := hJ.i.g.r0
    have b := hJ.i.ranks
    rw [hJ.e4] at a b
    omega
  refine bk_move_w w bb g s.all.length cap i q.o.kd _ hlt hl hok.k (by have := h.c 9; rw [this]; show some s.av = _; rw [hv]) ((h.cells hv i q hi (i * 12) rfl 0 (by decide)).trans rfl) (fun e => ?_) (fun e => ?_) (fun e => ?_)
  · obtain ⟨a1, a2, a3⟩ := hok.i e
    obtain ⟨G', rows', k1, k2, k3⟩ := hJ.i.mvI (by omega) hb (map_o hi) e
    refine (bk_inserted w B bb l s g s.all.length cap i (i * 12) q h hv hi rfl e (by have := a1.lo; omega) (by have := a1.up; omega) n0.2 n1.1 n1.2 r0.1 (by omega) rw4 (hJ.mi i q hi e).1 (fun e1 e2 => ?_) (fun e1 => ?_)).mono ?_
    · rcases k2 with ⟨c1, _⟩ | ⟨_, _, c3, _⟩
      · have c1 : (insP s.S s.x q.o.mi).1 = q.o.dn := c1
        rw [e1, e2] at c1
        cases c1
      · exact c3
    · have e4 := a3.1 e1
      generalize q.o.mi = m at e4
      obtain ⟨st, code, bu, sl, hd, tr⟩ := m
      cases e4
      rfl
    · rintro e9 W ⟨rfl, s', b1, b2, b3⟩
      obtain ⟨G', o', c⟩ := hJ.ins hi e b3
      exact ⟨rfl, s', G', o', b1, b2, c⟩
  · obtain ⟨a1, a2, a4, a3⟩ := hok.r e
    obtain ⟨G', rows', k1, k2, k3⟩ := hJ.i.mvR (by omega) hb (map_o hi) e
    refine (bk_removed w B bb l s g s.all.length cap i (i * 12) q h hv hi rfl e (by have := a1.g.1; omega) (by have := a1.g.2.1; omega) n0.2 n1.1 n1.2 rw4 hJ.wd (hJ.mr i q hi e) a4 k2.1 k2.2.1 (k2.2.2.2.2.2.imp (fun c => c.1) (fun c => ⟨c.1, c.2.1⟩))).mono ?_
    rintro e9 W ⟨rfl, s', b1, b2, b3⟩
    obtain ⟨G', o', c⟩ := hJ.rem hi e b3
    exact ⟨rfl, s', G', o', b1, b2, c⟩
  · have a := hok.w e
    have k := hJ.i.walk (by omega) (map_o hi) e
    rw [tr_same hJ] at k
    obtain ⟨_, k2, k3, k4, k5, k6⟩ := k
    have td : LOk s.N s.ins s.rank (trS s q.o).due ∧ LOk s.N s.ins s.rank (trS s q.o).met := by
      unfold trS
      split
      · exact hJ.mw i q hi
      · exact ⟨hJ.rw _, (hJ.mw i q hi).2⟩
    refine (bk_walked w B bb l s g s.all.length cap i (i * 12) q h hv hi rfl e n0.2 n1.1 n1.2 a.1 a.2.1 rw4 (by have := (hJ.mw i q hi).1.len; omega) (by have := (hJ.mw i q hi).2.len; omega) hJ.wd (fun hbg => ?_) k2 k3 k4 (fun hs => ?_) (fun u hu => ?_) (fun hd he u hu => ?_)).mono ?_
    · rcases a.2.2.2 with c | c | c
      · exact c.2.2.2.2.2.2.2
      · rw [hbg] at c
        cases c.1
      · rw [hbg] at c
        cases c.1
    · obtain ⟨d1, d2, d3, d4⟩ := k5 hs
      rw [hJ.e3] at d3 d4
      exact ⟨⟨d1.1, d1.2.1⟩, d2, d3, d4⟩
    · rcases hu with hu | hu
      · have := td.2.2 u hu
        exact ⟨this.1, this.2.1⟩
      · have := td.1.2 u hu
        exact ⟨this.1, this.2.1⟩
    · have := k6 hd he u hu
      rw [hJ.e2] at this
      exact this
    · rintro e9 W ⟨rfl, s', b1, b2, b3⟩
      obtain ⟨G', o', c⟩ := hJ.wlk hi e b3
      exact ⟨rfl, s', G', o', b1, b2, c⟩
end Go.Proofs.YteekompojgbkhaaGreat
