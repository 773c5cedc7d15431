import Derived.Test.YteekompojgbkhaaGreatKBmK
import Derived.Test.YteekompojgbkhaaGreatKBqS
namespace Go.Proofs.YteekompojgbkhaaGreat
open Go.ChangeShapes Go.WideShapes Go.ChangeAt Go.RowKit Go.MuLone Go.RwLone
set_option linter.unusedVariables false
set_option maxRecDepth 100000
set_option maxHeartbeats 3200000
/-- A list of slots whose Inserts are done, the one done last in front. -/
def LOk (N : Nat) (ins rank : Int → Int) (xs : List Int) : Prop := xs.Pairwise (fun u v => rank v < rank u) ∧ ∀ u, u ∈ xs → 1 ≤ u ∧ u ≤ (N : Int) ∧ ins u = 2
theorem LOk.len {N : Nat} {ins rank : Int → Int} {xs : List Int} (h : LOk N ins rank xs) : xs.length ≤ N := by
  refine nd_len N xs ?_ (fun s hs => ⟨(h.2 s hs).1, (h.2 s hs).2.1⟩)
  exact h.1.imp (fun {a b} hab e => by rw [e] at hab; omega)
theorem LOk.to {N : Nat} {ins rank ins' rank' : Int → Int} {xs : List Int} (h : LOk N ins rank xs) (k : ∀ u, ins u = 2 → ins' u = 2 ∧ rank' u = rank u) : LOk N ins' rank' xs := by
  refine ⟨h.1.imp_of_mem (fun {a b} ha hb hab => ?_), fun u hu => ⟨(h.2 u hu).1, (h.2 u hu).2.1, (k u (h.2 u hu).2.2).1⟩⟩
  rw [(k a (h.2 a ha).2.2).2, (k b (h.2 b hb).2.2).2]
  exact hab
theorem LOk.nil (N : Nat) (ins rank : Int → Int) : LOk N ins rank [] := ⟨List.Pairwise.nil, fun u hu => by cases hu⟩
abbrev bkO (nb : Nat) : Int → Int := fun t => t % (nb : Int)
theorem bkO_in {nb : Nat} (h : 1 ≤ nb) : ∀ t, 0 ≤ bkO nb t ∧ bkO nb t < (nb : Int) := fun t => ⟨Int.emod_nonneg t (by omega), Int.emod_lt_of_pos t (by omega)⟩
/-- The book is kept. -/
structure BkJ (s : BkS) (G : Gb) : Prop where
  i : BkI (s.N : Int) (s.nb : Int) (bkO s.nb) s.S s.x G s.rows (s.all.map OL.o)
  e1 : G.ins = s.ins
  e2 : G.rem = s.rem
  e3 : G.rank = s.rank
  e4 : G.ranks = s.ranks
  n0 : 1 ≤ s.N ∧ s.N ≤ 24
  n1 : 1 ≤ s.nb ∧ s.nb ≤ 4
  wd : WdOk s.S s.x
  mi : ∀ (i : Nat) (q : OL), s.all[i]? = some q → q.o.kd = 0 → insOk s.x q.o.mi ∧ (q.o.mi.st = 2 → LkOk q.o.mi.hd)
  mr : ∀ (i : Nat) (q : OL), s.all[i]? = some q → q.o.kd = 1 → remOk s.x q.o.mr
  mw : ∀ (i : Nat) (q : OL), s.all[i]? = some q → LOk s.N s.ins s.rank q.o.t.due ∧ LOk s.N s.ins s.rank q.o.t.met
  rw : ∀ c, LOk s.N s.ins s.rank (s.rows c)
  un : RmAll s.N G (s.all.map OL.o)
theorem insOk.nb {x x' : XS} {m : MI} (h : insOk x m) (e : x'.nb = x.nb) : insOk x' m := fun a b => by
  have := h a b
  unfold inB at this ⊢
  rw [e]
  exact this
theorem remOk.nb {x x' : XS} {m : MR} (h : remOk x m) (e : x'.nb = x.nb) : remOk x' m := ⟨fun a b => by
  have := h.1 a b
  unfold inB at this ⊢
  rw [e]
  exact this, h.2⟩
theorem map_o {s : BkS} {i : Nat} {q : OL} (hi : s.all[i]? = some q) : (s.all.map OL.o)[i]? = some q.o := by rw [List.getElem?_map, hi]; rfl
section
variable {s s' : BkS} {G : Gb}
theorem BkJ.ok (h : BkJ s G) {i : Nat} {q : OL} (hi : s.all[i]? = some q) : OnOk (s.N : Int) (s.nb : Int) (bkO s.nb) G q.o := h.i.ok i q.o (map_o hi)
theorem BkJ.sn (h : BkJ s G) : s.S.n ≤ 4096 := by
  have := h.i.l.n
  have := h.n0.2
  omega
/-- The book behind an Insert's step. -/
theorem BkJ.ins (h : BkJ s G) {i : Nat} {q : OL} (hi : s.all[i]? = some q) (h0 : q.o.kd = 0) (hn : InsNx s i q (insP s.S s.x q.o.mi) s') : ∃ G' o', BkJ s' G' ∧ MvP s.N (s.nb : Int) (bkO s.nb) s.S s.x G q.o s'.S s'.x G' o' ∧ s'.all.map OL.o = (s.all.map OL.o).set i o' ∧ s'.N = s.N ∧ s'.nb = s.nb ∧ s'.all.length = s.all.length := by
  have hb := bkO_in h.n1.1
  obtain ⟨G', rows', k1, k2, k3⟩ := h.i.mvI (by have := h.n0.2; omega) hb (map_o hi) h0
  obtain ⟨m1, m2, m3⟩ := h.mi i q hi h0 |> fun a => (⟨a.1, a.2, ()⟩ : insOk s.x q.o.mi ×' (q.o.mi.st = 2 → LkOk q.o.mi.hd) ×' Unit)
  have kp := ins_keep s.S s.x q.o.mi h.wd h.sn m1 m2
  have hlt := (List.getElem?_eq_some_iff.1 hi).1
  rcases hn with ⟨a1, a2⟩ | ⟨a1, a2, rv', T', a3⟩
  · rcases k2 with ⟨_, f0, f1, f2, f3, f4⟩ | ⟨g1, g2, _⟩
    · subst f0
      have em : s'.all.map OL.o = (s.all.map OL.o).set i { q.o with mi := (insP s.S s.x q.o.mi).2.2, dn := (insP s.S s.x q.o.mi).1 } := by
        rw [a2, a1]
        exact List.map_set
      refine ⟨G', _, ⟨?_, ?_, ?_, ?_, ?_, ?_, ?_, ?_, ?_, ?_, ?_, ?_, ?_⟩, ?_, em, by rw [a2], by rw [a2], by rw [a2]; exact List.length_set⟩
      · rw [em, a2]
        exact k1
      · rw [a2]; exact f1.trans h.e1
      · rw [a2]; exact f2.trans h.e2
      · rw [a2]; exact f3.trans h.e3
      · rw [a2]; exact f4.trans h.e4
      · rw [a2]; exact h.n0
      · rw [a2]; exact h.n1
      · rw [a2]; exact kp.1
      · intro j p hp e
        rw [a2] at hp ⊢
        rcases set_at hlt hp with ⟨rfl, rfl⟩ | ⟨e2, hp⟩
        · exact ⟨kp.2.1, kp.2.2.1⟩
        · exact ⟨(h.mi j p hp e).1.nb kp.2.2.2.2.2.2.2, (h.mi j p hp e).2⟩
      · intro j p hp e
        rw [a2] at hp ⊢
        rcases set_at hlt hp with ⟨rfl, rfl⟩ | ⟨e2, hp⟩
        · have e : q.o.kd = 1 := e
          omega
        · exact (h.mr j p hp e).nb kp.2.2.2.2.2.2.2
      · intro j p hp
        rw [a2] at hp ⊢
        rcases set_at hlt hp with ⟨rfl, rfl⟩ | ⟨e2, hp⟩
        · exact h.mw j q hi
        · exact h.mw j p hp
      · rw [a2]; exact h.rw
      · rw [em, a2]
        exact h.un.set h.i hb (map_o hi) rfl rfl (h.i.lkI (by have := h.n0.2; omega) hb (map_o hi) h0 k1.l k3 (.inl ⟨a1, f1, f2, f3, f4⟩)) (fun t _ => by rw [f3]) (fun u hu => .inl (by rw [f2] at hu; exact hu)) (fun e => absurd (h0.symm.trans e) (by decide))
      · rw [a2]
        exact k3
    · rw [a1, g2] at g1
      cases g1
  · rcases k2 with ⟨g0, _⟩ | ⟨_, _, _, f0, f1, f2, f3, f4⟩
    · have g0 : (insP s.S s.x q.o.mi).1 = q.o.dn := g0
      rw [a1, a2] at g0
      cases g0
    · subst f0
      have onn := ((h.ok hi).i h0)
      have slq := onn.2.1
      have st3 : q.o.mi.st ≤ 3 := by
        have := onn.1.st
        have : ¬ q.o.mi.st = 4 := fun e => by have := onn.2.2.2 e; rw [a2] at this; cases this
        omega
      have on1 : s.ins q.o.sl = 1 := by
        have := onn.1.on st3
        rw [slq, h.e1] at this
        exact this
      have low : 1 ≤ q.o.sl ∧ q.o.sl ≤ (s.N : Int) := by
        have a := onn.1.lo
        have b := onn.1.up
        rw [slq] at a b
        exact ⟨a, b⟩
      have le : ∀ u, s.ins u = 2 → updI s.ins q.o.sl 2 u = 2 ∧ updI s.rank q.o.sl s.ranks u = s.rank u := fun u hu => by
        have ne : u ≠ q.o.sl := fun e => by rw [e, on1] at hu; omega
        exact ⟨(updI_ne _ _ ne).trans hu, updI_ne _ _ ne⟩
      have rk : ∀ u, 1 ≤ u → u ≤ (s.N : Int) → s.ins u = 2 → s.rank u < s.ranks := fun u u1 u2 hu => by
        have := (h.i.g.rk (bkO s.nb u) u ⟨u1, u2, by rw [h.e1]; exact hu, rfl⟩).2
        rw [h.e3, h.e4] at this
        exact this
      have em : s'.all.map OL.o = (s.all.map OL.o).set i { q.o with mi := (insP s.S s.x q.o.mi).2.2, dn := (insP s.S s.x q.o.mi).1 } := by
        rw [a3, a1]
        exact List.map_set
      refine ⟨G', _, ⟨?_, ?_, ?_, ?_, ?_, ?_, ?_, ?_, ?_, ?_, ?_, ?_, ?_⟩, ?_, em, by rw [a3], by rw [a3], by rw [a3]; exact List.length_set⟩
      · rw [em, a3]
        exact k1
      · rw [a3, f1, h.e1]
      · rw [a3, f2, h.e2]
      · rw [a3, f3, h.e3, h.e4]
      · rw [a3, f4, h.e4]
      · rw [a3]; exact h.n0
      · rw [a3]; exact h.n1
      · rw [a3]; exact kp.1
      · intro j p hp e
        rw [a3] at hp ⊢
        rcases set_at hlt hp with ⟨rfl, rfl⟩ | ⟨e2, hp⟩
        · exact ⟨kp.2.1, kp.2.2.1⟩
        · exact ⟨(h.mi j p hp e).1.nb kp.2.2.2.2.2.2.2, (h.mi j p hp e).2⟩
      · intro j p hp e
        rw [a3] at hp ⊢
        rcases set_at hlt hp with ⟨rfl, rfl⟩ | ⟨e2, hp⟩
        · have e : q.o.kd = 1 := e
          omega
        · exact (h.mr j p hp e).nb kp.2.2.2.2.2.2.2
      · intro j p hp
        rw [a3] at hp ⊢
        rcases set_at hlt hp with ⟨rfl, rfl⟩ | ⟨e2, hp⟩
        · exact ⟨(h.mw j q hi).1.to le, (h.mw j q hi).2.to le⟩
        · exact ⟨(h.mw j p hp).1.to le, (h.mw j p hp).2.to le⟩
      · intro c
        rw [a3]
        show LOk s.N (updI s.ins q.o.sl 2) (updI s.rank q.o.sl s.ranks) (if c = q.o.sl % (s.nb : Int) then q.o.sl :: s.rows (q.o.sl % (s.nb : Int)) else s.rows c)
        split
        · have h1 := h.rw (q.o.sl % (s.nb : Int))
          have h2 := h1.to le
          refine ⟨List.pairwise_cons.2 ⟨fun u hu => ?_, h2.1⟩, fun u hu => ?_⟩
          · have a := h1.2 u hu
            rw [(le u a.2.2).2, updI_at]
            exact rk u a.1 a.2.1 a.2.2
          · rcases List.mem_cons.1 hu with e | e
            · rw [e]
              exact ⟨low.1, low.2, updI_at _ _ _⟩
            · exact h2.2 u e
        · exact (h.rw c).to le
      · rw [em, a3]
        have on1G : G.ins q.o.sl = 1 := by rw [h.e1]; exact on1
        exact h.un.set h.i hb (map_o hi) rfl rfl (h.i.lkI (by have := h.n0.2; omega) hb (map_o hi) h0 k1.l k3 (.inr ⟨a1, f1, f2⟩)) (fun t ht => by rw [f3]; exact updI_ne _ _ (fun e => by rw [e, on1G] at ht; omega)) (fun u hu => .inl (by rw [f2] at hu; exact hu)) (fun e => absurd (h0.symm.trans e) (by decide))
      · rw [a3]
        exact k3
end
end Go.Proofs.YteekompojgbkhaaGreat

namespace Go.Proofs.YteekompojgbkhaaGreat
open Go.ChangeShapes Go.WideShapes Go.ChangeAt Go.RowKit Go.MuLone Go.RwLone
set_option linter.unusedVariables false
set_option maxRecDepth 100000
set_option maxHeartbeats 3200000
section
variable {s s' : BkS} {G : Gb}
/-- The book behind a Remove's step. -/
theorem BkJ.rem (h : BkJ s G) {i : Nat} {q : OL} (hi : s.all[i]? = some q) (h0 : q.o.kd = 1) (hn : RemNx s i q (remP s.S s.x q.o.mr) s') : ∃ G' o', BkJ s' G' ∧ MvP s.N (s.nb : Int) (bkO s.nb) s.S s.x G q.o s'.S s'.x G' o' ∧ s'.all.map OL.o = (s.all.map OL.o).set i o' ∧ s'.N = s.N ∧ s'.nb = s.nb ∧ s'.all.length = s.all.length := by
  have hb := bkO_in h.n1.1
  obtain ⟨G', rows', k1, k2, k3⟩ := h.i.mvR (by have := h.n0.2; omega) hb (map_o hi) h0
  obtain ⟨_, _, f1, f3, f4, k2⟩ := k2
  have kp := rem_keep s.S s.x q.o.mr h.wd h.sn (h.mr i q hi h0)
  have hlt := (List.getElem?_eq_some_iff.1 hi).1
  rcases hn with ⟨a1, a2⟩ | ⟨a1, a3, a4, a5, rv', T', a2⟩
  · rcases k2 with ⟨_, f0, f2⟩ | ⟨g1, g2, _⟩
    · subst f0
      have em : s'.all.map OL.o = (s.all.map OL.o).set i { q.o with mr := (remP s.S s.x q.o.mr).2.2, dn := (remP s.S s.x q.o.mr).1, mq := (remP s.S s.x q.o.mr).2.2.ma } := by
        rw [a2, a1]
        exact List.map_set
      refine ⟨G', _, ⟨?_, ?_, ?_, ?_, ?_, ?_, ?_, ?_, ?_, ?_, ?_, ?_, ?_⟩, ?_, em, by rw [a2], by rw [a2], by rw [a2]; exact List.length_set⟩
      · rw [em, a2]
        exact k1
      · rw [a2]; exact f1.trans h.e1
      · rw [a2]; exact f2.trans h.e2
      · rw [a2]; exact f3.trans h.e3
      · rw [a2]; exact f4.trans h.e4
      · rw [a2]; exact h.n0
      · rw [a2]; exact h.n1
      · rw [a2]; exact kp.1
      · intro j p hp e
        rw [a2] at hp ⊢
        rcases set_at hlt hp with ⟨rfl, rfl⟩ | ⟨e2, hp⟩
        · have e : q.o.kd = 0 := e
          omega
        · exact ⟨(h.mi j p hp e).1.nb kp.2.2.2.2.2.2, (h.mi j p hp e).2⟩
      · intro j p hp e
        rw [a2] at hp ⊢
        rcases set_at hlt hp with ⟨rfl, rfl⟩ | ⟨e2, hp⟩
        · exact kp.2.1
        · exact (h.mr j p hp e).nb kp.2.2.2.2.2.2
      · intro j p hp
        rw [a2] at hp ⊢
        rcases set_at hlt hp with ⟨rfl, rfl⟩ | ⟨e2, hp⟩
        · exact h.mw j q hi
        · exact h.mw j p hp
      · rw [a2]; exact h.rw
      · rw [em, a2]
        have kl := h.i.lkR (by have := h.n0.2; omega) hb (map_o hi) h0 k1.l k3 f1 f3 f4 (.inl ⟨a1, f2⟩) (h.un.l i q.o (map_o hi) h0)
        exact h.un.set h.i hb (map_o hi) rfl rfl kl.1 (fun t _ => by rw [f3]) (fun u hu => .inl (by rw [f2] at hu; exact hu)) (fun _ => kl.2)
      · rw [a2]
        exact k3
    · rw [a1] at g2
      have g1 : q.o.mq = false := g1
      rw [g1] at g2
      cases g2
  · rcases k2 with ⟨g0, _⟩ | ⟨_, _, f0, f2⟩
    · have g0 : (remP s.S s.x q.o.mr).2.2.ma = q.o.mq := g0
      rw [a1, a3] at g0
      cases g0
    · subst f0
      have em : s'.all.map OL.o = (s.all.map OL.o).set i { q.o with mr := (remP s.S s.x q.o.mr).2.2, dn := (remP s.S s.x q.o.mr).1, mq := (remP s.S s.x q.o.mr).2.2.ma } := by
        rw [a2, a3, a4, ← a5]
        exact List.map_set
      refine ⟨G', _, ⟨?_, ?_, ?_, ?_, ?_, ?_, ?_, ?_, ?_, ?_, ?_, ?_, ?_⟩, ?_, em, by rw [a2], by rw [a2], by rw [a2]; exact List.length_set⟩
      · rw [em, a2]
        exact k1
      · rw [a2]; exact f1.trans h.e1
      · rw [a2, f2, h.e2]
      · rw [a2]; exact f3.trans h.e3
      · rw [a2]; exact f4.trans h.e4
      · rw [a2]; exact h.n0
      · rw [a2]; exact h.n1
      · rw [a2]; exact kp.1
      · intro j p hp e
        rw [a2] at hp ⊢
        rcases set_at hlt hp with ⟨rfl, rfl⟩ | ⟨e2, hp⟩
        · have e : q.o.kd = 0 := e
          omega
        · exact ⟨(h.mi j p hp e).1.nb kp.2.2.2.2.2.2, (h.mi j p hp e).2⟩
      · intro j p hp e
        rw [a2] at hp ⊢
        rcases set_at hlt hp with ⟨rfl, rfl⟩ | ⟨e2, hp⟩
        · exact kp.2.1
        · exact (h.mr j p hp e).nb kp.2.2.2.2.2.2
      · intro j p hp
        rw [a2] at hp ⊢
        rcases set_at hlt hp with ⟨rfl, rfl⟩ | ⟨e2, hp⟩
        · exact h.mw j q hi
        · exact h.mw j p hp
      · intro c
        rw [a2]
        show LOk s.N s.ins s.rank (if c = q.o.sl % (s.nb : Int) then (s.rows (q.o.sl % (s.nb : Int))).filter (fun u => !(u == q.o.sl)) else s.rows c)
        split
        · have h1 := h.rw (q.o.sl % (s.nb : Int))
          exact ⟨h1.1.sublist List.filter_sublist, fun u hu => h1.2 u ((List.mem_filter.1 hu).1)⟩
        · exact h.rw c
      · rw [em, a2]
        have kl := h.i.lkR (by have := h.n0.2; omega) hb (map_o hi) h0 k1.l k3 f1 f3 f4 (.inr ⟨a1, a3, f2⟩) (h.un.l i q.o (map_o hi) h0)
        refine h.un.set h.i hb (map_o hi) rfl rfl kl.1 (fun t _ => by rw [f3]) (fun u hu => ?_) (fun _ => kl.2)
        rw [f2] at hu
        by_cases e : u = q.o.sl
        · exact .inr ⟨h0, e⟩
        · rw [updI_ne _ _ e] at hu
          exact .inl hu
      · rw [a2]
        exact k3
theorem wlk_wd (S : AS) (x : XS) (m : MW) (h : WdOk S x) : WdOk (wlkP S x m).2.1.S (wlkP S x m).2.1.x ∧ (wlkP S x m).2.1.x.nb = x.nb := by
  obtain ⟨st, src, own, slot, pend, ended, code⟩ := m
  match st with
  | 0 =>
    show WdOk (if inB x src then _ else _ : Bool × CS × MW).2.1.S (if inB x src then _ else _ : Bool × CS × MW).2.1.x ∧ (if inB x src then _ else _ : Bool × CS × MW).2.1.x.nb = _
    split
    · exact ⟨⟨h.1, h.2⟩, rfl⟩
    · exact ⟨h, rfl⟩
  | 1 =>
    show WdOk (if liv S src then _ else _ : Bool × CS × MW).2.1.S (if liv S src then _ else _ : Bool × CS × MW).2.1.x ∧ (if liv S src then _ else _ : Bool × CS × MW).2.1.x.nb = _
    split
    · exact ⟨⟨h.1, h.2⟩, rfl⟩
    · exact ⟨⟨h.1, h.2⟩, rfl⟩
  | 2 =>
    show WdOk (if liv S pend then _ else _ : Bool × CS × MW).2.1.S (if liv S pend then _ else _ : Bool × CS × MW).2.1.x ∧ (if liv S pend then _ else _ : Bool × CS × MW).2.1.x.nb = _
    split
    · exact ⟨⟨h.1, h.2⟩, rfl⟩
    · exact ⟨⟨h.1, h.2⟩, rfl⟩
  | n + 3 => exact ⟨h, rfl⟩
end
/-- What a move leaves. -/
def Mvd (s : BkS) (G : Gb) (i : Nat) (o : On) (s' : BkS) (G' : Gb) (o' : On) : Prop := BkJ s' G' ∧ MvP s.N (s.nb : Int) (bkO s.nb) s.S s.x G o s'.S s'.x G' o' ∧ s'.all.map OL.o = (s.all.map OL.o).set i o' ∧ s'.N = s.N ∧ s'.nb = s.nb ∧ s'.all.length = s.all.length
end Go.Proofs.YteekompojgbkhaaGreat

namespace Go.Proofs.YteekompojgbkhaaGreat
set_option linter.unusedSimpArgs false
open Go.ChangeShapes Go.WideShapes Go.ChangeAt Go.RowKit Go.MuLone Go.RwLone
set_option linter.unusedVariables false
set_option maxRecDepth 100000
set_option maxHeartbeats 6400000
abbrev mi0 : MI := ⟨0, 0, 0, 0, 0, 0⟩
abbrev mr0 : MR := ⟨0, 0, 0, 0, 0, 0, 0, 0, false, 0⟩
abbrev mw0 : MW := ⟨0, 0, 0, 0, 0, false, 0⟩
abbrev onI (sl bu : Int) : On := ⟨0, sl, ⟨0, 0, bu, sl, 0, 0⟩, mr0, mw0, false, false, false, ⟨0, 0, [], []⟩⟩
abbrev onR (sl bu : Int) : On := ⟨1, sl, mi0, ⟨0, 0, bu, sl, 0, 0, 0, 0, false, 0⟩, mw0, false, false, false, ⟨0, 0, [], []⟩⟩
abbrev onW (k : Int) : On := ⟨2, 0, mi0, mr0, ⟨0, k, 0, 0, 0, false, 0⟩, false, false, false, ⟨k, 0, [], []⟩⟩
theorem allocC {w : World} {o : Obj} {a : Addr} {v : Value} (h : w.cell? a = some v) : (w.alloc o).cell? a = w.cell? a := by
  have hl : a.block < w.heap.size := by
    unfold World.cell? at h
    cases e : w.heap[a.block]? with
    | none => rw [e] at h; cases h
    | some o => exact (Array.getElem?_eq_some_iff.1 e).1
  exact World.cell?_of_block (w := w) (Below.heap_alloc w o a.block hl)
/-- What is read when a machine begins. -/
structure RdS (W : World) (l : BkL) (bb N nb : Nat) (av : Value) : Prop where
  b1 : W.cell? ⟨bb, 1, none⟩ = some (.pointer (some ⟨l.X.x, 0, none⟩))
  b2 : W.cell? ⟨bb, 2, none⟩ = some (.int .i64 (N : Int))
  b3 : W.cell? ⟨bb, 3, none⟩ = some (.int .i64 (nb : Int))
  b4 : W.cell? ⟨bb, 4, none⟩ = some (.slice (some ⟨l.ib, 0, none⟩) (N + 1) l.ic)
  b5 : W.cell? ⟨bb, 5, none⟩ = some (.slice (some ⟨l.rb, 0, none⟩) (N + 1) l.rc)
  b9 : W.cell? ⟨bb, 9, none⟩ = some av
  fb : ∀ i, W.frozen? ⟨bb, i, none⟩ = false
theorem RdS.drew {W : World} {l : BkL} {bb N nb : Nat} {av : Value} (h : RdS W l bb N nb av) : RdS W.drew l bb N nb av := ⟨h.b1, h.b2, h.b3, h.b4, h.b5, h.b9, h.fb⟩
end Go.Proofs.YteekompojgbkhaaGreat
