import Derived.Test.YtdjklcmkcccpeaaGreatRdA
import Derived.Test.YtdjklcmkcccpeaaGreatRbB
import Derived.Test.YtdjklcmkcccpeaaGreatChL
import Derived.Test.YtdjklcmkcccpeaaGreatChI
import Derived.Test.YtdjklcmkcccpeaaGreatChF
import Derived.Deep.AppendLies
import Derived.Deep.DeepAppendRoom
namespace Go.Proofs.YtdjklcmkcccpeaaGreat
set_option linter.unusedSimpArgs false
open Go.ChangeShapes Go.WideShapes Go.ChangeAt Go.RowKit Go.MuLone Go.RwLone
set_option linter.unusedVariables false
/-- A machine of both sides, plain: its kind (1 an Insert, 2 a Walk, 4 a Remove), its index, its blocks. -/
structure PM where
  kd : Nat
  ix : Nat
  pb : Nat
  rb : Nat
  i : MI
  k : MW
  r : MR
/-- Where both sides lie. -/
structure WL where
  L : Lay
  X : Nat → XL
  R : RL
  cap : Nat
  Y : Nat → XL
  hc : Nat → Nat
/-- What both sides hold. -/
structure WS where
  S : AS
  Q : List Nat
  x : Nat → XS
  ms : List PM
def PM.H (w : World) (l : WL) (m : PM) : Prop := (m.kd = 1 ∧ InsH w m.pb (l.X m.ix).x m.i ∧ RinH w m.rb (l.Y m.ix).x m.i) ∨ (m.kd = 2 ∧ WlkH w m.pb (l.X m.ix).x m.k ∧ RwlH w m.rb (l.Y m.ix).x m.k) ∨ (m.kd = 4 ∧ RemH w m.pb (l.X m.ix).x m.r ∧ RrmH w m.rb (l.Y m.ix).x m.r)
def PM.ok (x : XS) (m : PM) : Prop := (m.kd = 1 → insOk x m.i ∧ (m.i.st = 2 → LkOk m.i.hd)) ∧ (m.kd = 2 → wlkOk m.k) ∧ (m.kd = 4 → remOk x m.r)
theorem lt_heap {w : World} {b : Nat} {c : Array Value} {t : TypeId} (h : w.heap[b]? = some (.cells c t)) : b < w.heap.size := (Array.getElem?_eq_some_iff.1 h).1
theorem InsH.lt {w : World} {mb xb : Nat} {m : MI} (h : InsH w mb xb m) : mb < w.heap.size := lt_heap h
theorem WlkH.lt {w : World} {mb xb : Nat} {m : MW} (h : WlkH w mb xb m) : mb < w.heap.size := lt_heap h
theorem RemH.lt {w : World} {mb xb : Nat} {m : MR} (h : RemH w mb xb m) : mb < w.heap.size := lt_heap h
theorem RinH.lt {w : World} {mb xb : Nat} {m : MI} (h : RinH w mb xb m) : mb < w.heap.size := by obtain ⟨_, _, h, _⟩ := h; exact lt_heap h
theorem RwlH.lt {w : World} {mb xb : Nat} {m : MW} (h : RwlH w mb xb m) : mb < w.heap.size := by obtain ⟨_, _, _, _, _, h, _⟩ := h; exact lt_heap h
theorem RrmH.lt {w : World} {mb xb : Nat} {m : MR} (h : RrmH w mb xb m) : mb < w.heap.size := by obtain ⟨_, _, _, _, _, h, _⟩ := h; exact lt_heap h
theorem InsH.keeps {w w' : World} {D : Nat → Prop} {mb xb : Nat} {m : MI} (h : InsH w mb xb m) (k : Keeps D w w') (hn : ¬ D mb) : InsH w' mb xb m := (k.block mb h.lt hn).trans h
theorem WlkH.keeps {w w' : World} {D : Nat → Prop} {mb xb : Nat} {m : MW} (h : WlkH w mb xb m) (k : Keeps D w w') (hn : ¬ D mb) : WlkH w' mb xb m := (k.block mb h.lt hn).trans h
theorem RemH.keeps {w w' : World} {D : Nat → Prop} {mb xb : Nat} {m : MR} (h : RemH w mb xb m) (k : Keeps D w w') (hn : ¬ D mb) : RemH w' mb xb m := (k.block mb h.lt hn).trans h
theorem RinH.keeps {w w' : World} {D : Nat → Prop} {mb xb : Nat} {m : MI} (h : RinH w mb xb m) (k : Keeps D w w') (hn : ¬ D mb) : RinH w' mb xb m := by
  obtain ⟨a, b, h1, h2⟩ := h
  exact ⟨a, b, (k.block mb (lt_heap h1) hn).trans h1, h2⟩
theorem RwlH.keeps {w w' : World} {D : Nat → Prop} {mb xb : Nat} {m : MW} (h : RwlH w mb xb m) (k : Keeps D w w') (hn : ¬ D mb) : RwlH w' mb xb m := by
  obtain ⟨a, b, c, d, f, h1, h2⟩ := h
  exact ⟨a, b, c, d, f, (k.block mb (lt_heap h1) hn).trans h1, h2⟩
theorem RrmH.keeps {w w' : World} {D : Nat → Prop} {mb xb : Nat} {m : MR} (h : RrmH w mb xb m) (k : Keeps D w w') (hn : ¬ D mb) : RrmH w' mb xb m := by
  obtain ⟨a, b, c, d, f, h1, h2⟩ := h
  exact ⟨a, b, c, d, f, (k.block mb (lt_heap h1) hn).trans h1, h2⟩
theorem PM.H.lt {w : World} {l : WL} {m : PM} (h : m.H w l) : m.pb < w.heap.size ∧ m.rb < w.heap.size := by
  rcases h with ⟨_, h1, h2⟩ | ⟨_, h1, h2⟩ | ⟨_, h1, h2⟩ <;> exact ⟨h1.lt, h2.lt⟩
theorem PM.H.keeps {w w' : World} {D : Nat → Prop} {l : WL} {m : PM} (h : m.H w l) (k : Keeps D w w') (h1 : ¬ D m.pb) (h2 : ¬ D m.rb) : m.H w' l := by
  rcases h with ⟨e, g1, g2⟩ | ⟨e, g1, g2⟩ | ⟨e, g1, g2⟩
  · exact .inl ⟨e, g1.keeps k h1, g2.keeps k h2⟩
  · exact .inr (.inl ⟨e, g1.keeps k h1, g2.keeps k h2⟩)
  · exact .inr (.inr ⟨e, g1.keeps k h1, g2.keeps k h2⟩)
theorem PM.H.same {w : World} {l l' : WL} {m : PM} (h : m.H w l) (e1 : l'.X = l.X) (e2 : l'.Y = l.Y) : m.H w l' := by
  unfold PM.H at h ⊢
  rw [e1, e2]
  exact h
theorem inB_nb {x x' : XS} (h : x'.nb = x.nb) (b : Int) : inB x' b = inB x b := by unfold inB; rw [h]
theorem PM.ok.nb {x x' : XS} {m : PM} (h : m.ok x) (e : x'.nb = x.nb) : m.ok x' := by
  refine ⟨fun e1 => ⟨fun a b => ?_, (h.1 e1).2⟩, h.2.1, fun e1 => ⟨fun a b => ?_, (h.2.2 e1).2⟩⟩
  · rw [inB_nb e]
    exact (h.1 e1).1 a b
  · rw [inB_nb e]
    exact (h.2.2 e1).1 a b
/-- The blocks of each side, and of the machines. -/
def pF (l : WL) (g : Nat) : Prop := l.L.has g ∨ ∃ i, i < 2 ∧ (l.X i).has g
def dF (l : WL) (qv : Value) (S : AS) (g : Nat) : Prop := raF l.R qv S g ∨ ∃ i, i < 2 ∧ (l.Y i).has g
def mF (ms : List PM) (g : Nat) : Prop := ∃ m ∈ ms, g = m.pb ∨ g = m.rb
def aF (l : WL) (qv : Value) (s : WS) (g : Nat) : Prop := pF l g ∨ dF l qv s.S g ∨ mF s.ms g
/-- Two machines have no block in common. -/
def PM.dj (m m' : PM) : Prop := m.pb ≠ m'.pb ∧ m.pb ≠ m'.rb ∧ m.rb ≠ m'.pb ∧ m.rb ≠ m'.rb
/-- Both sides, in memory. -/
structure Bo (w : World) (l : WL) (qv : Value) (s : WS) : Prop where
  a : Arn w l.L s.Q s.S
  i : ∀ i, i < 2 → IxH w l.L.b (l.X i) (s.x i)
  r : RAr w l.R l.cap qv s.Q s.S
  j : ∀ i, i < 2 → RxH w l.R.b (l.Y i) (l.hc i) (s.x i)
  m : ∀ m ∈ s.ms, m.H w l ∧ m.ix < 2 ∧ m.ok (s.x m.ix) ∧ m.pb ≠ m.rb ∧ ¬ pF l m.pb ∧ ¬ pF l m.rb ∧ ¬ dF l qv s.S m.pb ∧ ¬ dF l qv s.S m.rb
  mm : s.ms.Pairwise PM.dj
  da : ∀ i, i < 2 → ∀ g, (l.X i).has g → ¬ l.L.has g
  dx : ∀ g, (l.X 0).has g → ¬ (l.X 1).has g
  dr : ∀ i, i < 2 → ∀ g, (l.Y i).has g → ¬ raF l.R qv s.S g
  dy : ∀ g, (l.Y 0).has g → ¬ (l.Y 1).has g
  pd : ∀ g, pF l g → ¬ dF l qv s.S g
  c : ∀ i, i < 2 → (s.x i).cell < s.S.wd
  wd : ∀ i, i < 2 → WdOk s.S (s.x i)
theorem Bo.n {w : World} {l : WL} {qv : Value} {s : WS} (h : Bo w l qv s) : s.S.n ≤ 4096 := h.r.hn.2
theorem Bo.ch {w : World} {l : WL} {qv : Value} {s : WS} (h : Bo w l qv s) (i : Nat) (hi : i < 2) : CH w l.L s.Q s.S (l.X i) (s.x i) := ⟨h.a, h.i i hi, h.da i hi, h.c i hi⟩
theorem Bo.rc {w : World} {l : WL} {qv : Value} {s : WS} (h : Bo w l qv s) (i : Nat) (hi : i < 2) : RC w l.R l.cap qv s.Q s.S (l.Y i) (l.hc i) (s.x i) := ⟨h.r, h.j i hi, h.dr i hi, h.c i hi⟩
theorem Bo.dxx {w : World} {l : WL} {qv : Value} {s : WS} (h : Bo w l qv s) (i j : Nat) (hi : i < 2) (hj : j < 2) (e : j ≠ i) (g : Nat) (h1 : (l.X j).has g) : ¬ (l.X i).has g := by
  rcases (show (i = 0 ∧ j = 1) ∨ (i = 1 ∧ j = 0) by omega) with ⟨rfl, rfl⟩ | ⟨rfl, rfl⟩
  · exact fun h2 => h.dx g h2 h1
  · exact fun h2 => h.dx g h1 h2
theorem Bo.dyy {w : World} {l : WL} {qv : Value} {s : WS} (h : Bo w l qv s) (i j : Nat) (hi : i < 2) (hj : j < 2) (e : j ≠ i) (g : Nat) (h1 : (l.Y j).has g) : ¬ (l.Y i).has g := by
  rcases (show (i = 0 ∧ j = 1) ∨ (i = 1 ∧ j = 0) by omega) with ⟨rfl, rfl⟩ | ⟨rfl, rfl⟩
  · exact fun h2 => h.dy g h2 h1
  · exact fun h2 => h.dy g h1 h2
theorem Bo.lt {w : World} {l : WL} {qv : Value} {s : WS} (h : Bo w l qv s) (g : Nat) (hg : aF l qv s g) : g < w.heap.size := by
  rcases hg with (hg | ⟨i, hi, hg⟩) | (hg | ⟨i, hi, hg⟩) | ⟨m, hm, rfl | rfl⟩
  · exact h.a.h.lt g hg
  · rcases hg with rfl | rfl
    · exact (h.i i hi).lx
    · exact (h.i i hi).lh
  · exact h.r.lt g hg
  · rcases hg with rfl | rfl
    · exact (h.j i hi).lx
    · exact (h.j i hi).lh
  · exact (h.m m hm).1.lt.1
  · exact (h.m m hm).1.lt.2
/-- What touches none of its blocks leaves it. -/
theorem Bo.keeps {w w' : World} {D : Nat → Prop} {l : WL} {qv : Value} {s : WS} (h : Bo w l qv s) (k : Keeps D w w') (hD : ∀ g, aF l qv s g → ¬ D g) : Bo w' l qv s :=
  ⟨h.a.keeps k (fun g hg => hD g (.inl (.inl hg))), fun i hi => (h.i i hi).keeps k (fun g hg => hD g (.inl (.inr ⟨i, hi, hg⟩))), h.r.keeps k (fun g hg => hD g (.inr (.inl (.inl hg)))), fun i hi => (h.j i hi).keeps k (fun g hg => hD g (.inr (.inl (.inr ⟨i, hi, hg⟩)))), fun m hm => ⟨(h.m m hm).1.keeps k (hD _ (.inr (.inr ⟨m, hm, .inl rfl⟩))) (hD _ (.inr (.inr ⟨m, hm, .inr rfl⟩))), (h.m m hm).2⟩, h.mm, h.da, h.dx, h.dr, h.dy, h.pd, h.c, h.wd⟩
theorem raF_same {R : RL} {qv : Value} {S S' : AS} (e1 : S'.n = S.n) (e2 : S'.use = S.use) (g : Nat) : raF R qv S' g ↔ raF R qv S g := by
  unfold raF RL.ws
  rw [e1, e2]
theorem dF_same {l : WL} {qv : Value} {S S' : AS} (e1 : S'.n = S.n) (e2 : S'.use = S.use) (g : Nat) : dF l qv S' g ↔ dF l qv S g := by
  unfold dF
  rw [raF_same e1 e2]
/-- The program's arena was looked at. -/
theorem Bo.arn {w w' : World} {l : WL} {qv : Value} {s : WS} (h : Bo w l qv s) (ha : Arn w' l.L s.Q s.S) (k : Keeps l.L.has w w') : Bo w' l qv s :=
  ⟨ha, fun i hi => (h.i i hi).keeps k (h.da i hi), h.r.keeps k (fun g hg e => h.pd g (.inl e) (.inl hg)), fun i hi => (h.j i hi).keeps k (fun g hg e => h.pd g (.inl e) (.inr ⟨i, hi, hg⟩)), fun m hm => ⟨(h.m m hm).1.keeps k (fun e => (h.m m hm).2.2.2.2.1 (.inl e)) (fun e => (h.m m hm).2.2.2.2.2.1 (.inl e)), (h.m m hm).2⟩, h.mm, h.da, h.dx, h.dr, h.dy, h.pd, h.c, h.wd⟩
def WS.step (s : WS) (c : CS) (i k : Nat) (m' : PM) : WS := ⟨c.S, s.Q, upd s.x i c.x, s.ms.set k m'⟩
/-- A machine's step, on both sides. -/
theorem Bo.step {w w2 : World} {l : WL} {qv : Value} {s : WS} (h : Bo w l qv s) (k : Nat) (m m' : PM) (hk : s.ms[k]? = some m) (c : CS)
    (e : m'.ix = m.ix ∧ m'.pb = m.pb ∧ m'.rb = m.rb) (ha : Arn w2 l.L s.Q c.S) (hx : IxH w2 l.L.b (l.X m.ix) c.x) (hr : RAr w2 l.R l.cap qv s.Q c.S) (hy : RxH w2 l.R.b (l.Y m.ix) (l.hc m.ix) c.x) (hm : m'.H w2 l)
    (kp : Keeps (fun g => mkF l.L (l.X m.ix) m.pb g ∨ mrF l.R qv s.S (l.Y m.ix) m.rb g) w w2) (hs : Same s.S (s.x m.ix) c) (hw : WdOk c.S c.x) (hok : m'.ok c.x) : Bo w2 l qv (s.step c m.ix k m') := by
  obtain ⟨hk1, hk2⟩ := List.getElem?_eq_some_iff.1 hk
  have hmem : m ∈ s.ms := List.mem_of_getElem? hk
  obtain ⟨m1, mi, m3, m4, m5, m6, m7, m8⟩ := h.m m hmem
  obtain ⟨s1, s2, s3, s4, s5⟩ := hs
  obtain ⟨e1, e2, e3⟩ := e
  -- what is in one of the touched sets
  have hP : ∀ g, mkF l.L (l.X m.ix) m.pb g → pF l g ∨ g = m.pb := fun g hg => by
    rcases hg with (hg | hg) | hg
    · exact .inl (.inl hg)
    · exact .inl (.inr ⟨_, mi, hg⟩)
    · exact .inr hg
  have hR : ∀ g, mrF l.R qv s.S (l.Y m.ix) m.rb g → dF l qv s.S g ∨ g = m.rb := fun g hg => by
    rcases hg with (hg | hg) | hg
    · exact .inl (.inl hg)
    · exact .inl (.inr ⟨_, mi, hg⟩)
    · exact .inr hg
  have oX : ∀ j, j < 2 → j ≠ m.ix → IxH w2 l.L.b (l.X j) (s.x j) := fun j hj hne => (h.i j hj).keeps kp (fun g hg hd => by
    rcases hd with ((hd | hd) | hd) | hd
    · exact h.da j hj g hg hd
    · exact h.dxx m.ix j mi hj hne g hg hd
    · exact m5 (.inr ⟨j, hj, by rw [← hd]; exact hg⟩)
    · rcases hR g hd with hd | hd
      · exact h.pd g (.inr ⟨j, hj, hg⟩) hd
      · exact m6 (.inr ⟨j, hj, by rw [← hd]; exact hg⟩))
  have oY : ∀ j, j < 2 → j ≠ m.ix → RxH w2 l.R.b (l.Y j) (l.hc j) (s.x j) := fun j hj hne => (h.j j hj).keeps kp (fun g hg hd => by
    rcases hd with hd | ((hd | hd) | hd)
    · rcases hP g hd with hd | hd
      · exact h.pd g hd (.inr ⟨j, hj, hg⟩)
      · exact m7 (.inr ⟨j, hj, by rw [← hd]; exact hg⟩)
    · exact h.dr j hj g hg hd
    · exact h.dyy m.ix j mi hj hne g hg hd
    · exact m8 (.inr ⟨j, hj, by rw [← hd]; exact hg⟩))
  have dFs := fun g => (dF_same (l := l) (qv := qv) s1 s3 g)
  have raFs := fun g => (raF_same (R := l.R) (qv := qv) s1 s3 g)
  have nbx : ∀ j, (upd s.x m.ix c.x j).nb = (s.x j).nb := fun j => by
    by_cases e : j = m.ix
    · subst e; rw [upd_same]; exact s5
    · rw [upd_other _ _ e]
  have dj := List.pairwise_iff_getElem.1 h.mm
  have djk : ∀ m2 ∈ s.ms, m2 ≠ m → True := fun _ _ _ => trivial
  refine ⟨ha, fun j hj => ?_, hr, fun j hj => ?_, fun m2 hm2 => ?_, ?_, h.da, h.dx, fun j hj g hg => fun e => h.dr j hj g hg ((raFs g).1 e), h.dy, fun g hg => fun e => h.pd g hg ((dFs g).1 e), fun j hj => ?_, fun j hj => ?_⟩
  · show IxH w2 l.L.b (l.X j) (upd s.x m.ix c.x j)
    by_cases e : j = m.ix
    · subst e; rw [upd_same]; exact hx
    · rw [upd_other _ _ e]; exact oX j hj e
  · show RxH w2 l.R.b (l.Y j) (l.hc j) (upd s.x m.ix c.x j)
    by_cases e : j = m.ix
    · subst e; rw [upd_same]; exact hy
    · rw [upd_other _ _ e]; exact oY j hj e
  · obtain ⟨t, ht, rfl⟩ := List.getElem_of_mem (show m2 ∈ s.ms.set k m' from hm2)
    rw [List.length_set] at ht
    rw [List.getElem_set]
    by_cases et : k = t
    · rw [if_pos et]
      refine ⟨hm, by rw [e1]; exact mi, ?_, by rw [e2, e3]; exact m4, by rw [e2]; exact m5, by rw [e3]; exact m6, fun e => m7 (by rw [e2] at e; exact (dFs _).1 e), fun e => m8 (by rw [e3] at e; exact (dFs _).1 e)⟩
      show m'.ok (upd s.x m.ix c.x m'.ix)
      rw [e1, upd_same]
      exact hok
    · rw [if_neg et]
      obtain ⟨n1, n2, n3, n4, n5, n6, n7, n8⟩ := h.m s.ms[t] (List.getElem_mem ht)
      have dd : PM.dj s.ms[t] m := by
        rcases Nat.lt_or_gt_of_ne et with hlt | hlt
        · obtain ⟨d1, d2, d3, d4⟩ := dj k t hk1 ht hlt
          rw [hk2] at d1 d2 d3 d4
          exact ⟨d1.symm, d3.symm, d2.symm, d4.symm⟩
        · have d := dj t k ht hk1 hlt
          rw [hk2] at d
          exact d
      refine ⟨n1.keeps kp (fun e => ?_) (fun e => ?_), n2, n3.nb (nbx _), n4, n5, n6, fun e => n7 ((dFs _).1 e), fun e => n8 ((dFs _).1 e)⟩
      · rcases e with e | e
        · rcases hP _ e with e | e
          · exact n5 e
          · exact dd.1 e
        · rcases hR _ e with e | e
          · exact n7 e
          · exact dd.2.1 e
      · rcases e with e | e
        · rcases hP _ e with e | e
          · exact n6 e
          · exact dd.2.2.1 e
        · rcases hR _ e with e | e
          · exact n8 e
          · exact dd.2.2.2 e
  · show (s.ms.set k m').Pairwise PM.dj
    rw [List.pairwise_iff_getElem]
    intro a b hA hB hab
    rw [List.length_set] at hA hB
    rw [List.getElem_set, List.getElem_set]
    have d := dj a b hA hB hab
    by_cases ea : k = a
    · rw [if_pos ea, if_neg (show ¬ k = b by omega)]
      subst ea
      rw [hk2] at d
      unfold PM.dj at d ⊢
      rw [e2, e3]
      exact d
    · rw [if_neg ea]
      by_cases eb : k = b
      · rw [if_pos eb]
        subst eb
        rw [hk2] at d
        unfold PM.dj at d ⊢
        rw [e2, e3]
        exact d
      · rw [if_neg eb]
        exact d
  · show (upd s.x m.ix c.x j).cell < c.S.wd
    rw [s2]
    by_cases e : j = m.ix
    · subst e; rw [upd_same, s4]; exact h.c _ hj
    · rw [upd_other _ _ e]; exact h.c j hj
  · show WdOk c.S (upd s.x m.ix c.x j)
    by_cases e : j = m.ix
    · subst e; rw [upd_same]; exact hw
    · rw [upd_other _ _ e]; exact ⟨hw.1, (h.wd j hj).2⟩
/-- A step leaves no new block. -/
theorem step_aF {l : WL} {qv : Value} {s : WS} {c : CS} {i k : Nat} {m m' : PM} (hk : s.ms[k]? = some m) (e : m'.pb = m.pb ∧ m'.rb = m.rb) (h1 : c.S.n = s.S.n) (h2 : c.S.use = s.S.use) (g : Nat) (hg : aF l qv (s.step c i k m') g) : aF l qv s g := by
  rcases hg with hg | hg | ⟨m2, hm2, hg⟩
  · exact .inl hg
  · exact .inr (.inl ((dF_same h1 h2 g).1 hg))
  · rcases List.mem_or_eq_of_mem_set (show m2 ∈ s.ms.set k m' from hm2) with hm | rfl
    · exact .inr (.inr ⟨m2, hm, hg⟩)
    · rw [e.1, e.2] at hg
      exact .inr (.inr ⟨m, List.mem_of_getElem? hk, hg⟩)
end Go.Proofs.YtdjklcmkcccpeaaGreat

namespace Go.Proofs.YtdjklcmkcccpeaaGreat
set_option linter.unusedSimpArgs false
open Go.ChangeShapes Go.WideShapes Go.ChangeAt Go.RowKit Go.MuLone Go.RwLone
set_option linter.unusedVariables false
theorem hideG {P : Prop} (h : Hid P) : P := h.out
theorem keeps_below {w a b : World} {D : Nat → Prop} (k : Keeps D w a) (h : Below w.heap.size a b) : Keeps D w b := ⟨h.os.trans k.os, h.tape.trans k.tape, h.output.trans k.output, Nat.le_trans k.size h.size, fun x hx hn => (h.block x hx).trans (k.block x hx hn)⟩
abbrev OwI (w : World) (B : Nat) (v : Value) (xs : List Int) : Prop := OwG inZ 3 1 w B v xs
def wdC (x : Int) : List Value := [.int .u64 x]
abbrev OwW (w : World) (B : Nat) (v : Value) (xs : List Int) : Prop := OwG wdC 95 1 w B v xs
def blC (x : Bool) : List Value := [.bool x]
abbrev OwB (w : World) (B : Nat) (v : Value) (xs : List Bool) : Prop := OwG blC 4 1 w B v xs
theorem inZ_one (x : Int) : ∀ u ∈ inZ x, u.oneCell' = true := by intro u hu; simp [inZ] at hu; subst hu; rfl
theorem wdC_one (x : Int) : ∀ u ∈ wdC x, u.oneCell' = true := by intro u hu; simp [wdC] at hu; subst hu; rfl
theorem blC_one (x : Bool) : ∀ u ∈ blC x, u.oneCell' = true := by intro u hu; simp [blC] at hu; subst hu; rfl
theorem infoZ : (Tryz.prog.info? 3).map (fun i => (i.zero, i.size, i.bytes)) = some (some (.int .i64 0), 1, 8) := by kernel_rfl
theorem infoWd : (Tryz.prog.info? 95).map (fun i => (i.zero, i.size, i.bytes)) = some (some (.int .u64 0), 1, 8) := by kernel_rfl
theorem infoBl : (Tryz.prog.info? 4).map (fun i => (i.zero, i.size, i.bytes)) = some (some (.bool false), 1, 1) := by kernel_rfl
theorem flat_inZ (xs : List Int) : xs.flatMap inZ = xs.map (Value.int .i64) := by
  induction xs with
  | nil => rfl
  | cons x xs ih => rw [List.map_cons, List.flatMap_cons, ih]; rfl
theorem flat_wdC (xs : List Int) : xs.flatMap wdC = xs.map (Value.int .u64) := by
  induction xs with
  | nil => rfl
  | cons x xs ih => rw [List.map_cons, List.flatMap_cons, ih]; rfl
theorem flat_blC (xs : List Bool) : xs.flatMap blC = xs.map Value.bool := by
  induction xs with
  | nil => rfl
  | cons x xs ih => rw [List.map_cons, List.flatMap_cons, ih]; rfl
/-- A row of single cells, read. -/
theorem ow_at {α : Type} {f : α → Value} {cs : α → List Value} (hf : ∀ xs : List α, xs.flatMap cs = xs.map f) {e : TypeId} {w : World} {B g n cap : Nat} {xs : List α} (h : OwG cs e 1 w B (.slice (some ⟨g, 0, none⟩) n cap) xs) (j : Nat) (hj : j < xs.length) : w.cell? ⟨g, j, none⟩ = some (f xs[j]) := by
  have hn := (owG_cap h).1
  subst hn
  exact (World.ownsRow.cellAt h j (by omega)).trans (by rw [hf, List.getElem?_map, List.getElem?_eq_getElem hj]; rfl)
/-- The slots that are met from number n on, f at most, and which of them are marked. -/
def rowL (S : AS) (c : Nat) : Nat → Int → List (Int × Bool)
  | 0, _ => []
  | f + 1, n => if liv S n = true then (n, S.word (atC S n c) % 2 == 1) :: rowL S c f (S.word (atC S n c) / 2) else []
theorem rowL_yes {S : AS} {c f : Nat} {n : Int} (h : liv S n = true) : rowL S c (f + 1) n = (n, S.word (atC S n c) % 2 == 1) :: rowL S c f (S.word (atC S n c) / 2) := if_pos h
theorem rowL_no {S : AS} {c f : Nat} {n : Int} (h : liv S n = false) : rowL S c f n = [] := by
  cases f with
  | zero => rfl
  | succ f => exact if_neg (by rw [h]; decide)
theorem rowL_len (S : AS) (c : Nat) : ∀ (f : Nat) (n : Int), (rowL S c f n).length ≤ f
  | 0, _ => by simp [rowL]
  | f + 1, n => by
    by_cases h : liv S n = true
    · rw [rowL_yes h, List.length_cons]
      have := rowL_len S c f (S.word (atC S n c) / 2)
      omega
    · rw [rowL_no (by simpa using h)]
      simp
def rowX (S : AS) (x : XS) (b : Nat) : List (Int × Bool) := rowL S x.cell 4096 (x.hd b / 2)
/-- Those of them that are not marked. -/
def pickL (l : List (Int × Bool)) : List Int := (l.filter (fun p => !p.2)).map (fun p => p.1)
theorem pickL_app (l : List (Int × Bool)) (n : Int) (m : Bool) : pickL (l ++ [(n, m)]) = if m then pickL l else pickL l ++ [n] := by
  unfold pickL
  rw [List.filter_append, List.map_append]
  cases m <;> simp
theorem pickL_len (l : List (Int × Bool)) : (pickL l).length ≤ l.length := by
  unfold pickL
  rw [List.length_map]
  exact List.length_filter_le _ _
theorem eta_gr (S : AS) (h0 : S.g0 = 0) (h : S.rc = 0) : { S with g0 := 0, rc := 0 } = S := by cases S; simp only at h0 h; subst h0; subst h; rfl
theorem arn_peek_no (L : Lay) (S : AS) (w : World) (Q : List Nat) (x : Int) (h : Arn w L Q S) (hx : liv S x = false) : Calls Tryz.prog 84 #[.pointer (some ⟨L.b, 0, none⟩), .int .i64 x] w fun e w' => e = .returned (.tuple #[.slice none 0 0, .int .i64 22]) ∧ Arn w' L Q S ∧ Keeps L.has w w' := by
  refine (peek_no L S w x h.h h.g0 h.rc (liv_no hx)).mono ?_
  rintro e w' ⟨rfl, h2, k2⟩
  rw [eta_gr S h.g0 h.rc] at h2
  exact ⟨rfl, h.same h2 rfl rfl rfl rfl rfl rfl rfl rfl, k2⟩
/-- The words of a slot in a row just made. -/
structure PkW (w : World) (S : AS) (x : Int) (g : Nat) (W : World) : Prop where
  g0 : w.heap.size ≤ g
  g1 : g < W.heap.size
  wd : ∀ j, j < S.wd → W.cell? ⟨g, j, none⟩ = some (.int .u64 (S.word (atC S x j)))
theorem arn_peek (L : Lay) (S : AS) (w : World) (Q : List Nat) (x : Int) (h : Arn w L Q S) (hx : liv S x = true) : Calls Tryz.prog 84 #[.pointer (some ⟨L.b, 0, none⟩), .int .i64 x] w fun e w' => ∃ g, e = .returned (.tuple #[.slice (some ⟨g, 0, none⟩) S.wd S.wd, .int .i64 0]) ∧ (Arn w' L Q S ∧ Keeps L.has w w') ∧ PkW w S x g w' := by
  obtain ⟨k, hk, rfl, hu⟩ := liv_yes hx
  refine (peek_ok L S w k h.h h.g0 h.rc hk hu).mono ?_
  rintro e w' ⟨g, rfl, hp⟩
  have h2 := hp.h
  rw [eta_gr S h.g0 h.rc] at h2
  refine ⟨g, rfl, ⟨h.same h2 rfl rfl rfl rfl rfl rfl rfl rfl, hp.kp⟩, hp.g0, hp.g1, fun j hj => ?_⟩
  rw [atC_of]
  exact hp.lo j hj
end Go.Proofs.YtdjklcmkcccpeaaGreat

namespace Go.Proofs.YtdjklcmkcccpeaaGreat
set_option linter.unusedSimpArgs false
open Go.ChangeShapes Go.WideShapes Go.ChangeAt Go.RowKit Go.MuLone Go.RwLone
set_option linter.unusedVariables false
set_option maxRecDepth 100000
set_option maxHeartbeats 6400000
/-- The document's Peek. -/
theorem ra_peek_no (w : World) (R : RL) (cap : Nat) (qv : Value) (Q : List Nat) (S : AS) (x : Int) (h : RAr w R cap qv Q S) (hx : liv S x = false) : Calls Tryz.prog 165 #[.pointer (some ⟨R.b, 0, none⟩), .int .i64 x] w fun e w' => e = .returned (.tuple #[.slice none 0 0, .int .i64 22]) ∧ w' = w := by
  have HU : Hid (∀ _ : Unit, _) := fun _ => ra_used w R cap qv Q S x h
  rw [hx] at HU
  clear h hx
  go_enter Tryz.func165, Tryz.ntmps165
  go_wp2_with fail
  refine (HU.out ()).mono ?_
  rintro e w1 ⟨rfl, hw1⟩
  rw [hw1]
  clear hw1 w1 HU
  go_wp2
  go_ret2
  exact ⟨rfl, rfl⟩
def wdsL (S : AS) (k t : Nat) : List Int := (List.range t).map (fun j => S.word (k * S.wd + j))
theorem wdsL_len (S : AS) (k t : Nat) : (wdsL S k t).length = t := by simp [wdsL]
theorem wdsL_succ (S : AS) (k t : Nat) : wdsL S k (t + 1) = wdsL S k t ++ [S.word (k * S.wd + t)] := by
  unfold wdsL
  rw [List.range_succ, List.map_append]
  rfl
theorem ra_peek (w : World) (R : RL) (cap : Nat) (qv : Value) (Q : List Nat) (S : AS) (x : Int) (h : RAr w R cap qv Q S) (hx : liv S x = true) : Calls Tryz.prog 165 #[.pointer (some ⟨R.b, 0, none⟩), .int .i64 x] w fun e w' => ∃ g cap, e = .returned (.tuple #[.slice (some ⟨g, 0, none⟩) S.wd cap, .int .i64 0]) ∧ (PkW w S x g w' ∧ ∃ c, w'.heap[g]? = some (.cells c 95)) ∧ Below w.heap.size w w' := by
  have HU : Hid (∀ _ : Unit, _) := fun _ => ra_used w R cap qv Q S x h
  rw [hx] at HU
  obtain ⟨k, hk, hxk, hu⟩ := liv_yes hx
  subst hxk
  have hz := h.hn.2
  have hwd := h.hw.2
  have hw1 := h.hw.1
  have HC : Hid (∀ W : World, Below w.heap.size w W → W.cell? ⟨R.b, 0, none⟩ = some (.int .i64 (S.wd : Int)) ∧ W.cell? ⟨R.b, 1, none⟩ = some (.slice (some ⟨R.s, 0, none⟩) (S.n + 1) cap) ∧ W.cell? ⟨R.s, (k + 1) * 6 + 4, none⟩ = some (.slice (some ⟨R.wb k, 0, none⟩) S.wd S.wd) ∧ ∀ j, j < S.wd → W.cell? ⟨R.wb k, j, none⟩ = some (.int .u64 (S.word (k * S.wd + j)))) := fun W b =>
    ⟨(b.cell (p := ⟨R.b, 0, none⟩) h.lb).trans h.c0, (b.cell (p := ⟨R.b, 1, none⟩) h.lb).trans h.c1, (b.cell (p := ⟨R.s, (k + 1) * 6 + 4, none⟩) h.ls).trans (h.wy k hk hu), fun j hj => (b.cell (p := ⟨R.wb k, j, none⟩) (h.lw k hk hu)).trans (h.wo k hk hu j hj)⟩
  have k0 : (0 : Int) ≤ (k : Int) + 1 := by omega
  have k1 : (k : Int) + 1 < (S.n : Int) + 1 := by omega
  have HAC : Hid (∀ j, atC S ((k : Int) + 1) j = k * S.wd + j) := fun j => atC_of S k j
  clear h hx hu
  go_enter Tryz.func165, Tryz.ntmps165
  go_wp2_with fail
  refine (HU.out ()).mono ?_
  rintro e w1 ⟨rfl, hw1⟩
  rw [hw1]
  clear hw1 w1 HU
  go_wp2_with fail
  go_loopw [7, 8] (fun v i wr => ∃ t : Nat, t ≤ S.wd ∧ i = .int .i64 (t : Int) ∧ OwW wr w.heap.size v (wdsL S k t) ∧ Below w.heap.size w wr) (fun _ i _ => S.wd - (intOf i).toNat)
  case atStart => exact ⟨0, by omega, rfl, OwG.nil _ _ _ _ _, Below.refl _ _⟩
  case round =>
    obtain ⟨t, ht, rfl, ho, hb⟩ := hrel
    obtain ⟨sp, cp, hsp⟩ := ho.form
    rw [wdsL_len] at hsp
    subst hsp
    obtain ⟨d0, d1, d2, d3⟩ := HC.out wr hb
    have HO : Hid (OwW wr w.heap.size (.slice sp t cp) (wdsL S k t) ∧ Below w.heap.size w wr) := ⟨ho, hb⟩
    have hll := wdsL_len S k t
    clear ho hb
    by_cases h5 : t < S.wd
    · have t0 : (0 : Int) ≤ (t : Int) := Int.natCast_nonneg _
      have t1 : (t : Int) < (S.wd : Int) := by omega
      have d4 := d3 t h5
      clear d3
      obtain ⟨q, hq⟩ : ∃ q, S.word (k * S.wd + t) = q := ⟨_, rfl⟩
      have HQ : Hid (wdsL S k (t + 1) = wdsL S k t ++ [q]) := by rw [← hq]; exact wdsL_succ S k t
      rw [hq] at d4
      generalize wdsL S k t = xs at *
      go_wp2_with (at_builtin; refine hideG ?_)
      change wpList _ _ _ _ _ _
      refine app_one (cs := wdC) (wr := wr) (by rfl) _ _ 151 95 (by rfl) Tryz.underlying151 infoWd rfl (by decide) (fun _ => rfl) w.heap.size _ xs q HO.out.1 (by rfl) wr.heap.size rfl (by rfl) (wdC_one _) _ rfl (by unfold maxLen; omega) (by omega) HO.out.2.size ?_
      intro v' w3 ho3 hb3 hk3
      have HN : Hid (OwW w3 w.heap.size v' (wdsL S k (t + 1)) ∧ Below w.heap.size w w3) := by
        show _ ∧ _
        rw [HQ.out]
        exact ⟨ho3, HO.out.2.trans hb3⟩
      clear ho3 hb3 hk3 HO d0 d1 d2 d4 hq
      go_wp2
      go_roundw
      case rel => exact ⟨t + 1, by omega, by go_num, HN.out⟩
      case measure => simp [intOf]; omega
    · have e5 : t = S.wd := by omega
      clear d3
      have HF : Hid (∃ g, sp = some ⟨g, 0, none⟩ ∧ PkW w S ((k : Int) + 1) g wr ∧ ∃ c, wr.heap[g]? = some (.cells c 95)) := by
        obtain ⟨g, cp2, e2, g1, g2⟩ := owG_some HO.out.1 (by intro e; rw [e] at hll; simp at hll; omega)
        injection e2 with e2 _ _
        have ho := HO.out.1
        rw [e2] at ho
        refine ⟨g, e2, ⟨g1, g2, fun j hj => ?_⟩, blk ho rfl⟩
        have := ow_at flat_wdC ho j (by omega)
        rw [this, HAC.out]
        simp [wdsL]
      subst e5
      go_wp2
      go_ret2
      obtain ⟨g, rfl, hp⟩ := HF.out
      exact ⟨g, cp, rfl, hp, HO.out.2⟩
end Go.Proofs.YtdjklcmkcccpeaaGreat

namespace Go.Proofs.YtdjklcmkcccpeaaGreat
set_option linter.unusedSimpArgs false
open Go.ChangeShapes Go.WideShapes Go.ChangeAt Go.RowKit Go.MuLone Go.RwLone
set_option linter.unusedVariables false
set_option maxRecDepth 100000
set_option maxHeartbeats 6400000
def lenV : Value → Nat | .slice _ n _ => n | _ => 0
/-- What the document's Row holds when it stands at number n. -/
structure RoW (w wr : World) (S : AS) (c : Nat) (n0 n : Int) (lv mv : Value) (pre : List (Int × Bool)) : Prop where
  n1 : 0 ≤ n
  n2 : n ≤ 2147483647
  e : rowL S c 4096 n0 = pre ++ rowL S c (4096 - pre.length) n
  l : pre.length ≤ 4096
  ol : OwI wr w.heap.size lv (pre.map (fun p => p.1))
  om : OwB wr w.heap.size mv (pre.map (fun p => p.2))
  b : Below w.heap.size w wr
theorem RoW.end {w wr : World} {S : AS} {c : Nat} {n0 n : Int} {lv mv : Value} {pre : List (Int × Bool)} (h : RoW w wr S c n0 n lv mv pre) (hn : liv S n = false ∨ pre.length = 4096) : rowL S c 4096 n0 = pre := by
  rcases hn with e | e
  · rw [h.e, rowL_no e, List.append_nil]
  · rw [h.e, e]
    exact List.append_nil _
theorem RoW.step {w wr : World} {S : AS} {c : Nat} {n0 n : Int} {lv mv : Value} {pre : List (Int × Bool)} (h : RoW w wr S c n0 n lv mv pre) (hl : liv S n = true) (hp : pre.length < 4096) : rowL S c 4096 n0 = (pre ++ [(n, S.word (atC S n c) % 2 == 1)]) ++ rowL S c (4096 - (pre ++ [(n, S.word (atC S n c) % 2 == 1)]).length) (S.word (atC S n c) / 2) := by
  rw [h.e, show 4096 - pre.length = (4096 - (pre.length + 1)) + 1 from by omega, rowL_yes hl, List.append_assoc, List.length_append]
  rfl
/-- The document's Row. -/
theorem rx_row (w : World) (R : RL) (cap : Nat) (qv : Value) (Q : List Nat) (S : AS) (X : XL) (hc : Nat) (x : XS) (b : Nat) (hb : b < x.nb) (h : RC w R cap qv Q S X hc x) (hk : WdOk S x) : Calls Tryz.prog 206 #[.pointer (some ⟨X.x, 0, none⟩), .int .i64 (b : Int)] w fun e w' => ∃ v1 v2, e = .returned (.tuple #[v1, v2]) ∧ (OwI w' w.heap.size v1 ((rowX S x b).map (fun p => p.1)) ∧ OwB w' w.heap.size v2 ((rowX S x b).map (fun p => p.2))) ∧ Below w.heap.size w w' := by
  have hh := hk.2 b hb
  have HC : Hid (∀ W, Below w.heap.size w W → RC W R cap qv Q S X hc x) := fun W bw => h.keeps (Below.keeps bw (fun _ => False)) (fun _ _ e => e)
  have HK : Hid (∀ i, LkOk (S.word i)) := hk.1
  have c2 := h.i.c2
  have hd := h.i.hd b hb
  have b0 : (0 : Int) ≤ (b : Int) := Int.natCast_nonneg _
  have b1 : (b : Int) < (x.nb : Int) := by omega
  have hnb := h.i.nb
  have hsn := h.a.hn.2
  have hcw := h.c
  have hwd := h.a.hw.2
  obtain ⟨v0, hv0⟩ : ∃ v0, x.hd b = v0 := ⟨_, rfl⟩
  have HX : Hid (rowX S x b = rowL S x.cell 4096 (v0 / 2)) := by rw [← hv0]; rfl
  rw [hv0] at hd hh
  have HN : Hid (∀ (v : Int) (W : World), LkOk v → Calls Tryz.prog 198 #[.int .u64 v] W fun e w' => e = .returned (.int .i64 (v / 2)) ∧ w' = W) := fun v W hv => rnumber_any v W hv
  have HM : Hid (∀ (v : Int) (W : World), LkOk v → Calls Tryz.prog 199 #[.int .u64 v] W fun e w' => e = .returned (.bool (v % 2 == 1)) ∧ w' = W) := fun v W hv => rmarked_any v W hv
  have HV : Hid (LkOk v0) := hh
  clear h hk hh hv0
  go_enter Tryz.func206, Tryz.ntmps206
  go_wp2_with fail
  refine (HN.out v0 w HV.out).mono ?_
  rintro e w1 ⟨rfl, hw1⟩
  rw [hw1]
  clear hw1 w1 c2 hd
  go_wp2_with fail
  go_loopw [6, 7, 8] (fun lv mv nv wr => ∃ (pre : List (Int × Bool)) (n : Int), nv = .int .i64 n ∧ RoW w wr S x.cell (v0 / 2) n lv mv pre) (fun lv _ _ _ => 4096 - lenV lv)
  case atStart => exact ⟨[], v0 / 2, rfl, by have := HV.out.1; omega, by have := HV.out.2; omega, rfl, by simp, OwG.nil _ _ _ _ _, OwG.nil _ _ _ _ _, Below.refl _ _⟩
  case round =>
    obtain ⟨pre, n, rfl, hR⟩ := hrel
    obtain ⟨la, lc, hla⟩ := hR.ol.form
    obtain ⟨ma, mc, hma⟩ := hR.om.form
    rw [List.length_map] at hla hma
    subst hla hma
    have HR : Hid (RoW w wr S x.cell (v0 / 2) n (.slice la pre.length lc) (.slice ma pre.length mc) pre) := hR
    have n1 := hR.n1
    have n2 := hR.n2
    have pl := hR.l
    clear hR
    have HE : Hid (∀ W : World, Calls Tryz.prog 222 #[.int .i64 n] W fun e w' => e = .returned (.bool (decide (4096 < n))) ∧ w' = W) := fun W => rend_any n W
    by_cases e0 : n = 0
    · subst e0
      have HF : Hid (rowX S x b = pre) := by
        show _ = _
        rw [HX.out]
        exact HR.out.end (.inl (by simp [liv]))
      go_wp2
      go_ret2
      have r := HR.out
      exact ⟨_, _, rfl, ⟨by rw [HF.out]; exact r.ol, by rw [HF.out]; exact r.om⟩, r.b⟩
    · have e1 : n > 0 := by omega
      by_cases e2 : 4096 < n
      · have HF : Hid (rowX S x b = pre) := by
          show _ = _
          rw [HX.out]
          exact HR.out.end (.inl (by unfold liv; rw [decide_eq_false (show ¬ n ≤ (S.n : Int) by omega)]; simp))
        rw [decide_eq_true e2] at HE
        go_wp2_with fail
        refine (HE.out wr).mono ?_
        rintro e w1 ⟨rfl, hw1⟩
        rw [hw1]
        clear hw1 w1
        go_wp2
        go_ret2
        have r := HR.out
        exact ⟨_, _, rfl, ⟨by rw [HF.out]; exact r.ol, by rw [HF.out]; exact r.om⟩, r.b⟩
      · rw [decide_eq_false e2] at HE
        by_cases e3 : pre.length < 4096
        · have e4 : (pre.length : Int) < 4096 := by omega
          have d0 := (HC.out wr HR.out.b).i.c0
          have d1 := (HC.out wr HR.out.b).i.c1
          cases hl : liv S n with
          | false =>
            have HF : Hid (rowX S x b = pre) := by
              show _ = _
              rw [HX.out]
              exact HR.out.end (.inl hl)
            have HP : Hid (∀ _ : Unit, _) := fun _ => ra_peek_no wr R cap qv Q S n (HC.out wr HR.out.b).a hl
            clear hl
            go_wp2_with fail
            refine (HE.out wr).mono ?_
            rintro e w1 ⟨rfl, hw1⟩
            rw [hw1]
            clear hw1 w1
            go_wp2_with fail
            refine (HP.out ()).mono ?_
            rintro e w1 ⟨rfl, hw1⟩
            rw [hw1]
            clear hw1 w1
            go_wp2
            go_ret2
            have r := HR.out
            exact ⟨_, _, rfl, ⟨by rw [HF.out]; exact r.ol, by rw [HF.out]; exact r.om⟩, r.b⟩
          | true =>
            have HS : Hid (∀ _ : Unit, _) := fun _ => HR.out.step hl e3
            have HP : Hid (∀ _ : Unit, _) := fun _ => ra_peek wr R cap qv Q S n (HC.out wr HR.out.b).a hl
            obtain ⟨v, hv⟩ : ∃ v, S.word (atC S n x.cell) = v := ⟨_, rfl⟩
            have HVn : Hid (LkOk v) := by rw [← hv]; exact HK.out _
            rw [hv] at HS
            have HVV : Hid (S.word (atC S n x.cell) = v) := hv
            have cw1 : (x.cell : Int) < (S.wd : Int) := by omega
            have cw0 : (0 : Int) ≤ (x.cell : Int) := Int.natCast_nonneg _
            clear hl hv
            go_wp2_with fail
            refine (HE.out wr).mono ?_
            rintro e w1 ⟨rfl, hw1⟩
            rw [hw1]
            clear hw1 w1
            go_wp2_with fail
            refine (HP.out ()).mono ?_
            rintro e w3 ⟨g, gc, rfl, ⟨pk, tc, hty⟩, b3⟩
            have H3 : Hid (w3.cell? ⟨g, x.cell, none⟩ = some (.int .u64 v) ∧ w3.heap[g]? = some (.cells tc 95) ∧ OwI w3 w.heap.size (.slice la pre.length lc) (pre.map (fun p => p.1)) ∧ OwB w3 w.heap.size (.slice ma pre.length mc) (pre.map (fun p => p.2)) ∧ Below w.heap.size w w3 ∧ w3.heap.size = w3.heap.size) := by
              refine ⟨by rw [pk.wd x.cell hcw, HVV.out], hty, HR.out.ol.later b3, HR.out.om.later b3, HR.out.b.trans (b3.mono HR.out.b.size), rfl⟩
            clear pk hty b3 d0 d1 HP HE
            go_wp2_with (at_builtin; refine hideG ?_)
            change wpList _ _ _ _ _ _
            refine app_one (cs := inZ) (wr := w3) (by rfl) _ _ 31 3 (by rfl) Tryz.underlying31 infoZ rfl (by decide) (fun _ => rfl) w.heap.size _ (pre.map (fun p => p.1)) n H3.out.2.2.1 (by rfl) w3.heap.size rfl (by rfl) (inZ_one _) _ rfl (by rw [List.length_map]; unfold maxLen; omega) (by rw [List.length_map]; omega) H3.out.2.2.2.2.1.size ?_
            intro v4 w4 ho4 hb4 hk4
            obtain ⟨l4, c4, hl4⟩ := ho4.form
            rw [List.length_append, List.length_map] at hl4
            subst hl4
            have H4 : Hid (w4.heap[g]? = some (.cells tc 95) ∧ OwI w4 w.heap.size (.slice l4 (pre.length + 1) c4) (pre.map (fun p => p.1) ++ [n]) ∧ OwB w4 w.heap.size (.slice ma pre.length mc) (pre.map (fun p => p.2)) ∧ Below w.heap.size w w4) := by
              obtain ⟨a1, a2, a3, a4, a5, _⟩ := H3.out
              exact ⟨(hk4 g tc _ _ a2 (by decide)).trans a2, ho4, a4.kept hk4 (by decide), a5.trans hb4⟩
            have g4 : w4.cell? ⟨g, x.cell, none⟩ = some (.int .u64 v) := by
              have e5 := H3.out.1
              rw [cell?_heap H3.out.2.1] at e5
              rw [cell?_heap H4.out.1]
              exact e5
            have d1 := (HC.out w4 H4.out.2.2.2).i.c1
            clear ho4 hb4 hk4 H3
            go_wp2_with fail
            refine (HM.out v w4 HVn.out).mono ?_
            rintro e w1 ⟨rfl, hw1⟩
            rw [hw1]
            clear hw1 w1
            obtain ⟨mb, hmb⟩ : ∃ mb, (v % 2 == 1) = mb := ⟨_, rfl⟩
            rw [hmb]
            rw [hmb] at HS
            clear hmb
            go_wp2_with (at_builtin; refine hideG ?_)
            change wpList _ _ _ _ _ _
            refine app_one (cs := blC) (wr := w4) (by rfl) _ _ 271 4 (by rfl) Tryz.underlying271 infoBl rfl (by decide) (fun _ => rfl) w.heap.size _ (pre.map (fun p => p.2)) mb H4.out.2.2.1 (by rfl) w4.heap.size rfl (by rfl) (blC_one _) _ rfl (by rw [List.length_map]; unfold maxLen; omega) (by rw [List.length_map]; omega) H4.out.2.2.2.size ?_
            intro v5 w5 ho5 hb5 hk5
            obtain ⟨l5, c5, hl5⟩ := ho5.form
            rw [List.length_append, List.length_map] at hl5
            subst hl5
            have H5 : Hid (w5.heap[g]? = some (.cells tc 95) ∧ OwI w5 w.heap.size (.slice l4 (pre.length + 1) c4) (pre.map (fun p => p.1) ++ [n]) ∧ OwB w5 w.heap.size (.slice l5 (pre.length + 1) c5) (pre.map (fun p => p.2) ++ [mb]) ∧ Below w.heap.size w w5) := by
              obtain ⟨a1, a2, a3, a4⟩ := H4.out
              exact ⟨(hk5 g tc _ _ a1 (by decide)).trans a1, a2.kept hk5 (by decide), ho5, a4.trans hb5⟩
            have g5 : w5.cell? ⟨g, x.cell, none⟩ = some (.int .u64 v) := by
              rw [cell?_heap H4.out.1] at g4
              rw [cell?_heap H5.out.1]
              exact g4
            clear d1 g4
            have d1 := (HC.out w5 H5.out.2.2.2).i.c1
            clear ho5 hb5 hk5 H4
            go_wp2_with fail
            refine (HN.out v w5 HVn.out).mono ?_
            rintro e w1 ⟨rfl, hw1⟩
            rw [hw1]
            clear hw1 w1
            have HZ : Hid (RoW w w5 S x.cell (v0 / 2) (v / 2) (.slice l4 (pre.length + 1) c4) (.slice l5 (pre.length + 1) c5) (pre ++ [(n, mb)])) := by
              obtain ⟨a1, a2, a3, a4⟩ := H5.out
              exact ⟨by have := HVn.out.1; omega, by have := HVn.out.2; omega, HS.out (), by rw [List.length_append]; simp; omega, by rw [List.map_append]; exact a2, by rw [List.map_append]; exact a3, a4⟩
            clear g5 d1 H5
            go_wp2
            go_roundw
            case rel => exact ⟨_, _, rfl, HZ.out⟩
            case measure => simp [lenV]; omega
        · have e4 : ¬ (pre.length : Int) < 4096 := by omega
          have HF : Hid (rowX S x b = pre) := by
            show _ = _
            rw [HX.out]
            exact HR.out.end (.inr (by omega))
          go_wp2_with fail
          refine (HE.out wr).mono ?_
          rintro e w1 ⟨rfl, hw1⟩
          rw [hw1]
          clear hw1 w1
          go_wp2
          go_ret2
          have r := HR.out
          exact ⟨_, _, rfl, ⟨by rw [HF.out]; exact r.ol, by rw [HF.out]; exact r.om⟩, r.b⟩
end Go.Proofs.YtdjklcmkcccpeaaGreat

namespace Go.Proofs.YtdjklcmkcccpeaaGreat
set_option linter.unusedSimpArgs false
open Go.ChangeShapes Go.WideShapes Go.ChangeAt Go.RowKit Go.MuLone Go.RwLone
set_option linter.unusedVariables false
set_option maxRecDepth 100000
set_option maxHeartbeats 6400000
theorem pickL_take {rs : List (Int × Bool)} {t : Nat} (h : t < rs.length) : pickL (rs.take (t + 1)) = if rs[t].2 then pickL (rs.take t) else pickL (rs.take t) ++ [rs[t].1] := by
  rw [List.take_succ_eq_append_getElem h]
  exact pickL_app _ _ _
theorem rx_list_no (w : World) (R : RL) (cap : Nat) (qv : Value) (Q : List Nat) (S : AS) (X : XL) (hc : Nat) (x : XS) (b : Int) (hb : inB x b = false) (h : RC w R cap qv Q S X hc x) : Calls Tryz.prog 161 #[.pointer (some ⟨X.x, 0, none⟩), .int .i64 b] w fun e w' => e = .returned (.tuple #[.slice none 0 0, .int .i64 40]) ∧ w' = w := by
  have HH : Hid (∀ _ : Unit, _) := fun _ => rx_has w R.b X hc x b h.i
  rw [hb] at HH
  clear h hb
  go_enter Tryz.func161, Tryz.ntmps161
  go_wp2_with fail
  refine (HH.out ()).mono ?_
  rintro e w1 ⟨rfl, hw1⟩
  rw [hw1]
  clear hw1 w1 HH
  go_wp2
  go_ret2
  exact ⟨rfl, rfl⟩
theorem rx_held_no (w : World) (R : RL) (cap : Nat) (qv : Value) (Q : List Nat) (S : AS) (X : XL) (hc : Nat) (x : XS) (b : Int) (hb : inB x b = false) (h : RC w R cap qv Q S X hc x) : Calls Tryz.prog 162 #[.pointer (some ⟨X.x, 0, none⟩), .int .i64 b] w fun e w' => e = .returned (.tuple #[.int .i64 0, .int .i64 40]) ∧ w' = w := by
  have HH : Hid (∀ _ : Unit, _) := fun _ => rx_has w R.b X hc x b h.i
  rw [hb] at HH
  clear h hb
  go_enter Tryz.func162, Tryz.ntmps162
  go_wp2_with fail
  refine (HH.out ()).mono ?_
  rintro e w1 ⟨rfl, hw1⟩
  rw [hw1]
  clear hw1 w1 HH
  go_wp2
  go_ret2
  exact ⟨rfl, rfl⟩
theorem rx_held (w : World) (R : RL) (cap : Nat) (qv : Value) (Q : List Nat) (S : AS) (X : XL) (hc : Nat) (x : XS) (b : Nat) (hb : b < x.nb) (h : RC w R cap qv Q S X hc x) (hk : WdOk S x) : Calls Tryz.prog 162 #[.pointer (some ⟨X.x, 0, none⟩), .int .i64 (b : Int)] w fun e w' => e = .returned (.tuple #[.int .i64 ((rowX S x b).length : Int), .int .i64 0]) ∧ Below w.heap.size w w' := by
  have HH : Hid (∀ _ : Unit, _) := fun _ => rx_has w R.b X hc x (b : Int) h.i
  rw [inB_of x b hb] at HH
  have HR : Hid (∀ _ : Unit, _) := fun _ => rx_row w R cap qv Q S X hc x b hb h hk
  clear h hk
  go_enter Tryz.func162, Tryz.ntmps162
  go_wp2_with fail
  refine (HH.out ()).mono ?_
  rintro e w1 ⟨rfl, hw1⟩
  rw [hw1]
  clear hw1 w1 HH
  go_wp2_with fail
  refine (HR.out ()).mono ?_
  rintro e w2 ⟨v1, v2, rfl, ⟨o1, o2⟩, b2⟩
  obtain ⟨la, lc, hla⟩ := o1.form
  rw [List.length_map] at hla
  subst hla
  have HB : Hid (Below w.heap.size w w2) := b2
  clear o1 o2 b2 HR
  go_wp2
  go_ret2
  exact ⟨rfl, HB.out⟩
theorem rx_list (w : World) (R : RL) (cap : Nat) (qv : Value) (Q : List Nat) (S : AS) (X : XL) (hc : Nat) (x : XS) (b : Nat) (hb : b < x.nb) (h : RC w R cap qv Q S X hc x) (hk : WdOk S x) : Calls Tryz.prog 161 #[.pointer (some ⟨X.x, 0, none⟩), .int .i64 (b : Int)] w fun e w' => ∃ v, e = .returned (.tuple #[v, .int .i64 0]) ∧ OwI w' w.heap.size v (pickL (rowX S x b)) ∧ Below w.heap.size w w' := by
  have HH : Hid (∀ _ : Unit, _) := fun _ => rx_has w R.b X hc x (b : Int) h.i
  rw [inB_of x b hb] at HH
  have HR : Hid (∀ _ : Unit, _) := fun _ => rx_row w R cap qv Q S X hc x b hb h hk
  have hlen : (rowX S x b).length ≤ 4096 := rowL_len _ _ _ _
  generalize rowX S x b = rs at *
  clear h hk
  go_enter Tryz.func161, Tryz.ntmps161
  go_wp2_with fail
  refine (HH.out ()).mono ?_
  rintro e w1 ⟨rfl, hw1⟩
  rw [hw1]
  clear hw1 w1 HH
  go_wp2_with fail
  refine (HR.out ()).mono ?_
  rintro e w2 ⟨v1, v2, rfl, ⟨o1, o2⟩, b2⟩
  obtain ⟨la, lc, hla⟩ := o1.form
  rw [List.length_map] at hla
  subst hla
  obtain ⟨ma, mc, hma⟩ := o2.form
  rw [List.length_map] at hma
  subst hma
  have HB : Hid (Below w.heap.size w w2) := b2
  have HC : Hid (∀ W, Below w2.heap.size w2 W → ∀ t (ht : t < rs.length), ∃ g g', la = some ⟨g, 0, none⟩ ∧ ma = some ⟨g', 0, none⟩ ∧ W.cell? ⟨g, t, none⟩ = some (.int .i64 rs[t].1) ∧ W.cell? ⟨g', t, none⟩ = some (.bool rs[t].2)) := fun W bW t ht => by
    have hne : rs.map (fun p => p.1) ≠ [] := by intro e; have := congrArg List.length e; simp at this; rw [this] at ht; simp at ht
    have hne2 : rs.map (fun p => p.2) ≠ [] := by intro e; have := congrArg List.length e; simp at this; rw [this] at ht; simp at ht
    obtain ⟨g, c1, e1, _, l1⟩ := owG_some o1 hne
    obtain ⟨g', c2, e2, _, l2⟩ := owG_some o2 hne2
    injection e1 with e1 _ _
    injection e2 with e2 _ _
    subst e1 e2
    refine ⟨g, g', rfl, rfl, ?_, ?_⟩
    · rw [bW.cell (p := ⟨g, t, none⟩) l1, ow_at flat_inZ o1 t (by simpa using ht)]
      simp
    · rw [bW.cell (p := ⟨g', t, none⟩) l2, ow_at flat_blC o2 t (by simpa using ht)]
      simp
  clear o1 o2 b2 HR
  go_wp2_with fail
  go_loopw [8, 9] (fun v i wr => ∃ t : Nat, t ≤ rs.length ∧ i = .int .i64 (t : Int) ∧ OwI wr w2.heap.size v (pickL (rs.take t)) ∧ Below w2.heap.size w2 wr) (fun _ i _ => rs.length - (intOf i).toNat)
  case atStart => exact ⟨0, by omega, rfl, OwG.nil _ _ _ _ _, Below.refl _ _⟩
  case round =>
    obtain ⟨t, ht, rfl, ho, hb2⟩ := hrel
    obtain ⟨sp, cp, hsp⟩ := ho.form
    subst hsp
    have HO : Hid (OwI wr w2.heap.size (.slice sp (pickL (rs.take t)).length cp) (pickL (rs.take t)) ∧ Below w2.heap.size w2 wr) := ⟨ho, hb2⟩
    have hpl : (pickL (rs.take t)).length ≤ 4096 := by have := pickL_len (rs.take t); rw [List.length_take] at this; omega
    clear ho
    by_cases h5 : t < rs.length
    · have t0 : (0 : Int) ≤ (t : Int) := Int.natCast_nonneg _
      have t1 : (t : Int) < (rs.length : Int) := by omega
      obtain ⟨g, g', rfl, rfl, d1, d2⟩ := HC.out wr hb2 t h5
      have HT := pickL_take h5
      obtain ⟨n, hn⟩ : ∃ n, rs[t].1 = n := ⟨_, rfl⟩
      rw [hn] at d1 HT
      clear hb2
      cases hm : rs[t].2 with
      | true =>
        rw [hm] at d2 HT
        have HE : Hid (pickL (rs.take (t + 1)) = pickL (rs.take t)) := HT
        clear HT hn hm
        generalize pickL (rs.take t) = xs at *
        go_wp2
        go_roundw
        case rel => exact ⟨t + 1, by omega, by go_num, by rw [HE.out]; exact HO.out.1, HO.out.2⟩
        case measure => simp [intOf]; omega
      | false =>
        rw [hm] at d2 HT
        have HE : Hid (pickL (rs.take (t + 1)) = pickL (rs.take t) ++ [n]) := HT
        clear HT hn hm
        generalize pickL (rs.take t) = xs at *
        go_wp2_with (at_builtin; refine hideG ?_)
        change wpList _ _ _ _ _ _
        refine app_one (cs := inZ) (wr := wr) (by rfl) _ _ 31 3 (by rfl) Tryz.underlying31 infoZ rfl (by decide) (fun _ => rfl) w2.heap.size _ xs n HO.out.1 (by rfl) wr.heap.size rfl (by rfl) (inZ_one _) _ rfl (by unfold maxLen; omega) (by omega) HO.out.2.size ?_
        intro v' w3 ho3 hb3 hk3
        have HN : Hid (OwI w3 w2.heap.size v' (pickL (rs.take (t + 1))) ∧ Below w2.heap.size w2 w3) := by
          show _ ∧ _
          rw [HE.out]
          exact ⟨ho3, HO.out.2.trans hb3⟩
        clear ho3 hb3 hk3 HO d1 d2
        go_wp2
        go_roundw
        case rel => exact ⟨t + 1, by omega, by go_num, HN.out⟩
        case measure => simp [intOf]; omega
    · have e5 : t = rs.length := by omega
      subst e5
      rw [List.take_length] at HO
      obtain ⟨xs, hxs⟩ : ∃ xs, pickL rs = xs := ⟨_, rfl⟩
      have HXS : Hid (pickL rs = xs) := hxs
      rw [hxs] at HO
      rw [List.take_length, hxs] at hpl
      rw [List.take_length, hxs]
      clear hxs
      go_wp2
      go_ret2
      refine ⟨_, rfl, ?_, HB.out.trans (HO.out.2.mono HB.out.size)⟩
      rw [HXS.out]
      exact HO.out.1.down HB.out.size
end Go.Proofs.YtdjklcmkcccpeaaGreat

namespace Go.Proofs.YtdjklcmkcccpeaaGreat
set_option linter.unusedSimpArgs false
open Go.ChangeShapes Go.WideShapes Go.ChangeAt Go.RowKit Go.MuLone Go.RwLone
set_option linter.unusedVariables false
set_option maxRecDepth 100000
set_option maxHeartbeats 6400000
/-- A new queue. -/
theorem RAr.setQ {w : World} {R : RL} {cap : Nat} {qv v : Value} {Q Q' : List Nat} {S : AS} (h : RAr w R cap qv Q S) (o : OwI w 0 v (Q'.map qZ)) (hb : ∀ g, v.ownBlock = some g → g ≠ R.b ∧ g ≠ R.s ∧ ¬ R.ws S g) : RAr (w.setCell ⟨R.b, 2, none⟩ v) R cap v Q' S := by
  have ob : ∀ i, i ≠ 2 → (w.setCell ⟨R.b, 2, none⟩ v).cell? ⟨R.b, i, none⟩ = w.cell? ⟨R.b, i, none⟩ := fun i hi => World.cell?_setCell_other _ _ _ _ (fun e => hi (congrArg Addr.off e).symm)
  have os : ∀ g i, g ≠ R.b → (w.setCell ⟨R.b, 2, none⟩ v).cell? ⟨g, i, none⟩ = w.cell? ⟨g, i, none⟩ := fun g i hg => World.cell?_setCell_other _ _ _ _ (fun e => hg (congrArg Addr.block e).symm)
  have k : Keeps (fun g => g = R.b) w (w.setCell ⟨R.b, 2, none⟩ v) := setB
  exact ⟨(ob 0 (by decide)).trans h.c0, (ob 1 (by decide)).trans h.c1, World.cell?_setCell_same _ _ _ h.c2, (ob 3 (by decide)).trans h.c3, (ob 4 (by decide)).trans h.c4, fun i hi => (os _ _ (Ne.symm h.bs)).trans (h.us i hi), fun i hi => (os _ _ (Ne.symm h.bs)).trans (h.nm i hi), fun i hi => (os _ _ (Ne.symm h.bs)).trans (h.dt i hi), fun i hi => (os _ _ (Ne.symm h.bs)).trans (h.tl i hi), fun i hi hu => (os _ _ (Ne.symm h.bs)).trans (h.wy i hi hu), fun i hi hu => (os _ _ (Ne.symm h.bs)).trans (h.wn i hi hu), fun i hi => (os _ _ (Ne.symm h.bs)).trans (h.tn i hi), fun i hi hu j hj => (os _ _ (h.bw i hi hu).1).trans (h.wo i hi hu j hj), owK o k (fun g hg => (hb g hg).1), fun j => by simpa using h.fb j, fun j => by simpa using h.fs j, fun i hi hu j => by simpa using h.fw i hi hu j, by simpa using h.lb, by simpa using h.ls, fun i hi hu => by simpa using h.lw i hi hu, h.bs, h.bw, h.ww, hb, h.hn, h.hw⟩
/-- Six cells stored. -/
def set6 (w : World) (s o : Nat) (c0 c1 c2 c3 c4 c5 : Value) : World := (((((w.setCell ⟨s, o, none⟩ c0).setCell ⟨s, o + 1, none⟩ c1).setCell ⟨s, o + 2, none⟩ c2).setCell ⟨s, o + 3, none⟩ c3).setCell ⟨s, o + 4, none⟩ c4).setCell ⟨s, o + 5, none⟩ c5
theorem set6_keeps (w : World) (s o : Nat) (c0 c1 c2 c3 c4 c5 : Value) : Keeps (fun g => g = s) w (set6 w s o c0 c1 c2 c3 c4 c5) := setK (setK (setK (setK (setK (setK (Keeps.refl _ _))))))
theorem set6_out (w : World) (s o : Nat) (c0 c1 c2 c3 c4 c5 : Value) (i : Nat) (hi : i < o ∨ o + 6 ≤ i) : (set6 w s o c0 c1 c2 c3 c4 c5).cell? ⟨s, i, none⟩ = w.cell? ⟨s, i, none⟩ := by
  have ne : ∀ j, j < 6 → (⟨s, o + j, none⟩ : Addr) ≠ ⟨s, i, none⟩ := fun j hj e => by have := congrArg Addr.off e; simp at this; omega
  unfold set6
  rw [World.cell?_setCell_other _ _ _ _ (ne 5 (by decide)), World.cell?_setCell_other _ _ _ _ (ne 4 (by decide)), World.cell?_setCell_other _ _ _ _ (ne 3 (by decide)), World.cell?_setCell_other _ _ _ _ (ne 2 (by decide)), World.cell?_setCell_other _ _ _ _ (ne 1 (by decide))]
  exact World.cell?_setCell_other _ _ _ _ (ne 0 (by decide))
theorem ne_off {s o : Nat} (i j : Nat) (h : i ≠ j) : (⟨s, o + i, none⟩ : Addr) ≠ ⟨s, o + j, none⟩ := fun e => by have := congrArg Addr.off e; simp at this; omega
theorem ne_off0 {s o : Nat} (j : Nat) (h : 0 ≠ j) : (⟨s, o, none⟩ : Addr) ≠ ⟨s, o + j, none⟩ := fun e => by have := congrArg Addr.off e; simp at this; omega
theorem ne_off1 {s o : Nat} (j : Nat) (h : 0 ≠ j) : (⟨s, o + j, none⟩ : Addr) ≠ ⟨s, o, none⟩ := fun e => by have := congrArg Addr.off e; simp at this; omega
theorem set6_at (w : World) (s o : Nat) (c0 c1 c2 c3 c4 c5 u0 u1 u2 u3 u4 u5 : Value) (h0 : w.cell? ⟨s, o, none⟩ = some u0) (h1 : w.cell? ⟨s, o + 1, none⟩ = some u1) (h2 : w.cell? ⟨s, o + 2, none⟩ = some u2) (h3 : w.cell? ⟨s, o + 3, none⟩ = some u3) (h4 : w.cell? ⟨s, o + 4, none⟩ = some u4) (h5 : w.cell? ⟨s, o + 5, none⟩ = some u5) :
    (set6 w s o c0 c1 c2 c3 c4 c5).cell? ⟨s, o, none⟩ = some c0 ∧ (set6 w s o c0 c1 c2 c3 c4 c5).cell? ⟨s, o + 1, none⟩ = some c1 ∧ (set6 w s o c0 c1 c2 c3 c4 c5).cell? ⟨s, o + 2, none⟩ = some c2 ∧ (set6 w s o c0 c1 c2 c3 c4 c5).cell? ⟨s, o + 3, none⟩ = some c3 ∧ (set6 w s o c0 c1 c2 c3 c4 c5).cell? ⟨s, o + 4, none⟩ = some c4 ∧ (set6 w s o c0 c1 c2 c3 c4 c5).cell? ⟨s, o + 5, none⟩ = some c5 := by
  have o1 : ∀ (W : World) (i j : Nat) (v : Value), i ≠ j → (W.setCell ⟨s, o + i, none⟩ v).cell? ⟨s, o + j, none⟩ = W.cell? ⟨s, o + j, none⟩ := fun W i j v h => World.cell?_setCell_other _ _ _ _ (ne_off i j h)
  have o0 : ∀ (W : World) (j : Nat) (v : Value), 0 ≠ j → (W.setCell ⟨s, o, none⟩ v).cell? ⟨s, o + j, none⟩ = W.cell? ⟨s, o + j, none⟩ := fun W j v h => World.cell?_setCell_other _ _ _ _ (ne_off0 j h)
  have oz : ∀ (W : World) (j : Nat) (v : Value), 0 ≠ j → (W.setCell ⟨s, o + j, none⟩ v).cell? ⟨s, o, none⟩ = W.cell? ⟨s, o, none⟩ := fun W j v h => World.cell?_setCell_other _ _ _ _ (ne_off1 j h)
  unfold set6
  refine ⟨?_, ?_, ?_, ?_, ?_, ?_⟩
  · rw [oz _ 5 _ (by decide), oz _ 4 _ (by decide), oz _ 3 _ (by decide), oz _ 2 _ (by decide), oz _ 1 _ (by decide)]
    exact World.cell?_setCell_same _ _ _ h0
  · rw [o1 _ 5 1 _ (by decide), o1 _ 4 1 _ (by decide), o1 _ 3 1 _ (by decide), o1 _ 2 1 _ (by decide)]
    exact World.cell?_setCell_same _ _ _ ((o0 _ 1 _ (by decide)).trans h1)
  · rw [o1 _ 5 2 _ (by decide), o1 _ 4 2 _ (by decide), o1 _ 3 2 _ (by decide)]
    exact World.cell?_setCell_same _ _ _ ((o1 _ 1 2 _ (by decide)).trans ((o0 _ 2 _ (by decide)).trans h2))
  · rw [o1 _ 5 3 _ (by decide), o1 _ 4 3 _ (by decide)]
    exact World.cell?_setCell_same _ _ _ ((o1 _ 2 3 _ (by decide)).trans ((o1 _ 1 3 _ (by decide)).trans ((o0 _ 3 _ (by decide)).trans h3)))
  · rw [o1 _ 5 4 _ (by decide)]
    exact World.cell?_setCell_same _ _ _ ((o1 _ 3 4 _ (by decide)).trans ((o1 _ 2 4 _ (by decide)).trans ((o1 _ 1 4 _ (by decide)).trans ((o0 _ 4 _ (by decide)).trans h4))))
  · exact World.cell?_setCell_same _ _ _ ((o1 _ 4 5 _ (by decide)).trans ((o1 _ 3 5 _ (by decide)).trans ((o1 _ 2 5 _ (by decide)).trans ((o1 _ 1 5 _ (by decide)).trans ((o0 _ 5 _ (by decide)).trans h5)))))
/-- A slot laid anew: in use, with words of its own, or free. -/
theorem RAr.setSlot {w : World} {R : RL} {cap : Nat} {qv : Value} {Q : List Nat} {S : AS} (h : RAr w R cap qv Q S) (k : Nat) (hk : k < S.n) (b : Bool) (p : Ent) (g : Nat) (tn : Int) (wd' : Nat → Int)
    (hg : b = true → g < w.heap.size ∧ g ≠ R.b ∧ g ≠ R.s ∧ ¬ R.ws S g ∧ qv.ownBlock ≠ some g ∧ (∀ j, w.frozen? ⟨g, j, none⟩ = false) ∧ ∀ j, j < S.wd → w.cell? ⟨g, j, none⟩ = some (.int .u64 (wd' (k * S.wd + j)))) (hw : ∀ i, i < S.n → i ≠ k → ∀ j, j < S.wd → wd' (i * S.wd + j) = S.word (i * S.wd + j)) :
    RAr (set6 w R.s ((k + 1) * 6) (.bool b) (.string p.nm) (.string p.dt) (.int .i64 p.tl) (if b then .slice (some ⟨g, 0, none⟩) S.wd S.wd else .slice none 0 0) (.int .i64 tn)) { R with wb := if b then upd R.wb k g else R.wb } cap qv Q { S with use := upd S.use k b, pay := upd S.pay k p, turn := upd S.turn k tn, word := wd' } := by
  have u4 : ∃ u, w.cell? ⟨R.s, (k + 1) * 6 + 4, none⟩ = some u := by
    cases e : S.use k
    · exact ⟨_, h.wn k hk e⟩
    · exact ⟨_, h.wy k hk e⟩
  obtain ⟨u4, h4⟩ := u4
  obtain ⟨a0, a1, a2, a3, a4, a5⟩ := set6_at w R.s ((k + 1) * 6) (.bool b) (.string p.nm) (.string p.dt) (.int .i64 p.tl) (if b then .slice (some ⟨g, 0, none⟩) S.wd S.wd else .slice none 0 0) (.int .i64 tn) _ _ _ _ _ _ (h.us k hk) (h.nm k hk) (h.dt k hk) (h.tl k hk) h4 (h.tn k hk)
  have kS := set6_keeps w R.s ((k + 1) * 6) (.bool b) (.string p.nm) (.string p.dt) (.int .i64 p.tl) (if b then .slice (some ⟨g, 0, none⟩) S.wd S.wd else .slice none 0 0) (.int .i64 tn)
  have oo : ∀ i j, i ≠ k → j < 6 → (set6 w R.s ((k + 1) * 6) (.bool b) (.string p.nm) (.string p.dt) (.int .i64 p.tl) (if b then .slice (some ⟨g, 0, none⟩) S.wd S.wd else .slice none 0 0) (.int .i64 tn)).cell? ⟨R.s, (i + 1) * 6 + j, none⟩ = w.cell? ⟨R.s, (i + 1) * 6 + j, none⟩ := fun i j hi hj => set6_out _ _ _ _ _ _ _ _ _ _ (by omega)
  have fz : ∀ x j, (set6 w R.s ((k + 1) * 6) (.bool b) (.string p.nm) (.string p.dt) (.int .i64 p.tl) (if b then .slice (some ⟨g, 0, none⟩) S.wd S.wd else .slice none 0 0) (.int .i64 tn)).frozen? ⟨x, j, none⟩ = w.frozen? ⟨x, j, none⟩ := fun x j => by simp [set6]
  generalize hW : set6 w R.s ((k + 1) * 6) (.bool b) (.string p.nm) (.string p.dt) (.int .i64 p.tl) (if b then .slice (some ⟨g, 0, none⟩) S.wd S.wd else .slice none 0 0) (.int .i64 tn) = W at *
  clear hW
  have cb : ∀ j, W.cell? ⟨R.b, j, none⟩ = w.cell? ⟨R.b, j, none⟩ := fun j => kS.cell (p := ⟨R.b, j, none⟩) h.lb h.bs
  have hq := owK h.q kS (fun x hx e => (h.qb x hx).2.1 e)
  have sz := kS.size
  -- a slot of the others
  have us : ∀ i, i < S.n → W.cell? ⟨R.s, (i + 1) * 6, none⟩ = some (.bool (upd S.use k b i)) := fun i hi => by
    by_cases e : i = k
    · subst e; rw [upd_same]; exact a0
    · rw [upd_other _ _ e]; exact (oo i 0 e (by decide)).trans (h.us i hi)
  have nm : ∀ i, i < S.n → W.cell? ⟨R.s, (i + 1) * 6 + 1, none⟩ = some (.string (upd S.pay k p i).nm) := fun i hi => by
    by_cases e : i = k
    · subst e; rw [upd_same]; exact a1
    · rw [upd_other _ _ e]; exact (oo i 1 e (by decide)).trans (h.nm i hi)
  have dt : ∀ i, i < S.n → W.cell? ⟨R.s, (i + 1) * 6 + 2, none⟩ = some (.string (upd S.pay k p i).dt) := fun i hi => by
    by_cases e : i = k
    · subst e; rw [upd_same]; exact a2
    · rw [upd_other _ _ e]; exact (oo i 2 e (by decide)).trans (h.dt i hi)
  have tl : ∀ i, i < S.n → W.cell? ⟨R.s, (i + 1) * 6 + 3, none⟩ = some (.int .i64 (upd S.pay k p i).tl) := fun i hi => by
    by_cases e : i = k
    · subst e; rw [upd_same]; exact a3
    · rw [upd_other _ _ e]; exact (oo i 3 e (by decide)).trans (h.tl i hi)
  have tn' : ∀ i, i < S.n → W.cell? ⟨R.s, (i + 1) * 6 + 5, none⟩ = some (.int .i64 (upd S.turn k tn i)) := fun i hi => by
    by_cases e : i = k
    · subst e; rw [upd_same]; exact a5
    · rw [upd_other _ _ e]; exact (oo i 5 e (by decide)).trans (h.tn i hi)
  have wo : ∀ i, i < S.n → i ≠ k → S.use i = true → ∀ j, j < S.wd → W.cell? ⟨R.wb i, j, none⟩ = some (.int .u64 (wd' (i * S.wd + j))) := fun i hi hne hu j hj => by
    rw [hw i hi hne j hj]
    exact (kS.cell (p := ⟨R.wb i, j, none⟩) (h.lw i hi hu) (h.bw i hi hu).2).trans (h.wo i hi hu j hj)
  cases b with
  | false =>
    have ou : ∀ i, upd S.use k false i = true → i ≠ k ∧ S.use i = true := fun i hu => by
      by_cases e : i = k
      · subst e; rw [upd_same] at hu; cases hu
      · rw [upd_other _ _ e] at hu; exact ⟨e, hu⟩
    exact ⟨(cb 0).trans h.c0, (cb 1).trans h.c1, (cb 2).trans h.c2, (cb 3).trans h.c3, (cb 4).trans h.c4, us, nm, dt, tl, fun i hi hu => (oo i 4 (ou i hu).1 (by decide)).trans (h.wy i hi (ou i hu).2), fun i hi hu => by
      by_cases e : i = k
      · subst e; exact a4
      · rw [show (upd S.use k false i = false) = (S.use i = false) from by rw [upd_other _ _ e]] at hu
        exact (oo i 4 e (by decide)).trans (h.wn i hi hu), tn', fun i hi hu j hj => wo i hi (ou i hu).1 (ou i hu).2 j hj, hq, fun j => (fz _ j).trans (h.fb j), fun j => (fz _ j).trans (h.fs j), fun i hi hu j => (fz _ j).trans (h.fw i hi (ou i hu).2 j), Nat.lt_of_lt_of_le h.lb sz, Nat.lt_of_lt_of_le h.ls sz, fun i hi hu => Nat.lt_of_lt_of_le (h.lw i hi (ou i hu).2) sz, h.bs, fun i hi hu => h.bw i hi (ou i hu).2, fun i j hi hj hu hu' => h.ww i j hi hj (ou i hu).2 (ou j hu').2, fun x hx => ⟨(h.qb x hx).1, (h.qb x hx).2.1, fun ⟨i, hi, hu, e⟩ => (h.qb x hx).2.2 ⟨i, hi, (ou i hu).2, e⟩⟩, h.hn, h.hw⟩
  | true =>
    obtain ⟨g1, g2, g3, g4, g5, g6, g7⟩ := hg rfl
    have ou : ∀ i, i ≠ k → upd S.use k true i = true → S.use i = true := fun i hne hu => by rw [upd_other _ _ hne] at hu; exact hu
    have wbk : upd R.wb k g k = g := upd_same _ _ _
    have wbo : ∀ i, i ≠ k → upd R.wb k g i = R.wb i := fun i hne => upd_other _ _ hne
    have gc : ∀ j, W.cell? ⟨g, j, none⟩ = w.cell? ⟨g, j, none⟩ := fun j => kS.cell (p := ⟨g, j, none⟩) g1 g3
    refine ⟨(cb 0).trans h.c0, (cb 1).trans h.c1, (cb 2).trans h.c2, (cb 3).trans h.c3, (cb 4).trans h.c4, us, nm, dt, tl, fun i hi hu => ?_, fun i hi hu => ?_, tn', fun i hi hu j hj => ?_, hq, fun j => (fz _ j).trans (h.fb j), fun j => (fz _ j).trans (h.fs j), fun i hi hu j => ?_, Nat.lt_of_lt_of_le h.lb sz, Nat.lt_of_lt_of_le h.ls sz, fun i hi hu => ?_, h.bs, fun i hi hu => ?_, fun i j hi hj hu hu' hne => ?_, fun x hx => ⟨(h.qb x hx).1, (h.qb x hx).2.1, fun ⟨i, hi, hu, e⟩ => ?_⟩, h.hn, h.hw⟩
    · show W.cell? ⟨R.s, (i + 1) * 6 + 4, none⟩ = some (.slice (some ⟨upd R.wb k g i, 0, none⟩) S.wd S.wd)
      by_cases e : i = k
      · subst e; rw [wbk]; exact a4
      · rw [wbo i e]; exact (oo i 4 e (by decide)).trans (h.wy i hi (ou i e hu))
    · have hu : upd S.use k true i = false := hu
      by_cases e : i = k
      · subst e; rw [upd_same] at hu; cases hu
      · rw [upd_other _ _ e] at hu; exact (oo i 4 e (by decide)).trans (h.wn i hi hu)
    · show W.cell? ⟨upd R.wb k g i, j, none⟩ = some (.int .u64 (wd' (i * S.wd + j)))
      by_cases e : i = k
      · subst e; rw [wbk]; exact (gc j).trans (g7 j hj)
      · rw [wbo i e]; exact wo i hi e (ou i e hu) j hj
    · show W.frozen? ⟨upd R.wb k g i, j, none⟩ = false
      rw [fz]
      by_cases e : i = k
      · subst e; rw [wbk]; exact g6 j
      · rw [wbo i e]; exact h.fw i hi (ou i e hu) j
    · show upd R.wb k g i < W.heap.size
      by_cases e : i = k
      · subst e; rw [wbk]; omega
      · rw [wbo i e]; exact Nat.lt_of_lt_of_le (h.lw i hi (ou i e hu)) sz
    · show upd R.wb k g i ≠ R.b ∧ upd R.wb k g i ≠ R.s
      by_cases e : i = k
      · subst e; rw [wbk]; exact ⟨g2, g3⟩
      · rw [wbo i e]; exact h.bw i hi (ou i e hu)
    · show upd R.wb k g i ≠ upd R.wb k g j
      by_cases e : i = k
      · subst e
        rw [wbk, wbo j (fun e => hne e.symm)]
        exact fun e2 => g4 ⟨j, hj, ou j (fun e => hne e.symm) hu', e2⟩
      · rw [wbo i e]
        by_cases e' : j = k
        · subst e'
          rw [wbk]
          exact fun e2 => g4 ⟨i, hi, ou i e hu, e2.symm⟩
        · rw [wbo j e']
          exact h.ww i j hi hj (ou i e hu) (ou j e' hu') hne
    · have e : x = upd R.wb k g i := e
      by_cases e2 : i = k
      · subst e2
        rw [wbk] at e
        subst e
        exact g5 hx
      · rw [wbo i e2] at e
        exact (h.qb x hx).2.2 ⟨i, hi, ou i e2 hu, e⟩
end Go.Proofs.YtdjklcmkcccpeaaGreat

namespace Go.Proofs.YtdjklcmkcccpeaaGreat
set_option linter.unusedSimpArgs false
open Go.ChangeShapes Go.WideShapes Go.ChangeAt Go.RowKit Go.MuLone Go.RwLone
set_option linter.unusedVariables false
set_option maxRecDepth 100000
set_option maxHeartbeats 6400000
/-- What the program's arena has besides is nothing to the document's. -/
theorem RAr.cong {w : World} {R : RL} {cap : Nat} {qv : Value} {Q : List Nat} {S S' : AS} (h : RAr w R cap qv Q S) (e : ({ S with g0 := S'.g0, rc := S'.rc, lk := S'.lk, front := S'.front, count := S'.count, ring := S'.ring } : AS) = S') : RAr w R cap qv Q S' := by
  rw [← e]
  exact ⟨h.c0, h.c1, h.c2, h.c3, h.c4, h.us, h.nm, h.dt, h.tl, h.wy, h.wn, h.tn, h.wo, h.q, h.fb, h.fs, h.fw, h.lb, h.ls, h.lw, h.bs, h.bw, h.ww, h.qb, h.hn, h.hw⟩
theorem ra_free_no (w : World) (R : RL) (cap : Nat) (qv : Value) (Q : List Nat) (S : AS) (x : Int) (h : RAr w R cap qv Q S) (hx : liv S x = false) : Calls Tryz.prog 102 #[.pointer (some ⟨R.b, 0, none⟩), .int .i64 x] w fun e w' => e = .returned (.int .i64 22) ∧ RAr w' R cap qv Q (mis1 S) ∧ Keeps (fun g => g = R.b) w w' := by
  have HU : Hid (∀ _ : Unit, _) := fun _ => ra_used w R cap qv Q S x h
  rw [hx] at HU
  have HM : Hid (∀ _ : Unit, _) := fun _ => ra_missed w R cap qv Q S h
  clear h hx
  go_enter Tryz.func102, Tryz.ntmps102
  go_wp2_with fail
  refine (HU.out ()).mono ?_
  rintro e w1 ⟨rfl, hw1⟩
  rw [hw1]
  clear hw1 w1 HU
  go_wp2_with fail
  refine (HM.out ()).mono ?_
  rintro e w1 ⟨rfl, h1⟩
  have H1 : Hid (RAr w1 R cap qv Q (mis1 S) ∧ Keeps (fun g => g = R.b) w w1) := h1
  clear h1 HM
  go_wp2
  go_ret
  exact ⟨rfl, H1.out⟩
theorem ra_full (w : World) (R : RL) (cap : Nat) (qv : Value) (S : AS) (p : Ent) (h : RAr w R cap qv [] S) : Calls Tryz.prog 100 #[.pointer (some ⟨R.b, 0, none⟩), .agg #[.string p.nm, .string p.dt, .int .i64 p.tl], .slice none 0 0] w fun e w' => e = .returned (.tuple #[.int .i64 0, .int .i64 21]) ∧ RAr w' R cap qv [] (acc1 S) ∧ Keeps (fun g => g = R.b) w w' := by
  have kb : Keeps (fun _ => False) w (w.alloc (.cells #[.string p.nm, .string p.dt, .int .i64 p.tl] 45)) := (Keeps.refl _ _).alloc _
  have h0 := h.keeps kb (fun _ _ e => e)
  have c0 := h0.c0
  have c3 := h0.c3
  have f3 := h0.fb 3
  obtain ⟨qa, qc, hqv⟩ := h.q.form
  have hqv : qv = .slice qa 0 qc := hqv
  subst hqv
  have H1 : Hid (RAr ((w.alloc (.cells #[.string p.nm, .string p.dt, .int .i64 p.tl] 45)).setCell ⟨R.b, 3, none⟩ (.int .i64 (wrap64 (S.acc + 1)))) R cap (.slice qa 0 qc) [] (acc1 S) ∧ Keeps (fun g => g = R.b) w ((w.alloc (.cells #[.string p.nm, .string p.dt, .int .i64 p.tl] 45)).setCell ⟨R.b, 3, none⟩ (.int .i64 (wrap64 (S.acc + 1))))) := ⟨h0.setCount 3 _ _ (.inl ⟨rfl, rfl⟩), (kb.mono (fun _ e => e.elim)).trans setB⟩
  have c2 := H1.out.1.c2
  have hw0 : ¬ (0 : Int) > (S.wd : Int) := by omega
  clear h h0 kb
  go_enter Tryz.func100, Tryz.ntmps100
  go_wp2
  go_ret2
  exact ⟨rfl, H1.out⟩
/-- The document's Alloc, with no words. -/
theorem ra_alloc (w : World) (R : RL) (cap : Nat) (qv : Value) (k : Nat) (Q : List Nat) (S : AS) (p : Ent) (h : RAr w R cap qv (k :: Q) S) (hk : k < S.n) (hql : Q.length ≤ 4096) : Calls Tryz.prog 100 #[.pointer (some ⟨R.b, 0, none⟩), .agg #[.string p.nm, .string p.dt, .int .i64 p.tl], .slice none 0 0] w fun e w' => ∃ g qv', e = .returned (.tuple #[.int .i64 ((k : Int) + 1), .int .i64 0]) ∧ (w.heap.size ≤ g ∧ ∀ y, qv'.ownBlock = some y → w.heap.size ≤ y) ∧ RAr w' { R with wb := upd R.wb k g } cap qv' Q (S.alloc k p (valW 0 (fun _ => 0))) ∧ Keeps (fun g => g = R.b ∨ g = R.s) w w' := by
  have kb : Keeps (fun _ => False) w (w.alloc (.cells #[.string p.nm, .string p.dt, .int .i64 p.tl] 45)) := (Keeps.refl _ _).alloc _
  have h0 := h.keeps kb (fun _ _ e => e)
  have hbx := heap_alloc_new w (.cells #[.string p.nm, .string p.dt, .int .i64 p.tl] 45)
  have c0 := h0.c0
  have c3 := h0.c3
  have f3 := h0.fb 3
  obtain ⟨qa, qc, hqv⟩ := h.q.form
  have hqv : qv = .slice qa (Q.length + 1) qc := by rw [hqv]; simp
  subst hqv
  obtain ⟨qb, qc2, hq2, _, hql2⟩ := owG_some h.q (by simp)
  injection hq2 with hq2 hq3 hq4
  subst hq2
  clear hq3 hq4 hqv
  obtain ⟨W1, hW1⟩ : ∃ W, (w.alloc (.cells #[.string p.nm, .string p.dt, .int .i64 p.tl] 45)).setCell ⟨R.b, 3, none⟩ (.int .i64 (wrap64 (S.acc + 1))) = W := ⟨_, rfl⟩
  have H1 : Hid (RAr W1 R cap (.slice (some ⟨qb, 0, none⟩) (Q.length + 1) qc) (k :: Q) (acc1 S) ∧ Keeps (fun g => g = R.b) w W1 ∧ W1.heap[w.heap.size]? = some (.cells #[.string p.nm, .string p.dt, .int .i64 p.tl] 45) ∧ w.heap.size < W1.heap.size ∧ w.heap.size ≠ R.b ∧ w.heap.size ≠ R.s) := by
    rw [← hW1]
    refine ⟨h0.setCount 3 _ _ (.inl ⟨rfl, rfl⟩), (kb.mono (fun _ e => e.elim)).trans setB, ?_, by simp, by have := h.lb; omega, by have := h.ls; omega⟩
    have := h.lb
    rw [Below.heap_setCell _ _ _ _ (by show w.heap.size ≠ R.b; omega)]
    exact hbx
  have HQ : Hid (∀ (W : World), Below W1.heap.size W1 W → W.cell? ⟨R.b, 2, none⟩ = some (.slice (some ⟨qb, 0, none⟩) (Q.length + 1) qc) ∧ ∀ t (ht : t < (k :: Q).length), W.cell? ⟨qb, t, none⟩ = some (.int .i64 (qZ (k :: Q)[t]))) := fun W b => by
    have q1 := H1.out.1.q
    obtain ⟨qb', qc', e1, _, l1⟩ := owG_some q1 (by simp)
    injection e1 with e1 _ _
    injection e1 with e1
    injection e1 with e1 _ _
    subst e1
    refine ⟨(b.cell (p := ⟨R.b, 2, none⟩) H1.out.1.lb).trans H1.out.1.c2, fun t ht => ?_⟩
    rw [b.cell (p := ⟨qb, t, none⟩) l1]
    have := ow_at flat_inZ q1 t (by simpa using ht)
    rw [this, List.getElem_map]
  obtain ⟨d2, dq⟩ := HQ.out W1 (Below.refl _ _)
  have dk : W1.cell? ⟨qb, 0, none⟩ = some (.int .i64 ((k : Int) + 1)) := dq 0 (by simp)
  clear dq h h0 kb hbx hql2
  have hw0 : ¬ (0 : Int) > (S.wd : Int) := by omega
  have e1 : (0 : Int) < (Q.length : Int) + 1 := by omega
  have e2 : ¬ (Q.length : Int) + 1 = 0 := by omega
  have HWD : Hid (1 ≤ S.wd ∧ S.wd ≤ 16) := H1.out.1.hw
  have HSN : Hid (S.n ≤ 4096) := H1.out.1.hn.2
  go_enter Tryz.func100, Tryz.ntmps100
  go_wp2_with fail
  clear hW1 c0 c3 f3 d2 dk
  go_loopw [9, 10] (fun v i wr => ∃ t : Nat, t ≤ Q.length ∧ i = .int .i64 ((t : Int) + 1) ∧ OwI wr W1.heap.size v ((Q.take t).map qZ) ∧ Below W1.heap.size W1 wr) (fun _ i _ => Q.length + 1 - (intOf i).toNat)
  case atStart => exact ⟨0, by omega, rfl, OwG.nil _ _ _ _ _, Below.refl _ _⟩
  case round =>
    obtain ⟨t, ht, rfl, ho, hb⟩ := hrel
    obtain ⟨sp, cp, hsp⟩ := ho.form
    rw [List.length_map, List.length_take, Nat.min_eq_left ht] at hsp
    subst hsp
    have HO : Hid (OwI wr W1.heap.size (.slice sp t cp) ((Q.take t).map qZ) ∧ Below W1.heap.size W1 wr) := ⟨ho, hb⟩
    obtain ⟨d2, dq⟩ := HQ.out wr hb
    clear ho hb
    by_cases h5 : t < Q.length
    · have t0 : (0 : Int) ≤ (t : Int) + 1 := by omega
      have t1 : (t : Int) + 1 < (Q.length : Int) + 1 := by omega
      have dt : wr.cell? ⟨qb, t + 1, none⟩ = some (.int .i64 (qZ Q[t])) := dq (t + 1) (by simpa using h5)
      clear dq
      obtain ⟨q, hq⟩ : ∃ q, qZ Q[t] = q := ⟨_, rfl⟩
      have HE : Hid ((Q.take (t + 1)).map qZ = (Q.take t).map qZ ++ [q]) := by
        show _ = _
        rw [List.take_succ_eq_append_getElem h5, List.map_append, ← hq]
        rfl
      rw [hq] at dt
      clear hq
      have hxl : ((Q.take t).map qZ).length = t := by rw [List.length_map, List.length_take]; omega
      generalize (Q.take t).map qZ = xs at *
      go_wp2_with (at_builtin; refine hideG ?_)
      change wpList _ _ _ _ _ _
      refine app_one (cs := inZ) (wr := wr) (by rfl) _ _ 31 3 (by rfl) Tryz.underlying31 infoZ rfl (by decide) (fun _ => rfl) W1.heap.size _ xs q HO.out.1 (by rfl) wr.heap.size rfl (by rfl) (inZ_one _) _ rfl (by unfold maxLen; omega) (by omega) HO.out.2.size ?_
      intro v' w3 ho3 hb3 hk3
      have HN : Hid (OwI w3 W1.heap.size v' ((Q.take (t + 1)).map qZ) ∧ Below W1.heap.size W1 w3) := by
        show _ ∧ _
        rw [HE.out]
        exact ⟨ho3, HO.out.2.trans hb3⟩
      clear ho3 hb3 hk3 HO d2 dt
      go_wp2
      go_roundw
      case rel => exact ⟨t + 1, by omega, by go_num, HN.out⟩
      case measure => simp [intOf]; omega
    · have e5 : t = Q.length := by omega
      subst e5
      rw [List.take_length] at HO
      have t1 : ¬ (Q.length : Int) + 1 < (Q.length : Int) + 1 := by omega
      clear dq
      -- the arena, its new queue, the new words
      have H2 : Hid (RAr (wr.setCell ⟨R.b, 2, none⟩ (.slice sp Q.length cp)) R cap (.slice sp Q.length cp) Q (acc1 S) ∧ Keeps (fun g => g = R.b) w (wr.setCell ⟨R.b, 2, none⟩ (.slice sp Q.length cp)) ∧ (wr.setCell ⟨R.b, 2, none⟩ (.slice sp Q.length cp)).heap[w.heap.size]? = some (.cells #[.string p.nm, .string p.dt, .int .i64 p.tl] 45) ∧ (∀ y, (Value.slice sp Q.length cp).ownBlock = some y → w.heap.size ≤ y) ∧ w.heap.size < wr.heap.size) := by
        obtain ⟨a1, a2, a3, a4, a5, a6⟩ := H1.out
        obtain ⟨o1, o2⟩ := HO.out
        have r1 := a1.keeps (Below.keeps o2 (fun _ => False)) (fun _ _ e => e)
        have hs := a2.size
        have hlb := a1.lb
        refine ⟨r1.setQ (o1.down (Nat.zero_le _)) (fun g hg => ?_), a2.trans ((Below.keeps o2 _).trans setB), ?_, fun y hy => ?_, Nat.lt_of_lt_of_le a4 o2.size⟩
        · have := (World.ownsRow.lt o1 g hg).1
          refine ⟨by omega, by have := a1.ls; omega, fun ⟨j, h1, h2, e⟩ => by have := a1.lw j h1 h2; omega⟩
        · rw [Below.heap_setCell _ _ _ _ (by show w.heap.size ≠ R.b; exact a5), o2.block _ a4]
          exact a3
        · have := (World.ownsRow.lt o1 y hy).1
          omega
      have f2 : wr.frozen? ⟨R.b, 2, none⟩ = false := by
        obtain ⟨a1, a2, a3, a4, a5, a6⟩ := H1.out
        exact (HO.out.2.frozen (p := ⟨R.b, 2, none⟩) a1.lb).trans (a1.fb 2)
      obtain ⟨W3, hW3⟩ : ∃ W, wr.setCell ⟨R.b, 2, none⟩ (.slice sp Q.length cp) = W := ⟨_, rfl⟩
      rw [hW3] at H2
      have c0 : W3.cell? ⟨R.b, 0, none⟩ = some (.int .i64 (S.wd : Int)) := H2.out.1.c0
      have hmk := run_make_any (P := Tryz.prog) 151 95 _ 1 8 Tryz.underlying151 infoWd S.wd (by have := HWD.out.2; omega) (by have := HWD.out.2; omega) W3
      rw [Nat.mul_one] at hmk
      obtain ⟨W4, hW4⟩ : ∃ W, W3.alloc (.cells (madeCells #[.int .u64 0] S.wd) 95) = W := ⟨_, rfl⟩
      have hmk2 : (Instr.makeSlice 151 (.int .i64 (S.wd : Int)) (.int .i64 (S.wd : Int))).run Tryz.prog W3 = .ok (.slice (some ⟨W3.heap.size, 0, none⟩) S.wd S.wd) W4 := hmk.trans (congrArg _ hW4)
      have H4 : Hid (RAr W4 R cap (.slice sp Q.length cp) Q (acc1 S) ∧ Keeps (fun g => g = R.b) w W4 ∧ W4.heap[w.heap.size]? = some (.cells #[.string p.nm, .string p.dt, .int .i64 p.tl] 45) ∧ (∀ y, (Value.slice sp Q.length cp).ownBlock = some y → w.heap.size ≤ y ∧ y < W3.heap.size) ∧ w.heap.size < W3.heap.size ∧ W4.heap[W3.heap.size]? = some (.cells (madeCells #[.int .u64 0] S.wd) 95) ∧ (∀ y, raF R (.slice sp Q.length cp) S y → y < W3.heap.size)) := by
        obtain ⟨a1, a2, a3, a4, a5⟩ := H2.out
        have ka : Keeps (fun _ => False) W3 W4 := by rw [← hW4]; exact (Keeps.refl _ _).alloc _
        have hsz : wr.heap.size = W3.heap.size := by rw [← hW3]; simp
        have hl := a1.lt
        refine ⟨a1.keeps ka (fun _ _ e => e), a2.trans (ka.mono (fun _ e => e.elim)), (ka.block _ (by omega) (fun e => e)).trans a3, fun y hy => ⟨a4 y hy, hl y (.inr (.inr (.inr hy)))⟩, by omega, ?_, hl⟩
        rw [← hW4]
        exact heap_alloc_new W3 _
      clear hmk
      go_wp2_with fail
      go_loopw [12] (fun i wr2 => i = .int .i64 0 ∧ wr2 = W4) (fun _ _ => 0)
      case atStart => exact ⟨rfl, rfl⟩
      case round =>
        obtain ⟨rfl, hwr⟩ := hrel
        rw [hwr]
        clear hwr hmk2 hW4 c0 f2 d2 hW3
        obtain ⟨g, hgs⟩ : ∃ g, W3.heap.size = g := ⟨_, rfl⟩
        rw [hgs] at H4 ⊢
        have k0 : (0 : Int) ≤ (k : Int) + 1 := by omega
        have k1 : (k : Int) + 1 < (S.n : Int) + 1 := by omega
        have H5 : Hid (RAr W4.drew R cap (.slice sp Q.length cp) Q (acc1 S) ∧ Keeps (fun g => g = R.b) w W4.drew ∧ W4.drew.heap[w.heap.size]? = some (.cells #[.string p.nm, .string p.dt, .int .i64 p.tl] 45) ∧ (∀ y, (Value.slice sp Q.length cp).ownBlock = some y → w.heap.size ≤ y ∧ y < g) ∧ w.heap.size < g ∧ W4.drew.heap[g]? = some (.cells (madeCells #[.int .u64 0] S.wd) 95) ∧ (∀ y, raF R (.slice sp Q.length cp) S y → y < g)) := by
          obtain ⟨a1, a2, a3, a4, a5, a6, a7⟩ := H4.out
          exact ⟨a1.keeps ((Keeps.refl (fun _ => False) _).drew) (fun _ _ e => e), a2.drew, a3, a4, a5, a6, a7⟩
        have HT : Hid (W4.drew.cell? ⟨R.s, (k + 1) * 6 + 5, none⟩ = some (.int .i64 (S.turn k))) := H5.out.1.tn k hk
        have hbx := H5.out.2.2.1
        have sx : W4.drew.cell? ⟨R.b, 1, none⟩ = some (.slice (some ⟨R.s, 0, none⟩) (S.n + 1) cap) ∧ W4.drew.cell? ⟨w.heap.size, 0, none⟩ = some (.string p.nm) ∧ W4.drew.cell? ⟨w.heap.size, 0 + 1, none⟩ = some (.string p.dt) ∧ W4.drew.cell? ⟨w.heap.size, 0 + 1 + 1, none⟩ = some (.int .i64 p.tl) := ⟨H5.out.1.c1, (cell?_heap hbx 0).trans rfl, (cell?_heap hbx 1).trans rfl, (cell?_heap hbx 2).trans rfl⟩
        have hsn := HSN.out
        clear hbx H4
        go_wp2_with fail
        (refine wp_region_held_drew (S := (fun Z => Z.cell? ⟨R.b, 1, none⟩ = some (.slice (some ⟨R.s, 0, none⟩) (S.n + 1) cap) ∧ Z.cell? ⟨w.heap.size, 0, none⟩ = some (.string p.nm) ∧ Z.cell? ⟨w.heap.size, 0 + 1, none⟩ = some (.string p.dt) ∧ Z.cell? ⟨w.heap.size, 0 + 1 + 1, none⟩ = some (.int .i64 p.tl))) (by kernel_rfl) sx (fun hHeld => ?_); simp only [List.size_toArray, List.length_cons, List.length_nil, Nat.reduceAdd, Array.replicate_succ, Array.replicate_zero, List.push_toArray, List.append_toArray, List.nil_append, List.cons_append])
        clear sx
        generalize W4.drew = W5 at *
        refine rgT 0 (h := ?_)
        refine rgT 1 (h := ?_)
        refine rgT 2 (h := ?_)
        refine rgT 3 (h := ?_)
        refine rgT 4 (h := ?_)
        refine rgT 5 (h := ?_)
        refine rgT 6 (h := ?_)
        refine rgT 7 (h := ?_)
        refine rgT 8 (h := ?_)
        refine rgT 9 (h := ?_)
        refine rgT 10 (h := ?_)
        refine rgT 11 (h := ?_)
        refine rgT 12 (h := ?_)
        refine rgT 13 (h := ?_)
        have ht := HT.out
        (refine rgS 14 (h := fun K hK => ?_); go_simp)
        (refine hK.out _ _ hHeld (fun hHeld => ?_); clear hK K; try simp only [Act.put, List.setIfInBounds_toArray, List.set_cons_zero, List.set_cons_succ])
        refine rgT 15 (h := ?_)
        refine rgT 16 (h := ?_)
        refine rgT 17 (h := ?_)
        have u4 : ∃ u, W5.cell? ⟨R.s, (k + 1) * 6 + 4, none⟩ = some u := by
          cases e : S.use k
          · exact ⟨_, H5.out.1.wn k hk e⟩
          · exact ⟨_, H5.out.1.wy k hk e⟩
        obtain ⟨u4, h4⟩ := u4
        have h0 : W5.cell? ⟨R.s, (k + 1) * 6, none⟩ = some (.bool (S.use k)) := H5.out.1.us k hk
        have h1 : W5.cell? ⟨R.s, (k + 1) * 6 + 1, none⟩ = some (.string (S.pay k).nm) := H5.out.1.nm k hk
        have h2 : W5.cell? ⟨R.s, (k + 1) * 6 + 2, none⟩ = some (.string (S.pay k).dt) := H5.out.1.dt k hk
        have h3 : W5.cell? ⟨R.s, (k + 1) * 6 + 3, none⟩ = some (.int .i64 (S.pay k).tl) := H5.out.1.tl k hk
        have fs : ∀ j, W5.frozen? ⟨R.s, j, none⟩ = false := H5.out.1.fs
        (refine rgS 18 (h := fun K hK => ?_); go_simp)
        have HF : Hid (RAr (set6 W5 R.s ((k + 1) * 6) (.bool true) (.string p.nm) (.string p.dt) (.int .i64 p.tl) (.slice (some ⟨g, 0, none⟩) S.wd S.wd) (.int .i64 (IntKind.i64.wrap (S.turn k + 1)))) { R with wb := upd R.wb k g } cap (.slice sp Q.length cp) Q (S.alloc k p (valW 0 (fun _ => 0))) ∧ Keeps (fun g => g = R.b ∨ g = R.s) w (set6 W5 R.s ((k + 1) * 6) (.bool true) (.string p.nm) (.string p.dt) (.int .i64 p.tl) (.slice (some ⟨g, 0, none⟩) S.wd S.wd) (.int .i64 (IntKind.i64.wrap (S.turn k + 1)))) ∧ (w.heap.size ≤ g ∧ ∀ y, (Value.slice sp Q.length cp).ownBlock = some y → w.heap.size ≤ y)) := by
          obtain ⟨a1, a2, a3, a4, a5, a6, a7⟩ := H5.out
          have hgl : g < W5.heap.size := lt_heap a6
          refine ⟨?_, (a2.mono (fun _ e => .inl e)).trans ((set6_keeps _ _ _ _ _ _ _ _ _).mono (fun _ e => .inr e)), by omega, fun y hy => (a4 y hy).1⟩
          refine (a1.setSlot k hk true p g (IntKind.i64.wrap (S.turn k + 1)) (layW S.word (k * S.wd) S.wd (valW 0 (fun _ => 0))) (fun _ => ⟨hgl, fun e => ?_, fun e => ?_, fun e => ?_, fun e => ?_, fun j => frozen?_heap a6 j, fun j hj => ?_⟩) (fun i hi hne j hj => ?_)).cong ?_
          · have := a7 R.b (.inl rfl); omega
          · have := a7 R.s (.inr (.inl rfl)); omega
          · have := a7 g (.inr (.inr (.inl e))); omega
          · have := (a4 g e).2; omega
          · have hj : j < S.wd := hj
            rw [cell?_heap a6, getElem?_made _ _ _ hj]
            have e : layW S.word (k * S.wd) S.wd (valW 0 (fun _ => 0)) (k * S.wd + j) = 0 := by
              unfold layW
              rw [if_pos ⟨by omega, by omega⟩]
              unfold valW
              split <;> rfl
            show _ = some (Value.int .u64 (layW S.word (k * S.wd) S.wd (valW 0 (fun _ => 0)) (k * S.wd + j)))
            rw [e]
            simp [Nat.mod_one]
          · have hj : j < S.wd := hj
            show layW S.word (k * S.wd) S.wd (valW 0 (fun _ => 0)) (i * S.wd + j) = S.word (i * S.wd + j)
            unfold layW
            rw [if_neg]
            rintro ⟨e1, e2⟩
            rcases Nat.lt_or_gt_of_ne hne with h | h
            · have := Nat.mul_le_mul_right S.wd (show i + 1 ≤ k from h)
              rw [Nat.add_mul] at this
              omega
            · have := Nat.mul_le_mul_right S.wd (show k + 1 ≤ i from h)
              rw [Nat.add_mul] at this
              omega
          · unfold AS.alloc AS.laid acc1
            rw [Go.IntWalk.i64_left]
        have HS2 : Hid ((set6 W5 R.s ((k + 1) * 6) (.bool true) (.string p.nm) (.string p.dt) (.int .i64 p.tl) (.slice (some ⟨g, 0, none⟩) S.wd S.wd) (.int .i64 (IntKind.i64.wrap (S.turn k + 1)))).cell? ⟨R.b, 1, none⟩ = some (.slice (some ⟨R.s, 0, none⟩) (S.n + 1) cap) ∧ (set6 W5 R.s ((k + 1) * 6) (.bool true) (.string p.nm) (.string p.dt) (.int .i64 p.tl) (.slice (some ⟨g, 0, none⟩) S.wd S.wd) (.int .i64 (IntKind.i64.wrap (S.turn k + 1)))).cell? ⟨w.heap.size, 0, none⟩ = some (.string p.nm) ∧ (set6 W5 R.s ((k + 1) * 6) (.bool true) (.string p.nm) (.string p.dt) (.int .i64 p.tl) (.slice (some ⟨g, 0, none⟩) S.wd S.wd) (.int .i64 (IntKind.i64.wrap (S.turn k + 1)))).cell? ⟨w.heap.size, 0 + 1, none⟩ = some (.string p.dt) ∧ (set6 W5 R.s ((k + 1) * 6) (.bool true) (.string p.nm) (.string p.dt) (.int .i64 p.tl) (.slice (some ⟨g, 0, none⟩) S.wd S.wd) (.int .i64 (IntKind.i64.wrap (S.turn k + 1)))).cell? ⟨w.heap.size, 0 + 1 + 1, none⟩ = some (.int .i64 p.tl)) := by
          obtain ⟨s1, s2, s3, s4⟩ := hHeld
          have kk := set6_keeps W5 R.s ((k + 1) * 6) (.bool true) (.string p.nm) (.string p.dt) (.int .i64 p.tl) (.slice (some ⟨g, 0, none⟩) S.wd S.wd) (.int .i64 (IntKind.i64.wrap (S.turn k + 1)))
          have l1 := lt_heap H5.out.2.2.1
          have n1 := H1.out.2.2.2.2.2
          exact ⟨(kk.cell (p := ⟨R.b, 1, none⟩) H5.out.1.lb H5.out.1.bs).trans s1, (kk.cell (p := ⟨w.heap.size, 0, none⟩) l1 n1).trans s2, (kk.cell (p := ⟨w.heap.size, 0 + 1, none⟩) l1 n1).trans s3, (kk.cell (p := ⟨w.heap.size, 0 + 1 + 1, none⟩) l1 n1).trans s4⟩
        (refine hK.out _ _ HS2.out (fun hHeld => ?_); clear hK K; try simp only [Act.put, List.setIfInBounds_toArray, List.set_cons_zero, List.set_cons_succ])
        refine wpAnyH_done (by kernel_rfl) ?_ _
        go_wp2
        go_ret2
        exact ⟨g, _, rfl, HF.out.2.2, HF.out.1, HF.out.2.1⟩
end Go.Proofs.YtdjklcmkcccpeaaGreat

namespace Go.Proofs.YtdjklcmkcccpeaaGreat
set_option linter.unusedSimpArgs false
open Go.ChangeShapes Go.WideShapes Go.ChangeAt Go.RowKit Go.MuLone Go.RwLone
set_option linter.unusedVariables false
/-- A machine that begins. -/
theorem Bo.push {w w2 : World} {l : WL} {qv : Value} {s : WS} (h : Bo w l qv s) (m : PM) (k : Keeps (fun _ => False) w w2) (hm : m.H w2 l) (hi : m.ix < 2) (hok : m.ok (s.x m.ix)) (h1 : w.heap.size ≤ m.pb) (h2 : w.heap.size ≤ m.rb) (h3 : m.pb ≠ m.rb) : Bo w2 l qv { s with ms := s.ms ++ [m] } := by
  have b := h.keeps k (fun _ _ e => e)
  have lt : ∀ g, aF l qv s g → g ≠ m.pb ∧ g ≠ m.rb := fun g hg => by
    have := h.lt g hg
    omega
  refine ⟨b.a, b.i, b.r, b.j, fun m2 hm2 => ?_, ?_, b.da, b.dx, b.dr, b.dy, b.pd, b.c, b.wd⟩
  · rcases List.mem_append.1 (show m2 ∈ s.ms ++ [m] from hm2) with e | e
    · exact b.m m2 e
    · obtain rfl : m2 = m := by simpa using e
      exact ⟨hm, hi, hok, h3, fun e => (lt _ (.inl e)).1 rfl, fun e => (lt _ (.inl e)).2 rfl, fun e => (lt _ (.inr (.inl e))).1 rfl, fun e => (lt _ (.inr (.inl e))).2 rfl⟩
  · show (s.ms ++ [m]).Pairwise PM.dj
    rw [List.pairwise_append]
    refine ⟨h.mm, by simp, fun a ha c hc => ?_⟩
    obtain rfl : c = m := by simpa using hc
    have l1 := lt a.pb (.inr (.inr ⟨a, ha, .inl rfl⟩))
    have l2 := lt a.rb (.inr (.inr ⟨a, ha, .inr rfl⟩))
    exact ⟨l1.1, l1.2, l2.1, l2.2⟩
theorem push_aF {l : WL} {qv : Value} {s : WS} {m : PM} (g : Nat) (hg : aF l qv { s with ms := s.ms ++ [m] } g) : aF l qv s g ∨ g = m.pb ∨ g = m.rb := by
  rcases hg with hg | hg | ⟨m2, hm2, hg⟩
  · exact .inl (.inl hg)
  · exact .inl (.inr (.inl hg))
  · rcases List.mem_append.1 (show m2 ∈ s.ms ++ [m] from hm2) with e | e
    · exact .inl (.inr (.inr ⟨m2, e, hg⟩))
    · obtain rfl : m2 = m := by simpa using e
      exact .inr hg
/-- The arena was changed, on both sides. -/
theorem Bo.arena {w w2 : World} {l : WL} {qv : Value} {s : WS} (h : Bo w l qv s) (R' : RL) (qv' : Value) (S' : AS) (Q' : List Nat) (ha : Arn w2 l.L Q' S') (hr : RAr w2 R' l.cap qv' Q' S') (k : Keeps (fun g => l.L.has g ∨ raF l.R qv s.S g) w w2)
    (hn : ∀ g, raF R' qv' S' g → raF l.R qv s.S g ∨ w.heap.size ≤ g) (eb : R'.b = l.R.b) (ew : S'.wd = s.S.wd) (hw : ∀ i, LkOk (S'.word i)) : Bo w2 { l with R := R' } qv' { s with S := S', Q := Q' } := by
  have nn : ∀ g, aF l qv s g → ¬ raF l.R qv s.S g → ¬ raF R' qv' S' g := fun g h1 h2 e => by
    rcases hn g e with e | e
    · exact h2 e
    · have := h.lt g h1; omega
  have dd : ∀ g, aF l qv s g → ¬ dF l qv s.S g → ¬ dF { l with R := R' } qv' S' g := fun g h1 h2 e => by
    rcases e with e | e
    · exact nn g h1 (fun e => h2 (.inl e)) e
    · exact h2 (.inr e)
  refine ⟨ha, fun i hi => (h.i i hi).keeps k (fun g hg e => ?_), hr, fun i hi => ?_, fun m hm => ?_, h.mm, h.da, h.dx, fun i hi g hg => nn g (.inr (.inl (.inr ⟨i, hi, hg⟩))) (h.dr i hi g hg), h.dy, fun g hg => dd g (.inl hg) (h.pd g hg), fun i hi => by show (s.x i).cell < S'.wd; rw [ew]; exact h.c i hi, fun i hi => ⟨hw, (h.wd i hi).2⟩⟩
  · rcases e with e | e
    · exact h.da i hi g hg e
    · exact h.pd g (.inr ⟨i, hi, hg⟩) (.inl e)
  · show RxH w2 R'.b (l.Y i) (l.hc i) (s.x i)
    rw [eb]
    refine (h.j i hi).keeps k (fun g hg e => ?_)
    rcases e with e | e
    · exact h.pd g (.inl e) (.inr ⟨i, hi, hg⟩)
    · exact h.dr i hi g hg e
  · obtain ⟨n1, n2, n3, n4, n5, n6, n7, n8⟩ := h.m m hm
    have np : ∀ g, ¬ pF l g → ¬ dF l qv s.S g → ¬ (l.L.has g ∨ raF l.R qv s.S g) := fun g h1 h2 e => e.elim (fun e => h1 (.inl e)) (fun e => h2 (.inl e))
    exact ⟨(n1.keeps k (np _ n5 n7) (np _ n6 n8)).same rfl rfl, n2, n3, n4, n5, n6, dd _ (.inr (.inr ⟨m, hm, .inl rfl⟩)) n7, dd _ (.inr (.inr ⟨m, hm, .inr rfl⟩)) n8⟩
theorem arena_aF {w : World} {l : WL} {qv : Value} {s : WS} {R' : RL} {qv' : Value} {S' : AS} {Q' : List Nat} (hn : ∀ g, raF R' qv' S' g → raF l.R qv s.S g ∨ w.heap.size ≤ g) (g : Nat) (hg : aF { l with R := R' } qv' { s with S := S', Q := Q' } g) : aF l qv s g ∨ w.heap.size ≤ g := by
  rcases hg with hg | (hg | hg) | hg
  · exact .inl (.inl hg)
  · exact (hn g hg).imp (fun e => .inr (.inl (.inl e))) id
  · exact .inl (.inr (.inl (.inr hg)))
  · exact .inl (.inr (.inr hg))
/-- A pair of the law. -/
def pmC (m : PM) : List Value := [.int .i64 (m.kd : Int), if m.kd = 1 then .pointer (some ⟨m.pb, 0, none⟩) else .pointer none, if m.kd = 2 then .pointer (some ⟨m.pb, 0, none⟩) else .pointer none, if m.kd = 4 then .pointer (some ⟨m.pb, 0, none⟩) else .pointer none, if m.kd = 1 then .pointer (some ⟨m.rb, 0, none⟩) else .pointer none, if m.kd = 2 then .pointer (some ⟨m.rb, 0, none⟩) else .pointer none, if m.kd = 4 then .pointer (some ⟨m.rb, 0, none⟩) else .pointer none]
/-- The law's world. -/
structure St4 (w : World) (B wb : Nat) (hold : Int) (l : WL) (qv av : Value) (s : WS) : Prop where
  b : Bo w l qv s
  c0 : w.cell? ⟨wb, 0, none⟩ = some (.pointer (some ⟨l.L.b, 0, none⟩))
  c1 : ∀ i, i < 2 → w.cell? ⟨wb, 1 + i, none⟩ = some (.pointer (some ⟨(l.X i).x, 0, none⟩))
  c3 : w.cell? ⟨wb, 3, none⟩ = some (.pointer (some ⟨l.R.b, 0, none⟩))
  c4 : ∀ i, i < 2 → w.cell? ⟨wb, 4 + i, none⟩ = some (.pointer (some ⟨(l.Y i).x, 0, none⟩))
  c6 : w.cell? ⟨wb, 6, none⟩ = some av
  c7 : w.cell? ⟨wb, 7, none⟩ = some (.int .i64 hold)
  fz : ∀ j, w.frozen? ⟨wb, j, none⟩ = false
  o : OwG pmC 188 7 w B av s.ms
  lw : wb < w.heap.size
  lB : B ≤ wb
  nw : ¬ aF l qv s wb
  na : ∀ g, av.ownBlock = some g → ¬ aF l qv s g ∧ g ≠ wb
  lo : ∀ g, aF l qv s g → B ≤ g
/-- The blocks of all. -/
def sF (wb : Nat) (l : WL) (qv av : Value) (s : WS) (g : Nat) : Prop := aF l qv s g ∨ g = wb ∨ av.ownBlock = some g
theorem St4.low {w : World} {B wb : Nat} {hold : Int} {l : WL} {qv av : Value} {s : WS} (h : St4 w B wb hold l qv av s) (g : Nat) (hg : sF wb l qv av s g) : B ≤ g ∧ g < w.heap.size := by
  rcases hg with e | rfl | e
  · exact ⟨h.lo g e, h.b.lt g e⟩
  · exact ⟨h.lB, h.lw⟩
  · exact World.ownsRow.lt h.o g e
theorem St4.keeps {w w' : World} {D : Nat → Prop} {B wb : Nat} {hold : Int} {l : WL} {qv av : Value} {s : WS} (h : St4 w B wb hold l qv av s) (k : Keeps D w w') (hD : ∀ g, sF wb l qv av s g → ¬ D g) : St4 w' B wb hold l qv av s := by
  have cc : ∀ j, w'.cell? ⟨wb, j, none⟩ = w.cell? ⟨wb, j, none⟩ := fun j => k.cell (p := ⟨wb, j, none⟩) h.lw (hD _ (.inr (.inl rfl)))
  exact ⟨h.b.keeps k (fun g hg => hD g (.inl hg)), (cc 0).trans h.c0, fun i hi => (cc _).trans (h.c1 i hi), (cc 3).trans h.c3, fun i hi => (cc _).trans (h.c4 i hi), (cc 6).trans h.c6, (cc 7).trans h.c7, fun j => (k.frozen (p := ⟨wb, j, none⟩) h.lw (hD _ (.inr (.inl rfl)))).trans (h.fz j), owK h.o k (fun g hg => hD g (.inr (.inr hg))), Nat.lt_of_lt_of_le h.lw k.size, h.lB, h.nw, h.na, h.lo⟩
theorem St4.later {w w' : World} {B wb : Nat} {hold : Int} {l : WL} {qv av : Value} {s : WS} (h : St4 w B wb hold l qv av s) (k : Below w.heap.size w w') : St4 w' B wb hold l qv av s := h.keeps (Below.keeps k (fun _ => False)) (fun _ _ e => e)
/-- What both sides did, in one: the law's own cells stay. -/
theorem St4.go {w w' : World} {D : Nat → Prop} {B wb : Nat} {hold : Int} {l l' : WL} {qv qv' av : Value} {s s' : WS} (h : St4 w B wb hold l qv av s) (hb : Bo w' l' qv' s') (k : Keeps D w w') (hD : ∀ g, D g → aF l qv s g) (hn : ∀ g, aF l' qv' s' g → aF l qv s g ∨ w.heap.size ≤ g)
    (e1 : l'.L = l.L) (e2 : l'.X = l.X) (e3 : l'.R.b = l.R.b) (e4 : l'.Y = l.Y) (e5 : s'.ms = s.ms ∨ (∀ i : Nat, (s'.ms[i]?).map pmC = (s.ms[i]?).map pmC)) (hs : B ≤ w.heap.size) : St4 w' B wb hold l' qv' av s' ∧ Below B w w' := by
  have cc : ∀ j, w'.cell? ⟨wb, j, none⟩ = w.cell? ⟨wb, j, none⟩ := fun j => k.cell (p := ⟨wb, j, none⟩) h.lw (fun e => h.nw (hD _ e))
  have hmap : s'.ms.map pmC = s.ms.map pmC := by
    rcases e5 with e | e
    · rw [e]
    · apply List.ext_getElem?
      intro i
      rw [List.getElem?_map, List.getElem?_map]
      exact e i
  have hlen : s'.ms.length = s.ms.length := by
    have := congrArg List.length hmap
    simpa using this
  have hfl : s'.ms.flatMap pmC = s.ms.flatMap pmC := by rw [List.flatMap_def, List.flatMap_def, hmap]
  have ho := owK h.o k (fun g hg e => (h.na g hg).1 (hD g e))
  refine ⟨⟨hb, by rw [e1]; exact (cc 0).trans h.c0, fun i hi => by rw [e2]; exact (cc _).trans (h.c1 i hi), by rw [e3]; exact (cc 3).trans h.c3, fun i hi => by rw [e4]; exact (cc _).trans (h.c4 i hi), (cc 6).trans h.c6, (cc 7).trans h.c7, fun j => (k.frozen (p := ⟨wb, j, none⟩) h.lw (fun e => h.nw (hD _ e))).trans (h.fz j), ?_, Nat.lt_of_lt_of_le h.lw k.size, h.lB, fun e => ?_, fun g hg => ⟨fun e => ?_, (h.na g hg).2⟩, fun g hg => ?_⟩, k.below hs (fun g hg e => by have := h.lo g (hD g e); omega)⟩
  · unfold OwG at ho ⊢
    rw [hfl, hlen]
    exact ho
  · rcases hn _ e with e | e
    · exact h.nw e
    · have := h.lw; omega
  · rcases hn _ e with e | e
    · exact (h.na g hg).1 e
    · have := (World.ownsRow.lt h.o g hg).2; omega
  · rcases hn _ hg with e | e
    · exact h.lo g e
    · omega
end Go.Proofs.YtdjklcmkcccpeaaGreat

namespace Go.Proofs.YtdjklcmkcccpeaaGreat
set_option linter.unusedSimpArgs false
open Go.ChangeShapes Go.WideShapes Go.ChangeAt Go.RowKit Go.MuLone Go.RwLone
set_option linter.unusedVariables false
set_option maxRecDepth 100000
set_option maxHeartbeats 6400000
theorem Keeps.thin {D : Nat → Prop} {w w' : World} (h : Keeps (fun x => D x ∨ w.heap.size ≤ x) w w') : Keeps D w w' := ⟨h.os, h.tape, h.output, h.size, fun k hk hn => h.block k hk (fun e => e.elim hn (fun e => by omega))⟩
/-- append: in place, or in a block of its own that leaves the old one as it was. -/
theorem run_app_stay {P : Program} (w : World) (t ty : TypeId) (base : Nat) (e : TypeId) (i : TypeInfo) (z : Value) (size bytes : Nat) (ht : P.underlying t = some (.slice e)) (hi : P.info? e = some i) (hz : i.zero = some z) (hsize : i.size = size) (hby : i.bytes = bytes) (hzs : z.cells.size = size) (hsz : 0 < size)
    (v : Value) (n : Nat) (xs : List Value) (hown : w.ownsRow base e size v n xs)
    (ad : Addr) (m c : Nat) (news : List Value) (hl : news.length = m * size) (hnews : ∀ j u, news[j]? = some u → w.cell? (ad.add j) = some u) (h1 : ∀ u ∈ news, u.oneCell' = true)
    (hm : 0 < m) (h63 : n + m ≤ maxLen) (hbytes : (n + m) * bytes ≤ 140737488355328) (hbase : base ≤ w.heap.size) :
    ∃ g cap w', (Builtin.append_ #[t, t] ty #[v, .slice (some ad) m c]).run P w = .ok (.slice (some ⟨g, 0, none⟩) (n + m) cap) w' ∧ w'.ownsRow base e size (.slice (some ⟨g, 0, none⟩) (n + m) cap) (n + m) (xs ++ news) ∧ ((v.ownBlock = some g ∧ w.grownBy w' v.ownBlock) ∨ (g = w.heap.size ∧ w.grownBy w' none)) ∧ g < w'.heap.size := by
  obtain ⟨g', cap', w', hr, h2, h3, h4, h5⟩ := run_append_lies (P := P) w t ty base e i z size bytes ht hi hz hsize hby hzs hsz v n xs hown ad m c news hl hnews h1 hm h63 hbytes hbase w.heap.size rfl
  refine ⟨g', cap', w', hr, h2, ?_, h5⟩
  subst hsize hby
  rcases h4 with e4 | e4
  · exact .inl ⟨e4, h3⟩
  · right
    refine ⟨e4, ?_⟩
    rcases hown.2 with ⟨rfl, rfl⟩ | ⟨g, cap, cur, rfl, hbg, hg, hnc, hcm, hcs, htake⟩
    · exact h3
    · by_cases hroom : n + m ≤ cap
      · have hfit : n * i.size + news.length ≤ cur.size := by rw [hl, hcs, ← Nat.add_mul]; exact Nat.mul_le_mul_right _ hroom
        have hr2 := run_append_room (P := P) w t ty e i ht hi g n cap cur hg ad m c news hl hnews h1 hroom hfit
        rw [hr] at hr2
        injection hr2 with e1 e2
        injection e1 with e1 _ _
        injection e1 with e1
        injection e1 with e1 _ _
        have := (Array.getElem?_eq_some_iff.1 hg).1
        omega
      · have holds : ∀ j u, xs[j]? = some u → w.cell? ((⟨g, 0, none⟩ : Addr).add j) = some u := hown.cells (g := g) rfl
        have hsmall : n + m ≤ 9223372036854775807 := by simp only [maxLen] at h63; omega
        have hr2 := run_append_grow (P := P) w t ty e i z ht hi hz ⟨g, 0, none⟩ n cap xs hown.1 holds ad m c news hl hnews (by omega) (by omega) (growslice_fits (by omega) hbytes)
        rw [hr] at hr2
        injection hr2 with e1 e2
        rw [e2]
        exact ⟨rfl, rfl, rfl, by simp, fun k hk _ => Below.heap_alloc w.drew _ k hk⟩
theorem app_stay_wp {α : Type} {cs : α → List Value} {wr : World} {o : Oper} {a : Act} {K : Act → World → Prop} {Q : Exit → Act → World → Prop} (s x : Operand) (t e : TypeId)
    (ho : o.op = .call { callee := .builtin .append, args := #[s, x], argTypes := #[t, t] })
    {z : Value} {n bytes : Nat} (hu : Tryz.prog.underlying t = some (.slice e)) (hinfo : (Tryz.prog.info? e).map (fun i => (i.zero, i.size, i.bytes)) = some (some z, n, bytes)) (hzs : z.cells.size = n) (hn0 : 0 < n) (hn : ∀ y, (cs y).length = n)
    (v : Value) (xs : List α) (c : α) (hown : OwG cs e n wr 0 v xs) (hs : a.eval s = v) (g : Nat) (hg : g = wr.heap.size) (hx : a.eval x = .slice (some ⟨g, 0, none⟩) 1 1) (h1 : ∀ u ∈ cs c, u.oneCell' = true)
    (ar : Array Value) (har : ar = (cs c).toArray)
    (hm : xs.length < maxLen) (hbytes : (xs.length + 1) * bytes ≤ 140737488355328)
    (h : ∀ b cap w', OwG cs e n w' 0 (.slice (some ⟨b, 0, none⟩) (xs.length + 1) cap) (xs ++ [c]) → ((v.ownBlock = some b ∧ Keeps (fun k => v.ownBlock = some k) wr w') ∨ (wr.heap.size ≤ b ∧ Keeps (fun _ => False) wr w')) → b < w'.heap.size → K (a.put o.dst (.slice (some ⟨b, 0, none⟩) (xs.length + 1) cap)) w') :
    o.wp Tryz.prog a (wr.alloc (.cells ar e)) K Q := by
  subst hg har
  obtain ⟨i0, hi, hz0, hz1, hz2⟩ := info_parts hinfo
  obtain ⟨b, cap, w', hr, h2, h3, h4⟩ := run_app_stay (P := Tryz.prog) (wr.alloc (.cells (cs c).toArray e)) t o.type 0 e i0 z n bytes hu hi hz0 hz1 hz2 hzs hn0 v xs.length _ (World.ownsRow.alloc hown _)
    ⟨wr.heap.size, 0, none⟩ 1 1 (cs c) (by rw [hn]; omega) (by
      intro j u hj
      rw [addr_add, Nat.zero_add]
      unfold World.cell?
      rw [heap_alloc_last _ _ _ rfl]
      simpa using hj) h1 (by omega) (by omega) hbytes (Nat.zero_le _)
  unfold Oper.wp execOp
  simp only [ho, resolve, invoke, builtin, Sem.run_bind, Sem.run_pure, Result.andThen_ok, List.map_toArray, List.map_cons, List.map_nil, hs, hx, hr]
  refine h b cap w' ?_ ?_ h4
  · have : (xs ++ [c]).length = xs.length + 1 := by simp
    unfold OwG; rw [this, List.flatMap_append, show [c].flatMap cs = cs c from by simp]; exact h2
  · rcases h3 with ⟨e1, k⟩ | ⟨e1, k⟩
    · exact .inl ⟨e1, k.os, k.tape, k.output, by have := k.size; rw [szAl] at this; omega, fun k' hk hne => (k.block k' (by rw [szAl]; omega) (fun e => hne e.symm)).trans (Below.heap_alloc _ _ k' hk)⟩
    · exact .inr ⟨by rw [e1, szAl]; omega, k.os, k.tape, k.output, by have := k.size; rw [szAl] at this; omega, fun k' hk hne => (k.block k' (by rw [szAl]; omega) (by simp)).trans (Below.heap_alloc _ _ k' hk)⟩
theorem app_stay {α : Type} {cs : α → List Value} {wr : World} {ops : Array Oper} {rest : List Oper} {o : Oper} {a : Act} {Q : Exit → Act → World → Prop} (hgd : o.guard = none) (s x : Operand) (t e : TypeId)
    (ho : o.op = .call { callee := .builtin .append, args := #[s, x], argTypes := #[t, t] })
    {z : Value} {n bytes : Nat} (hu : Tryz.prog.underlying t = some (.slice e)) (hinfo : (Tryz.prog.info? e).map (fun i => (i.zero, i.size, i.bytes)) = some (some z, n, bytes)) (hzs : z.cells.size = n) (hn0 : 0 < n) (hn : ∀ y, (cs y).length = n)
    (v : Value) (xs : List α) (c : α) (hown : OwG cs e n wr 0 v xs) (hs : a.eval s = v) (g : Nat) (hg : g = wr.heap.size) (hx : a.eval x = .slice (some ⟨g, 0, none⟩) 1 1) (h1 : ∀ u ∈ cs c, u.oneCell' = true)
    (ar : Array Value) (har : ar = (cs c).toArray)
    (hm : xs.length < maxLen) (hbytes : (xs.length + 1) * bytes ≤ 140737488355328)
    (h : ∀ b cap w', OwG cs e n w' 0 (.slice (some ⟨b, 0, none⟩) (xs.length + 1) cap) (xs ++ [c]) → ((v.ownBlock = some b ∧ Keeps (fun k => v.ownBlock = some k) wr w') ∨ (wr.heap.size ≤ b ∧ Keeps (fun _ => False) wr w')) → b < w'.heap.size → wpList Tryz.prog ops Q rest (a.put o.dst (.slice (some ⟨b, 0, none⟩) (xs.length + 1) cap)) w') :
    wpList Tryz.prog ops Q (o :: rest) a (wr.alloc (.cells ar e)) :=
  wpList_plain hgd fun _ hK => app_stay_wp s x t e ho hu hinfo hzs hn0 hn v xs c hown hs g hg hx h1 ar har hm hbytes (fun b cap w' p1 p2 p3 => hK _ _ (h b cap w' p1 p2 p3))
/-- A row that lies at a, written full of p, and a list that has grown upon it. -/
structure GrO (w : World) (a : Option Addr) (n : Nat) (p : Int) (c : Value) (zs : List Int) : Prop where
  o : OwI w 0 c zs
  l : n ≤ zs.length
  z : ∀ j, j < n → zs[j]? = some p
  g : ∀ g, a = some ⟨g, 0, none⟩ → g < w.heap.size ∧ (∃ cur, w.heap[g]? = some (.cells cur 3)) ∧ (c.ownBlock = some g ∨ (c.ownBlock ≠ some g ∧ ∀ j, j < n → w.cell? ⟨g, j, none⟩ = some (.int .i64 p)))
/-- Where it lies. -/
def CxO (a : Option Addr) (c : Value) (x : Nat) : Prop := c.ownBlock = some x ∨ a = some ⟨x, 0, none⟩
theorem GrO.lt {w : World} {a : Option Addr} {n : Nat} {p : Int} {c : Value} {zs : List Int} (h : GrO w a n p c zs) (x : Nat) (hx : CxO a c x) : x < w.heap.size := by
  rcases hx with e | e
  · exact (World.ownsRow.lt h.o x e).2
  · exact (h.g x e).1
theorem GrO.ty {w : World} {a : Option Addr} {n : Nat} {p : Int} {c : Value} {zs : List Int} (h : GrO w a n p c zs) (x : Nat) (hx : CxO a c x) : ∃ cur, w.heap[x]? = some (.cells cur 3) := by
  rcases hx with e | e
  · exact blk h.o e
  · exact (h.g x e).2.1
theorem owI_cellO {w : World} {B g n cap : Nat} {zs : List Int} (h : OwI w B (.slice (some ⟨g, 0, none⟩) n cap) zs) (j : Nat) (x : Int) (hj : zs[j]? = some x) : w.cell? ⟨g, j, none⟩ = some (.int .i64 x) := by
  have hn := (owG_cap h).1
  subst hn
  obtain ⟨hl, he⟩ := List.getElem?_eq_some_iff.1 hj
  exact (World.ownsRow.cellAt h j (by omega)).trans (by rw [flat_inZ, List.getElem?_map, hj]; rfl)
theorem owI_blockO {w : World} {B g : Nat} {c : Value} {zs : List Int} (h : OwI w B c zs) (hg : c.ownBlock = some g) : ∃ cap, c = .slice (some ⟨g, 0, none⟩) zs.length cap := by
  rcases h.2 with ⟨rfl, _⟩ | ⟨g', cap, cur, rfl, _⟩
  · cases hg
  · have e : g' = g := Option.some.inj hg
    subst e
    exact ⟨cap, rfl⟩
theorem GrO.cell {w : World} {a : Option Addr} {n : Nat} {p : Int} {c : Value} {zs : List Int} (h : GrO w a n p c zs) (g : Nat) (hg : a = some ⟨g, 0, none⟩) (j : Nat) (hj : j < n) : w.cell? ⟨g, j, none⟩ = some (.int .i64 p) := by
  rcases (h.g g hg).2.2 with e | ⟨_, e⟩
  · obtain ⟨cap, rfl⟩ := owI_blockO h.o e
    exact owI_cellO h.o j p (h.z j hj)
  · exact e j hj
theorem GrO.keeps {w w' : World} {D : Nat → Prop} {a : Option Addr} {n : Nat} {p : Int} {c : Value} {zs : List Int} (h : GrO w a n p c zs) (k : Keeps D w w') (hD : ∀ x, D x → ¬ CxO a c x) : GrO w' a n p c zs :=
  ⟨owK h.o k (fun g hg e => hD g e (.inl hg)), h.l, h.z, fun g hg => ⟨Nat.lt_of_lt_of_le (h.g g hg).1 k.size, by
    obtain ⟨cur, e⟩ := (h.g g hg).2.1
    exact ⟨cur, (k.block g (h.g g hg).1 (fun e' => hD g e' (.inr hg))).trans e⟩, (h.g g hg).2.2.imp id (fun e => ⟨e.1, fun j hj => (k.cell (p := ⟨g, j, none⟩) (h.g g hg).1 (fun e' => hD g e' (.inr hg))).trans (e.2 j hj)⟩)⟩⟩
/-- One more. -/
theorem GrO.app {w w' : World} {a : Option Addr} {n : Nat} {p : Int} {c : Value} {zs : List Int} (h : GrO w a n p c zs) {b cap : Nat} {m : Int} (o : OwI w' 0 (.slice (some ⟨b, 0, none⟩) (zs.length + 1) cap) (zs ++ [m])) (k : (c.ownBlock = some b ∧ Keeps (fun k => c.ownBlock = some k) w w') ∨ (w.heap.size ≤ b ∧ Keeps (fun _ => False) w w')) :
    GrO w' a n p (.slice (some ⟨b, 0, none⟩) (zs.length + 1) cap) (zs ++ [m]) ∧ (∀ x, CxO a (.slice (some ⟨b, 0, none⟩) (zs.length + 1) cap) x → CxO a c x ∨ w.heap.size ≤ x) ∧ Keeps (CxO a c) w w' := by
  have hl := h.l
  refine ⟨⟨o, by simp; omega, fun j hj => by rw [List.getElem?_append_left (by omega)]; exact h.z j hj, fun g hg => ?_⟩, fun x hx => ?_, ?_⟩
  · have hlt := (h.g g hg).1
    obtain ⟨cur, hcu⟩ := (h.g g hg).2.1
    rcases k with ⟨e, k⟩ | ⟨e, k⟩
    · refine ⟨Nat.lt_of_lt_of_le hlt k.size, ?_⟩
      rcases (h.g g hg).2.2 with e2 | ⟨e2, e3⟩
      · rw [e] at e2
        exact ⟨blk o e2, .inl e2⟩
      · refine ⟨⟨cur, (k.block g hlt (fun e' => e2 e')).trans hcu⟩, .inr ⟨fun e4 => e2 (e.trans e4), fun j hj => (k.cell (p := ⟨g, j, none⟩) hlt (fun e' => e2 e')).trans (e3 j hj)⟩⟩
    · refine ⟨Nat.lt_of_lt_of_le hlt k.size, ⟨cur, (k.block g hlt (fun e' => e')).trans hcu⟩, .inr ⟨fun e4 => by have : b = g := Option.some.inj e4; omega, fun j hj => (k.cell (p := ⟨g, j, none⟩) hlt (fun e' => e')).trans (h.cell g hg j hj)⟩⟩
  · rcases hx with e | e
    · obtain rfl : b = x := Option.some.inj e
      rcases k with ⟨e, _⟩ | ⟨e, _⟩
      · exact .inl (.inl e)
      · exact .inr e
    · exact .inl (.inr e)
  · rcases k with ⟨_, k⟩ | ⟨_, k⟩
    · exact k.mono (fun x e => .inl e)
    · exact k.mono (fun x e => e.elim)
structure RwD where
  a : Option Addr
  n : Nat
  c : Nat
abbrev RwD.v (r : RwD) : Value := .slice r.a r.n r.c
/-- What is written into row m. -/
def mkI (m : Nat) : Int := -1 - (m : Int)
theorem upd_ne {β : Type} (f : Nat → β) (m : Nat) (x : β) (j : Nat) (h : j ≠ m) : upd f m x j = f j := upd_other f x h
theorem cx_own {r : RwD} {x : Nat} (h : CxO r.a r.v x) : r.v.ownBlock = some x := h.elim id (fun e => by show (Value.slice r.a r.n r.c).ownBlock = _; rw [e]; rfl)
/-- Rows, k of them marked and grown upon. -/
structure Fq (w wr : World) (D : Nat → Prop) (N : Nat) (R : Nat → RwD) (c : Nat → Value) (z : Nat → List Int) (k : Nat) : Prop where
  g : ∀ m, m < N → m < k → GrO wr (R m).a (R m).n (mkI m) (c m) (z m) ∧ (z m).length = (R m).n + 1 ∧ (z m)[(R m).n]? = some (mkI m)
  o : ∀ m, m < N → k ≤ m → OwI wr 0 (R m).v (z m) ∧ (z m).length = (R m).n ∧ c m = (R m).v
  d : ∀ m m', m < N → m' < N → m ≠ m' → ∀ x, CxO (R m).a (c m) x → ¬ CxO (R m').a (c m') x
  f : ∀ m, m < N → ∀ x, CxO (R m).a (c m) x → D x ∨ w.heap.size ≤ x
  kp : Keeps D w wr
  sp : ∀ m, m < N → 0 < (R m).n → ∃ g, (R m).a = some ⟨g, 0, none⟩
/-- In the midst of marking row k: i cells are marked. -/
structure Fm (w wr : World) (D : Nat → Prop) (N : Nat) (R : Nat → RwD) (c : Nat → Value) (z : Nat → List Int) (k i : Nat) : Prop where
  q : Fq w wr D N R c z k
  p : ∀ i', i' < i → (z k)[i']? = some (mkI k)
theorem Fq.lt {w wr : World} {D : Nat → Prop} {N : Nat} {R : Nat → RwD} {c : Nat → Value} {z : Nat → List Int} {k : Nat} (h : Fq w wr D N R c z k) (m : Nat) (hm : m < N) (x : Nat) (hx : CxO (R m).a (c m) x) : x < wr.heap.size := by
  by_cases e : m < k
  · exact (h.g m hm e).1.lt x hx
  · obtain ⟨o, _, e2⟩ := h.o m hm (by omega)
    rw [e2] at hx
    exact (World.ownsRow.lt o x (cx_own hx)).2
theorem Fq.ty {w wr : World} {D : Nat → Prop} {N : Nat} {R : Nat → RwD} {c : Nat → Value} {z : Nat → List Int} {k : Nat} (h : Fq w wr D N R c z k) (m : Nat) (hm : m < N) (x : Nat) (hx : CxO (R m).a (c m) x) : ∃ cur, wr.heap[x]? = some (.cells cur 3) := by
  by_cases e : m < k
  · exact (h.g m hm e).1.ty x hx
  · obtain ⟨o, _, e2⟩ := h.o m hm (by omega)
    rw [e2] at hx
    exact blk o (cx_own hx)
/-- What does not touch the rows leaves them. -/
theorem Fq.keeps {w wr w3 : World} {D D' : Nat → Prop} {N : Nat} {R : Nat → RwD} {c : Nat → Value} {z : Nat → List Int} {k : Nat} (h : Fq w wr D N R c z k) (kp : Keeps D' wr w3) (hD : ∀ x, D' x → D x ∨ w.heap.size ≤ x) (hn : ∀ m, m < N → ∀ x, CxO (R m).a (c m) x → ¬ D' x) : Fq w w3 D N R c z k :=
  ⟨fun m hm e => ⟨(h.g m hm e).1.keeps kp (fun x e e' => hn m hm x e' e), (h.g m hm e).2⟩, fun m hm e => ⟨owK (h.o m hm e).1 kp (fun g hg => hn m hm g (by rw [(h.o m hm e).2.2]; exact .inl hg)), (h.o m hm e).2⟩, h.d, h.f, ((h.kp.mono (fun _ e => .inl e)).trans (kp.mono hD)).thin, h.sp⟩
theorem Fm.keeps {w wr w3 : World} {D D' : Nat → Prop} {N : Nat} {R : Nat → RwD} {c : Nat → Value} {z : Nat → List Int} {k i : Nat} (h : Fm w wr D N R c z k i) (kp : Keeps D' wr w3) (hD : ∀ x, D' x → D x ∨ w.heap.size ≤ x) (hn : ∀ m, m < N → ∀ x, CxO (R m).a (c m) x → ¬ D' x) : Fm w w3 D N R c z k i := ⟨h.q.keeps kp hD hn, h.p⟩
/-- One cell of row k marked. -/
theorem Fm.set {w wr : World} {D : Nat → Prop} {N : Nat} {R : Nat → RwD} {c : Nat → Value} {z : Nat → List Int} {k i : Nat} (h : Fm w wr D N R c z k i) (hk : k < N) (hi : i < (R k).n) (p : Int) (hp : p = mkI k) : ∃ g, (R k).a = some ⟨g, 0, none⟩ ∧ Fm w (wr.setCell ⟨g, i, none⟩ (.int .i64 p)) D N R c (upd z k ((z k).set i p)) k (i + 1) ∧ (∃ u, wr.cell? ⟨g, i, none⟩ = some u) ∧ wr.frozen? ⟨g, i, none⟩ = false ∧ CxO (R k).a (c k) g := by
  subst hp
  obtain ⟨ho, hl, hc⟩ := h.q.o k hk (Nat.le_refl _)
  obtain ⟨g, cap, e, _, _⟩ := owG_some ho (by intro e; rw [e] at hl; simp at hl; omega)
  injection e with e e2 e3
  have hv : (R k).v = .slice (some ⟨g, 0, none⟩) (R k).n (R k).c := by show Value.slice _ _ _ = _; rw [e]
  have ho2 : OwI wr 0 (.slice (some ⟨g, 0, none⟩) (z k).length (R k).c) (z k) := by rw [hl, ← hv]; exact ho
  have hob : (R k).v.ownBlock = some g := by rw [hv]; rfl
  have hcx : CxO (R k).a (c k) g := .inr e
  have h2 := (World.ownsRow.stored ho2 i (.int .i64 (mkI k))).1
  have hfl : ((z k).set i (mkI k)).flatMap inZ = ((z k).flatMap inZ).set i (.int .i64 (mkI k)) := by rw [flat_inZ, flat_inZ, List.map_set]
  have kS : Keeps (fun x => x = g) wr (wr.setCell ⟨g, i, none⟩ (.int .i64 (mkI k))) := Keeps.setCell (B := fun x => x = g) (Keeps.refl _ _) (p := ⟨g, i, none⟩) rfl _
  have far : ∀ m, m < N → m ≠ k → ∀ x, CxO (R m).a (c m) x → ¬ x = g := fun m hm hne x hx e => by
    subst e
    exact h.q.d m k hm hk hne x hx hcx
  refine ⟨g, e, ⟨⟨fun m hm e => ?_, fun m hm e => ?_, h.q.d, h.q.f, ((h.q.kp.mono (fun _ e => .inl e)).trans (kS.mono (fun x e => by subst e; exact h.q.f k hk x hcx))).thin, h.q.sp⟩, fun i' hi' => ?_⟩, ⟨_, (World.ownsRow.cellAt ho2 i (by omega)).trans (by rw [flat_inZ, List.getElem?_map, List.getElem?_eq_getElem (by omega)]; rfl)⟩, World.ownsRow.frozenAt ho2 i, hcx⟩
  · rw [upd_ne _ _ _ _ (by omega)]
    exact ⟨(h.q.g m hm e).1.keeps kS (fun x e1 e2 => far m hm (by omega) x e2 e1), (h.q.g m hm e).2⟩
  · by_cases e' : m = k
    · subst e'
      rw [upd_same, List.length_set]
      refine ⟨?_, hl, hc⟩
      rw [hv, ← hl]
      unfold OwI OwG
      rw [hfl, List.length_set]
      exact h2
    · rw [upd_ne _ _ _ _ e']
      obtain ⟨o1, o2, o3⟩ := h.q.o m hm e
      exact ⟨owK o1 kS (fun x hx => far m hm e' x (by rw [o3]; exact .inl hx)), o2, o3⟩
  · rw [upd_same]
    by_cases e' : i' = i
    · subst e'
      rw [List.getElem?_set_self (by omega)]
    · rw [List.getElem?_set_ne (by omega)]
      exact h.p i' (by omega)
/-- Row k marked whole, and grown by one. -/
theorem Fm.app {w wr w3 : World} {D : Nat → Prop} {N : Nat} {R : Nat → RwD} {c : Nat → Value} {z : Nat → List Int} {k i : Nat} (h : Fm w wr D N R c z k i) (hk : k < N) (hi : i = (R k).n) (q : Int) (hq : q = mkI k) {b cap : Nat} (o : OwI w3 0 (.slice (some ⟨b, 0, none⟩) ((z k).length + 1) cap) (z k ++ [q])) (kk : ((R k).v.ownBlock = some b ∧ Keeps (fun x => (R k).v.ownBlock = some x) wr w3) ∨ (wr.heap.size ≤ b ∧ Keeps (fun _ => False) wr w3)) :
    Fq w w3 D N R (upd c k (.slice (some ⟨b, 0, none⟩) ((z k).length + 1) cap)) (upd z k (z k ++ [q])) (k + 1) ∧ Keeps (CxO (R k).a (c k)) wr w3 := by
  subst hq
  obtain ⟨ho, hl, hc⟩ := h.q.o k hk (Nat.le_refl _)
  have hs := h.q.kp.size
  have gr0 : GrO wr (R k).a (R k).n (mkI k) (R k).v (z k) := ⟨ho, by omega, fun j hj => h.p j (by omega), fun g hg => by
    have e : (R k).v.ownBlock = some g := cx_own (.inr hg)
    exact ⟨(World.ownsRow.lt ho g e).2, blk ho e, .inl e⟩⟩
  obtain ⟨g1, hn, kc⟩ := gr0.app o kk
  rw [← hc] at kc hn
  refine ⟨⟨fun m hm e => ?_, fun m hm e => ?_, fun m m' hm hm' hne x hx hx' => ?_, fun m hm x hx => ?_, ((h.q.kp.mono (fun _ e => .inl e)).trans (kc.mono (h.q.f k hk))).thin, h.q.sp⟩, kc⟩
  · by_cases e' : m = k
    · subst e'
      rw [upd_same, upd_same]
      refine ⟨g1, by rw [List.length_append, hl]; rfl, ?_⟩
      rw [List.getElem?_append_right (by omega), hl, Nat.sub_self]
      rfl
    · rw [upd_ne _ _ _ _ e', upd_ne _ _ _ _ e']
      exact ⟨(h.q.g m hm (by omega)).1.keeps kc (fun x e1 e2 => h.q.d k m hk hm (fun e => e' e.symm) x e1 e2), (h.q.g m hm (by omega)).2⟩
  · rw [upd_ne _ _ _ _ (by omega), upd_ne _ _ _ _ (by omega)]
    obtain ⟨o1, o2, o3⟩ := h.q.o m hm (by omega)
    exact ⟨owK o1 kc (fun x hx e => h.q.d k m hk hm (by omega) x e (by rw [o3]; exact .inl hx)), o2, o3⟩
  · by_cases e : m = k
    · subst e
      rw [upd_same] at hx
      rw [upd_ne _ _ _ _ (fun e => hne e.symm)] at hx'
      rcases hn x hx with e | e
      · exact h.q.d m m' hm hm' hne x e hx'
      · have := h.q.lt m' hm' x hx'
        omega
    · rw [upd_ne _ _ _ _ e] at hx
      by_cases e' : m' = k
      · subst e'
        rw [upd_same] at hx'
        rcases hn x hx' with e1 | e1
        · exact h.q.d m m' hm hm' hne x hx e1
        · have := h.q.lt m hm x hx
          omega
      · rw [upd_ne _ _ _ _ e'] at hx'
        exact h.q.d m m' hm hm' hne x hx hx'
  · by_cases e : m = k
    · subst e
      rw [upd_same] at hx
      rcases hn x hx with e | e
      · exact h.q.f m hm x e
      · right; omega
    · rw [upd_ne _ _ _ _ e] at hx
      exact h.q.f m hm x hx
/-- What is looked at, at the end. -/
theorem Fq.kept {w wr : World} {D : Nat → Prop} {N : Nat} {R : Nat → RwD} {c : Nat → Value} {z : Nat → List Int} (h : Fq w wr D N R c z N) (k : Nat) (hk : k < N) (j : Nat) (hj : j < (R k).n) : ∃ g, (R k).a = some ⟨g, 0, none⟩ ∧ wr.cell? ⟨g, j, none⟩ = some (.int .i64 (mkI k)) := by
  obtain ⟨g, e⟩ := h.sp k hk (by omega)
  exact ⟨g, e, (h.g k hk hk).1.cell g e j hj⟩
theorem Fq.grown {w wr : World} {D : Nat → Prop} {N : Nat} {R : Nat → RwD} {c : Nat → Value} {z : Nat → List Int} (h : Fq w wr D N R c z N) (k : Nat) (hk : k < N) : ∃ g cap, c k = .slice (some ⟨g, 0, none⟩) ((R k).n + 1) cap ∧ ∀ j, j < (R k).n + 1 → wr.cell? ⟨g, j, none⟩ = some (.int .i64 (mkI k)) := by
  obtain ⟨h1, h2, h3⟩ := h.g k hk hk
  have ho := h1.o
  obtain ⟨g, cap, e, _, _⟩ := owG_some ho (by intro e; rw [e] at h2; simp at h2)
  rw [e] at ho
  rw [h2] at e
  refine ⟨g, cap, e, fun j hj => ?_⟩
  refine owI_cellO ho j (mkI k) ?_
  by_cases e2 : j = (R k).n
  · rw [e2]; exact h3
  · exact h1.z j (by omega)
end Go.Proofs.YtdjklcmkcccpeaaGreat

namespace Go.Proofs.YtdjklcmkcccpeaaGreat
set_option linter.unusedSimpArgs false
open Go.ChangeShapes Go.WideShapes Go.ChangeAt Go.RowKit Go.MuLone Go.RwLone
set_option linter.unusedVariables false
set_option maxRecDepth 100000
set_option maxHeartbeats 6400000
/-- The queue's row was written, or left for another; then the new one stored. -/
theorem RAr.newQ {w w1 : World} {R : RL} {cap : Nat} {qv v : Value} {Q Q' : List Nat} {S : AS} (h : RAr w R cap qv Q S) (k1 : Keeps (fun g => qv.ownBlock = some g) w w1) (o : OwI w1 0 v (Q'.map qZ)) (hb : ∀ g, v.ownBlock = some g → qv.ownBlock = some g ∨ w.heap.size ≤ g) : RAr (w1.setCell ⟨R.b, 2, none⟩ v) R cap v Q' S := by
  have nb : qv.ownBlock ≠ some R.b := fun e => (h.qb _ e).1 rfl
  have ns : qv.ownBlock ≠ some R.s := fun e => (h.qb _ e).2.1 rfl
  have nw : ∀ i, i < S.n → S.use i = true → qv.ownBlock ≠ some (R.wb i) := fun i hi hu e => (h.qb _ e).2.2 ⟨i, hi, hu, rfl⟩
  have ob : ∀ i, i ≠ 2 → (w1.setCell ⟨R.b, 2, none⟩ v).cell? ⟨R.b, i, none⟩ = w.cell? ⟨R.b, i, none⟩ := fun i hi => (World.cell?_setCell_other _ _ _ _ (fun e => hi (congrArg Addr.off e).symm)).trans (k1.cell (p := ⟨R.b, i, none⟩) h.lb nb)
  have os : ∀ i, (w1.setCell ⟨R.b, 2, none⟩ v).cell? ⟨R.s, i, none⟩ = w.cell? ⟨R.s, i, none⟩ := fun i => (World.cell?_setCell_other _ _ _ _ (fun e => h.bs (congrArg Addr.block e))).trans (k1.cell (p := ⟨R.s, i, none⟩) h.ls ns)
  have ow : ∀ i, i < S.n → S.use i = true → ∀ j, (w1.setCell ⟨R.b, 2, none⟩ v).cell? ⟨R.wb i, j, none⟩ = w.cell? ⟨R.wb i, j, none⟩ := fun i hi hu j => (World.cell?_setCell_other _ _ _ _ (fun e => (h.bw i hi hu).1 (congrArg Addr.block e).symm)).trans (k1.cell (p := ⟨R.wb i, j, none⟩) (h.lw i hi hu) (nw i hi hu))
  have fr : ∀ g j, g < w.heap.size → qv.ownBlock ≠ some g → (w1.setCell ⟨R.b, 2, none⟩ v).frozen? ⟨g, j, none⟩ = w.frozen? ⟨g, j, none⟩ := fun g j hg hn => by
    have := k1.frozen (p := ⟨g, j, none⟩) hg hn
    simpa using this
  have k2 : Keeps (fun g => g = R.b) w1 (w1.setCell ⟨R.b, 2, none⟩ v) := setB
  have nq : ∀ g, v.ownBlock = some g → g ≠ R.b ∧ g ≠ R.s ∧ ¬ R.ws S g := fun g hg => by
    rcases hb g hg with e | e
    · exact h.qb g e
    · have := h.lb
      have := h.ls
      refine ⟨by omega, by omega, fun ⟨i, hi, hu, e2⟩ => ?_⟩
      have := h.lw i hi hu
      omega
  have s1 := k1.size
  exact ⟨(ob 0 (by decide)).trans h.c0, (ob 1 (by decide)).trans h.c1, World.cell?_setCell_same _ _ _ ((k1.cell (p := ⟨R.b, 2, none⟩) h.lb nb).trans h.c2), (ob 3 (by decide)).trans h.c3, (ob 4 (by decide)).trans h.c4, fun i hi => (os _).trans (h.us i hi), fun i hi => (os _).trans (h.nm i hi), fun i hi => (os _).trans (h.dt i hi), fun i hi => (os _).trans (h.tl i hi), fun i hi hu => (os _).trans (h.wy i hi hu), fun i hi hu => (os _).trans (h.wn i hi hu), fun i hi => (os _).trans (h.tn i hi), fun i hi hu j hj => (ow i hi hu j).trans (h.wo i hi hu j hj), owK o k2 (fun g hg => (nq g hg).1), fun j => (fr _ j h.lb nb).trans (h.fb j), fun j => (fr _ j h.ls ns).trans (h.fs j), fun i hi hu j => (fr _ j (h.lw i hi hu) (nw i hi hu)).trans (h.fw i hi hu j), by have := h.lb; simp; omega, by have := h.ls; simp; omega, fun i hi hu => by have := h.lw i hi hu; simp; omega, h.bs, h.bw, h.ww, nq, h.hn, h.hw⟩
/-- The document's Free. -/
theorem ra_free (w : World) (R : RL) (cap : Nat) (qv : Value) (k : Nat) (Q : List Nat) (S : AS) (h : RAr w R cap qv Q S) (hk : k < S.n) (hu : S.use k = true) (hql : Q.length ≤ 4096) : Calls Tryz.prog 102 #[.pointer (some ⟨R.b, 0, none⟩), .int .i64 ((k : Int) + 1)] w fun e w' => ∃ qv', e = .returned (.int .i64 0) ∧ (∀ y, qv'.ownBlock = some y → qv.ownBlock = some y ∨ w.heap.size ≤ y) ∧ RAr w' R cap qv' (Q ++ [k]) (S.free k) ∧ Keeps (fun g => g = R.b ∨ g = R.s ∨ qv.ownBlock = some g) w w' := by
  have HU : Hid (∀ _ : Unit, _) := fun _ => ra_used w R cap qv Q S ((k : Int) + 1) h
  have hlv : liv S ((k : Int) + 1) = true := by
    have := h.hn.2
    unfold liv
    rw [decide_eq_true (show 1 ≤ (k : Int) + 1 by omega), decide_eq_true (show (k : Int) + 1 ≤ (S.n : Int) by omega), show ((k : Int) + 1 - 1).toNat = k from by omega, hu]
    rfl
  rw [hlv] at HU
  have c3 := h.c3
  have f3 := h.fb 3
  have hsn := h.hn.2
  obtain ⟨qa, qc, hqv⟩ := h.q.form
  rw [List.length_map] at hqv
  subst hqv
  obtain ⟨W1, hW1⟩ : ∃ W, (w.setCell ⟨R.b, 3, none⟩ (.int .i64 (wrap64 (S.acc + 1)))).drew = W := ⟨_, rfl⟩
  have H1 : Hid (RAr W1 R cap (.slice qa Q.length qc) Q (acc1 S) ∧ Keeps (fun g => g = R.b) w W1) := by
    rw [← hW1]
    exact ⟨(h.setCount 3 _ (acc1 S) (.inl ⟨rfl, rfl⟩)).keeps ((Keeps.refl (fun _ => False) _).drew) (fun _ _ e => e), setB.drew⟩
  have sx : ((w.setCell ⟨R.b, 3, none⟩ (.int .i64 (wrap64 (S.acc + 1)))).drew).cell? ⟨R.b, 1, none⟩ = some (.slice (some ⟨R.s, 0, none⟩) (S.n + 1) cap) := by rw [hW1]; exact H1.out.1.c1
  have k0 : (0 : Int) ≤ (k : Int) + 1 := by omega
  have k1 : (k : Int) + 1 < (S.n : Int) + 1 := by omega
  clear h hlv
  go_enter Tryz.func102, Tryz.ntmps102
  go_wp2_with fail
  refine (HU.out ()).mono ?_
  rintro e w1 ⟨rfl, hw1⟩
  rw [hw1]
  clear hw1 w1 HU
  go_wp2_with fail
  (refine wp_region_held_drew (S := (fun Z => Z.cell? ⟨R.b, 1, none⟩ = some (.slice (some ⟨R.s, 0, none⟩) (S.n + 1) cap))) (by kernel_rfl) sx (fun hHeld => ?_); simp only [List.size_toArray, List.length_cons, List.length_nil, Nat.reduceAdd, Array.replicate_succ, Array.replicate_zero, List.push_toArray, List.append_toArray, List.nil_append, List.cons_append])
  clear sx
  rw [hW1] at hHeld ⊢
  clear hW1 c3 f3
  refine rgT 0 (h := ?_)
  refine rgT 1 (h := ?_)
  refine rgT 2 (h := ?_)
  refine rgT 3 (h := ?_)
  refine rgT 4 (h := ?_)
  refine rgT 5 (h := ?_)
  refine rgT 6 (h := ?_)
  refine rgT 7 (h := ?_)
  refine rgT 8 (h := ?_)
  refine rgT 9 (h := ?_)
  refine rgT 10 (h := ?_)
  refine rgT 11 (h := ?_)
  have ht : W1.cell? ⟨R.s, (k + 1) * 6 + 5, none⟩ = some (.int .i64 (S.turn k)) := H1.out.1.tn k hk
  (refine rgS 12 (h := fun K hK => ?_); go_simp)
  (refine hK.out _ _ hHeld (fun hHeld => ?_); clear hK K; try simp only [Act.put, List.setIfInBounds_toArray, List.set_cons_zero, List.set_cons_succ])
  refine rgT 13 (h := ?_)
  refine rgT 14 (h := ?_)
  have h0 : W1.cell? ⟨R.s, (k + 1) * 6, none⟩ = some (.bool true) := by rw [← hu]; exact H1.out.1.us k hk
  have h1 : W1.cell? ⟨R.s, (k + 1) * 6 + 1, none⟩ = some (.string (S.pay k).nm) := H1.out.1.nm k hk
  have h2 : W1.cell? ⟨R.s, (k + 1) * 6 + 2, none⟩ = some (.string (S.pay k).dt) := H1.out.1.dt k hk
  have h3 : W1.cell? ⟨R.s, (k + 1) * 6 + 3, none⟩ = some (.int .i64 (S.pay k).tl) := H1.out.1.tl k hk
  have h4 : W1.cell? ⟨R.s, (k + 1) * 6 + 4, none⟩ = some (.slice (some ⟨R.wb k, 0, none⟩) S.wd S.wd) := H1.out.1.wy k hk hu
  have fs : ∀ j, W1.frozen? ⟨R.s, j, none⟩ = false := H1.out.1.fs
  (refine rgS 15 (h := fun K hK => ?_); go_simp)
  have H6 : Hid (RAr (set6 W1 R.s ((k + 1) * 6) (.bool false) (.string { data := #[] }) (.string { data := #[] }) (.int .i64 0) (.slice none 0 0) (.int .i64 (S.turn k))) R cap (.slice qa Q.length qc) Q (S.free k) ∧ Keeps (fun g => g = R.b ∨ g = R.s ∨ (Value.slice qa Q.length qc).ownBlock = some g) w (set6 W1 R.s ((k + 1) * 6) (.bool false) (.string { data := #[] }) (.string { data := #[] }) (.int .i64 0) (.slice none 0 0) (.int .i64 (S.turn k)))) := by
    obtain ⟨a1, a2⟩ := H1.out
    refine ⟨?_, (a2.mono (fun _ e => .inl e)).trans ((set6_keeps _ _ _ _ _ _ _ _ _).mono (fun _ e => .inr (.inl e)))⟩
    refine (a1.setSlot k hk false Ent.none 0 (S.turn k) S.word (fun e => by cases e) (fun i hi hne j hj => rfl)).cong ?_
    unfold AS.free acc1
    show AS.mk _ _ _ _ _ _ _ _ _ _ _ _ _ _ = _
    congr 1
    funext i
    show upd S.turn k (S.turn k) i = S.turn i
    unfold upd
    split
    · rename_i e; rw [e]
    · rfl
  have HS2 : Hid ((set6 W1 R.s ((k + 1) * 6) (.bool false) (.string { data := #[] }) (.string { data := #[] }) (.int .i64 0) (.slice none 0 0) (.int .i64 (S.turn k))).cell? ⟨R.b, 1, none⟩ = some (.slice (some ⟨R.s, 0, none⟩) (S.n + 1) cap)) := H6.out.1.c1
  (refine hK.out _ _ HS2.out (fun hHeld => ?_); clear hK K; try simp only [Act.put, List.setIfInBounds_toArray, List.set_cons_zero, List.set_cons_succ])
  refine wpAnyH_done (by kernel_rfl) ?_ _
  clear h0 h1 h2 h3 h4 ht fs HS2
  obtain ⟨W6, hW6⟩ : ∃ W, (set6 W1 R.s ((k + 1) * 6) (.bool false) (.string { data := #[] }) (.string { data := #[] }) (.int .i64 0) (.slice none 0 0) (.int .i64 (S.turn k))) = W := ⟨_, rfl⟩
  rw [hW6] at H6
  have c2 : W6.cell? ⟨R.b, 2, none⟩ = some (.slice qa Q.length qc) := H6.out.1.c2
  unfold set6 at hW6
  have f2 := H6.out.1.fb 2
  have HO : Hid (OwI W6 0 (.slice qa Q.length qc) (Q.map qZ)) := H6.out.1.q
  have hql2 : (Q.map qZ).length = Q.length := by simp
  clear H1 hHeld
  go_wp2_with (at_builtin; refine hideG ?_)
  change wpList _ _ _ _ _ _
  clear hW6
  refine app_stay (cs := inZ) (wr := W6) (by rfl) _ _ 31 3 (by rfl) Tryz.underlying31 infoZ rfl (by decide) (fun _ => rfl) _ (Q.map qZ) ((k : Int) + 1) HO.out (by rfl) W6.heap.size rfl (by rfl) (inZ_one _) _ rfl (by rw [hql2]; unfold maxLen; omega) (by rw [hql2]; omega) ?_
  intro b cap' w7 ho7 kk7 hb7
  rw [hql2] at ho7 ⊢
  have H7 : Hid (RAr (w7.setCell ⟨R.b, 2, none⟩ (.slice (some ⟨b, 0, none⟩) (Q.length + 1) cap')) R cap (.slice (some ⟨b, 0, none⟩) (Q.length + 1) cap') (Q ++ [k]) (S.free k) ∧ Keeps (fun g => g = R.b ∨ g = R.s ∨ (Value.slice qa Q.length qc).ownBlock = some g) w (w7.setCell ⟨R.b, 2, none⟩ (.slice (some ⟨b, 0, none⟩) (Q.length + 1) cap')) ∧ ∀ y, (Value.slice (some ⟨b, 0, none⟩) (Q.length + 1) cap').ownBlock = some y → (Value.slice qa Q.length qc).ownBlock = some y ∨ w.heap.size ≤ y) := by
    obtain ⟨a1, a2⟩ := H6.out
    have k6 : Keeps (fun g => (Value.slice qa Q.length qc).ownBlock = some g) W6 w7 := by
      rcases kk7 with ⟨_, kk⟩ | ⟨_, kk⟩
      · exact kk
      · exact kk.mono (fun _ e => e.elim)
    have hb : ∀ g, (Value.slice (some ⟨b, 0, none⟩) (Q.length + 1) cap').ownBlock = some g → (Value.slice qa Q.length qc).ownBlock = some g ∨ W6.heap.size ≤ g := fun g hg => by
      have e : b = g := Option.some.inj hg
      subst e
      rcases kk7 with ⟨e, _⟩ | ⟨e, _⟩
      · exact .inl e
      · exact .inr e
    refine ⟨a1.newQ k6 ?_ hb, (a2.trans (k6.mono (fun _ e => .inr (.inr e)))).trans (setB.mono (fun _ e => .inl e)), fun y hy => (hb y hy).imp id (fun e => Nat.le_trans a2.size e)⟩
    rw [List.map_append]
    exact ho7
  have d2 : w7.cell? ⟨R.b, 2, none⟩ = some (.slice qa Q.length qc) ∧ w7.frozen? ⟨R.b, 2, none⟩ = false := by
    have a1 := H6.out.1
    have nb : (Value.slice qa Q.length qc).ownBlock ≠ some R.b := fun e => (a1.qb _ e).1 rfl
    rcases kk7 with ⟨_, kk⟩ | ⟨_, kk⟩
    · exact ⟨(kk.cell (p := ⟨R.b, 2, none⟩) a1.lb nb).trans c2, (kk.frozen (p := ⟨R.b, 2, none⟩) a1.lb nb).trans f2⟩
    · exact ⟨(kk.cell (p := ⟨R.b, 2, none⟩) a1.lb (fun e => e)).trans c2, (kk.frozen (p := ⟨R.b, 2, none⟩) a1.lb (fun e => e)).trans f2⟩
  obtain ⟨d2, g2⟩ := d2
  clear c2 f2 H6 HO ho7 kk7 hb7
  go_wp2
  go_ret
  exact ⟨_, rfl, H7.out.2.2, H7.out.1, H7.out.2.1⟩
end Go.Proofs.YtdjklcmkcccpeaaGreat
