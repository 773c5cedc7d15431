import Derived.Test.YteekompojgbkhaaGreatKBmT
import Derived.Test.YteekompojgbkhaaGreatKBmV
namespace Go.Proofs.YteekompojgbkhaaGreat
open Go.ChangeShapes Go.WideShapes Go.ChangeAt Go.RowKit Go.MuLone Go.RwLone
set_option linter.unusedVariables false
set_option maxRecDepth 100000
set_option maxHeartbeats 3200000
/-- The front of a list of one's own. -/
theorem owI_take {w : World} {B g n cap : Nat} {xs : List Int} (h : OwI w B (.slice (some ⟨g, 0, none⟩) n cap) xs) (t : Nat) (ht : t ≤ xs.length) : OwI w B (.slice (some ⟨g, 0, none⟩) t cap) (xs.take t) := by
  have hl : ∀ l : List Int, (l.flatMap inZ).length = l.length := fun l => by rw [flat_inZ, List.length_map]
  have h2 : w.ownsRow B 3 1 (.slice (some ⟨g, 0, none⟩) n cap) xs.length (xs.flatMap inZ) := h
  show w.ownsRow B 3 1 (.slice (some ⟨g, 0, none⟩) t cap) (xs.take t).length ((xs.take t).flatMap inZ)
  have et : (xs.take t).length = t := by rw [List.length_take]; omega
  rw [et]
  rcases h2.2 with ⟨h', _⟩ | ⟨g', cap', cur, h', h1, h2, h3, h4, h5, h6⟩
  · cases h'
  · injection h' with e1 e2 e3
    injection e1 with e1
    injection e1 with e1
    subst e1 e3
    refine ⟨by rw [hl, et]; omega, .inr ⟨g, cap, cur, rfl, h1, h2, by omega, h4, h5, ?_⟩⟩
    have e : cur.toList.take (t * 1) = (cur.toList.take (xs.length * 1)).take t := by
      rw [List.take_take, Nat.min_eq_left (by omega), Nat.mul_one]
    rw [e, h6, flat_inZ, flat_inZ, List.map_take]
/-- What was begun holds no machine yet. -/
theorem SbI.new {W W2 w0 : World} {B bb hb qb N kq : Nat} {l : BkL} {s : BkS} {pt : Nat → Nat} {F : Nat → Prop} (h1 : BkM W B bb l s) (h2 : BkJ s Gb.new) (hbl : Below B w0 W) (hN : s.N = N) (hnb : s.nb = 1) (k : Keeps (fun _ => False) W W2) (m : Hm W2 F pt hb qb (fun _ => .slice none 0 0) (.slice none 0 0) (.slice none 0 0) (hpE kq)) (hF : ∀ y, F y → W.heap.size ≤ y) : SbI ⟨l.L, l.Q, l.X, bb, hb, qb, bkC l s⟩ B N kq 0 s.S s.x pt F (fun _ => .slice none 0 0) (hpE kq) Gb.new w0 W2 := by
  have hB := h1.hB
  have hl := h2.i.l
  rw [hN, hnb] at hl
  have qe : ∀ (i : Nat) (l : List Pq), (hpE kq).q[i]? = some l → l = [] := fun i l e => by
    unfold hpE at e
    rw [List.getElem?_map] at e
    obtain ⟨_, _, e⟩ := Option.map_eq_some_iff.1 e
    exact e.symm
  refine ⟨m, h1.ch.keeps k (fun _ _ e => e), (k.block _ h1.lb (fun e => e)).trans h1.b, fun m hm => absurd hm (Nat.not_lt_zero _), fun m m' hm => absurd hm (Nat.not_lt_zero _), fun y hy => ⟨fun e => ?_, fun e => ?_, by have := hF y hy; omega⟩, fun e => ?_, fun y hy => ?_, hbl.trans (k.below hB (fun _ _ e => e)), ⟨BkI.new hl, fun _ => rfl, rfl, ⟨hpE_len kq, fun i l e => ?_, fun m hm => absurd hm (Nat.not_lt_zero _)⟩⟩, fun _ _ => rfl, fun i l e => ?_, rfl, rfl⟩
  · have := h1.ch.lt _ e
    have := hF y hy
    omega
  · have := h1.lb
    have := hF y hy
    have e : y = bb := e
    omega
  · have := h1.t1 _ e
    have := h1.t2
    have e : s.T bb = 1 := h1.t1 _ e
    omega
  · exact (h1.tl y (by rw [h1.t1 y hy]; decide)).1
  · rw [qe i l e]
    exact ⟨List.nodup_nil, fun x hx => by cases hx⟩
  · rw [qe i l e]
    exact Nat.le_refl _
/-- Between the plays. -/
structure PlS (z : ShL) (B N : Nat) (pt : Nat → Nat) (F : Nat → Prop) (qv : Nat → Value) (ev en : Value) (h : Hp) (s : IS) (w0 W : World) : Prop where
  m : Hm W F pt z.hb z.qb qv ev en h
  o : InW z.L z.Q z.X pt N W s
  d : ∀ y, F y → ¬ (chF z.L z.X y ∨ ∃ m, m < N ∧ y = pt m)
  iv : Iv N h
  b : W.heap[z.bb]? = some (.cells z.C 35)
  l : Below B w0 W
  f : ∀ y, F y → y ≠ z.bb ∧ B ≤ y
  g : ∀ y, (chF z.L z.X y ∨ ∃ m, m < N ∧ y = pt m) → y ≠ z.bb ∧ B ≤ y
  hB : B ≤ w0.heap.size
section
variable {z : ShL} {B N : Nat} {pt : Nat → Nat} {F : Nat → Prop} {qv : Nat → Value} {ev en : Value} {h : Hp} {s : IS} {w0 W W' : World}
theorem PlS.lb (a : PlS z B N pt F qv ev en h s w0 W) : z.bb < W.heap.size := (Array.getElem?_eq_some_iff.1 a.b).1
theorem PlS.hW (a : PlS z B N pt F qv ev en h s w0 W) : B ≤ W.heap.size := Nat.le_trans a.hB a.l.size
theorem PlS.still (a : PlS z B N pt F qv ev en h s w0 W) (k : Keeps (fun _ => False) W W') : PlS z B N pt F qv ev en h s w0 W' :=
  ⟨a.m.still k, a.o.keeps k (fun _ e => e.elim), a.d, a.iv, (k.block _ a.lb (fun e => e)).trans a.b, a.l.trans (k.below a.hW (fun _ _ e => e)), a.f, a.g, a.hB⟩
theorem PlS.lt (a : PlS z B N pt F qv ev en h s w0 W) (y : Nat) (hy : F y ∨ (chF z.L z.X y ∨ ∃ m, m < N ∧ y = pt m)) : y < W.heap.size := by
  rcases hy with e | e | ⟨m, hm, rfl⟩
  · exact a.m.lt y e
  · exact a.o.c.lt _ e
  · exact (a.o.m m hm).1.lt
theorem PlS.play (a : PlS z B N pt F qv ev en h s w0 W) {F' : Nat → Prop} {qv' : Nat → Value} {ev' en' : Value} {h' : Hp} {s' : IS} (m : Hm W' F' pt z.hb z.qb qv' ev' en' h') (o : InW z.L z.Q z.X pt N W' s') (iv : Iv N h') (k : Keeps (fun x => F x ∨ (chF z.L z.X x ∨ ∃ m, m < N ∧ x = pt m)) W W') (f : ∀ y, F' y → F y ∨ W.heap.size ≤ y) (d : ∀ y, F' y → ¬ (chF z.L z.X y ∨ ∃ m, m < N ∧ y = pt m)) : PlS z B N pt F' qv' ev' en' h' s' w0 W' := by
  have := a.hW
  refine ⟨m, o, d, iv, (k.block _ a.lb (fun e => ?_)).trans a.b, a.l.trans (k.below a.hW (fun x hx e => ?_)), fun y hy => ?_, a.g, a.hB⟩
  · rcases e with e | e
    · exact (a.f _ e).1 rfl
    · exact (a.g _ e).1 rfl
  · rcases e with e | e
    · have := (a.f _ e).2
      omega
    · have := (a.g _ e).2
      omega
  · rcases f y hy with e | e
    · exact a.f y e
    · exact ⟨fun e2 => by have := a.lb; omega, by omega⟩
end
theorem SbI.pls {z : ShL} {B N kq : Nat} {S : AS} {x : XS} {pt : Nat → Nat} {F : Nat → Prop} {qv : Nat → Value} {h : Hp} {G : Gb} {w0 W : World} (a : SbI z B N kq N S x pt F qv h G w0 W) (hB : B ≤ w0.heap.size) (hw : WdOk S x) (hn : S.n ≤ 4096) (hN : N ≤ 24) : PlS z B N pt F qv (.slice none 0 0) (.slice none 0 0) h (is0 S x) w0 W := by
  obtain ⟨b1, b2, b3, b4⟩ := a.mc hw hn
  refine ⟨a.m, b1, b4, a.iv hN, a.b, a.l, fun y hy => ⟨(a.f y hy).2.1, (a.f y hy).2.2⟩, fun y hy => ?_, hB⟩
  rcases hy with e | ⟨m, hm, rfl⟩
  · exact ⟨fun e2 => a.fb (by rw [← e2]; exact e), a.cb y e⟩
  · exact ⟨(a.i m hm).2.2.2.1, (a.i m hm).2.2.2.2⟩
theorem below_keeps {w w' : World} (h : Below w.heap.size w w') : Keeps (fun _ => False) w w' := Below.keeps h _
/-- Ahead of a play: what is kept; with b also that left steps are enough. -/
def PlX (z : ShL) (B N kq : Nat) (b : Bool) (left : Nat) (w0 W : World) : Prop := ∃ pt F qv ev en h s, PlS z B N pt F qv ev en h s w0 W ∧ (∀ m, m < N → ¬ chF z.L z.X (pt m)) ∧ (∀ m m', m < N → m' < N → m ≠ m' → pt m ≠ pt m') ∧ SP b N kq (1 : Nat) (bkO 1) left (h, s)
/-- Behind the drain: the law's list of the ended ones, told by the events. -/
def PlF (z : ShL) (B N kq : Nat) (w0 W : World) : Prop := ∃ pt F qv ev en h s G rows, PlS z B N pt F qv ev en h s w0 W ∧ SJ N N kq (1 : Nat) (bkO 1) h s G rows ∧ idleP h = true
/-- Behind the events: R is what List must be. -/
def PlE (z : ShL) (B : Nat) (R : List Int) (w0 W : World) : Prop := ∃ S x, CH W z.L z.Q S z.X x ∧ pickL (rowX S x 0) = R ∧ WdOk S x ∧ S.n ≤ 4096 ∧ 0 < x.nb ∧ W.heap[z.bb]? = some (.cells z.C 35) ∧ Below B w0 W ∧ B ≤ W.heap.size ∧ ∀ y, z.L.has y → B ≤ y
theorem bkO1 : ∀ s : Int, 0 ≤ bkO 1 s ∧ bkO 1 s < ((1 : Nat) : Int) := bkO_in (Nat.le_refl 1)
theorem bkO0 : ∀ s : Int, bkO 1 s = 0 := fun s => Int.emod_one s
section
variable {z : ShL} {B N kq left : Nat} {b : Bool} {w0 W W' : World} {R : List Int}
theorem PlX.still (a : PlX z B N kq b left w0 W) (k : Keeps (fun _ => False) W W') : PlX z B N kq b left w0 W' := by
  obtain ⟨pt, F, qv, ev, en, h, s, p, h1, h2, h3⟩ := a
  exact ⟨pt, F, qv, ev, en, h, s, p.still k, h1, h2, h3⟩
theorem PlX.c (a : PlX z B N kq b left w0 W) (j : Nat) : W.cell? ⟨z.bb, j, none⟩ = z.C[j]? := by
  obtain ⟨pt, F, qv, ev, en, h, s, p, _⟩ := a
  exact cell?_heap p.b j
theorem PlX.play (a : PlX z B N kq false left w0 W') (k0 : Keeps (fun _ => False) W' W) (n1 : 1 ≤ N) (hN : N ≤ 24) (bd : Nat) (hbd : bd ≤ 1048576) (v : Value) (vs : List (Int × Int × Int)) (hv : ∀ Fb : Nat → Prop, (∀ y, Fb y → y < W'.heap.size) → PkR W Fb v vs) :
    Calls Tryz.prog 26 #[.pointer (some ⟨z.hb, 0, none⟩), .int .i64 (bd : Int), v] W fun e w' => (∃ x y, e = .returned (.tuple #[.int .i64 x, .int .i64 y])) ∧ PlX z B N kq false left w0 w' := by
  obtain ⟨pt, F, qv, ev, en, h, s, p0, h1, h2, h3⟩ := a
  have p := p0.still k0
  refine (hplay_any (mcI z.L z.Q z.X pt N h1 h2) W F z.hb z.qb qv ev en (h, s) p.m p.o p.d p.iv bd (by omega) v vs (hv _ (fun y hy => p0.lt y hy))).mono ?_
  rintro e w' ⟨rfl, iv, F', qv', ev', en', md⟩
  have hr : ∃ x y, retP (playP (mcI z.L z.Q z.X pt N h1 h2) vs bd (h, s)).1 (playP (mcI z.L z.Q z.X pt N h1 h2) vs bd (h, s)).2.1 bd = .tuple #[.int .i64 x, .int .i64 y] := by
    unfold retP
    split
    · exact ⟨_, _, rfl⟩
    · exact ⟨_, _, rfl⟩
  obtain ⟨x, y, hr⟩ := hr
  have inv := play_inv (sp_inv (L := z.L) (Q := z.Q) (X := z.X) (pt := pt) (h1 := h1) (h2 := h2) false (N := N) (kq := kq) n1 (by omega) bkO1 bkO0) vs bd (h, s) (by
    obtain ⟨G, rows, j, _⟩ := h3
    exact ⟨G, rows, j, fun e => by cases e⟩)
  refine ⟨⟨x, y, by rw [hr]⟩, pt, F', qv', ev', en', _, _, p.play md.m md.o iv md.k md.f md.d, h1, h2, ?_⟩
  obtain ⟨G, rows, j, _⟩ := inv
  exact ⟨G, rows, j, fun e => by cases e⟩
theorem PlX.drain (a : PlX z B N kq false left w0 W) (n1 : 1 ≤ N) (hN : N ≤ 24) (bd : Nat) (hbd : (3 * N + 2) * (3 * N + 8) * N ≤ bd) (hb2 : bd ≤ 1048576) :
    Calls Tryz.prog 29 #[.pointer (some ⟨z.hb, 0, none⟩), .int .i64 (bd : Int)] W fun e w' => (∃ x, e = .returned (.tuple #[.int .i64 x, .int .i64 0])) ∧ PlF z B N kq w0 w' := by
  obtain ⟨pt, F, qv, ev, en, h, s, p, h1, h2, h3⟩ := a
  refine (hdrain_any (mcI z.L z.Q z.X pt N h1 h2) W F z.hb z.qb qv ev en (h, s) p.m p.o p.d p.iv bd (by omega)).mono ?_
  rintro e w' ⟨rfl, iv, F', qv', ev', en', md⟩
  have hi := sp_inv (L := z.L) (Q := z.Q) (X := z.X) (pt := pt) (h1 := h1) (h2 := h2) true (N := N) (kq := kq) n1 (by omega) bkO1 bkO0
  have h0 : SP true N kq (1 : Nat) (bkO 1) bd (h, s) := by
    obtain ⟨G, rows, j, _⟩ := h3
    exact ⟨G, rows, j, fun _ => Nat.le_trans (j.most n1) hbd⟩
  have inv := play_inv hi [(6, 0, 0)] bd (h, s) h0
  have tr := drain_true hi (fun a ha x => by
    obtain ⟨G, rows, j, hl⟩ := ha
    exact j.zero (Nat.le_zero.1 (hl rfl)) x) bd (h, s) h0 (by omega)
  rw [tr.1]
  obtain ⟨G, rows, j, _⟩ := inv
  exact ⟨⟨_, rfl⟩, pt, F', qv', ev', en', _, _, G, rows, p.play md.m md.o iv md.k md.f md.d, j, tr.2⟩
theorem PlF.still (a : PlF z B N kq w0 W) (k : Keeps (fun _ => False) W W') : PlF z B N kq w0 W' := by
  obtain ⟨pt, F, qv, ev, en, h, s, G, rows, p, h1⟩ := a
  exact ⟨pt, F, qv, ev, en, h, s, G, rows, p.still k, h1⟩
theorem PlF.events (a : PlF z B N kq w0 W) (hN : N ≤ 24) : Calls Tryz.prog 30 #[.pointer (some ⟨z.hb, 0, none⟩)] W fun e w' => ∃ v evs, e = .returned v ∧ OwE w' W.heap.size v evs ∧ evs.length ≤ 68719476000 ∧ W.heap.size ≤ w'.heap.size ∧ (dnE evs).length = N ∧ (dnE evs).Nodup ∧ (∀ u, u ∈ dnE evs → 1 ≤ u ∧ u ≤ N) ∧ PlE z B (dnE evs).reverse w0 w' := by
  obtain ⟨pt, F, qv, ev, en, h, s, G, rows, p, j, hi⟩ := a
  have hl := p.iv.b
  refine (hev_any W F pt z.hb z.qb qv ev en h p.m (by omega)).mono ?_
  rintro e w' ⟨v, rfl, ho, k⟩
  obtain ⟨f1, f2, f3⟩ := j.fin (by decide) bkO0 hi
  have hl := j.i.l
  have hrow : pickL (rowX s.S s.x 0) = rows 0 := list_rows hl j.i.g j.i.r j.i.n (by omega) (by omega) 0 (by decide)
  rw [j.e] at f1 f2 f3 hrow
  rw [List.length_reverse] at f1
  have nb : 0 < s.x.nb := by have := hl.b; omega
  exact ⟨v, h.ev, rfl, ho, by omega, k.size, f1, (List.pairwise_reverse.1 f2).imp (fun h e => h e.symm), fun u hu => f3 u (List.mem_reverse.2 hu), s.S, s.x, p.o.c.keeps k (fun _ _ e => e), hrow, p.o.wd, p.o.n, nb, (k.block _ p.lb (fun e => e)).trans p.b, p.l.trans (k.below p.hW (fun _ _ e => e)), Nat.le_trans p.hW k.size, fun y hy => (p.g y (.inl (.inl hy))).2⟩
theorem PlE.lt (a : PlE z B R w0 W) (y : Nat) (hy : z.L.has y) : y < W.heap.size := by
  obtain ⟨S, x, c, _⟩ := a
  exact c.lt _ (.inl hy)
theorem PlE.hB (a : PlE z B R w0 W) : Below B w0 W := by
  obtain ⟨S, x, c, h1, h2, h3, h4, h5, h6, _⟩ := a
  exact h6
theorem PlE.below (a : PlE z B R w0 W) (k : Below W.heap.size W W') : PlE z B R w0 W' := by
  obtain ⟨S, x, c, h1, h2, h3, h4, h5, h6, h7, h8⟩ := a
  have kk := below_keeps k
  exact ⟨S, x, c.keeps kk (fun _ _ e => e), h1, h2, h3, h4, (kk.block _ (Array.getElem?_eq_some_iff.1 h5).1 (fun e => e)).trans h5, h6.trans (kk.below h7 (fun _ _ e => e)), Nat.le_trans h7 k.size, h8⟩
theorem PlE.c (a : PlE z B R w0 W) (j : Nat) : W.cell? ⟨z.bb, j, none⟩ = z.C[j]? := by
  obtain ⟨S, x, c, h1, h2, h3, h4, h5, h6⟩ := a
  exact cell?_heap h5 j
theorem PlE.list (a : PlE z B R w0 W) : Calls Tryz.prog 31 #[.pointer (some ⟨z.X.x, 0, none⟩), .int .i64 0] W fun e w' => ∃ v, e = .returned (.tuple #[v, .int .i64 0]) ∧ OwI w' W.heap.size v R ∧ Below B w0 w' ∧ Keeps z.L.has W w' := by
  obtain ⟨S, x, c, h1, h2, h3, h4, h5, h6, h7, hg⟩ := a
  refine (ix_list W z.L z.Q S z.X x 0 h4 c h2 h3).mono ?_
  rintro e w' ⟨v, rfl, ⟨ho, c'⟩, k⟩
  rw [h1] at ho
  exact ⟨v, rfl, ho, h6.trans (k.below h7 (fun y hy e => by have := hg y e; omega)), k⟩
end
theorem SbI.plx {z : ShL} {B N kq : Nat} {S : AS} {x : XS} {pt : Nat → Nat} {F : Nat → Prop} {qv : Nat → Value} {h : Hp} {G : Gb} {w0 W : World} (a : SbI z B N kq N S x pt F qv h G w0 W) (hB : B ≤ w0.heap.size) (hw : WdOk S x) (hn : S.n ≤ 4096) (hN : N ≤ 24) : PlX z B N kq false 0 w0 W := by
  obtain ⟨b1, b2, b3, b4⟩ := a.mc hw hn
  exact ⟨pt, F, qv, _, _, h, _, a.pls hB hw hn hN, b2, b3, G, _, a.j, fun e => by cases e⟩
end Go.Proofs.YteekompojgbkhaaGreat
