import Derived.Test.YteekompojgbkhaaGreatKBqL
import Derived.Test.YteekompojgbkhaaGreatKReG
namespace Go.Proofs.YteekompojgbkhaaGreat
open Go.ChangeShapes Go.WideShapes Go.ChangeAt Go.RowKit Go.MuLone Go.RwLone
set_option linter.unusedVariables false
set_option linter.unusedSectionVars false
set_option maxRecDepth 100000
set_option maxHeartbeats 3200000
/-- A row of single cells, by a function. -/
structure RwC (w : World) (g n : Nat) (f : Nat → Value) : Prop where
  c : ∀ j, j < n → w.cell? ⟨g, j, none⟩ = some (f j)
  f : ∀ j, w.frozen? ⟨g, j, none⟩ = false
  l : g < w.heap.size
theorem RwC.keeps {w w' : World} {D : Nat → Prop} {g n : Nat} {f : Nat → Value} (h : RwC w g n f) (k : Keeps D w w') (hD : ¬ D g) : RwC w' g n f :=
  ⟨fun j hj => (k.cell (p := ⟨g, j, none⟩) h.l hD).trans (h.c j hj), fun j => (k.frozen (p := ⟨g, j, none⟩) h.l hD).trans (h.f j), Nat.lt_of_lt_of_le h.l k.size⟩
theorem RwC.set {w : World} {g n : Nat} {f f' : Nat → Value} (h : RwC w g n f) (i : Nat) (hi : i < n) (u : Value) (e1 : f' i = u) (e2 : ∀ j, j ≠ i → f' j = f j) : RwC (w.setCell ⟨g, i, none⟩ u) g n f' := by
  refine ⟨fun j hj => ?_, fun j => by simpa using h.f j, by simpa using h.l⟩
  by_cases e : j = i
  · rw [e, e1]
    exact World.cell?_setCell_same _ _ _ (h.c i hi)
  · rw [e2 j e, World.cell?_setCell_other _ _ _ _ (fun e' => e (congrArg Addr.off e').symm)]
    exact h.c j hj
/-- A machine of the book and where it lies: its block, the lists of the slots due and met. -/
structure OL where
  o : On
  mb : Nat
  dv : Value
  mv : Value
/-- Its cells in the book's row. -/
def olC (q : OL) : List Value := [.int .i64 (q.o.kd : Int), .int .i64 q.o.sl, if q.o.kd = 0 then .pointer (some ⟨q.mb, 0, none⟩) else .pointer none, if q.o.kd = 2 then .pointer (some ⟨q.mb, 0, none⟩) else .pointer none, if q.o.kd = 1 then .pointer (some ⟨q.mb, 0, none⟩) else .pointer none, .bool q.o.dn, .bool q.o.mq, .int .i64 q.o.t.k, .bool q.o.bg, .int .i64 q.o.t.rk, q.dv, q.mv]
theorem olC_len (q : OL) : (olC q).length = 12 := rfl
/-- The machine itself. -/
def OL.H (w : World) (xb : Nat) (q : OL) : Prop := (q.o.kd = 0 → InsH w q.mb xb q.o.mi) ∧ (q.o.kd = 1 → RemH w q.mb xb q.o.mr) ∧ (q.o.kd = 2 → WlkH w q.mb xb q.o.mw) ∧ q.mb < w.heap.size
theorem OL.H.keeps {w w' : World} {D : Nat → Prop} {xb : Nat} {q : OL} (h : q.H w xb) (k : Keeps D w w') (hD : ¬ D q.mb) : q.H w' xb :=
  ⟨fun e => (k.block _ h.2.2.2 hD).trans (h.1 e), fun e => (k.block _ h.2.2.2 hD).trans (h.2.1 e), fun e => (k.block _ h.2.2.2 hD).trans (h.2.2.1 e), Nat.lt_of_lt_of_le h.2.2.2 k.size⟩
/-- Where the book's things lie, whatever is played: arena, index, the lists of Inserts, Removes, ranks, the list of rows. -/
structure BkL where
  L : Lay
  Q : List Nat
  X : XL
  ib : Nat
  ic : Nat
  rb : Nat
  rc : Nat
  kb : Nat
  kc : Nat
  wb : Nat
  wc : Nat
  pk : Nat → Option (Array Value × TypeId)
/-- What the book's memory holds; T: what a block serves for. -/
structure BkS where
  S : AS
  x : XS
  N : Nat
  nb : Nat
  ins : Int → Int
  rem : Int → Int
  rank : Int → Int
  ranks : Int
  rows : Int → List Int
  rv : Nat → Value
  av : Value
  all : List OL
  T : Nat → Nat
abbrev bkC (l : BkL) (s : BkS) : Array Value := #[.pointer (some ⟨l.L.b, 0, none⟩), .pointer (some ⟨l.X.x, 0, none⟩), .int .i64 (s.N : Int), .int .i64 (s.nb : Int), .slice (some ⟨l.ib, 0, none⟩) (s.N + 1) l.ic, .slice (some ⟨l.rb, 0, none⟩) (s.N + 1) l.rc, .slice (some ⟨l.kb, 0, none⟩) (s.N + 1) l.kc, .int .i64 s.ranks, .slice (some ⟨l.wb, 0, none⟩) s.nb l.wc, s.av]
abbrev fI (f : Int → Int) : Nat → Value := fun j => .int .i64 (f (j : Int))
structure BkM (w : World) (B bb : Nat) (l : BkL) (s : BkS) : Prop where
  ch : CH w l.L l.Q s.S l.X s.x
  b : w.heap[bb]? = some (.cells (bkC l s) 35)
  i : RwC w l.ib (s.N + 1) (fI s.ins)
  r : RwC w l.rb (s.N + 1) (fI s.rem)
  k : RwC w l.kb (s.N + 1) (fI s.rank)
  z : RwC w l.wb s.nb s.rv
  v : ∀ j, j < s.nb → OwI w B (s.rv j) (s.rows (j : Int)) ∧ (s.rows (j : Int) = [] → s.rv j = .slice none 0 0)
  a : OwG olC 48 12 w B s.av s.all
  m : ∀ (i : Nat) (q : OL), s.all[i]? = some q → q.H w l.X.x ∧ OwI w B q.dv q.o.t.due ∧ OwI w B q.mv q.o.t.met
  t1 : ∀ g, chF l.L l.X g → s.T g = 1
  t2 : s.T bb = 2
  t3 : s.T l.ib = 3
  t4 : s.T l.rb = 4
  t5 : s.T l.kb = 5
  t6 : s.T l.wb = 6
  t7 : ∀ g, s.av.ownBlock = some g → s.T g = 7
  t8 : ∀ (i : Nat) (q : OL), s.all[i]? = some q → s.T q.mb = 8 + 4 * i ∧ (∀ g, q.dv.ownBlock = some g → s.T g = 9 + 4 * i) ∧ (∀ g, q.mv.ownBlock = some g → s.T g = 10 + 4 * i)
  t9 : ∀ j, j < s.nb → ∀ g, (s.rv j).ownBlock = some g → s.T g = 11 + 4 * j
  tl : ∀ g, s.T g ≠ 0 → B ≤ g ∧ g < w.heap.size
  pp : ∀ g c t, l.pk g = some (c, t) → w.heap[g]? = some (.cells c t)
  tp : ∀ g c t, l.pk g = some (c, t) → s.T g = 411
section
variable {w w' : World} {B bb : Nat} {l : BkL} {s : BkS}
theorem BkM.lb (h : BkM w B bb l s) : bb < w.heap.size := (Array.getElem?_eq_some_iff.1 h.b).1
theorem BkM.lp (h : BkM w B bb l s) {g : Nat} {c : Array Value} {t : TypeId} (e : l.pk g = some (c, t)) : g < w.heap.size := (Array.getElem?_eq_some_iff.1 (h.pp g c t e)).1
theorem BkM.keeps {D : Nat → Prop} (h : BkM w B bb l s) (k : Keeps D w w') (hD : ∀ g, s.T g ≠ 0 → ¬ D g) : BkM w' B bb l s := by
  have n1 : ∀ g, chF l.L l.X g → ¬ D g := fun g hg => hD g (by rw [h.t1 g hg]; decide)
  have n2 : ¬ D bb := hD _ (by rw [h.t2]; decide)
  have n3 : ¬ D l.ib := hD _ (by rw [h.t3]; decide)
  have n4 : ¬ D l.rb := hD _ (by rw [h.t4]; decide)
  have n5 : ¬ D l.kb := hD _ (by rw [h.t5]; decide)
  have n6 : ¬ D l.wb := hD _ (by rw [h.t6]; decide)
  exact ⟨h.ch.keeps k n1, (k.block bb h.lb n2).trans h.b, h.i.keeps k n3, h.r.keeps k n4, h.k.keeps k n5, h.z.keeps k n6,
    fun j hj => ⟨owK (h.v j hj).1 k (fun g hg => hD g (by rw [h.t9 j hj g hg]; omega)), (h.v j hj).2⟩,
    owK h.a k (fun g hg => hD g (by rw [h.t7 g hg]; decide)),
    fun i q hq => ⟨(h.m i q hq).1.keeps k (hD _ (by rw [(h.t8 i q hq).1]; omega)), owK (h.m i q hq).2.1 k (fun g hg => hD g (by rw [(h.t8 i q hq).2.1 g hg]; omega)), owK (h.m i q hq).2.2 k (fun g hg => hD g (by rw [(h.t8 i q hq).2.2 g hg]; omega))⟩,
    h.t1, h.t2, h.t3, h.t4, h.t5, h.t6, h.t7, h.t8, h.t9, fun g hg => ⟨(h.tl g hg).1, Nat.lt_of_lt_of_le (h.tl g hg).2 k.size⟩, fun g c t e => (k.block _ (h.lp e) (hD _ (by rw [h.tp g c t e]; decide))).trans (h.pp g c t e), h.tp⟩
theorem BkM.noC (h : BkM w B bb l s) (k : Keeps (fun _ => False) w w') : BkM w' B bb l s := h.keeps k (fun _ _ e => e)
theorem BkM.drew (h : BkM w B bb l s) : BkM w.drew B bb l s := h.noC (Keeps.refl _ _).drew
def updN (f : Nat → Nat) (i x : Nat) : Nat → Nat := fun j => if j = i then x else f j
theorem updN_at (f : Nat → Nat) (i x : Nat) : updN f i x i = x := if_pos rfl
theorem updN_ne (f : Nat → Nat) {i j : Nat} (x : Nat) (h : j ≠ i) : updN f i x j = f j := if_neg h
/-- A new block has its purpose. -/
theorem BkM.tag (h : BkM w B bb l s) (g t : Nat) (hg : s.T g = 0) (h1 : B ≤ g) (h2 : g < w.heap.size) : BkM w B bb l { s with T := updN s.T g t } := by
  have o : ∀ x, s.T x ≠ 0 → updN s.T g t x = s.T x := fun x hx => updN_ne _ _ (fun e => hx (by rw [e]; exact hg))
  refine ⟨h.ch, h.b, h.i, h.r, h.k, h.z, h.v, h.a, h.m, fun x hx => ?_, ?_, ?_, ?_, ?_, ?_, fun x hx => ?_, fun i q hq => ⟨?_, fun x hx => ?_, fun x hx => ?_⟩, fun j hj x hx => ?_, fun x hx => ?_, h.pp, fun g c t e => (o _ (by rw [h.tp g c t e]; decide)).trans (h.tp g c t e)⟩
  · exact (o x (by rw [h.t1 x hx]; decide)).trans (h.t1 x hx)
  · exact (o _ (by rw [h.t2]; decide)).trans h.t2
  · exact (o _ (by rw [h.t3]; decide)).trans h.t3
  · exact (o _ (by rw [h.t4]; decide)).trans h.t4
  · exact (o _ (by rw [h.t5]; decide)).trans h.t5
  · exact (o _ (by rw [h.t6]; decide)).trans h.t6
  · exact (o x (by rw [h.t7 x hx]; decide)).trans (h.t7 x hx)
  · exact (o _ (by rw [(h.t8 i q hq).1]; omega)).trans (h.t8 i q hq).1
  · exact (o x (by rw [(h.t8 i q hq).2.1 x hx]; omega)).trans ((h.t8 i q hq).2.1 x hx)
  · exact (o x (by rw [(h.t8 i q hq).2.2 x hx]; omega)).trans ((h.t8 i q hq).2.2 x hx)
  · exact (o x (by rw [h.t9 j hj x hx]; omega)).trans (h.t9 j hj x hx)
  · by_cases e : x = g
    · exact ⟨by omega, by omega⟩
    · exact h.tl x (by rw [← updN_ne s.T t e]; exact hx)
theorem BkM.new0 (h : BkM w B bb l s) (g : Nat) (hg : w.heap.size ≤ g) : s.T g = 0 := by
  by_cases e : s.T g = 0
  · exact e
  · have := (h.tl g e).2
    omega
/-- One block's cell is stored; all that serves for other things stays. -/
theorem keepS {w : World} {D : Nat → Prop} (g j : Nat) (u : Value) (h : D g) : Keeps D w (w.setCell ⟨g, j, none⟩ u) := (Keeps.refl _ _).setCell (p := ⟨g, j, none⟩) h u
/-- All but what serves for t. -/
structure BkO (w' : World) (B bb : Nat) (l : BkL) (s : BkS) (t : Nat) : Prop where
  ch : t ≠ 1 → CH w' l.L l.Q s.S l.X s.x
  b : t ≠ 2 → w'.heap[bb]? = some (.cells (bkC l s) 35)
  i : t ≠ 3 → RwC w' l.ib (s.N + 1) (fI s.ins)
  r : t ≠ 4 → RwC w' l.rb (s.N + 1) (fI s.rem)
  k : t ≠ 5 → RwC w' l.kb (s.N + 1) (fI s.rank)
  z : t ≠ 6 → RwC w' l.wb s.nb s.rv
  v : ∀ j, j < s.nb → t ≠ 11 + 4 * j → OwI w' B (s.rv j) (s.rows (j : Int)) ∧ (s.rows (j : Int) = [] → s.rv j = .slice none 0 0)
  a : t ≠ 7 → OwG olC 48 12 w' B s.av s.all
  m : ∀ (i : Nat) (q : OL), s.all[i]? = some q → (t ≠ 8 + 4 * i → q.H w' l.X.x) ∧ (t ≠ 9 + 4 * i → OwI w' B q.dv q.o.t.due) ∧ (t ≠ 10 + 4 * i → OwI w' B q.mv q.o.t.met)
  tl : ∀ g, s.T g ≠ 0 → B ≤ g ∧ g < w'.heap.size
  pp : t ≠ 411 → ∀ g c u, l.pk g = some (c, u) → w'.heap[g]? = some (.cells c u)
theorem BkM.but (h : BkM w B bb l s) (t : Nat) (k : Keeps (fun g => s.T g = t) w w') : BkO w' B bb l s t :=
  ⟨fun e => h.ch.keeps k (fun g hg e2 => e (by rw [← e2]; exact h.t1 g hg)), fun e => (k.block bb h.lb (fun e2 => e (by rw [← e2]; exact h.t2))).trans h.b, fun e => h.i.keeps k (fun e2 => e (by rw [← e2]; exact h.t3)), fun e => h.r.keeps k (fun e2 => e (by rw [← e2]; exact h.t4)), fun e => h.k.keeps k (fun e2 => e (by rw [← e2]; exact h.t5)), fun e => h.z.keeps k (fun e2 => e (by rw [← e2]; exact h.t6)),
    fun j hj e => ⟨owK (h.v j hj).1 k (fun g hg e2 => e (by rw [← e2]; exact h.t9 j hj g hg)), (h.v j hj).2⟩,
    fun e => owK h.a k (fun g hg e2 => e (by rw [← e2]; exact h.t7 g hg)),
    fun i q hq => ⟨fun e => (h.m i q hq).1.keeps k (fun e2 => e (by rw [← e2]; exact (h.t8 i q hq).1)), fun e => owK (h.m i q hq).2.1 k (fun g hg e2 => e (by rw [← e2]; exact (h.t8 i q hq).2.1 g hg)), fun e => owK (h.m i q hq).2.2 k (fun g hg e2 => e (by rw [← e2]; exact (h.t8 i q hq).2.2 g hg))⟩,
    fun g hg => ⟨(h.tl g hg).1, Nat.lt_of_lt_of_le (h.tl g hg).2 k.size⟩, fun e g c u e1 => (k.block _ (h.lp e1) (fun e2 => e (by rw [← e2]; exact h.tp g c u e1))).trans (h.pp g c u e1)⟩
theorem BkM.setI (h : BkM w B bb l s) (i : Nat) (hi : i ≤ s.N) (y : Int) : BkM (w.setCell ⟨l.ib, i, none⟩ (.int .i64 y)) B bb l { s with ins := updI s.ins i y } := by
  have o := h.but 3 (keepS l.ib i (.int .i64 y) h.t3)
  exact ⟨o.ch (by decide), o.b (by decide), h.i.set (f' := fI (updI s.ins i y)) i (by omega) _ (by show Value.int _ (updI s.ins i y i) = _; rw [updI_at]) (fun j hj => by show Value.int _ (updI s.ins i y j) = Value.int _ (s.ins j); rw [updI_ne _ _ (by omega)]), o.r (by decide), o.k (by decide), o.z (by decide), fun j hj => o.v j hj (by omega), o.a (by decide), fun j q hq => ⟨(o.m j q hq).1 (by omega), (o.m j q hq).2.1 (by omega), (o.m j q hq).2.2 (by omega)⟩, h.t1, h.t2, h.t3, h.t4, h.t5, h.t6, h.t7, h.t8, h.t9, o.tl, o.pp (by decide), h.tp⟩
theorem BkM.setR (h : BkM w B bb l s) (i : Nat) (hi : i ≤ s.N) (y : Int) : BkM (w.setCell ⟨l.rb, i, none⟩ (.int .i64 y)) B bb l { s with rem := updI s.rem i y } := by
  have o := h.but 4 (keepS l.rb i (.int .i64 y) h.t4)
  exact ⟨o.ch (by decide), o.b (by decide), o.i (by decide), h.r.set (f' := fI (updI s.rem i y)) i (by omega) _ (by show Value.int _ (updI s.rem i y i) = _; rw [updI_at]) (fun j hj => by show Value.int _ (updI s.rem i y j) = Value.int _ (s.rem j); rw [updI_ne _ _ (by omega)]), o.k (by decide), o.z (by decide), fun j hj => o.v j hj (by omega), o.a (by decide), fun j q hq => ⟨(o.m j q hq).1 (by omega), (o.m j q hq).2.1 (by omega), (o.m j q hq).2.2 (by omega)⟩, h.t1, h.t2, h.t3, h.t4, h.t5, h.t6, h.t7, h.t8, h.t9, o.tl, o.pp (by decide), h.tp⟩
theorem BkM.setK (h : BkM w B bb l s) (i : Nat) (hi : i ≤ s.N) (y : Int) : BkM (w.setCell ⟨l.kb, i, none⟩ (.int .i64 y)) B bb l { s with rank := updI s.rank i y } := by
  have o := h.but 5 (keepS l.kb i (.int .i64 y) h.t5)
  exact ⟨o.ch (by decide), o.b (by decide), o.i (by decide), o.r (by decide), h.k.set (f' := fI (updI s.rank i y)) i (by omega) _ (by show Value.int _ (updI s.rank i y i) = _; rw [updI_at]) (fun j hj => by show Value.int _ (updI s.rank i y j) = Value.int _ (s.rank j); rw [updI_ne _ _ (by omega)]), o.z (by decide), fun j hj => o.v j hj (by omega), o.a (by decide), fun j q hq => ⟨(o.m j q hq).1 (by omega), (o.m j q hq).2.1 (by omega), (o.m j q hq).2.2 (by omega)⟩, h.t1, h.t2, h.t3, h.t4, h.t5, h.t6, h.t7, h.t8, h.t9, o.tl, o.pp (by decide), h.tp⟩
theorem BkM.setN (h : BkM w B bb l s) (y : Int) : BkM (w.setCell ⟨bb, 7, none⟩ (.int .i64 y)) B bb l { s with ranks := y } := by
  have o := h.but 2 (keepS bb 7 (.int .i64 y) h.t2)
  exact ⟨o.ch (by decide), heapSetC h.b 7 _, o.i (by decide), o.r (by decide), o.k (by decide), o.z (by decide), fun j hj => o.v j hj (by omega), o.a (by decide), fun j q hq => ⟨(o.m j q hq).1 (by omega), (o.m j q hq).2.1 (by omega), (o.m j q hq).2.2 (by omega)⟩, h.t1, h.t2, h.t3, h.t4, h.t5, h.t6, h.t7, h.t8, h.t9, o.tl, o.pp (by decide), h.tp⟩
/-- A row of the book is another list. -/
theorem BkM.setW (h : BkM w B bb l s) (i : Nat) (hi : i < s.nb) (v' : Value) (xs : List Int) (ho : OwI w B v' xs) (hn : xs = [] → v' = .slice .none 0 0) (ht : ∀ g, v'.ownBlock = some g → s.T g = 11 + 4 * i) : BkM (w.setCell ⟨l.wb, i, .none⟩ v') B bb l { s with rv := fun j => if j = i then v' else s.rv j, rows := fun c => if c = (i : Int) then xs else s.rows c } := by
  have o := h.but 6 (keepS l.wb i v' h.t6)
  refine ⟨o.ch (by decide), o.b (by decide), o.i (by decide), o.r (by decide), o.k (by decide), h.z.set i hi _ (if_pos rfl) (fun j hj => if_neg hj), fun j hj => ?_, o.a (by decide), fun j q hq => ⟨(o.m j q hq).1 (by omega), (o.m j q hq).2.1 (by omega), (o.m j q hq).2.2 (by omega)⟩, h.t1, h.t2, h.t3, h.t4, h.t5, h.t6, h.t7, h.t8, fun j hj g hg => ?_, o.tl, o.pp (by decide), h.tp⟩
  · by_cases e : j = i
    · subst e
      simp only [if_pos]
      exact ⟨owK ho (keepS (D := fun g => s.T g = 6) l.wb j v' h.t6) (fun g hg e2 => by rw [ht g hg] at e2; omega), hn⟩
    · have e2 : ¬ (j : Int) = (i : Int) := by omega
      simp only [if_neg e, if_neg e2]
      exact o.v j hj (by omega)
  · by_cases e : j = i
    · subst e
      simp only [if_pos] at hg
      exact ht g hg
    · simp only [if_neg e] at hg
      exact h.t9 j hj g hg
end
end Go.Proofs.YteekompojgbkhaaGreat

namespace Go.Proofs.YteekompojgbkhaaGreat
open Go.ChangeShapes Go.WideShapes Go.ChangeAt Go.RowKit Go.MuLone Go.RwLone
set_option linter.unusedVariables false
set_option linter.unusedSectionVars false
set_option maxRecDepth 100000
set_option maxHeartbeats 3200000
theorem flat_set {α : Type} (cs : α → List Value) (n : Nat) (hn : ∀ x, (cs x).length = n) (x' : α) (j : Nat) (u : Value) (hj : j < n) : ∀ (xs : List α) (i : Nat) (q : α), xs[i]? = some q → cs x' = (cs q).set j u → (xs.set i x').flatMap cs = (xs.flatMap cs).set (i * n + j) u
  | [], i, q, h, e => by simp at h
  | a :: xs, 0, q, h, e => by
    have h : a = q := by simpa using h
    subst h
    rw [List.set_cons_zero, List.flatMap_cons, List.flatMap_cons, Nat.zero_mul, Nat.zero_add, List.set_append_left _ _ (by rw [hn]; exact hj), e]
  | a :: xs, i + 1, q, h, e => by
    have h : xs[i]? = some q := by simpa using h
    rw [List.set_cons_succ, List.flatMap_cons, List.flatMap_cons, flat_set cs n hn x' j u hj xs i q h e, List.set_append_right _ _ (by rw [hn, Nat.add_mul]; omega), hn, show (i + 1) * n + j - n = i * n + j from by rw [Nat.add_mul]; omega]
theorem flat_same {α : Type} (cs : α → List Value) (x' : α) : ∀ (xs : List α) (i : Nat) (q : α), xs[i]? = some q → cs x' = cs q → (xs.set i x').flatMap cs = xs.flatMap cs
  | [], i, q, h, e => by simp at h
  | a :: xs, 0, q, h, e => by
    have h : a = q := by simpa using h
    subst h
    rw [List.set_cons_zero, List.flatMap_cons, List.flatMap_cons, e]
  | a :: xs, i + 1, q, h, e => by
    have h : xs[i]? = some q := by simpa using h
    rw [List.set_cons_succ, List.flatMap_cons, List.flatMap_cons, flat_same cs x' xs i q h e]
theorem owG_put {α : Type} {cs : α → List Value} {e : TypeId} {n : Nat} (hn : ∀ x, (cs x).length = n) {w : World} {B g m cap : Nat} {xs : List α} (h : OwG cs e n w B (.slice (some ⟨g, 0, none⟩) m cap) xs) (i : Nat) (q x' : α) (hi : xs[i]? = some q) (j : Nat) (hj : j < n) (u : Value) (he : cs x' = (cs q).set j u) : OwG cs e n (w.setCell ⟨g, i * n + j, none⟩ u) B (.slice (some ⟨g, 0, none⟩) m cap) (xs.set i x') := by
  have hm := (owG_cap h).1
  subst hm
  have h1 := (World.ownsRow.stored h (i * n + j) u).1
  unfold OwG
  rw [List.length_set, flat_set cs n hn x' j u hj xs i q hi he]
  exact h1
theorem owG_like {α : Type} {cs : α → List Value} {e : TypeId} {n : Nat} {w : World} {B : Nat} {v : Value} {xs : List α} (h : OwG cs e n w B v xs) (i : Nat) (q x' : α) (hi : xs[i]? = some q) (he : cs x' = cs q) : OwG cs e n w B v (xs.set i x') := by
  unfold OwG
  rw [List.length_set, flat_same cs x' xs i q hi he]
  exact h
section
variable {w w' : World} {B bb : Nat} {l : BkL} {s : BkS}
theorem set_at {α : Type} {xs : List α} {i j : Nat} {x' p : α} (hi : i < xs.length) (hp : (xs.set i x')[j]? = some p) : (j = i ∧ p = x') ∨ (j ≠ i ∧ xs[j]? = some p) := by
  by_cases e : j = i
  · rw [e, List.getElem?_set_self hi] at hp
    exact .inl ⟨e, by injection hp with hp; exact hp.symm⟩
  · rw [List.getElem?_set_ne (fun e2 => e e2.symm)] at hp
    exact .inr ⟨e, hp⟩
/-- A machine's cell in the book's row. -/
theorem BkM.one {g m cap : Nat} (h : BkM w B bb l s) (hv : s.av = .slice (some ⟨g, 0, .none⟩) m cap) (i : Nat) (q : OL) (hi : s.all[i]? = some q) (j : Nat) (hj : j < 12) : w.cell? ⟨g, i * 12 + j, .none⟩ = (olC q)[j]? := by
  obtain ⟨h1, h2⟩ := List.getElem?_eq_some_iff.1 hi
  have ho := h.a
  rw [hv] at ho
  have hn := (owG_cap ho).1
  subst hn
  have c0 := flat_get olC 12 (fun _ => rfl) s.all i h1 j hj
  rw [World.ownsRow.cellAt ho (i * 12 + j) (by omega), c0, h2]
theorem BkM.ones (h : BkM w B bb l s) (i : Nat) (q : OL) (hi : s.all[i]? = some q) : ∃ g cap, s.av = .slice (some ⟨g, 0, .none⟩) s.all.length cap ∧ B ≤ g ∧ g < w.heap.size ∧ s.T g = 7 ∧ (∀ j, w.frozen? ⟨g, j, .none⟩ = false) := by
  have hne : s.all ≠ [] := by intro e; rw [e] at hi; simp at hi
  obtain ⟨g, cap, e1, e2, e3⟩ := owG_some h.a hne
  have ho := h.a
  rw [e1] at ho
  obtain ⟨cur, hc⟩ := (owG_cap ho).2.2.2.2
  exact ⟨g, cap, e1, e2, e3, h.t7 g (by rw [e1]; rfl), fun j => frozen?_heap hc j⟩
/-- A machine's cell is stored. -/
theorem BkM.setOne {g m cap : Nat} (h : BkM w B bb l s) (hv : s.av = .slice (some ⟨g, 0, .none⟩) m cap) (i : Nat) (q q' : OL) (hi : s.all[i]? = some q) (j : Nat) (hj : j < 12) (u : Value) (he : olC q' = (olC q).set j u)
    (hm : q'.mb = q.mb ∧ q'.o.kd = q.o.kd ∧ q'.o.mi = q.o.mi ∧ q'.o.mr = q.o.mr ∧ q'.o.mw = q.o.mw) (hd : OwI w B q'.dv q'.o.t.due) (ht : OwI w B q'.mv q'.o.t.met) (hd2 : ∀ g, q'.dv.ownBlock = some g → s.T g = 9 + 4 * i) (ht2 : ∀ g, q'.mv.ownBlock = some g → s.T g = 10 + 4 * i) :
    BkM (w.setCell ⟨g, i * 12 + j, .none⟩ u) B bb l { s with all := s.all.set i q' } := by
  have hlt := (List.getElem?_eq_some_iff.1 hi).1
  have hT : s.T g = 7 := h.t7 g (by rw [hv]; rfl)
  have kk := keepS (w := w) (D := fun x => s.T x = 7) g (i * 12 + j) u hT
  have o := h.but 7 kk
  have ha := h.a
  rw [hv] at ha
  refine ⟨o.ch (by decide), o.b (by decide), o.i (by decide), o.r (by decide), o.k (by decide), o.z (by decide), fun j hj => o.v j hj (by omega), ?_, fun k p hp => ?_, h.t1, h.t2, h.t3, h.t4, h.t5, h.t6, h.t7, fun k p hp => ?_, h.t9, o.tl, o.pp (by decide), h.tp⟩
  · show OwG olC _ 12 _ B s.av _
    rw [hv]
    exact owG_put (n := 12) olC_len ha i q q' hi j hj u he
  · rcases set_at hlt hp with ⟨rfl, rfl⟩ | ⟨e, hp⟩
    · obtain ⟨m0, m1, m2, m3, m4⟩ := hm
      have hq := (o.m k q hi).1 (by omega)
      refine ⟨?_, owK hd kk (fun g hg e2 => by rw [hd2 g hg] at e2; omega), owK ht kk (fun g hg e2 => by rw [ht2 g hg] at e2; omega)⟩
      unfold OL.H
      rw [m0, m1, m2, m3, m4]
      exact hq
    · exact ⟨(o.m k p hp).1 (by omega), (o.m k p hp).2.1 (by omega), (o.m k p hp).2.2 (by omega)⟩
  · rcases set_at hlt hp with ⟨rfl, rfl⟩ | ⟨e, hp⟩
    · exact ⟨by rw [hm.1]; exact (h.t8 k q hi).1, hd2, ht2⟩
    · exact h.t8 k p hp
/-- A machine steps: arena, index and its own block are changed. -/
theorem BkM.mach (h : BkM w B bb l s) (i : Nat) (q : OL) (hi : s.all[i]? = some q) {S' : AS} {x' : XS} (hc : CH w' l.L l.Q S' l.X x') (k : Keeps (fun g => chF l.L l.X g ∨ g = q.mb) w w') (o' : On) (e : o'.kd = q.o.kd ∧ o'.sl = q.o.sl ∧ o'.dn = q.o.dn ∧ o'.mq = q.o.mq ∧ o'.bg = q.o.bg ∧ o'.t = q.o.t) (hm : OL.H w' l.X.x { q with o := o' }) :
    BkM w' B bb l { s with S := S', x := x', all := s.all.set i { q with o := o' } } := by
  have hlt := (List.getElem?_eq_some_iff.1 hi).1
  obtain ⟨e0, e1, e2, e3, e4, e5⟩ := e
  have ec : olC { q with o := o' } = olC q := by
    unfold olC
    simp only [e0, e1, e2, e3, e4, e5]
  have nD : ∀ g t, s.T g = t → t ≠ 1 → t ≠ 8 + 4 * i → ¬ (chF l.L l.X g ∨ g = q.mb) := fun g t hg h1 h2 hn => by
    rcases hn with hn | hn
    · have := h.t1 g hn
      omega
    · have := (h.t8 i q hi).1
      rw [hn] at hg
      omega
  have kI := fun {v : Value} {xs : List Int} (ho : OwI w B v xs) (t : Nat) (ht : ∀ g, v.ownBlock = some g → s.T g = t) (h1 : t ≠ 1) (h2 : t ≠ 8 + 4 * i) => (owK ho k (fun g hg => nD g t (ht g hg) h1 h2) : OwI w' B v xs)
  refine ⟨hc, (k.block bb h.lb (nD bb 2 h.t2 (by decide) (by omega))).trans h.b, h.i.keeps k (nD _ 3 h.t3 (by decide) (by omega)), h.r.keeps k (nD _ 4 h.t4 (by decide) (by omega)), h.k.keeps k (nD _ 5 h.t5 (by decide) (by omega)), h.z.keeps k (nD _ 6 h.t6 (by decide) (by omega)),
    fun j hj => ⟨kI (h.v j hj).1 (11 + 4 * j) (h.t9 j hj) (by omega) (by omega), (h.v j hj).2⟩, owG_like (owK h.a k (fun g hg => nD g 7 (h.t7 g hg) (by decide) (by omega))) i q _ hi ec, fun j p hp => ?_,
    h.t1, h.t2, h.t3, h.t4, h.t5, h.t6, h.t7, fun j p hp => ?_, h.t9, fun g hg => ⟨(h.tl g hg).1, Nat.lt_of_lt_of_le (h.tl g hg).2 k.size⟩, fun g c t e => (k.block _ (h.lp e) (nD _ 411 (h.tp g c t e) (by decide) (by omega))).trans (h.pp g c t e), h.tp⟩
  · rcases set_at hlt hp with ⟨rfl, rfl⟩ | ⟨e, hp⟩
    · refine ⟨hm, ?_, ?_⟩
      · show OwI w' B q.dv o'.t.due
        rw [e5]
        exact kI (h.m j q hi).2.1 _ (h.t8 j q hi).2.1 (by omega) (by omega)
      · show OwI w' B q.mv o'.t.met
        rw [e5]
        exact kI (h.m j q hi).2.2 _ (h.t8 j q hi).2.2 (by omega) (by omega)
    · have tt := h.t8 j p hp
      exact ⟨(h.m j p hp).1.keeps k (nD _ _ tt.1 (by omega) (by omega)), kI (h.m j p hp).2.1 _ tt.2.1 (by omega) (by omega), kI (h.m j p hp).2.2 _ tt.2.2 (by omega) (by omega)⟩
  · rcases set_at hlt hp with ⟨rfl, rfl⟩ | ⟨e, hp⟩
    · exact h.t8 j q hi
    · exact h.t8 j p hp
end
end Go.Proofs.YteekompojgbkhaaGreat

namespace Go.Proofs.YteekompojgbkhaaGreat
open Go.ChangeShapes Go.WideShapes Go.ChangeAt Go.RowKit Go.MuLone Go.RwLone
set_option linter.unusedVariables false
set_option maxRecDepth 100000
set_option maxHeartbeats 6400000
theorem bk_num (a : Int) (w : World) : Calls Tryz.prog 18 #[.int .i64 a] w fun e w' => e = .returned (.int .i64 a) ∧ w' = w := by
  go_enter Tryz.func18, Tryz.ntmps18
  go_wp2
  go_ret
  exact ⟨rfl, rfl⟩
theorem bk_mod (a n : Int) (w : World) (a0 : -9223372036854775808 ≤ a) (a1 : a ≤ 9223372036854775807) (n0 : 0 < n) (n1 : n ≤ 1048576) : Calls Tryz.prog 14 #[.int .i64 a, .int .i64 n] w fun e w' => e = .returned (.int .i64 (a % n)) ∧ w' = w := by
  have k0 : (a.tmod n < n ∧ -n < a.tmod n) ∧ (¬ a.tmod n < 0 → a.tmod n = a % n) ∧ (a.tmod n < 0 → a.tmod n + n = a % n) := by
    have p2 := Int.emod_lt_of_pos (-a) n0
    have p1 := Int.emod_nonneg (-a) (show n ≠ 0 by omega)
    have q2 := Int.emod_lt_of_pos a n0
    have q1 := Int.emod_nonneg a (show n ≠ 0 by omega)
    rcases (by omega : a < 0 ∨ 0 ≤ a) with h | h
    · have e : a.tmod n = -((-a) % n) := by
        rw [← Int.tmod_eq_emod_of_nonneg (show 0 ≤ -a by omega), Int.neg_tmod, Int.neg_neg]
      refine ⟨⟨by omega, by omega⟩, fun h2 => ?_, fun h2 => ?_⟩
      · have z : (-a) % n = 0 := by omega
        have d : n ∣ a := (Int.dvd_neg).1 (Int.dvd_of_emod_eq_zero z)
        rw [e, z, Int.emod_eq_zero_of_dvd d]
        rfl
      · have h3 := Int.tmod_add_mul_tdiv a n
        have h5 : (a.tmod n + n) % n = a % n := by
          rw [Int.add_emod_right]
          conv => rhs; rw [← h3]
          rw [Int.add_mul_emod_self_left]
        rw [← h5, Int.emod_eq_of_lt (by omega) (by omega)]
    · have e : a.tmod n = a % n := Int.tmod_eq_emod_of_nonneg h
      refine ⟨⟨by omega, by omega⟩, fun _ => e, fun h2 => by omega⟩
  obtain ⟨⟨k1, k2⟩, k3⟩ := k0
  obtain ⟨t, ht⟩ : ∃ t, a.tmod n = t := ⟨_, rfl⟩
  obtain ⟨r, hr⟩ : ∃ r, a % n = r := ⟨_, rfl⟩
  rw [ht] at k1 k2 k3
  rw [hr] at k3 ⊢
  have n2 : ¬ n = 0 := by omega
  by_cases h : t < 0
  · have hz := k3.2 h
    have HT : Hid (∀ _ : Unit, t + n = r) := fun _ => hz
    clear k3 hz hr
    go_enter Tryz.func14, Tryz.ntmps14
    go_wp2
    go_ret
    rw [← HT.out ()]
    exact ⟨rfl, rfl⟩
  · have hz := k3.1 h
    have HT : Hid (∀ _ : Unit, t = r) := fun _ => hz
    clear k3 hz hr
    go_enter Tryz.func14, Tryz.ntmps14
    go_wp2
    go_ret
    rw [← HT.out ()]
    exact ⟨rfl, rfl⟩
theorem bk_has (w : World) (v : Value) (B : Nat) (xs : List Int) (n : Int) (r : Bool) (h : OwI w B v xs) (hl : xs.length ≤ 4096) (hr : r = decide (n ∈ xs)) : Calls Tryz.prog 32 #[v, .int .i64 n] w fun e w' => e = .returned (.bool r) ∧ w' = w := by
  obtain ⟨a, c, hv⟩ := h.form
  subst hv
  have HC : Hid (∀ t (ht : t < xs.length), ∃ g, a = some ⟨g, 0, none⟩ ∧ w.cell? ⟨g, t, none⟩ = some (.int .i64 xs[t])) := fun t ht => by
    have hne : xs ≠ [] := by intro e; rw [e] at ht; simp at ht
    obtain ⟨g, d, e, _, l⟩ := owG_some h hne
    injection e with e _ _
    subst e
    exact ⟨g, rfl, ow_at flat_inZ h t ht⟩
  have HY : Hid (∀ t (ht : t < xs.length), xs[t] = n → r = true) := fun t ht e => by
    rw [hr]
    exact decide_eq_true (by rw [← e]; exact List.getElem_mem ht)
  have HN : Hid ((∀ t (ht : t < xs.length), ¬ xs[t] = n) → r = false) := fun hn => by
    rw [hr]
    exact decide_eq_false (fun hm => by
      obtain ⟨t, ht, e⟩ := List.getElem_of_mem hm
      exact hn t ht e)
  clear h hr
  go_enter Tryz.func32, Tryz.ntmps32
  go_wp2_with fail
  go_loopw [5] (fun i wr => ∃ t : Nat, t ≤ xs.length ∧ i = .int .i64 (t : Int) ∧ wr = w ∧ ∀ j (hj : j < xs.length), j < t → ¬ xs[j] = n) (fun i _ => xs.length - (intOf i).toNat)
  case atStart => exact ⟨0, by omega, rfl, rfl, fun j hj e => absurd e (by omega)⟩
  case round =>
    obtain ⟨t, ht, rfl, hw, hp⟩ := hrel
    subst hw
    have HP : Hid (∀ j (hj : j < xs.length), j < t → ¬ xs[j] = n) := hp
    clear hp
    by_cases h5 : t < xs.length
    · have t0 : (0 : Int) ≤ (t : Int) := Int.natCast_nonneg _
      have t1 : (t : Int) < (xs.length : Int) := by omega
      obtain ⟨g, rfl, d⟩ := HC.out t h5
      obtain ⟨y, hy⟩ : ∃ y, xs[t] = y := ⟨_, rfl⟩
      rw [hy] at d
      have HYY : Hid (∀ _ : Unit, xs[t] = y) := fun _ => hy
      clear hy
      by_cases e : y = n
      · have er : r = true := HY.out t h5 (by rw [HYY.out (), e])
        have eb : (y == n) = true := beq_iff_eq.2 e
        subst er
        clear e HY HN HP
        go_wp2
        go_ret
        exact ⟨rfl, rfl⟩
      · have eb : (y == n) = false := beq_eq_false_iff_ne.2 e
        have HE : Hid (∀ _ : Unit, ¬ y = n) := fun _ => e
        clear e
        go_wp2
        go_roundw
        case rel => exact ⟨t + 1, by omega, by go_num, trivial, fun j hj e => by
          by_cases e2 : j = t
          · subst e2
            rw [HYY.out ()]
            exact HE.out ()
          · exact HP.out j hj (by omega)⟩
        case measure => simp [intOf]; omega
    · have er : r = false := HN.out (fun t' ht' => HP.out t' ht' (by omega))
      subst er
      clear HY HN HP HC
      go_wp2
      go_ret
      exact ⟨rfl, rfl⟩
theorem bk_without (w : World) (v : Value) (B : Nat) (xs : List Int) (n : Int) (h : OwI w B v xs) (hl : xs.length ≤ 4096) : Calls Tryz.prog 77 #[v, .int .i64 n] w fun e w' => ∃ v', e = .returned v' ∧ OwI w' w.heap.size v' (xs.filter (fun u => !(u == n))) ∧ (xs.filter (fun u => !(u == n)) = [] → v' = .slice none 0 0) ∧ Below w.heap.size w w' := by
  obtain ⟨a, c, hv⟩ := h.form
  subst hv
  have HC : Hid (∀ W, Below w.heap.size w W → ∀ t (ht : t < xs.length), ∃ g, a = some ⟨g, 0, none⟩ ∧ W.cell? ⟨g, t, none⟩ = some (.int .i64 xs[t])) := fun W b t ht => by
    have hne : xs ≠ [] := by intro e; rw [e] at ht; simp at ht
    obtain ⟨g, d, e, _, l⟩ := owG_some h hne
    injection e with e _ _
    subst e
    exact ⟨g, rfl, (b.cell (p := ⟨g, t, none⟩) l).trans (ow_at flat_inZ h t ht)⟩
  clear h
  go_enter Tryz.func77, Tryz.ntmps77
  go_wp2_with fail
  go_loopw [5, 6] (fun ov i wr => ∃ (t : Nat) (out : Value), out = ov ∧ t ≤ xs.length ∧ i = .int .i64 (t : Int) ∧ OwI wr w.heap.size out ((xs.take t).filter (fun u => !(u == n))) ∧ ((xs.take t).filter (fun u => !(u == n)) = [] → out = .slice none 0 0) ∧ Below w.heap.size w wr) (fun _ i _ => xs.length - (intOf i).toNat)
  case atStart => exact ⟨0, _, rfl, by omega, rfl, OwG.nil _ _ _ _ _, fun _ => rfl, Below.refl _ _⟩
  case round =>
    obtain ⟨t, out, rfl, ht, rfl, ho, hn, hb⟩ := hrel
    by_cases h5 : t < xs.length
    · have t0 : (0 : Int) ≤ (t : Int) := Int.natCast_nonneg _
      have t1 : (t : Int) < (xs.length : Int) := by omega
      obtain ⟨g, rfl, d⟩ := HC.out wr hb t h5
      obtain ⟨y, hy⟩ : ∃ y, xs[t] = y := ⟨_, rfl⟩
      rw [hy] at d
      have et : xs.take (t + 1) = xs.take t ++ [y] := by rw [← hy, List.take_succ_eq_append_getElem h5]
      obtain ⟨ys, hys⟩ : ∃ ys, (xs.take t).filter (fun u => !(u == n)) = ys := ⟨_, rfl⟩
      have lys : ys.length ≤ 4096 := by
        rw [← hys]
        refine Nat.le_trans (List.length_filter_le _ _) ?_
        rw [List.length_take]
        omega
      rw [hys] at ho hn
      by_cases e : y = n
      · have en : (y != n) = false := by simp [e]
        have HE : Hid ((xs.take (t + 1)).filter (fun u => !(u == n)) = ys) := by
          show _ = _
          rw [et, List.filter_append, hys]
          simp [e]
        have HO : Hid (OwI wr w.heap.size out ys ∧ (ys = [] → out = .slice none 0 0) ∧ Below w.heap.size w wr) := ⟨ho, hn, hb⟩
        clear ho hn hb et hys hy e
        go_wp2
        go_roundw
        case rel => exact ⟨t + 1, _, rfl, by omega, by go_num, by rw [HE.out]; exact HO.out.1, by rw [HE.out]; exact HO.out.2.1, HO.out.2.2⟩
        case measure => simp [intOf]; omega
      · have en : (y != n) = true := by simp [e]
        have HE : Hid ((xs.take (t + 1)).filter (fun u => !(u == n)) = ys ++ [y]) := by
          show _ = _
          rw [et, List.filter_append, hys]
          simp [e]
        obtain ⟨sp, cp, hsp⟩ := ho.form
        subst hsp
        have HO : Hid (OwI wr w.heap.size (.slice sp ys.length cp) ys ∧ Below w.heap.size w wr) := ⟨ho, hb⟩
        clear ho hn hb et hys hy e
        go_wp2_with (at_builtin; refine hideG ?_)
        change wpList _ _ _ _ _ _
        refine app_one (cs := inZ) (wr := wr) (by rfl) _ _ 31 3 (by rfl) Tryz.underlying31 infoZ rfl (by decide) (fun _ => rfl) w.heap.size _ ys y HO.out.1 (by rfl) wr.heap.size rfl (by rfl) (inZ_one _) _ rfl (by unfold maxLen; omega) (by omega) HO.out.2.size ?_
        intro v' w3 ho3 hb3 hk3
        have HZ : Hid (OwI w3 w.heap.size v' (ys ++ [y]) ∧ Below w.heap.size w w3) := ⟨ho3, HO.out.2.trans hb3⟩
        clear ho3 hb3 hk3
        go_wp2
        go_roundw
        case rel => exact ⟨t + 1, _, rfl, by omega, by go_num, by rw [HE.out]; exact HZ.out.1, by rw [HE.out]; intro e; simp at e, HZ.out.2⟩
        case measure => simp [intOf]; omega
    · have et : xs.take t = xs := List.take_of_length_le (by omega)
      rw [et] at ho hn
      have HO : Hid (OwI wr w.heap.size out (xs.filter (fun u => !(u == n))) ∧ (xs.filter (fun u => !(u == n)) = [] → out = .slice none 0 0) ∧ Below w.heap.size w wr) := ⟨ho, hn, hb⟩
      clear ho hn hb et
      go_wp2
      go_ret
      exact ⟨_, rfl, HO.out⟩
theorem bk_bucketOf (w : World) (bb : Nat) (nb : Nat) (slot : Int) (h : w.cell? ⟨bb, 3, none⟩ = some (.int .i64 (nb : Int))) (s0 : 0 ≤ slot) (s1 : slot ≤ 1048576) (n0 : 0 < nb) (n1 : nb ≤ 4096) : Calls Tryz.prog 39 #[.pointer (some ⟨bb, 0, none⟩), .int .i64 slot] w fun e w' => e = .returned (.int .i64 (slot % (nb : Int))) ∧ w' = w := by
  have e1 : slot.tmod (nb : Int) = slot % (nb : Int) := Int.tmod_eq_emod_of_nonneg s0
  have e2 := Int.emod_nonneg slot (show (nb : Int) ≠ 0 by omega)
  have e3 := Int.emod_lt_of_pos slot (show (0 : Int) < (nb : Int) by omega)
  obtain ⟨t, ht⟩ : ∃ t, slot % (nb : Int) = t := ⟨_, rfl⟩
  rw [ht] at e1 e2 e3 ⊢
  have n2 : ¬ (nb : Int) = 0 := by omega
  have HT : Hid (∀ _ : Unit, slot.tmod (nb : Int) = t) := fun _ => e1
  clear ht e1
  go_enter Tryz.func39, Tryz.ntmps39
  have e1 := HT.out ()
  go_wp2
  go_ret
  exact ⟨rfl, rfl⟩
end Go.Proofs.YteekompojgbkhaaGreat
