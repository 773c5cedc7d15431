import Derived.Test.YteekompojgbkhaaGreatKBqM
import Derived.Test.YteekompojgbkhaaGreatKReG
import Derived.Test.YteekompojgbkhaaGreatKReE
namespace Go.Proofs.YteekompojgbkhaaGreat
open Go.ChangeShapes Go.WideShapes Go.ChangeAt Go.RowKit Go.MuLone Go.RwLone
set_option linter.unusedVariables false
set_option linter.unusedSectionVars false
set_option maxRecDepth 100000
set_option maxHeartbeats 3200000
/-- A row of single cells, by a function. -/
structure RwC (w : World) (g n : Nat) (f : Nat → Value) : Prop where
  c : ∀ j, j < n → w.cell? ⟨g, j, none⟩ = some (f j)
  f : ∀ j, w.frozen? ⟨g, j, none⟩ = false
  l : g < w.heap.size
theorem RwC.keeps {w w' : World} {D : Nat → Prop} {g n : Nat} {f : Nat → Value} (h : RwC w g n f) (k : Keeps D w w') (hD : ¬ D g) : RwC w' g n f :=
  ⟨fun j hj => (k.cell (p := ⟨g, j, none⟩) h.l hD).trans (h.c j hj), fun j => (k.frozen (p := ⟨g, j, none⟩) h.l hD).trans (h.f j), Nat.lt_of_lt_of_le h.l k.size⟩
theorem RwC.set {w : World} {g n : Nat} {f f' : Nat → Value} (h : RwC w g n f) (i : Nat) (hi : i < n) (u : Value) (e1 : f' i = u) (e2 : ∀ j, j ≠ i → f' j = f j) : RwC (w.setCell ⟨g, i, none⟩ u) g n f' := by
  refine ⟨fun j hj => ?_, fun j => by simpa using h.f j, by simpa using h.l⟩
  by_cases e : j = i
  · rw [e, e1]
    exact World.cell?_setCell_same _ _ _ (h.c i hi)
  · rw [e2 j e, World.cell?_setCell_other _ _ _ _ (fun e' => e (congrArg Addr.off e').symm)]
    exact h.c j hj
/-- A machine of the book and where it lies: its block, the lists of the slots due and met. -/
structure OL where
  o : On
  mb : Nat
  dv : Value
  mv : Value
/-- Its cells in the book's row. -/
def olC (q : OL) : List Value := [.int .i64 (q.o.kd : Int), .int .i64 q.o.sl, if q.o.kd = 0 then .pointer (some ⟨q.mb, 0, none⟩) else .pointer none, if q.o.kd = 2 then .pointer (some ⟨q.mb, 0, none⟩) else .pointer none, if q.o.kd = 1 then .pointer (some ⟨q.mb, 0, none⟩) else .pointer none, .bool q.o.dn, .bool q.o.mq, .int .i64 q.o.t.k, .bool q.o.bg, .int .i64 q.o.t.rk, q.dv, q.mv]
/-- The machine itself. -/
def OL.H (w : World) (xb : Nat) (q : OL) : Prop := (q.o.kd = 0 → InsH w q.mb xb q.o.mi) ∧ (q.o.kd = 1 → RemH w q.mb xb q.o.mr) ∧ (q.o.kd = 2 → WlkH w q.mb xb q.o.mw) ∧ q.mb < w.heap.size
theorem OL.H.keeps {w w' : World} {D : Nat → Prop} {xb : Nat} {q : OL} (h : q.H w xb) (k : Keeps D w w') (hD : ¬ D q.mb) : q.H w' xb :=
  ⟨fun e => (k.block _ h.2.2.2 hD).trans (h.1 e), fun e => (k.block _ h.2.2.2 hD).trans (h.2.1 e), fun e => (k.block _ h.2.2.2 hD).trans (h.2.2.1 e), Nat.lt_of_lt_of_le h.2.2.2 k.size⟩
/-- Where the book's things lie, whatever is played: arena, index, the lists of Inserts, Removes, ranks, the list of rows. -/
structure BkL where
  L : Lay
  Q : List Nat
  X : XL
  ib : Nat
  ic : Nat
  rb : Nat
  rc : Nat
  kb : Nat
  kc : Nat
  wb : Nat
  wc : Nat
  pk : Nat → Option (Array Value × TypeId)
/-- What the book's memory holds; T: what a block serves for. -/
structure BkS where
  S : AS
  x : XS
  N : Nat
  nb : Nat
  ins : Int → Int
  rem : Int → Int
  rank : Int → Int
  ranks : Int
  rows : Int → List Int
  rv : Nat → Value
  av : Value
  all : List OL
  T : Nat → Nat
abbrev bkC (l : BkL) (s : BkS) : Array Value := #[.pointer (some ⟨l.L.b, 0, none⟩), .pointer (some ⟨l.X.x, 0, none⟩), .int .i64 (s.N : Int), .int .i64 (s.nb : Int), .slice (some ⟨l.ib, 0, none⟩) (s.N + 1) l.ic, .slice (some ⟨l.rb, 0, none⟩) (s.N + 1) l.rc, .slice (some ⟨l.kb, 0, none⟩) (s.N + 1) l.kc, .int .i64 s.ranks, .slice (some ⟨l.wb, 0, none⟩) s.nb l.wc, s.av]
abbrev fI (f : Int → Int) : Nat → Value := fun j => .int .i64 (f (j : Int))
structure BkM (w : World) (B bb : Nat) (l : BkL) (s : BkS) : Prop where
  ch : CH w l.L l.Q s.S l.X s.x
  b : w.heap[bb]? = some (.cells (bkC l s) 35)
  i : RwC w l.ib (s.N + 1) (fI s.ins)
  r : RwC w l.rb (s.N + 1) (fI s.rem)
  k : RwC w l.kb (s.N + 1) (fI s.rank)
  z : RwC w l.wb s.nb s.rv
  v : ∀ j, j < s.nb → OwI w B (s.rv j) (s.rows (j : Int)) ∧ (s.rows (j : Int) = [] → s.rv j = .slice none 0 0)
  a : OwG olC 48 12 w B s.av s.all
  m : ∀ (i : Nat) (q : OL), s.all[i]? = some q → q.H w l.X.x ∧ OwI w B q.dv q.o.t.due ∧ OwI w B q.mv q.o.t.met
  t1 : ∀ g, chF l.L l.X g → s.T g = 1
  t2 : s.T bb = 2
  t3 : s.T l.ib = 3
  t4 : s.T l.rb = 4
  t5 : s.T l.kb = 5
  t6 : s.T l.wb = 6
  t7 : ∀ g, s.av.ownBlock = some g → s.T g = 7
  t8 : ∀ (i : Nat) (q : OL), s.all[i]? = some q → s.T q.mb = 8 + 4 * i ∧ (∀ g, q.dv.ownBlock = some g → s.T g = 9 + 4 * i) ∧ (∀ g, q.mv.ownBlock = some g → s.T g = 10 + 4 * i)
  t9 : ∀ j, j < s.nb → ∀ g, (s.rv j).ownBlock = some g → s.T g = 11 + 4 * j
  tl : ∀ g, s.T g ≠ 0 → B ≤ g ∧ g < w.heap.size
  pp : ∀ g c t, l.pk g = some (c, t) → w.heap[g]? = some (.cells c t)
  tp : ∀ g c t, l.pk g = some (c, t) → s.T g = 411
section
variable {w w' : World} {B bb : Nat} {l : BkL} {s : BkS}
theorem BkM.lb (h : BkM w B bb l s) : bb < w.heap.size := (Array.getElem?_eq_some_iff.1 h.b).1
theorem BkM.lp (h : BkM w B bb l s) {g : Nat} {c : Array Value} {t : TypeId} (e : l.pk g = some (c, t)) : g < w.heap.size := (Array.getElem?_eq_some_iff.1 (h.pp g c t e)).1
theorem BkM.keeps {D : Nat → Prop} (h : BkM w B bb l s) (k : Keeps D w w') (hD : ∀ g, s.T g ≠ 0 → ¬ D g) : BkM w' B bb l s := by
  have n1 : ∀ g, chF l.L l.X g → ¬ D g := fun g hg => hD g (by rw [h.t1 g hg]; decide)
  have n2 : ¬ D bb := hD _ (by rw [h.t2]; decide)
  have n3 : ¬ D l.ib := hD _ (by rw [h.t3]; decide)
  have n4 : ¬ D l.rb := hD _ (by rw [h.t4]; decide)
  have n5 : ¬ D l.kb := hD _ (by rw [h.t5]; decide)
  have n6 : ¬ D l.wb := hD _ (by rw [h.t6]; decide)
  exact ⟨h.ch.keeps k n1, (k.block bb h.lb n2).trans h.b, h.i.keeps k n3, h.r.keeps k n4, h.k.keeps k n5, h.z.keeps k n6,
    fun j hj => ⟨owK (h.v j hj).1 k (fun g hg => hD g (by rw [h.t9 j hj g hg]; omega)), (h.v j hj).2⟩,
    owK h.a k (fun g hg => hD g (by rw [h.t7 g hg]; decide)),
    fun i q hq => ⟨(h.m i q hq).1.keeps k (hD _ (by rw [(h.t8 i q hq).1]; omega)), owK (h.m i q hq).2.1 k (fun g hg => hD g (by rw [(h.t8 i q hq).2.1 g hg]; omega)), owK (h.m i q hq).2.2 k (fun g hg => hD g (by rw [(h.t8 i q hq).2.2 g hg]; omega))⟩,
    h.t1, h.t2, h.t3, h.t4, h.t5, h.t6, h.t7, h.t8, h.t9, fun g hg => ⟨(h.tl g hg).1, Nat.lt_of_lt_of_le (h.tl g hg).2 k.size⟩, fun g c t e => (k.block _ (h.lp e) (hD _ (by rw [h.tp g c t e]; decide))).trans (h.pp g c t e), h.tp⟩
theorem BkM.noC (h : BkM w B bb l s) (k : Keeps (fun _ => False) w w') : BkM w' B bb l s := h.keeps k (fun _ _ e => e)
theorem BkM.drew (h : BkM w B bb l s) : BkM w.drew B bb l s := h.noC (Keeps.refl _ _).drew
def updN (f : Nat → Nat) (i x : Nat) : Nat → Nat := fun j => if j = i then x else f j
theorem updN_at (f : Nat → Nat) (i x : Nat) : updN f i x i = x := if_pos rfl
theorem updN_ne (f : Nat → Nat) {i j : Nat} (x : Nat) (h : j ≠ i) : updN f i x j = f j := if_neg h
/-- A new block has its purpose. -/
theorem BkM.tag (h : BkM w B bb l s) (g t : Nat) (hg : s.T g = 0) (h1 : B ≤ g) (h2 : g < w.heap.size) : BkM w B bb l { s with T := updN s.T g t } := by
  have o : ∀ x, s.T x ≠ 0 → updN s.T g t x = s.T x := fun x hx => updN_ne _ _ (fun e => hx (by rw [e]; exact hg))
  refine ⟨h.ch, h.b, h.i, h.r, h.k, h.z, h.v, h.a, h.m, fun x hx => ?_, ?_, ?_, ?_, ?_, ?_, fun x hx => ?_, fun i q hq => ⟨?_, fun x hx => ?_, fun x hx => ?_⟩, fun j hj x hx => ?_, fun x hx => ?_, h.pp, fun g c t e => (o _ (by rw [h.tp g c t e]; decide)).trans (h.tp g c t e)⟩
  · exact (o x (by rw [h.t1 x hx]; decide)).trans (h.t1 x hx)
  · exact (o _ (by rw [h.t2]; decide)).trans h.t2
  · exact (o _ (by rw [h.t3]; decide)).trans h.t3
  · exact (o _ (by rw [h.t4]; decide)).trans h.t4
  · exact (o _ (by rw [h.t5]; decide)).trans h.t5
  · exact (o _ (by rw [h.t6]; decide)).trans h.t6
  · exact (o x (by rw [h.t7 x hx]; decide)).trans (h.t7 x hx)
  · exact (o _ (by rw [(h.t8 i q hq).1]; omega)).trans (h.t8 i q hq).1
  · exact (o x (by rw [(h.t8 i q hq).2.1 x hx]; omega)).trans ((h.t8 i q hq).2.1 x hx)
  · exact (o x (by rw [(h.t8 i q hq).2.2 x hx]; omega)).trans ((h.t8 i q hq).2.2 x hx)
  · exact (o x (by rw [h.t9 j hj x hx]; omega)).trans (h.t9 j hj x hx)
  · by_cases e : x = g
    · exact ⟨by omega, by omega⟩
    · exact h.tl x (by rw [← updN_ne s.T t e]; exact hx)
theorem BkM.new0 (h : BkM w B bb l s) (g : Nat) (hg : w.heap.size ≤ g) : s.T g = 0 := by
  by_cases e : s.T g = 0
  · exact e
  · have := (h.tl g e).2
    omega
/-- One block's cell is stored; all that serves for other things stays. -/
theorem keepS {w : World} {D : Nat → Prop} (g j : Nat) (u : Value) (h : D g) : Keeps D w (w.setCell ⟨g, j, none⟩ u) := (Keeps.refl _ _).setCell (p := ⟨g, j, none⟩) h u
/-- All but what serves for t. -/
structure BkO (w' : World) (B bb : Nat) (l : BkL) (s : BkS) (t : Nat) : Prop where
  ch : t ≠ 1 → CH w' l.L l.Q s.S l.X s.x
  b : t ≠ 2 → w'.heap[bb]? = some (.cells (bkC l s) 35)
  i : t ≠ 3 → RwC w' l.ib (s.N + 1) (fI s.ins)
  r : t ≠ 4 → RwC w' l.rb (s.N + 1) (fI s.rem)
  k : t ≠ 5 → RwC w' l.kb (s.N + 1) (fI s.rank)
  z : t ≠ 6 → RwC w' l.wb s.nb s.rv
  v : ∀ j, j < s.nb → t ≠ 11 + 4 * j → OwI w' B (s.rv j) (s.rows (j : Int)) ∧ (s.rows (j : Int) = [] → s.rv j = .slice none 0 0)
  a : t ≠ 7 → OwG olC 48 12 w' B s.av s.all
  m : ∀ (i : Nat) (q : OL), s.all[i]? = some q → (t ≠ 8 + 4 * i → q.H w' l.X.x) ∧ (t ≠ 9 + 4 * i → OwI w' B q.dv q.o.t.due) ∧ (t ≠ 10 + 4 * i → OwI w' B q.mv q.o.t.met)
  tl : ∀ g, s.T g ≠ 0 → B ≤ g ∧ g < w'.heap.size
  pp : t ≠ 411 → ∀ g c u, l.pk g = some (c, u) → w'.heap[g]? = some (.cells c u)
theorem BkM.but (h : BkM w B bb l s) (t : Nat) (k : Keeps (fun g => s.T g = t) w w') : BkO w' B bb l s t :=
  ⟨fun e => h.ch.keeps k (fun g hg e2 => e (by rw [← e2]; exact h.t1 g hg)), fun e => (k.block bb h.lb (fun e2 => e (by rw [← e2]; exact h.t2))).trans h.b, fun e => h.i.keeps k (fun e2 => e (by rw [← e2]; exact h.t3)), fun e => h.r.keeps k (fun e2 => e (by rw [← e2]; exact h.t4)), fun e => h.k.keeps k (fun e2 => e (by rw [← e2]; exact h.t5)), fun e => h.z.keeps k (fun e2 => e (by rw [← e2]; exact h.t6)),
    fun j hj e => ⟨owK (h.v j hj).1 k (fun g hg e2 => e (by rw [← e2]; exact h.t9 j hj g hg)), (h.v j hj).2⟩,
    fun e => owK h.a k (fun g hg e2 => e (by rw [← e2]; exact h.t7 g hg)),
    fun i q hq => ⟨fun e => (h.m i q hq).1.keeps k (fun e2 => e (by rw [← e2]; exact (h.t8 i q hq).1)), fun e => owK (h.m i q hq).2.1 k (fun g hg e2 => e (by rw [← e2]; exact (h.t8 i q hq).2.1 g hg)), fun e => owK (h.m i q hq).2.2 k (fun g hg e2 => e (by rw [← e2]; exact (h.t8 i q hq).2.2 g hg))⟩,
    fun g hg => ⟨(h.tl g hg).1, Nat.lt_of_lt_of_le (h.tl g hg).2 k.size⟩, fun e g c u e1 => (k.block _ (h.lp e1) (fun e2 => e (by rw [← e2]; exact h.tp g c u e1))).trans (h.pp g c u e1)⟩
theorem BkM.setK (h : BkM w B bb l s) (i : Nat) (hi : i ≤ s.N) (y : Int) : BkM (w.setCell ⟨l.kb, i, none⟩ (.int .i64 y)) B bb l { s with rank := updI s.rank i y } := by
  have o := h.but 5 (keepS l.kb i (.int .i64 y) h.t5)
  exact ⟨o.ch (by decide), o.b (by decide), o.i (by decide), o.r (by decide), h.k.set (f' := fI (updI s.rank i y)) i (by omega) _ (by show Value.int _ (updI s.rank i y i) = _; rw [updI_at]) (fun j hj => by show Value.int _ (updI s.rank i y j) = Value.int _ (s.rank j); rw [updI_ne _ _ (by omega)]), o.z (by decide), fun j hj => o.v j hj (by omega), o.a (by decide), fun j q hq => ⟨(o.m j q hq).1 (by omega), (o.m j q hq).2.1 (by omega), (o.m j q hq).2.2 (by omega)⟩, h.t1, h.t2, h.t3, h.t4, h.t5, h.t6, h.t7, h.t8, h.t9, o.tl, o.pp (by decide), h.tp⟩
end
end Go.Proofs.YteekompojgbkhaaGreat

namespace Go.Proofs.YteekompojgbkhaaGreat
open Go.ChangeShapes Go.WideShapes Go.ChangeAt Go.RowKit Go.MuLone Go.RwLone
set_option linter.unusedVariables false
set_option linter.unusedSectionVars false
set_option maxRecDepth 100000
set_option maxHeartbeats 3200000
section
variable {w w' : World} {B bb : Nat} {l : BkL} {s : BkS}
theorem set_at {α : Type} {xs : List α} {i j : Nat} {x' p : α} (hi : i < xs.length) (hp : (xs.set i x')[j]? = some p) : (j = i ∧ p = x') ∨ (j ≠ i ∧ xs[j]? = some p) := by
  by_cases e : j = i
  · rw [e, List.getElem?_set_self hi] at hp
    exact .inl ⟨e, by injection hp with hp; exact hp.symm⟩
  · rw [List.getElem?_set_ne (fun e2 => e e2.symm)] at hp
    exact .inr ⟨e, hp⟩
/-- A machine's cell in the book's row. -/
theorem BkM.one {g m cap : Nat} (h : BkM w B bb l s) (hv : s.av = .slice (some ⟨g, 0, .none⟩) m cap) (i : Nat) (q : OL) (hi : s.all[i]? = some q) (j : Nat) (hj : j < 12) : w.cell? ⟨g, i * 12 + j, .none⟩ = (olC q)[j]? := by
  obtain ⟨h1, h2⟩ := List.getElem?_eq_some_iff.1 hi
  have ho := h.a
  rw [hv] at ho
  have hn := (owG_cap ho).1
  subst hn
  have c0 := flat_get olC 12 (fun _ => rfl) s.all i h1 j hj
  rw [World.ownsRow.cellAt ho (i * 12 + j) (by omega), c0, h2]
theorem BkM.ones (h : BkM w B bb l s) (i : Nat) (q : OL) (hi : s.all[i]? = some q) : ∃ g cap, s.av = .slice (some ⟨g, 0, .none⟩) s.all.length cap ∧ B ≤ g ∧ g < w.heap.size ∧ s.T g = 7 ∧ (∀ j, w.frozen? ⟨g, j, .none⟩ = false) := by
  have hne : s.all ≠ [] := by intro e; rw [e] at hi; simp at hi
  obtain ⟨g, cap, e1, e2, e3⟩ := owG_some h.a hne
  have ho := h.a
  rw [e1] at ho
  obtain ⟨cur, hc⟩ := (owG_cap ho).2.2.2.2
  exact ⟨g, cap, e1, e2, e3, h.t7 g (by rw [e1]; rfl), fun j => frozen?_heap hc j⟩
end
end Go.Proofs.YteekompojgbkhaaGreat

namespace Go.Proofs.YteekompojgbkhaaGreat
open Go.ChangeShapes Go.WideShapes Go.ChangeAt Go.RowKit Go.MuLone Go.RwLone
set_option linter.unusedVariables false
set_option maxRecDepth 100000
set_option maxHeartbeats 6400000
theorem bk_num (a : Int) (w : World) : Calls Tryz.prog 18 #[.int .i64 a] w fun e w' => e = .returned (.int .i64 a) ∧ w' = w := by
  go_enter Tryz.func18, Tryz.ntmps18
  go_wp2
  go_ret
  exact ⟨rfl, rfl⟩
theorem bk_mod (a n : Int) (w : World) (a0 : -9223372036854775808 ≤ a) (a1 : a ≤ 9223372036854775807) (n0 : 0 < n) (n1 : n ≤ 1048576) : Calls Tryz.prog 14 #[.int .i64 a, .int .i64 n] w fun e w' => e = .returned (.int .i64 (a % n)) ∧ w' = w := by
  have k0 : (a.tmod n < n ∧ -n < a.tmod n) ∧ (¬ a.tmod n < 0 → a.tmod n = a % n) ∧ (a.tmod n < 0 → a.tmod n + n = a % n) := by
    have p2 := Int.emod_lt_of_pos (-a) n0
    have p1 := Int.emod_nonneg (-a) (show n ≠ 0 by omega)
    have q2 := Int.emod_lt_of_pos a n0
    have q1 := Int.emod_nonneg a (show n ≠ 0 by omega)
    rcases (by omega : a < 0 ∨ 0 ≤ a) with h | h
    · have e : a.tmod n = -((-a) % n) := by
        rw [← Int.tmod_eq_emod_of_nonneg (show 0 ≤ -a by omega), Int.neg_tmod, Int.neg_neg]
      refine ⟨⟨by omega, by omega⟩, fun h2 => ?_, fun h2 => ?_⟩
      · have z : (-a) % n = 0 := by omega
        have d : n ∣ a := (Int.dvd_neg).1 (Int.dvd_of_emod_eq_zero z)
        rw [e, z, Int.emod_eq_zero_of_dvd d]
        rfl
      · have h3 := Int.tmod_add_mul_tdiv a n
        have h5 : (a.tmod n + n) % n = a % n := by
          rw [Int.add_emod_right]
          conv => rhs; rw [← h3]
          rw [Int.add_mul_emod_self_left]
        rw [← h5, Int.emod_eq_of_lt (by omega) (by omega)]
    · have e : a.tmod n = a % n := Int.tmod_eq_emod_of_nonneg h
      refine ⟨⟨by omega, by omega⟩, fun _ => e, fun h2 => by omega⟩
  obtain ⟨⟨k1, k2⟩, k3⟩ := k0
  obtain ⟨t, ht⟩ : ∃ t, a.tmod n = t := ⟨_, rfl⟩
  obtain ⟨r, hr⟩ : ∃ r, a % n = r := ⟨_, rfl⟩
  rw [ht] at k1 k2 k3
  rw [hr] at k3 ⊢
  have n2 : ¬ n = 0 := by omega
  by_cases h : t < 0
  · have hz := k3.2 h
    have HT : Hid (∀ _ : Unit, t + n = r) := fun _ => hz
    clear k3 hz hr
    go_enter Tryz.func14, Tryz.ntmps14
    go_wp2
    go_ret
    rw [← HT.out ()]
    exact ⟨rfl, rfl⟩
  · have hz := k3.1 h
    have HT : Hid (∀ _ : Unit, t = r) := fun _ => hz
    clear k3 hz hr
    go_enter Tryz.func14, Tryz.ntmps14
    go_wp2
    go_ret
    rw [← HT.out ()]
    exact ⟨rfl, rfl⟩
theorem bk_has (w : World) (v : Value) (B : Nat) (xs : List Int) (n : Int) (r : Bool) (h : OwI w B v xs) (hl : xs.length ≤ 4096) (hr : r = decide (n ∈ xs)) : Calls Tryz.prog 32 #[v, .int .i64 n] w fun e w' => e = .returned (.bool r) ∧ w' = w := by
  obtain ⟨a, c, hv⟩ := h.form
  subst hv
  have HC : Hid (∀ t (ht : t < xs.length), ∃ g, a = some ⟨g, 0, none⟩ ∧ w.cell? ⟨g, t, none⟩ = some (.int .i64 xs[t])) := fun t ht => by
    have hne : xs ≠ [] := by intro e; rw [e] at ht; simp at ht
    obtain ⟨g, d, e, _, l⟩ := owG_some h hne
    injection e with e _ _
    subst e
    exact ⟨g, rfl, ow_at flat_inZ h t ht⟩
  have HY : Hid (∀ t (ht : t < xs.length), xs[t] = n → r = true) := fun t ht e => by
    rw [hr]
    exact decide_eq_true (by rw [← e]; exact List.getElem_mem ht)
  have HN : Hid ((∀ t (ht : t < xs.length), ¬ xs[t] = n) → r = false) := fun hn => by
    rw [hr]
    exact decide_eq_false (fun hm => by
      obtain ⟨t, ht, e⟩ := List.getElem_of_mem hm
      exact hn t ht e)
  clear h hr
  go_enter Tryz.func32, Tryz.ntmps32
  go_wp2_with fail
  go_loopw [5] (fun i wr => ∃ t : Nat, t ≤ xs.length ∧ i = .int .i64 (t : Int) ∧ wr = w ∧ ∀ j (hj : j < xs.length), j < t → ¬ xs[j] = n) (fun i _ => xs.length - (intOf i).toNat)
  case atStart => exact ⟨0, by omega, rfl, rfl, fun j hj e => absurd e (by omega)⟩
  case round =>
    obtain ⟨t, ht, rfl, hw, hp⟩ := hrel
    subst hw
    have HP : Hid (∀ j (hj : j < xs.length), j < t → ¬ xs[j] = n) := hp
    clear hp
    by_cases h5 : t < xs.length
    · have t0 : (0 : Int) ≤ (t : Int) := Int.natCast_nonneg _
      have t1 : (t : Int) < (xs.length : Int) := by omega
      obtain ⟨g, rfl, d⟩ := HC.out t h5
      obtain ⟨y, hy⟩ : ∃ y, xs[t] = y := ⟨_, rfl⟩
      rw [hy] at d
      have HYY : Hid (∀ _ : Unit, xs[t] = y) := fun _ => hy
      clear hy
      by_cases e : y = n
      · have er : r = true := HY.out t h5 (by rw [HYY.out (), e])
        have eb : (y == n) = true := beq_iff_eq.2 e
        subst er
        clear e HY HN HP
        go_wp2
        go_ret
        exact ⟨rfl, rfl⟩
      · have eb : (y == n) = false := beq_eq_false_iff_ne.2 e
        have HE : Hid (∀ _ : Unit, ¬ y = n) := fun _ => e
        clear e
        go_wp2
        go_roundw
        case rel => exact ⟨t + 1, by omega, by go_num, trivial, fun j hj e => by
          by_cases e2 : j = t
          · subst e2
            rw [HYY.out ()]
            exact HE.out ()
          · exact HP.out j hj (by omega)⟩
        case measure => simp [intOf]; omega
    · have er : r = false := HN.out (fun t' ht' => HP.out t' ht' (by omega))
      subst er
      clear HY HN HP HC
      go_wp2
      go_ret
      exact ⟨rfl, rfl⟩
end Go.Proofs.YteekompojgbkhaaGreat

namespace Go.Proofs.YteekompojgbkhaaGreat
open Go.ChangeShapes Go.WideShapes Go.ChangeAt Go.RowKit Go.MuLone Go.RwLone
set_option linter.unusedVariables false
set_option maxRecDepth 100000
set_option maxHeartbeats 6400000
/-- Six cells stored. -/
def set6 (w : World) (s o : Nat) (c0 c1 c2 c3 c4 c5 : Value) : World := (((((w.setCell ⟨s, o, none⟩ c0).setCell ⟨s, o + 1, none⟩ c1).setCell ⟨s, o + 2, none⟩ c2).setCell ⟨s, o + 3, none⟩ c3).setCell ⟨s, o + 4, none⟩ c4).setCell ⟨s, o + 5, none⟩ c5
end Go.Proofs.YteekompojgbkhaaGreat

namespace Go.Proofs.YteekompojgbkhaaGreat
set_option linter.unusedSimpArgs false
open Go.ChangeShapes Go.WideShapes Go.ChangeAt Go.RowKit Go.MuLone Go.RwLone
set_option linter.unusedVariables false
set_option maxRecDepth 100000
set_option maxHeartbeats 6400000
/-- What the program's arena has besides is nothing to the document's. -/
theorem RAr.cong {w : World} {R : RL} {cap : Nat} {qv : Value} {Q : List Nat} {S S' : AS} (h : RAr w R cap qv Q S) (e : ({ S with g0 := S'.g0, rc := S'.rc, lk := S'.lk, front := S'.front, count := S'.count, ring := S'.ring } : AS) = S') : RAr w R cap qv Q S' := by
  rw [← e]
  exact ⟨h.c0, h.c1, h.c2, h.c3, h.c4, h.us, h.nm, h.dt, h.tl, h.wy, h.wn, h.tn, h.wo, h.q, h.fb, h.fs, h.fw, h.lb, h.ls, h.lw, h.bs, h.bw, h.ww, h.qb, h.hn, h.hw⟩
end Go.Proofs.YteekompojgbkhaaGreat
