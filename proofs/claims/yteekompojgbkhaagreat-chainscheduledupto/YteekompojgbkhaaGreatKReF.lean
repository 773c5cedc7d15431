import Derived.Test.YteekompojgbkhaaGreatKReC
import Derived.Deep.AppendLies
import Derived.Deep.DeepAppendRoom
namespace Go.Proofs.YteekompojgbkhaaGreat
open Go.ChangeShapes Go.WideShapes Go.ChangeAt Go.RowKit Go.MuLone Go.RwLone
set_option linter.unusedVariables false
set_option maxRecDepth 100000
set_option maxHeartbeats 6400000
theorem Keeps.thin {D : Nat → Prop} {w w' : World} (h : Keeps (fun x => D x ∨ w.heap.size ≤ x) w w') : Keeps D w w' := ⟨h.os, h.tape, h.output, h.size, fun k hk hn => h.block k hk (fun e => e.elim hn (fun e => by omega))⟩
/-- append: in place, or in a block of its own that leaves the old one as it was. -/
theorem run_app_stay {P : Program} (w : World) (t ty : TypeId) (base : Nat) (e : TypeId) (i : TypeInfo) (z : Value) (size bytes : Nat) (ht : P.underlying t = some (.slice e)) (hi : P.info? e = some i) (hz : i.zero = some z) (hsize : i.size = size) (hby : i.bytes = bytes) (hzs : z.cells.size = size) (hsz : 0 < size)
    (v : Value) (n : Nat) (xs : List Value) (hown : w.ownsRow base e size v n xs)
    (ad : Addr) (m c : Nat) (news : List Value) (hl : news.length = m * size) (hnews : ∀ j u, news[j]? = some u → w.cell? (ad.add j) = some u) (h1 : ∀ u ∈ news, u.oneCell' = true)
    (hm : 0 < m) (h63 : n + m ≤ maxLen) (hbytes : (n + m) * bytes ≤ 140737488355328) (hbase : base ≤ w.heap.size) :
    ∃ g cap w', (Builtin.append_ #[t, t] ty #[v, .slice (some ad) m c]).run P w = .ok (.slice (some ⟨g, 0, none⟩) (n + m) cap) w' ∧ w'.ownsRow base e size (.slice (some ⟨g, 0, none⟩) (n + m) cap) (n + m) (xs ++ news) ∧ ((v.ownBlock = some g ∧ w.grownBy w' v.ownBlock) ∨ (g = w.heap.size ∧ w.grownBy w' none)) ∧ g < w'.heap.size := by
  obtain ⟨g', cap', w', hr, h2, h3, h4, h5⟩ := run_append_lies (P := P) w t ty base e i z size bytes ht hi hz hsize hby hzs hsz v n xs hown ad m c news hl hnews h1 hm h63 hbytes hbase w.heap.size rfl
  refine ⟨g', cap', w', hr, h2, ?_, h5⟩
  subst hsize hby
  rcases h4 with e4 | e4
  · exact .inl ⟨e4, h3⟩
  · right
    refine ⟨e4, ?_⟩
    rcases hown.2 with ⟨rfl, rfl⟩ | ⟨g, cap, cur, rfl, hbg, hg, hnc, hcm, hcs, htake⟩
    · exact h3
    · by_cases hroom : n + m ≤ cap
      · have hfit : n * i.size + news.length ≤ cur.size := by rw [hl, hcs, ← Nat.add_mul]; exact Nat.mul_le_mul_right _ hroom
        have hr2 := run_append_room (P := P) w t ty e i ht hi g n cap cur hg ad m c news hl hnews h1 hroom hfit
        rw [hr] at hr2
        injection hr2 with e1 e2
        injection e1 with e1 _ _
        injection e1 with e1
        injection e1 with e1 _ _
        have := (Array.getElem?_eq_some_iff.1 hg).1
        omega
      · have holds : ∀ j u, xs[j]? = some u → w.cell? ((⟨g, 0, none⟩ : Addr).add j) = some u := hown.cells (g := g) rfl
        have hsmall : n + m ≤ 9223372036854775807 := by simp only [maxLen] at h63; omega
        have hr2 := run_append_grow (P := P) w t ty e i z ht hi hz ⟨g, 0, none⟩ n cap xs hown.1 holds ad m c news hl hnews (by omega) (by omega) (growslice_fits (by omega) hbytes)
        rw [hr] at hr2
        injection hr2 with e1 e2
        rw [e2]
        exact ⟨rfl, rfl, rfl, by simp, fun k hk _ => Below.heap_alloc w.drew _ k hk⟩
theorem app_stay_wp {α : Type} {cs : α → List Value} {wr : World} {o : Oper} {a : Act} {K : Act → World → Prop} {Q : Exit → Act → World → Prop} (s x : Operand) (t e : TypeId)
    (ho : o.op = .call { callee := .builtin .append, args := #[s, x], argTypes := #[t, t] })
    {z : Value} {n bytes : Nat} (hu : Tryz.prog.underlying t = some (.slice e)) (hinfo : (Tryz.prog.info? e).map (fun i => (i.zero, i.size, i.bytes)) = some (some z, n, bytes)) (hzs : z.cells.size = n) (hn0 : 0 < n) (hn : ∀ y, (cs y).length = n)
    (v : Value) (xs : List α) (c : α) (hown : OwG cs e n wr 0 v xs) (hs : a.eval s = v) (g : Nat) (hg : g = wr.heap.size) (hx : a.eval x = .slice (some ⟨g, 0, none⟩) 1 1) (h1 : ∀ u ∈ cs c, u.oneCell' = true)
    (ar : Array Value) (har : ar = (cs c).toArray)
    (hm : xs.length < maxLen) (hbytes : (xs.length + 1) * bytes ≤ 140737488355328)
    (h : ∀ b cap w', OwG cs e n w' 0 (.slice (some ⟨b, 0, none⟩) (xs.length + 1) cap) (xs ++ [c]) → ((v.ownBlock = some b ∧ Keeps (fun k => v.ownBlock = some k) wr w') ∨ (wr.heap.size ≤ b ∧ Keeps (fun _ => False) wr w')) → b < w'.heap.size → K (a.put o.dst (.slice (some ⟨b, 0, none⟩) (xs.length + 1) cap)) w') :
    o.wp Tryz.prog a (wr.alloc (.cells ar e)) K Q := by
  subst hg har
  obtain ⟨i0, hi, hz0, hz1, hz2⟩ := info_parts hinfo
  obtain ⟨b, cap, w', hr, h2, h3, h4⟩ := run_app_stay (P := Tryz.prog) (wr.alloc (.cells (cs c).toArray e)) t o.type 0 e i0 z n bytes hu hi hz0 hz1 hz2 hzs hn0 v xs.length _ (World.ownsRow.alloc hown _)
    ⟨wr.heap.size, 0, none⟩ 1 1 (cs c) (by rw [hn]; omega) (by
      intro j u hj
      rw [addr_add, Nat.zero_add]
      unfold World.cell?
      rw [heap_alloc_last _ _ _ rfl]
      simpa using hj) h1 (by omega) (by omega) hbytes (Nat.zero_le _)
  unfold Oper.wp execOp
  simp only [ho, resolve, invoke, builtin, Sem.run_bind, Sem.run_pure, Result.andThen_ok, List.map_toArray, List.map_cons, List.map_nil, hs, hx, hr]
  refine h b cap w' ?_ ?_ h4
  · have : (xs ++ [c]).length = xs.length + 1 := by simp
    unfold OwG; rw [this, List.flatMap_append, show [c].flatMap cs = cs c from by simp]; exact h2
  · rcases h3 with ⟨e1, k⟩ | ⟨e1, k⟩
    · exact .inl ⟨e1, k.os, k.tape, k.output, by have := k.size; rw [szAl] at this; omega, fun k' hk hne => (k.block k' (by rw [szAl]; omega) (fun e => hne e.symm)).trans (Below.heap_alloc _ _ k' hk)⟩
    · exact .inr ⟨by rw [e1, szAl]; omega, k.os, k.tape, k.output, by have := k.size; rw [szAl] at this; omega, fun k' hk hne => (k.block k' (by rw [szAl]; omega) (by simp)).trans (Below.heap_alloc _ _ k' hk)⟩
theorem app_stay {α : Type} {cs : α → List Value} {wr : World} {ops : Array Oper} {rest : List Oper} {o : Oper} {a : Act} {Q : Exit → Act → World → Prop} (hgd : o.guard = none) (s x : Operand) (t e : TypeId)
    (ho : o.op = .call { callee := .builtin .append, args := #[s, x], argTypes := #[t, t] })
    {z : Value} {n bytes : Nat} (hu : Tryz.prog.underlying t = some (.slice e)) (hinfo : (Tryz.prog.info? e).map (fun i => (i.zero, i.size, i.bytes)) = some (some z, n, bytes)) (hzs : z.cells.size = n) (hn0 : 0 < n) (hn : ∀ y, (cs y).length = n)
    (v : Value) (xs : List α) (c : α) (hown : OwG cs e n wr 0 v xs) (hs : a.eval s = v) (g : Nat) (hg : g = wr.heap.size) (hx : a.eval x = .slice (some ⟨g, 0, none⟩) 1 1) (h1 : ∀ u ∈ cs c, u.oneCell' = true)
    (ar : Array Value) (har : ar = (cs c).toArray)
    (hm : xs.length < maxLen) (hbytes : (xs.length + 1) * bytes ≤ 140737488355328)
    (h : ∀ b cap w', OwG cs e n w' 0 (.slice (some ⟨b, 0, none⟩) (xs.length + 1) cap) (xs ++ [c]) → ((v.ownBlock = some b ∧ Keeps (fun k => v.ownBlock = some k) wr w') ∨ (wr.heap.size ≤ b ∧ Keeps (fun _ => False) wr w')) → b < w'.heap.size → wpList Tryz.prog ops Q rest (a.put o.dst (.slice (some ⟨b, 0, none⟩) (xs.length + 1) cap)) w') :
    wpList Tryz.prog ops Q (o :: rest) a (wr.alloc (.cells ar e)) :=
  wpList_plain hgd fun _ hK => app_stay_wp s x t e ho hu hinfo hzs hn0 hn v xs c hown hs g hg hx h1 ar har hm hbytes (fun b cap w' p1 p2 p3 => hK _ _ (h b cap w' p1 p2 p3))
/-- A row that lies at a, written full of p, and a list that has grown upon it. -/
structure GrO (w : World) (a : Option Addr) (n : Nat) (p : Int) (c : Value) (zs : List Int) : Prop where
  o : OwI w 0 c zs
  l : n ≤ zs.length
  z : ∀ j, j < n → zs[j]? = some p
  g : ∀ g, a = some ⟨g, 0, none⟩ → g < w.heap.size ∧ (∃ cur, w.heap[g]? = some (.cells cur 3)) ∧ (c.ownBlock = some g ∨ (c.ownBlock ≠ some g ∧ ∀ j, j < n → w.cell? ⟨g, j, none⟩ = some (.int .i64 p)))
/-- Where it lies. -/
def CxO (a : Option Addr) (c : Value) (x : Nat) : Prop := c.ownBlock = some x ∨ a = some ⟨x, 0, none⟩
theorem GrO.lt {w : World} {a : Option Addr} {n : Nat} {p : Int} {c : Value} {zs : List Int} (h : GrO w a n p c zs) (x : Nat) (hx : CxO a c x) : x < w.heap.size := by
  rcases hx with e | e
  · exact (World.ownsRow.lt h.o x e).2
  · exact (h.g x e).1
theorem GrO.ty {w : World} {a : Option Addr} {n : Nat} {p : Int} {c : Value} {zs : List Int} (h : GrO w a n p c zs) (x : Nat) (hx : CxO a c x) : ∃ cur, w.heap[x]? = some (.cells cur 3) := by
  rcases hx with e | e
  · exact blk h.o e
  · exact (h.g x e).2.1
theorem owI_cellO {w : World} {B g n cap : Nat} {zs : List Int} (h : OwI w B (.slice (some ⟨g, 0, none⟩) n cap) zs) (j : Nat) (x : Int) (hj : zs[j]? = some x) : w.cell? ⟨g, j, none⟩ = some (.int .i64 x) := by
  have hn := (owG_cap h).1
  subst hn
  obtain ⟨hl, he⟩ := List.getElem?_eq_some_iff.1 hj
  exact (World.ownsRow.cellAt h j (by omega)).trans (by rw [flat_inZ, List.getElem?_map, hj]; rfl)
theorem owI_blockO {w : World} {B g : Nat} {c : Value} {zs : List Int} (h : OwI w B c zs) (hg : c.ownBlock = some g) : ∃ cap, c = .slice (some ⟨g, 0, none⟩) zs.length cap := by
  rcases h.2 with ⟨rfl, _⟩ | ⟨g', cap, cur, rfl, _⟩
  · cases hg
  · have e : g' = g := Option.some.inj hg
    subst e
    exact ⟨cap, rfl⟩
theorem GrO.cell {w : World} {a : Option Addr} {n : Nat} {p : Int} {c : Value} {zs : List Int} (h : GrO w a n p c zs) (g : Nat) (hg : a = some ⟨g, 0, none⟩) (j : Nat) (hj : j < n) : w.cell? ⟨g, j, none⟩ = some (.int .i64 p) := by
  rcases (h.g g hg).2.2 with e | ⟨_, e⟩
  · obtain ⟨cap, rfl⟩ := owI_blockO h.o e
    exact owI_cellO h.o j p (h.z j hj)
  · exact e j hj
theorem GrO.keeps {w w' : World} {D : Nat → Prop} {a : Option Addr} {n : Nat} {p : Int} {c : Value} {zs : List Int} (h : GrO w a n p c zs) (k : Keeps D w w') (hD : ∀ x, D x → ¬ CxO a c x) : GrO w' a n p c zs :=
  ⟨owK h.o k (fun g hg e => hD g e (.inl hg)), h.l, h.z, fun g hg => ⟨Nat.lt_of_lt_of_le (h.g g hg).1 k.size, by
    obtain ⟨cur, e⟩ := (h.g g hg).2.1
    exact ⟨cur, (k.block g (h.g g hg).1 (fun e' => hD g e' (.inr hg))).trans e⟩, (h.g g hg).2.2.imp id (fun e => ⟨e.1, fun j hj => (k.cell (p := ⟨g, j, none⟩) (h.g g hg).1 (fun e' => hD g e' (.inr hg))).trans (e.2 j hj)⟩)⟩⟩
/-- One more. -/
theorem GrO.app {w w' : World} {a : Option Addr} {n : Nat} {p : Int} {c : Value} {zs : List Int} (h : GrO w a n p c zs) {b cap : Nat} {m : Int} (o : OwI w' 0 (.slice (some ⟨b, 0, none⟩) (zs.length + 1) cap) (zs ++ [m])) (k : (c.ownBlock = some b ∧ Keeps (fun k => c.ownBlock = some k) w w') ∨ (w.heap.size ≤ b ∧ Keeps (fun _ => False) w w')) :
    GrO w' a n p (.slice (some ⟨b, 0, none⟩) (zs.length + 1) cap) (zs ++ [m]) ∧ (∀ x, CxO a (.slice (some ⟨b, 0, none⟩) (zs.length + 1) cap) x → CxO a c x ∨ w.heap.size ≤ x) ∧ Keeps (CxO a c) w w' := by
  have hl := h.l
  refine ⟨⟨o, by simp; omega, fun j hj => by rw [List.getElem?_append_left (by omega)]; exact h.z j hj, fun g hg => ?_⟩, fun x hx => ?_, ?_⟩
  · have hlt := (h.g g hg).1
    obtain ⟨cur, hcu⟩ := (h.g g hg).2.1
    rcases k with ⟨e, k⟩ | ⟨e, k⟩
    · refine ⟨Nat.lt_of_lt_of_le hlt k.size, ?_⟩
      rcases (h.g g hg).2.2 with e2 | ⟨e2, e3⟩
      · rw [e] at e2
        exact ⟨blk o e2, .inl e2⟩
      · refine ⟨⟨cur, (k.block g hlt (fun e' => e2 e')).trans hcu⟩, .inr ⟨fun e4 => e2 (e.trans e4), fun j hj => (k.cell (p := ⟨g, j, none⟩) hlt (fun e' => e2 e')).trans (e3 j hj)⟩⟩
    · refine ⟨Nat.lt_of_lt_of_le hlt k.size, ⟨cur, (k.block g hlt (fun e' => e')).trans hcu⟩, .inr ⟨fun e4 => by have : b = g := Option.some.inj e4; omega, fun j hj => (k.cell (p := ⟨g, j, none⟩) hlt (fun e' => e')).trans (h.cell g hg j hj)⟩⟩
  · rcases hx with e | e
    · obtain rfl : b = x := Option.some.inj e
      rcases k with ⟨e, _⟩ | ⟨e, _⟩
      · exact .inl (.inl e)
      · exact .inr e
    · exact .inl (.inr e)
  · rcases k with ⟨_, k⟩ | ⟨_, k⟩
    · exact k.mono (fun x e => .inl e)
    · exact k.mono (fun x e => e.elim)
structure RwD where
  a : Option Addr
  n : Nat
  c : Nat
abbrev RwD.v (r : RwD) : Value := .slice r.a r.n r.c
/-- What is written into row m. -/
def mkI (m : Nat) : Int := -1 - (m : Int)
theorem upd_ne {β : Type} (f : Nat → β) (m : Nat) (x : β) (j : Nat) (h : j ≠ m) : upd f m x j = f j := upd_other f x h
theorem cx_own {r : RwD} {x : Nat} (h : CxO r.a r.v x) : r.v.ownBlock = some x := h.elim id (fun e => by show (Value.slice r.a r.n r.c).ownBlock = _; rw [e]; rfl)
/-- Rows, k of them marked and grown upon. -/
structure Fq (w wr : World) (D : Nat → Prop) (N : Nat) (R : Nat → RwD) (c : Nat → Value) (z : Nat → List Int) (k : Nat) : Prop where
  g : ∀ m, m < N → m < k → GrO wr (R m).a (R m).n (mkI m) (c m) (z m) ∧ (z m).length = (R m).n + 1 ∧ (z m)[(R m).n]? = some (mkI m)
  o : ∀ m, m < N → k ≤ m → OwI wr 0 (R m).v (z m) ∧ (z m).length = (R m).n ∧ c m = (R m).v
  d : ∀ m m', m < N → m' < N → m ≠ m' → ∀ x, CxO (R m).a (c m) x → ¬ CxO (R m').a (c m') x
  f : ∀ m, m < N → ∀ x, CxO (R m).a (c m) x → D x ∨ w.heap.size ≤ x
  kp : Keeps D w wr
  sp : ∀ m, m < N → 0 < (R m).n → ∃ g, (R m).a = some ⟨g, 0, none⟩
/-- In the midst of marking row k: i cells are marked. -/
structure Fm (w wr : World) (D : Nat → Prop) (N : Nat) (R : Nat → RwD) (c : Nat → Value) (z : Nat → List Int) (k i : Nat) : Prop where
  q : Fq w wr D N R c z k
  p : ∀ i', i' < i → (z k)[i']? = some (mkI k)
theorem Fq.lt {w wr : World} {D : Nat → Prop} {N : Nat} {R : Nat → RwD} {c : Nat → Value} {z : Nat → List Int} {k : Nat} (h : Fq w wr D N R c z k) (m : Nat) (hm : m < N) (x : Nat) (hx : CxO (R m).a (c m) x) : x < wr.heap.size := by
  by_cases e : m < k
  · exact (h.g m hm e).1.lt x hx
  · obtain ⟨o, _, e2⟩ := h.o m hm (by omega)
    rw [e2] at hx
    exact (World.ownsRow.lt o x (cx_own hx)).2
theorem Fq.ty {w wr : World} {D : Nat → Prop} {N : Nat} {R : Nat → RwD} {c : Nat → Value} {z : Nat → List Int} {k : Nat} (h : Fq w wr D N R c z k) (m : Nat) (hm : m < N) (x : Nat) (hx : CxO (R m).a (c m) x) : ∃ cur, wr.heap[x]? = some (.cells cur 3) := by
  by_cases e : m < k
  · exact (h.g m hm e).1.ty x hx
  · obtain ⟨o, _, e2⟩ := h.o m hm (by omega)
    rw [e2] at hx
    exact blk o (cx_own hx)
/-- What does not touch the rows leaves them. -/
theorem Fq.keeps {w wr w3 : World} {D D' : Nat → Prop} {N : Nat} {R : Nat → RwD} {c : Nat → Value} {z : Nat → List Int} {k : Nat} (h : Fq w wr D N R c z k) (kp : Keeps D' wr w3) (hD : ∀ x, D' x → D x ∨ w.heap.size ≤ x) (hn : ∀ m, m < N → ∀ x, CxO (R m).a (c m) x → ¬ D' x) : Fq w w3 D N R c z k :=
  ⟨fun m hm e => ⟨(h.g m hm e).1.keeps kp (fun x e e' => hn m hm x e' e), (h.g m hm e).2⟩, fun m hm e => ⟨owK (h.o m hm e).1 kp (fun g hg => hn m hm g (by rw [(h.o m hm e).2.2]; exact .inl hg)), (h.o m hm e).2⟩, h.d, h.f, ((h.kp.mono (fun _ e => .inl e)).trans (kp.mono hD)).thin, h.sp⟩
theorem Fm.keeps {w wr w3 : World} {D D' : Nat → Prop} {N : Nat} {R : Nat → RwD} {c : Nat → Value} {z : Nat → List Int} {k i : Nat} (h : Fm w wr D N R c z k i) (kp : Keeps D' wr w3) (hD : ∀ x, D' x → D x ∨ w.heap.size ≤ x) (hn : ∀ m, m < N → ∀ x, CxO (R m).a (c m) x → ¬ D' x) : Fm w w3 D N R c z k i := ⟨h.q.keeps kp hD hn, h.p⟩
/-- One cell of row k marked. -/
theorem Fm.set {w wr : World} {D : Nat → Prop} {N : Nat} {R : Nat → RwD} {c : Nat → Value} {z : Nat → List Int} {k i : Nat} (h : Fm w wr D N R c z k i) (hk : k < N) (hi : i < (R k).n) (p : Int) (hp : p = mkI k) : ∃ g, (R k).a = some ⟨g, 0, none⟩ ∧ Fm w (wr.setCell ⟨g, i, none⟩ (.int .i64 p)) D N R c (upd z k ((z k).set i p)) k (i + 1) ∧ (∃ u, wr.cell? ⟨g, i, none⟩ = some u) ∧ wr.frozen? ⟨g, i, none⟩ = false ∧ CxO (R k).a (c k) g := by
  subst hp
  obtain ⟨ho, hl, hc⟩ := h.q.o k hk (Nat.le_refl _)
  obtain ⟨g, cap, e, _, _⟩ := owG_some ho (by intro e; rw [e] at hl; simp at hl; omega)
  injection e with e e2 e3
  have hv : (R k).v = .slice (some ⟨g, 0, none⟩) (R k).n (R k).c := by show Value.slice _ _ _ = _; rw [e]
  have ho2 : OwI wr 0 (.slice (some ⟨g, 0, none⟩) (z k).length (R k).c) (z k) := by rw [hl, ← hv]; exact ho
  have hob : (R k).v.ownBlock = some g := by rw [hv]; rfl
  have hcx : CxO (R k).a (c k) g := .inr e
  have h2 := (World.ownsRow.stored ho2 i (.int .i64 (mkI k))).1
  have hfl : ((z k).set i (mkI k)).flatMap inZ = ((z k).flatMap inZ).set i (.int .i64 (mkI k)) := by rw [flat_inZ, flat_inZ, List.map_set]
  have kS : Keeps (fun x => x = g) wr (wr.setCell ⟨g, i, none⟩ (.int .i64 (mkI k))) := Keeps.setCell (B := fun x => x = g) (Keeps.refl _ _) (p := ⟨g, i, none⟩) rfl _
  have far : ∀ m, m < N → m ≠ k → ∀ x, CxO (R m).a (c m) x → ¬ x = g := fun m hm hne x hx e => by
    subst e
    exact h.q.d m k hm hk hne x hx hcx
  refine ⟨g, e, ⟨⟨fun m hm e => ?_, fun m hm e => ?_, h.q.d, h.q.f, ((h.q.kp.mono (fun _ e => .inl e)).trans (kS.mono (fun x e => by subst e; exact h.q.f k hk x hcx))).thin, h.q.sp⟩, fun i' hi' => ?_⟩, ⟨_, (World.ownsRow.cellAt ho2 i (by omega)).trans (by rw [flat_inZ, List.getElem?_map, List.getElem?_eq_getElem (by omega)]; rfl)⟩, World.ownsRow.frozenAt ho2 i, hcx⟩
  · rw [upd_ne _ _ _ _ (by omega)]
    exact ⟨(h.q.g m hm e).1.keeps kS (fun x e1 e2 => far m hm (by omega) x e2 e1), (h.q.g m hm e).2⟩
  · by_cases e' : m = k
    · subst e'
      rw [upd_same, List.length_set]
      refine ⟨?_, hl, hc⟩
      rw [hv, ← hl]
      unfold OwI OwG
      rw [hfl, List.length_set]
      exact h2
    · rw [upd_ne _ _ _ _ e']
      obtain ⟨o1, o2, o3⟩ := h.q.o m hm e
      exact ⟨owK o1 kS (fun x hx => far m hm e' x (by rw [o3]; exact .inl hx)), o2, o3⟩
  · rw [upd_same]
    by_cases e' : i' = i
    · subst e'
      rw [List.getElem?_set_self (by omega)]
    · rw [List.getElem?_set_ne (by omega)]
      exact h.p i' (by omega)
/-- Row k marked whole, and grown by one. -/
theorem Fm.app {w wr w3 : World} {D : Nat → Prop} {N : Nat} {R : Nat → RwD} {c : Nat → Value} {z : Nat → List Int} {k i : Nat} (h : Fm w wr D N R c z k i) (hk : k < N) (hi : i = (R k).n) (q : Int) (hq : q = mkI k) {b cap : Nat} (o : OwI w3 0 (.slice (some ⟨b, 0, none⟩) ((z k).length + 1) cap) (z k ++ [q])) (kk : ((R k).v.ownBlock = some b ∧ Keeps (fun x => (R k).v.ownBlock = some x) wr w3) ∨ (wr.heap.size ≤ b ∧ Keeps (fun _ => False) wr w3)) :
    Fq w w3 D N R (upd c k (.slice (some ⟨b, 0, none⟩) ((z k).length + 1) cap)) (upd z k (z k ++ [q])) (k + 1) ∧ Keeps (CxO (R k).a (c k)) wr w3 := by
  subst hq
  obtain ⟨ho, hl, hc⟩ := h.q.o k hk (Nat.le_refl _)
  have hs := h.q.kp.size
  have gr0 : GrO wr (R k).a (R k).n (mkI k) (R k).v (z k) := ⟨ho, by omega, fun j hj => h.p j (by omega), fun g hg => by
    have e : (R k).v.ownBlock = some g := cx_own (.inr hg)
    exact ⟨(World.ownsRow.lt ho g e).2, blk ho e, .inl e⟩⟩
  obtain ⟨g1, hn, kc⟩ := gr0.app o kk
  rw [← hc] at kc hn
  refine ⟨⟨fun m hm e => ?_, fun m hm e => ?_, fun m m' hm hm' hne x hx hx' => ?_, fun m hm x hx => ?_, ((h.q.kp.mono (fun _ e => .inl e)).trans (kc.mono (h.q.f k hk))).thin, h.q.sp⟩, kc⟩
  · by_cases e' : m = k
    · subst e'
      rw [upd_same, upd_same]
      refine ⟨g1, by rw [List.length_append, hl]; rfl, ?_⟩
      rw [List.getElem?_append_right (by omega), hl, Nat.sub_self]
      rfl
    · rw [upd_ne _ _ _ _ e', upd_ne _ _ _ _ e']
      exact ⟨(h.q.g m hm (by omega)).1.keeps kc (fun x e1 e2 => h.q.d k m hk hm (fun e => e' e.symm) x e1 e2), (h.q.g m hm (by omega)).2⟩
  · rw [upd_ne _ _ _ _ (by omega), upd_ne _ _ _ _ (by omega)]
    obtain ⟨o1, o2, o3⟩ := h.q.o m hm (by omega)
    exact ⟨owK o1 kc (fun x hx e => h.q.d k m hk hm (by omega) x e (by rw [o3]; exact .inl hx)), o2, o3⟩
  · by_cases e : m = k
    · subst e
      rw [upd_same] at hx
      rw [upd_ne _ _ _ _ (fun e => hne e.symm)] at hx'
      rcases hn x hx with e | e
      · exact h.q.d m m' hm hm' hne x e hx'
      · have := h.q.lt m' hm' x hx'
        omega
    · rw [upd_ne _ _ _ _ e] at hx
      by_cases e' : m' = k
      · subst e'
        rw [upd_same] at hx'
        rcases hn x hx' with e1 | e1
        · exact h.q.d m m' hm hm' hne x hx e1
        · have := h.q.lt m hm x hx
          omega
      · rw [upd_ne _ _ _ _ e'] at hx'
        exact h.q.d m m' hm hm' hne x hx hx'
  · by_cases e : m = k
    · subst e
      rw [upd_same] at hx
      rcases hn x hx with e | e
      · exact h.q.f m hm x e
      · right; omega
    · rw [upd_ne _ _ _ _ e] at hx
      exact h.q.f m hm x hx
/-- What is looked at, at the end. -/
theorem Fq.kept {w wr : World} {D : Nat → Prop} {N : Nat} {R : Nat → RwD} {c : Nat → Value} {z : Nat → List Int} (h : Fq w wr D N R c z N) (k : Nat) (hk : k < N) (j : Nat) (hj : j < (R k).n) : ∃ g, (R k).a = some ⟨g, 0, none⟩ ∧ wr.cell? ⟨g, j, none⟩ = some (.int .i64 (mkI k)) := by
  obtain ⟨g, e⟩ := h.sp k hk (by omega)
  exact ⟨g, e, (h.g k hk hk).1.cell g e j hj⟩
theorem Fq.grown {w wr : World} {D : Nat → Prop} {N : Nat} {R : Nat → RwD} {c : Nat → Value} {z : Nat → List Int} (h : Fq w wr D N R c z N) (k : Nat) (hk : k < N) : ∃ g cap, c k = .slice (some ⟨g, 0, none⟩) ((R k).n + 1) cap ∧ ∀ j, j < (R k).n + 1 → wr.cell? ⟨g, j, none⟩ = some (.int .i64 (mkI k)) := by
  obtain ⟨h1, h2, h3⟩ := h.g k hk hk
  have ho := h1.o
  obtain ⟨g, cap, e, _, _⟩ := owG_some ho (by intro e; rw [e] at h2; simp at h2)
  rw [e] at ho
  rw [h2] at e
  refine ⟨g, cap, e, fun j hj => ?_⟩
  refine owI_cellO ho j (mkI k) ?_
  by_cases e2 : j = (R k).n
  · rw [e2]; exact h3
  · exact h1.z j (by omega)
end Go.Proofs.YteekompojgbkhaaGreat
