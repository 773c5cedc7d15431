import Derived.Deep.RegionHeld3
import Derived.WalkKit
import Derived.Test.YtdpebhdjcgiboaaGreatKCells15Z
import Derived.BigQuiet
import Derived.Deep.QuietTactic
import Derived.OwnWalk
import Derived.Below
import Derived.Laws.OwnMore
import Derived.Deep.OwnRows
import Derived.Laws.AppendOwnNone
namespace Go.Proofs.YtdpebhdjcgiboaaGreat
set_option linter.unusedSimpArgs false
theorem rgO {ops : Array Oper} {i : Nat} {o : Oper} {r : List Oper} (he : ops.toList.drop i = o :: r) : ops[i]? = some o := by
  have h : (ops.toList.drop i)[0]? = some o := by rw [he]; rfl
  rw [List.getElem?_drop] at h
  simpa using h
/-- Number i of a drawn region is taken. -/
theorem rgT (i : Nat) {P : Program} {md : Region.Mode} {ops : Array Oper} {Q : Exit → Act → World → Prop} {S : World → Prop} {o : Oper} {r : List Oper} {v : Value} {fuel : Nat} {listed : Array Bool} {a a' : Act} {w : World}
    (he : ops.toList.drop i = o :: r := by rfl)
    (hc : (Region.noSelect ops && Region.free md ops listed i && (Region.ready md ops listed).contains i) = true := by kernel_rfl)
    (hQ : ∀ c a w, Q (.panic c) (a.put o.dst v) w → Q (.panic c) a w := by exact fun _ _ _ h => h)
    (hw : Region.wanted o (yielded ops a.tmps) = true := by rfl)
    (hS : S w := by assumption)
    (hy : ∀ w, S w → (execOp a.eval o).run P w = .ok (.value v) w := by (intro w hSw; (try dsimp only at hSw); go_simp; (try first | (rw [dif_pos (by omega)]; simp only [Result.andThen_ok]) | rw [if_pos (by omega)]); (try with_reducible rfl); done))
    (ha : a.put o.dst v = a' := by (try simp only [Act.put, List.setIfInBounds_toArray, List.set_cons_zero, List.set_cons_succ]); rfl)
    (h : wpAnyH P md ops Q S fuel (listed.setIfInBounds i true) a' w) : wpAnyH P md ops Q S (fuel + 1) listed a w := by
  subst ha
  simp only [Bool.and_eq_true] at hc
  exact wpAnyH_take (rgO he) hc.1.1 hc.1.2 hc.2 hQ (Or.inl ⟨hw, hy⟩) hS h
/-- Number i, which is not wanted, is passed over. -/
theorem rgK (i : Nat) {P : Program} {md : Region.Mode} {ops : Array Oper} {Q : Exit → Act → World → Prop} {S : World → Prop} {o : Oper} {r : List Oper} {fuel : Nat} {listed : Array Bool} {a a' : Act} {w : World}
    (he : ops.toList.drop i = o :: r := by rfl)
    (hc : (Region.noSelect ops && Region.free md ops listed i && (Region.ready md ops listed).contains i) = true := by kernel_rfl)
    (hQ : ∀ c a w, Q (.panic c) (a.put o.dst undef) w → Q (.panic c) a w := by exact fun _ _ _ h => h)
    (hw : Region.wanted o (yielded ops a.tmps) = false := by rfl)
    (hS : S w := by assumption)
    (ha : a.put o.dst undef = a' := by (try simp only [Act.put, List.setIfInBounds_toArray, List.set_cons_zero, List.set_cons_succ]); rfl)
    (h : wpAnyH P md ops Q S fuel (listed.setIfInBounds i true) a' w) : wpAnyH P md ops Q S (fuel + 1) listed a w := by
  subst ha
  simp only [Bool.and_eq_true] at hc
  exact wpAnyH_take (rgO he) hc.1.1 hc.1.2 hc.2 hQ (Or.inr ⟨hw, rfl⟩) hS h
theorem rgA (i : Nat) {P : Program} {md : Region.Mode} {ops : Array Oper} {Q : Exit → Act → World → Prop} {S : World → Prop} {o : Oper} {r : List Oper} {fuel : Nat} {listed : Array Bool} {a : Act} {w : World} {rs : List Nat} (he : ops.toList.drop i = o :: r)
    (h : ∀ K : Act → World → Prop, Shut (∀ a w, S w → (S w → wpAnyH P md ops Q S fuel (listed.setIfInBounds i true) a w) → K a w) → if Region.wanted o (yielded ops a.tmps) = true then Oper.wp P o a w K Q else K (a.put o.dst undef) w) (hs : AllReadyH P md ops Q S fuel listed a w rs) : AllReadyH P md ops Q S fuel listed a w (i :: rs) := AllReadyH.cons (rgO he) h hs
/-- Number i alone is ready. -/
theorem rgS (i : Nat) {P : Program} {md : Region.Mode} {ops : Array Oper} {Q : Exit → Act → World → Prop} {S : World → Prop} {o : Oper} {r : List Oper} {fuel : Nat} {listed : Array Bool} {a : Act} {w : World} (he : ops.toList.drop i = o :: r := by rfl)
    (hr : Region.ready md ops listed = [i] := by kernel_rfl)
    (h : ∀ K : Act → World → Prop, Shut (∀ a w, S w → (S w → wpAnyH P md ops Q S fuel (listed.setIfInBounds i true) a w) → K a w) → if Region.wanted o (yielded ops a.tmps) = true then Oper.wp P o a w K Q else K (a.put o.dst undef) w) : wpAnyH P md ops Q S (fuel + 1) listed a w :=
  wpAnyH_ready hr (by simp) (AllReadyH.cons (rgO he) h AllReadyH.nil)
end Go.Proofs.YtdpebhdjcgiboaaGreat

namespace Go.Proofs.YtdpebhdjcgiboaaGreat
set_option linter.unusedSimpArgs false
open Go.ChangeShapes Go.WideShapes Go.ChangeAt Go.RowKit Go.MuLone Go.RwLone
set_option linter.unusedVariables false
set_option maxRecDepth 100000
set_option maxHeartbeats 1600000
/-- A thread in the block T: of the arena at L, slot 1, its m instructions in the block ib, its registers rg, its place pl. -/
structure Th (w : World) (T : Nat) (L : Lay) (ib m cap : Nat) (rg : Nat → Int) (pl : Nat) : Prop where
  a : w.cell? ⟨T, 0, none⟩ = some (.pointer (some ⟨L.b, 0, none⟩))
  s : w.cell? ⟨T, 1, none⟩ = some (.int .i64 1)
  i : w.cell? ⟨T, 2, none⟩ = some (.slice (some ⟨ib, 0, none⟩) m cap)
  r : ∀ j, j < 4 → w.cell? ⟨T, 3 + j, none⟩ = some (.int .u64 (rg j))
  p : w.cell? ⟨T, 7, none⟩ = some (.int .i64 (pl : Int))
  fz : ∀ j, w.frozen? ⟨T, j, none⟩ = false
  lt : T < w.heap.size
theorem Th.keeps {w w' : World} {T : Nat} {L : Lay} {ib m cap : Nat} {rg : Nat → Int} {pl : Nat} {B : Nat → Prop} (h : Th w T L ib m cap rg pl) (k : Keeps B w w') (hn : ¬ B T) : Th w' T L ib m cap rg pl :=
  ⟨(k.cell (p := ⟨T, 0, none⟩) h.lt hn).trans h.a, (k.cell (p := ⟨T, 1, none⟩) h.lt hn).trans h.s, (k.cell (p := ⟨T, 2, none⟩) h.lt hn).trans h.i, fun j hj => (k.cell (p := ⟨T, 3 + j, none⟩) h.lt hn).trans (h.r j hj), (k.cell (p := ⟨T, 7, none⟩) h.lt hn).trans h.p, fun j => (k.frozen (p := ⟨T, j, none⟩) h.lt hn).trans (h.fz j), Nat.lt_of_lt_of_le h.lt k.size⟩
theorem Keeps.drewN {B : Nat → Prop} {a w : World} (h : Keeps B a w) (n : Nat) : Keeps B a (w.drewN n) := by
  induction n generalizing w with
  | zero => exact h
  | succ n ih => exact (ih h).drew
theorem truth_any (b : Bool) (w : World) : Calls Tryz.prog 159 #[.bool b] w fun e w' => e = .returned (.int .u64 (bitI b)) ∧ w' = w := by
  cases b
  · go_enter Tryz.func159, Tryz.ntmps159
    go_wp2
    go_ret
    exact ⟨rfl, rfl⟩
  · go_enter Tryz.func159, Tryz.ntmps159
    go_wp2
    go_ret
    exact ⟨rfl, rfl⟩
end Go.Proofs.YtdpebhdjcgiboaaGreat

namespace Go.Proofs.YtdpebhdjcgiboaaGreat
set_option linter.unusedSimpArgs false
open Go.ChangeShapes Go.WideShapes Go.ChangeAt Go.RowKit Go.MuLone Go.RwLone
set_option linter.unusedVariables false
set_option maxRecDepth 100000
set_option maxHeartbeats 3200000
/-- An instruction's eight cells. -/
abbrev inC (op c r nr ni orr oi n : Int) : Array Value := #[.int .i64 op, .int .i64 c, .int .i64 r, .int .i64 nr, .int .u64 ni, .int .i64 orr, .int .u64 oi, .int .i64 n]
/-- The world behind the box of an instruction. -/
abbrev inW (w : World) (op c r nr ni orr oi n : Int) : World := w.alloc (.cells (inC op c r nr ni orr oi n) 106)
theorem inW_cell (w : World) (op c r nr ni orr oi n : Int) (j : Nat) : (inW w op c r nr ni orr oi n).cell? ⟨w.heap.size, j, none⟩ = (inC op c r nr ni orr oi n)[j]? := cell?_heap (heap_alloc_last _ _ _ rfl) j
/-- A thread at work: its arena, itself, its instruction in the box g. -/
structure Wk (w W : World) (L : Lay) (S : AS) (T ib m cap : Nat) (rg : Nat → Int) (pl g : Nat) (op c r nr ni orr oi n : Int) : Prop where
  hd : Holds W L S
  th : Th W T L ib m cap rg pl
  kp : Keeps (fun k => L.has k ∨ k = T) w W
  bx : ∀ j u, (inC op c r nr ni orr oi n)[j]? = some u → W.cell? ⟨g, j, none⟩ = some u
  lT : ¬ L.has T
  lg : ¬ L.has g
  tg : T ≠ g
  gl : g < W.heap.size
theorem Wk.step {w W W' : World} {L : Lay} {S : AS} {T ib m cap : Nat} {rg : Nat → Int} {pl g : Nat} {op c r nr ni orr oi n : Int} (h : Wk w W L S T ib m cap rg pl g op c r nr ni orr oi n) (k : Keeps (fun _ => False) W W') : Wk w W' L S T ib m cap rg pl g op c r nr ni orr oi n :=
  ⟨h.hd.keeps k (fun _ _ e => e), h.th.keeps k (fun e => e), h.kp.trans (k.mono (fun _ e => e.elim)), fun j u hu => (k.cell (p := ⟨g, j, none⟩) h.gl (fun e => e)).trans (h.bx j u hu), h.lT, h.lg, h.tg, Nat.lt_of_lt_of_le h.gl k.size⟩
theorem Wk.drew {w W : World} {L : Lay} {S : AS} {T ib m cap : Nat} {rg : Nat → Int} {pl g : Nat} {op c r nr ni orr oi n : Int} (h : Wk w W L S T ib m cap rg pl g op c r nr ni orr oi n) : Wk w W.drew L S T ib m cap rg pl g op c r nr ni orr oi n := h.step (Keeps.refl _ _).drew
theorem cas_one (L : Lay) (S : AS) (w : World) (j : Nat) (x y : Int) (b : Bool) (wo : Nat → Int) (HB : Hid (b = decide (S.word j = x) ∧ wo = if S.word j = x then upd S.word j y else S.word)) (h : Holds w L S) (hr : S.rc = 0) (hn : S.n = 1) (hu : S.use 0 = true) (hj : j < S.wd) : Calls Tryz.prog 158 #[.pointer (some ⟨L.b, 0, none⟩), .int .i64 1, .int .i64 (j : Int), .int .u64 x, .int .u64 y] w fun e w' => e = .returned (.tuple #[.bool b, .int .i64 0]) ∧ Holds w' L { S with rc := 0, acc := wrap64 (S.acc + 1), word := wo } ∧ Keeps L.has w w' := by
  have h0 : 0 * S.wd + j = j := by omega
  exact cas_any L S w 0 j x y b wo (by rw [h0]; exact HB) h hr (by omega) hu hj
end Go.Proofs.YtdpebhdjcgiboaaGreat

namespace Go.Proofs.YtdpebhdjcgiboaaGreat
set_option linter.unusedSimpArgs false
open Go.ChangeShapes Go.WideShapes Go.ChangeAt Go.RowKit Go.MuLone Go.RwLone
set_option linter.unusedVariables false
set_option maxRecDepth 100000
set_option maxHeartbeats 3200000
/-- The instruction number k of the row in the block ib. -/
structure In8 (w : World) (ib k : Nat) (op c r nr ni orr oi n : Int) : Prop where
  c0 : w.cell? ⟨ib, k * 8, none⟩ = some (.int .i64 op)
  c1 : w.cell? ⟨ib, k * 8 + 1, none⟩ = some (.int .i64 c)
  c2 : w.cell? ⟨ib, k * 8 + 2, none⟩ = some (.int .i64 r)
  c3 : w.cell? ⟨ib, k * 8 + 3, none⟩ = some (.int .i64 nr)
  c4 : w.cell? ⟨ib, k * 8 + 4, none⟩ = some (.int .u64 ni)
  c5 : w.cell? ⟨ib, k * 8 + 5, none⟩ = some (.int .i64 orr)
  c6 : w.cell? ⟨ib, k * 8 + 6, none⟩ = some (.int .u64 oi)
  c7 : w.cell? ⟨ib, k * 8 + 7, none⟩ = some (.int .i64 n)
  lt : ib < w.heap.size
theorem In8.keeps {w w' : World} {ib k : Nat} {op c r nr ni orr oi n : Int} {B : Nat → Prop} (h : In8 w ib k op c r nr ni orr oi n) (kp : Keeps B w w') (hn : ¬ B ib) : In8 w' ib k op c r nr ni orr oi n := by
  have e : ∀ j, w'.cell? ⟨ib, j, none⟩ = w.cell? ⟨ib, j, none⟩ := fun j => kp.cell (p := ⟨ib, j, none⟩) h.lt hn
  exact ⟨(e _).trans h.c0, (e _).trans h.c1, (e _).trans h.c2, (e _).trans h.c3, (e _).trans h.c4, (e _).trans h.c5, (e _).trans h.c6, (e _).trans h.c7, Nat.lt_of_lt_of_le h.lt kp.size⟩
end Go.Proofs.YtdpebhdjcgiboaaGreat

namespace Go.Proofs.YtdpebhdjcgiboaaGreat
set_option linter.unusedSimpArgs false
open Go.ChangeShapes Go.WideShapes Go.ChangeAt Go.RowKit
set_option linter.unusedVariables false
set_option maxRecDepth 100000
theorem addr_add (b off k : Nat) : (⟨b, off, none⟩ : Addr).add k = ⟨b, off + k, none⟩ := by unfold Addr.add; split <;> simp_all
theorem szAl (w : World) (o : Obj) : (w.alloc o).heap.size = w.heap.size + 1 := by show (w.heap.push o).size = _; simp
/-- The slice value v reads as the list xs, each thing in the cells that cs tells, in blocks below B. -/
def InG {α : Type} (cs : α → List Value) (w : World) (B : Nat) (v : Value) (xs : List α) : Prop :=
  ∃ ao cap, v = .slice ao xs.length cap ∧ xs.length ≤ cap ∧ (ao = none → cap = 0) ∧ ∀ j u, (xs.flatMap cs)[j]? = some u → ∃ b off, ao = some ⟨b, off, none⟩ ∧ b < B ∧ w.cell? ⟨b, off + j, none⟩ = some u
theorem InG.later {α : Type} {cs : α → List Value} {w w' : World} {B : Nat} {v : Value} {xs : List α} (h : InG cs w B v xs) (hb : Below B w w') : InG cs w' B v xs := by
  obtain ⟨ao, cap, e, h1, h2, h3⟩ := h
  refine ⟨ao, cap, e, h1, h2, fun j u hj => ?_⟩
  obtain ⟨b, off, e1, e2, e3⟩ := h3 j u hj
  exact ⟨b, off, e1, e2, (hb.cell e2).trans e3⟩
theorem InG.up {α : Type} {cs : α → List Value} {w : World} {B C : Nat} {v : Value} {xs : List α} (h : InG cs w B v xs) (hb : B ≤ C) : InG cs w C v xs := by
  obtain ⟨ao, cap, e, h1, h2, h3⟩ := h
  refine ⟨ao, cap, e, h1, h2, fun j u hj => ?_⟩
  obtain ⟨b, off, e1, e2, e3⟩ := h3 j u hj
  exact ⟨b, off, e1, Nat.lt_of_lt_of_le e2 hb, e3⟩
theorem InG.form {α : Type} {cs : α → List Value} {w : World} {B : Nat} {v : Value} {xs : List α} (h : InG cs w B v xs) : ∃ a cap, v = .slice a xs.length cap := by
  obtain ⟨a, cap, e, _⟩ := h
  exact ⟨a, cap, e⟩
theorem flat_len {α β : Type} (cs : α → List β) (n : Nat) (hn : ∀ x, (cs x).length = n) (xs : List α) : (xs.flatMap cs).length = xs.length * n := by
  induction xs with
  | nil => simp
  | cons a xs ih => rw [List.flatMap_cons, List.length_append, ih, hn, List.length_cons, Nat.add_mul, Nat.one_mul, Nat.add_comm]
theorem flat_get {α β : Type} (cs : α → List β) (n : Nat) (hn : ∀ x, (cs x).length = n) : ∀ (xs : List α) (i : Nat) (hi : i < xs.length) (j : Nat), j < n → (xs.flatMap cs)[i * n + j]? = (cs xs[i])[j]?
  | a :: xs, 0, _, j, hj => by
    rw [List.flatMap_cons, Nat.zero_mul, Nat.zero_add, List.getElem?_append_left (by rw [hn]; exact hj)]
    rfl
  | a :: xs, i + 1, hi, j, hj => by
    rw [List.flatMap_cons, List.getElem?_append_right (by rw [hn, Nat.add_mul]; omega), hn, show (i + 1) * n + j - n = i * n + j from by rw [Nat.add_mul]; omega]
    exact flat_get cs n hn xs i (by simpa using hi) j hj
theorem InG.cell {α : Type} {cs : α → List Value} {n : Nat} (hn : ∀ x, (cs x).length = n) {w : World} {B m cap : Nat} {a : Option Addr} {xs : List α} (h : InG cs w B (.slice a m cap) xs) (i : Nat) (hi : i < xs.length) (h0 : 0 < n) :
    ∃ b off, a = some ⟨b, off, none⟩ ∧ b < B ∧ ∀ j, j < n → w.cell? ⟨b, off + i * n + j, none⟩ = (cs xs[i])[j]? := by
  obtain ⟨ao, cap', e, h1, h2, h3⟩ := h
  injection e with e1 e2 e3
  subst e1
  have get : ∀ j, (hj : j < n) → ∃ u, (cs xs[i])[j]? = some u := fun j hj => ⟨(cs xs[i])[j]'(by rw [hn]; exact hj), List.getElem?_eq_getElem _⟩
  obtain ⟨u0, hu0⟩ := get 0 h0
  obtain ⟨b, off, e1, e2, _⟩ := h3 (i * n + 0) u0 ((flat_get cs n hn xs i hi 0 h0).trans hu0)
  refine ⟨b, off, e1, e2, fun j hj => ?_⟩
  obtain ⟨u, hu⟩ := get j hj
  obtain ⟨b', off', e1', _, e3⟩ := h3 (i * n + j) u ((flat_get cs n hn xs i hi j hj).trans hu)
  rw [e1] at e1'
  injection e1' with e1'
  injection e1' with e4 e5
  subst e4 e5
  rw [hu, ← e3, Nat.add_assoc]
/-- The slice value v holds just the list xs, in a row of the call's own. -/
def OwG {α : Type} (cs : α → List Value) (e : TypeId) (n : Nat) (w : World) (B : Nat) (v : Value) (xs : List α) : Prop := w.ownsRow B e n v xs.length (xs.flatMap cs)
theorem OwG.nil {α : Type} (cs : α → List Value) (e : TypeId) (n : Nat) (w : World) (B : Nat) : OwG cs e n w B (.slice none 0 0) [] := World.ownsRow_nil _ _ _ _
theorem OwG.form {α : Type} {cs : α → List Value} {e : TypeId} {n : Nat} {w : World} {B : Nat} {v : Value} {xs : List α} (h : OwG cs e n w B v xs) : ∃ a cap, v = .slice a xs.length cap := by
  rcases h.2 with ⟨rfl, hn⟩ | ⟨g, cap, cur, rfl, _⟩
  · exact ⟨none, 0, by rw [hn]⟩
  · exact ⟨_, cap, rfl⟩
theorem OwG.in {α : Type} {cs : α → List Value} {e : TypeId} {n : Nat} {w : World} {B : Nat} {v : Value} {xs : List α} (h : OwG cs e n w B v xs) : InG cs w w.heap.size v xs := by
  have hh := h
  rcases h.2 with ⟨rfl, hn⟩ | ⟨g, cap, cur, rfl, hb, hg, hnc, hm, hs, ht⟩
  · refine ⟨none, 0, by rw [hn], by omega, fun _ => rfl, fun j u hj => ?_⟩
    have : xs = [] := List.eq_nil_of_length_eq_zero hn
    subst this
    simp at hj
  · refine ⟨some ⟨g, 0, none⟩, cap, rfl, hnc, (fun h => by cases h), fun j u hj => ⟨g, 0, rfl, (Array.getElem?_eq_some_iff.1 hg).1, ?_⟩⟩
    have hlt := (List.getElem?_eq_some_iff.1 hj).1
    rw [Nat.zero_add, World.ownsRow.cellAt hh j (by have := h.1; omega)]
    exact hj
/-- All blocks but those of type t stay. -/
def KpT (t : TypeId) (w w' : World) : Prop := ∀ (k : Nat) (c : Array Value) (t' : TypeId) (f : Nat × Nat), w.heap[k]? = some (Obj.cells c t' f) → t' ≠ t → w'.heap[k]? = w.heap[k]?
theorem KpT.trans {t : TypeId} {a b c : World} (h : KpT t a b) (g : KpT t b c) : KpT t a c := fun k c t' f hk ht => by
  have e := h k c t' f hk ht
  exact (g k c t' f (e.trans hk) ht).trans e
theorem KpT.set {t : TypeId} {w : World} {p j : Nat} {c : Array Value} {f : Nat × Nat} (h : w.heap[p]? = some (.cells c t f)) (u : Value) : KpT t w (w.setCell ⟨p, j, none⟩ u) := fun k c' t' f' hk ht => by
  refine Below.heap_setCell _ _ _ _ (fun e => ?_)
  have e' : k = p := e
  rw [e', h] at hk
  injection hk with hk
  injection hk with h1 h2 h3
  exact ht h2.symm
theorem KpT.app {e : TypeId} {n m B : Nat} {v : Value} {xs : List Value} {w w' : World} (h : w.ownsRow B e n v m xs) (hk : ∀ k, k < w.heap.size → some k ≠ v.ownBlock → w'.heap[k]? = w.heap[k]?) : KpT e w w' := fun k c t' f hc ht => by
  refine hk k (Array.getElem?_eq_some_iff.1 hc).1 (fun he => ?_)
  rcases h.2 with ⟨rfl, _⟩ | ⟨g, cap, cur, rfl, _, hg, _⟩
  · cases he
  · have e1 : k = g := Option.some.inj he
    rw [e1, hg] at hc
    injection hc with hc
    injection hc with h1 h2 h3
    exact ht h2.symm
theorem OwG.kept {α : Type} {cs : α → List Value} {e t : TypeId} {n : Nat} {w w' : World} {B : Nat} {v : Value} {xs : List α} (h : OwG cs e n w B v xs) (hk : KpT t w w') (ht : e ≠ t) : OwG cs e n w' B v xs := by
  refine ⟨h.1, ?_⟩
  rcases h.2 with h1 | ⟨g, cap, cur, rfl, h1, h2, h3⟩
  · exact .inl h1
  · exact .inr ⟨g, cap, cur, rfl, h1, (hk g cur e (0, 0) h2 ht).trans h2, h3⟩
theorem OwG.later {α : Type} {cs : α → List Value} {e : TypeId} {n : Nat} {w w' : World} {B : Nat} {v : Value} {xs : List α} (h : OwG cs e n w B v xs) (hb : Below w.heap.size w w') : OwG cs e n w' B v xs := by
  refine ⟨h.1, ?_⟩
  rcases h.2 with h1 | ⟨g, cap, cur, rfl, h1, h2, h3⟩
  · exact .inl h1
  · exact .inr ⟨g, cap, cur, rfl, h1, (hb.block g (Array.getElem?_eq_some_iff.1 h2).1).trans h2, h3⟩
theorem OwG.set {α : Type} {cs : α → List Value} {e : TypeId} {n : Nat} {w : World} {B : Nat} {v : Value} {xs : List α} (h : OwG cs e n w B v xs) {p : Addr} (hp : p.block < B) (u : Value) : OwG cs e n (w.setCell p u) B v xs := by
  refine ⟨h.1, ?_⟩
  rcases h.2 with h1 | ⟨g, cap, cur, rfl, h1, h2, h3⟩
  · exact .inl h1
  · exact .inr ⟨g, cap, cur, rfl, h1, (Below.heap_setCell _ _ _ _ (by omega)).trans h2, h3⟩
theorem OwG.down {α : Type} {cs : α → List Value} {e : TypeId} {n : Nat} {w : World} {B C : Nat} {v : Value} {xs : List α} (h : OwG cs e n w B v xs) (hc : C ≤ B) : OwG cs e n w C v xs := by
  refine ⟨h.1, ?_⟩
  rcases h.2 with h1 | ⟨g, cap, cur, e, h1, h2⟩
  · exact .inl h1
  · exact .inr ⟨g, cap, cur, e, Nat.le_trans hc h1, h2⟩
/-- One thing more, behind a row of one's own. -/
theorem app_one_wp {α : Type} {cs : α → List Value} {wr : World} {o : Oper} {a : Act} {K : Act → World → Prop} {Q : Exit → Act → World → Prop} (s x : Operand) (t e : TypeId)
    (ho : o.op = .call { callee := .builtin .append, args := #[s, x], argTypes := #[t, t] })
    {z : Value} {n bytes : Nat} (hu : Tryz.prog.underlying t = some (.slice e)) (hinfo : (Tryz.prog.info? e).map (fun i => (i.zero, i.size, i.bytes)) = some (some z, n, bytes)) (hzs : z.cells.size = n) (hn0 : 0 < n) (hn : ∀ y, (cs y).length = n)
    (B : Nat) (v : Value) (xs : List α) (c : α) (hown : OwG cs e n wr B v xs) (hs : a.eval s = v) (g : Nat) (hg : g = wr.heap.size) (hx : a.eval x = .slice (some ⟨g, 0, none⟩) 1 1) (h1 : ∀ u ∈ cs c, u.oneCell' = true)
    (ar : Array Value) (har : ar = (cs c).toArray)
    (hm : xs.length < maxLen) (hbytes : (xs.length + 1) * bytes ≤ 140737488355328) (hB : B ≤ wr.heap.size)
    (h : ∀ v' w', OwG cs e n w' B v' (xs ++ [c]) → Below B wr w' → KpT e wr w' → K (a.put o.dst v') w') :
    o.wp Tryz.prog a (wr.alloc (.cells ar e)) K Q := by
  subst hg har
  obtain ⟨i0, hi, hz0, hz1, hz2⟩ := info_parts hinfo
  refine wp_append_own _ s x t ho B e i0 z n bytes hu hi hz0 hz1 hz2 hzs hn0 v xs.length _ hs (World.ownsRow.alloc hown _)
    ⟨wr.heap.size, 0, none⟩ 1 1 (cs c) hx (by rw [hn]; omega) ?_ h1 (by omega) hbytes (by rw [szAl]; omega) ?_
  · intro j u hj
    rw [addr_add, Nat.zero_add]
    unfold World.cell?
    rw [heap_alloc_last _ _ _ rfl]
    simpa using hj
  · intro v' w' hown' hgrow _
    refine h v' w' ?_ ?_ ?_
    · have : (xs ++ [c]).length = xs.length + 1 := by simp
      unfold OwG; rw [this, List.flatMap_append, show [c].flatMap cs = cs c from by simp]; exact hown'
    · exact ((Below.refl _ _).alloc hB _).grown hgrow (by rw [szAl]; omega) (fun k hk => (World.ownsRow.lt hown k hk).1)
    · exact KpT.app hown (fun k hk hne => (hgrow.block k (by rw [szAl]; omega) hne).trans (Below.heap_alloc _ _ k hk))
end Go.Proofs.YtdpebhdjcgiboaaGreat

namespace Go.Proofs.YtdpebhdjcgiboaaGreat
set_option linter.unusedSimpArgs false
open Go.ChangeShapes Go.WideShapes Go.ChangeAt Go.RowKit Go.MuLone Go.RwLone
set_option linter.unusedVariables false
set_option maxRecDepth 100000
set_option maxHeartbeats 3200000
/-- A harness in the block hb: its n queues in the block qb, each in its block pb i, with ln i places. -/
structure Hr (w : World) (hb qb n : Nat) (pb ln cp : Nat → Nat) (st : Int) (ev en : Value) : Prop where
  q : w.cell? ⟨hb, 0, none⟩ = some (.slice (some ⟨qb, 0, none⟩) n n)
  s : w.cell? ⟨hb, 1, none⟩ = some (.int .i64 st)
  e : w.cell? ⟨hb, 2, none⟩ = some ev
  d : w.cell? ⟨hb, 3, none⟩ = some en
  r : ∀ i, i < n → w.cell? ⟨qb, i, none⟩ = some (.slice (some ⟨pb i, 0, none⟩) (ln i) (cp i))
  fh : ∀ j, w.frozen? ⟨hb, j, none⟩ = false
  fq : ∀ j, w.frozen? ⟨qb, j, none⟩ = false
  lh : hb < w.heap.size
  lq : qb < w.heap.size
  ne : hb ≠ qb
theorem Hr.keeps {w w' : World} {hb qb n : Nat} {pb ln cp : Nat → Nat} {st : Int} {ev en : Value} {B : Nat → Prop} (h : Hr w hb qb n pb ln cp st ev en) (k : Keeps B w w') (h1 : ¬ B hb) (h2 : ¬ B qb) : Hr w' hb qb n pb ln cp st ev en := by
  have e1 : ∀ j, w'.cell? ⟨hb, j, none⟩ = w.cell? ⟨hb, j, none⟩ := fun j => k.cell (p := ⟨hb, j, none⟩) h.lh h1
  have e2 : ∀ j, w'.cell? ⟨qb, j, none⟩ = w.cell? ⟨qb, j, none⟩ := fun j => k.cell (p := ⟨qb, j, none⟩) h.lq h2
  exact ⟨(e1 _).trans h.q, (e1 _).trans h.s, (e1 _).trans h.e, (e1 _).trans h.d, fun i hi => (e2 _).trans (h.r i hi), fun j => (k.frozen (p := ⟨hb, j, none⟩) h.lh h1).trans (h.fh j), fun j => (k.frozen (p := ⟨qb, j, none⟩) h.lq h2).trans (h.fq j), Nat.lt_of_lt_of_le h.lh k.size, Nat.lt_of_lt_of_le h.lq k.size, h.ne⟩
theorem Hr.drew {w : World} {hb qb n : Nat} {pb ln cp : Nat → Nat} {st : Int} {ev en : Value} (h : Hr w hb qb n pb ln cp st ev en) : Hr w.drew hb qb n pb ln cp st ev en := h.keeps (Keeps.refl (fun _ => False) _).drew (fun e => e) (fun e => e)
theorem hhas_any (w : World) (hb n : Nat) (qa : Option Addr) (c : Nat) (x : Int) (h : w.cell? ⟨hb, 0, none⟩ = some (.slice qa n c)) : Calls Tryz.prog 43 #[.pointer (some ⟨hb, 0, none⟩), .int .i64 x] w fun e w' => e = .returned (.bool (decide (0 ≤ x ∧ x < (n : Int)))) ∧ w' = w := by
  by_cases h1 : 0 ≤ x
  · by_cases h2 : x < (n : Int)
    · have hd : decide (0 ≤ x ∧ x < (n : Int)) = true := by simp [h1, h2]
      rw [hd]
      go_enter Tryz.func43, Tryz.ntmps43
      go_wp2
      go_ret
      exact ⟨rfl, rfl⟩
    · have hd : decide (0 ≤ x ∧ x < (n : Int)) = false := by simp [h2]
      rw [hd]
      go_enter Tryz.func43, Tryz.ntmps43
      go_wp2
      go_ret
      exact ⟨rfl, rfl⟩
  · have hd : decide (0 ≤ x ∧ x < (n : Int)) = false := by simp [h1]
    rw [hd]
    go_enter Tryz.func43, Tryz.ntmps43
    go_wp2
    go_ret
    exact ⟨rfl, rfl⟩
end Go.Proofs.YtdpebhdjcgiboaaGreat
