import Derived.Test.YtjceellpmopnkaaDoorMd3
import Derived.OwnWalk
import Derived.Laws.OwnMore
import Derived.Laws.Rows
namespace Go.Proofs.YtjceellpmopnkaaDoor
open Go.ChangeShapes Go.WideShapes Go.ChangeAt Go.RowKit
set_option linter.unusedVariables false
set_option maxRecDepth 100000
theorem infoP : (Tryd.prog.info? 36).map (fun i => (i.zero, i.size, i.bytes)) = some (some (.agg #[.int .i64 0, .int .u64 0, .int .u64 0, .int .i64 0, .int .i64 0, .int .i64 0, .int .u32 0, .int .u32 0]), 8, 56) := by kernel_rfl
def cellP (a : PN) : List Value := [.int .i64 a.id, .int .u64 a.lo, .int .u64 a.hi, .int .i64 a.rows, .int .i64 a.gen, .int .i64 a.gone, .int .u32 a.ds, .int .u32 a.es]
def cellsP (vs : List PN) : List Value := vs.flatMap cellP
theorem cellsP_cons (v : PN) (vs : List PN) : cellsP (v :: vs) = .int .i64 v.id :: .int .u64 v.lo :: .int .u64 v.hi :: .int .i64 v.rows :: .int .i64 v.gen :: .int .i64 v.gone :: .int .u32 v.ds :: .int .u32 v.es :: cellsP vs := rfl
theorem cellsP_len : ∀ vs, (cellsP vs).length = vs.length * 8
  | [] => rfl
  | v :: vs => by
    rw [cellsP_cons]
    simp only [List.length_cons, cellsP_len vs]; omega
theorem cellsP_app (xs ys : List PN) : cellsP (xs ++ ys) = cellsP xs ++ cellsP ys := by simp [cellsP]
structure PnIn (l : List Value) (o : Nat) (p : PN) : Prop where
  c0 : l[o]? = some (.int .i64 p.id)
  c1 : l[o + 1]? = some (.int .u64 p.lo)
  c2 : l[o + 2]? = some (.int .u64 p.hi)
  c3 : l[o + 3]? = some (.int .i64 p.rows)
  c4 : l[o + 4]? = some (.int .i64 p.gen)
  c5 : l[o + 5]? = some (.int .i64 p.gone)
  c6 : l[o + 6]? = some (.int .u32 p.ds)
  c7 : l[o + 7]? = some (.int .u32 p.es)
theorem cellsP_get : ∀ (vs : List PN) (i : Nat) (hi : i < vs.length), PnIn (cellsP vs) (i * 8) vs[i]
  | v :: vs, 0, _ => by constructor <;> simp [cellsP_cons]
  | v :: vs, i + 1, hi => by
    have := cellsP_get vs i (by simp at hi; omega)
    obtain ⟨h0, h1, h2, h3, h4, h5, h6, h7⟩ := this
    rw [cellsP_cons, show (i + 1) * 8 = i * 8 + 1 + 1 + 1 + 1 + 1 + 1 + 1 + 1 from by omega]
    constructor <;> simpa
theorem cellsP_one (vs : List PN) : ∀ u ∈ cellsP vs, u.oneCell' = true := by
  intro u hu
  unfold cellsP at hu
  obtain ⟨p, _, hp⟩ := List.mem_flatMap.1 hu
  simp [cellP] at hp
  rcases hp with rfl | rfl | rfl | rfl | rfl | rfl | rfl | rfl <;> rfl
/-- The slice value v holds just the pairs vs, in a row of the call's own. -/
def ownP (w : World) (B : Nat) (v : Value) (vs : List PN) : Prop := w.ownsRow B 36 8 v vs.length (cellsP vs)
theorem ownP_nil (w : World) (B : Nat) : ownP w B (.slice none 0 0) [] := World.ownsRow_nil _ _ _ _
theorem ownP.shape {w : World} {B : Nat} {v : Value} {vs : List PN} (h : ownP w B v vs) : (v = .slice none 0 0 ∧ vs = []) ∨ ∃ g cap, v = .slice (some ⟨g, 0, none⟩) vs.length cap ∧ B ≤ g ∧ g < w.heap.size := by
  rcases h.2 with ⟨h', h''⟩ | ⟨g', cap', cur, h', hb, hg, hnc, hm, hs, ht⟩
  · exact .inl ⟨h', List.length_eq_zero_iff.1 h''⟩
  · exact .inr ⟨g', cap', h', hb, (Array.getElem?_eq_some_iff.1 hg).1⟩
theorem ownP.slice {w : World} {B : Nat} {v : Value} {vs : List PN} (h : ownP w B v vs) : ∃ ao cap, v = .slice ao vs.length cap ∧ (ao = none → vs = [] ∧ cap = 0) ∧ (∀ ad, ao = some ad → ∃ b, ad = ⟨b, 0, none⟩ ∧ B ≤ b ∧ b < w.heap.size) := by
  rcases h.shape with ⟨rfl, rfl⟩ | ⟨g, cap, rfl, h1, h2⟩
  · exact ⟨none, 0, rfl, fun _ => ⟨rfl, rfl⟩, fun ad h => by cases h⟩
  · refine ⟨_, _, rfl, (fun h => by cases h), fun ad h => ?_⟩
    cases h
    exact ⟨g, rfl, h1, h2⟩
theorem ownP.isSlice {w : World} {B : Nat} {v : Value} {vs : List PN} (h : ownP w B v vs) : ∃ a n c, v = .slice a n c := by
  obtain ⟨ao, cap, e, _⟩ := h.slice
  exact ⟨_, _, _, e⟩
theorem ownP.sees {w : World} {B : Nat} {ao : Option Addr} {n cap : Nat} {vs : List PN} (h : ownP w B (.slice ao n cap) vs) : SeesP w w.heap.size ao vs := by
  have hh := h
  intro i hi
  rcases h.2 with ⟨h', h''⟩ | ⟨g', cap', cur, h', hb, hg, hnc, hm, hs, ht⟩
  · omega
  · simp only [Value.slice.injEq] at h'
    obtain ⟨rfl, rfl, rfl⟩ := h'
    refine ⟨g', 0, rfl, (Array.getElem?_eq_some_iff.1 hg).1, ?_⟩
    unfold ownP at hh
    obtain ⟨c0, c1, c2, c3, c4, c5, c6, c7⟩ := cellsP_get vs i hi
    constructor
    · rw [show 0 + i * 8 = i * 8 from by omega, World.ownsRow.cellAt hh _ (by omega)]; exact c0
    · rw [show 0 + i * 8 + 1 = i * 8 + 1 from by omega, World.ownsRow.cellAt hh _ (by omega)]; exact c1
    · rw [show 0 + i * 8 + 2 = i * 8 + 2 from by omega, World.ownsRow.cellAt hh _ (by omega)]; exact c2
    · rw [show 0 + i * 8 + 3 = i * 8 + 3 from by omega, World.ownsRow.cellAt hh _ (by omega)]; exact c3
    · rw [show 0 + i * 8 + 4 = i * 8 + 4 from by omega, World.ownsRow.cellAt hh _ (by omega)]; exact c4
    · rw [show 0 + i * 8 + 5 = i * 8 + 5 from by omega, World.ownsRow.cellAt hh _ (by omega)]; exact c5
    · rw [show 0 + i * 8 + 6 = i * 8 + 6 from by omega, World.ownsRow.cellAt hh _ (by omega)]; exact c6
    · rw [show 0 + i * 8 + 7 = i * 8 + 7 from by omega, World.ownsRow.cellAt hh _ (by omega)]; exact c7
theorem ownP.same {w w' : World} {B : Nat} {v : Value} {xs : List PN} (h : ownP w B v xs) (hk : ∀ k, k < w.heap.size → B ≤ k → w'.heap[k]? = w.heap[k]?) : ownP w' B v xs := by
  rcases h with ⟨h1, h2 | ⟨g, cap, cur, rfl, hb, hg, hr⟩⟩
  · exact ⟨h1, .inl h2⟩
  · exact ⟨h1, .inr ⟨g, cap, cur, rfl, hb, by rw [hk g (Array.getElem?_eq_some_iff.1 hg).1 hb]; exact hg, hr⟩⟩
theorem ownP.alloc {w : World} {B : Nat} {v : Value} {xs : List PN} (h : ownP w B v xs) (o : Obj) : ownP (w.alloc o) B v xs := World.ownsRow.alloc h o
theorem ownP.mono {w : World} {B C : Nat} {v : Value} {xs : List PN} (h : ownP w B v xs) (hc : C ≤ B) : ownP w C v xs := by
  refine ⟨h.1, ?_⟩
  rcases h.2 with h1 | ⟨g, cap, cur, e, h1, h2⟩
  · exact .inl h1
  · exact .inr ⟨g, cap, cur, e, Nat.le_trans hc h1, h2⟩
theorem ownP.later {w w' : World} {B : Nat} {v : Value} {xs : List PN} (h : ownP w B v xs) (hb : Below w.heap.size w w') : ownP w' B v xs := h.same fun k hk _ => hb.block k hk
theorem ownP.own {w : World} {B : Nat} {v : Value} {vs : List PN} (h : ownP w B v vs) : ∀ k, v.ownBlock = some k → B ≤ k ∧ k < w.heap.size := fun k hk => World.ownsRow.lt h k hk
theorem app_pn {wr : World} {ops : Array Oper} {rest : List Oper} {o : Oper} {a : Act} {Q : Exit → Act → World → Prop} (hgd : o.guard = none) (s x : Operand)
    (ho : o.op = .call { callee := .builtin .append, args := #[s, x], argTypes := #[23, 23] })
    (B : Nat) (v : Value) (vs : List PN) (c : PN) (hown : ownP wr B v vs) (hs : a.eval s = v) (g : Nat) (hg : g = wr.heap.size) (hx : a.eval x = .slice (some ⟨g, 0, none⟩) 1 1)
    (hlen : (vs.length + 1) * 56 ≤ 140737488355328) (hB : B ≤ wr.heap.size)
    (h : ∀ v' w', ownP w' B v' (vs ++ [c]) → Below B wr w' → (∀ k, k < wr.heap.size → some k ≠ v.ownBlock → w'.heap[k]? = wr.heap[k]?) → wpList Tryd.prog ops Q rest (a.put o.dst v') w') :
    wpList Tryd.prog ops Q (o :: rest) a (wr.alloc (.cells #[.int .i64 c.id, .int .u64 c.lo, .int .u64 c.hi, .int .i64 c.rows, .int .i64 c.gen, .int .i64 c.gone, .int .u32 c.ds, .int .u32 c.es] 36)) := by
  subst hg
  obtain ⟨i0, hi, hz0, hz1, hz2⟩ := info_parts infoP
  refine wpList_append_own _ hgd s x 23 ho B 36 i0 _ 8 56 Tryd.underlying23 hi hz0 hz1 hz2 rfl (by decide) v vs.length _ hs (World.ownsRow.alloc hown _)
    ⟨wr.heap.size, 0, none⟩ 1 1 (cellP c) hx rfl ?_ ?_ (by unfold maxLen; omega) (by omega) (by simp; omega) ?_
  · intro j u hj
    match j, hj with
    | 0, hj => simp [cellP] at hj; subst hj; simp [Addr.add]
    | 1, hj => simp [cellP] at hj; subst hj; simp [Addr.add]
    | 2, hj => simp [cellP] at hj; subst hj; simp [Addr.add]
    | 3, hj => simp [cellP] at hj; subst hj; simp [Addr.add]
    | 4, hj => simp [cellP] at hj; subst hj; simp [Addr.add]
    | 5, hj => simp [cellP] at hj; subst hj; simp [Addr.add]
    | 6, hj => simp [cellP] at hj; subst hj; simp [Addr.add]
    | 7, hj => simp [cellP] at hj; subst hj; simp [Addr.add]
  · intro u hu; exact cellsP_one [c] u (by simpa [cellsP] using hu)
  · intro v' w' hown' hgrow _
    refine h v' w' ?_ ?_ (fun k hk hne => (hgrow.block k (by simp; omega) hne).trans (Below.heap_alloc _ _ k hk))
    · have : (vs ++ [c]).length = vs.length + 1 := by simp
      unfold ownP; rw [this, cellsP_app, show cellsP [c] = cellP c from by simp [cellsP]]; exact hown'
    · exact ((Below.refl _ _).alloc hB _).grown hgrow (by simp; omega) (fun k hk => (World.ownsRow.lt hown k hk).1)
/-- A manifest in a block of its own. -/
def Mn4 (W : World) (g : Nat) (a b c d : Value) : Prop := W.heap[g]? = some (.cells #[a, b, c, d] 25 (0, 0))
theorem Mn4.cell {W : World} {g : Nat} {a b c d : Value} (h : Mn4 W g a b c d) (j : Nat) : W.cell? ⟨g, j, none⟩ = (#[a, b, c, d] : Array Value)[j]? := cells_at h j
theorem Mn4.free {W : World} {g : Nat} {a b c d : Value} (h : Mn4 W g a b c d) (j : Nat) : W.frozen? ⟨g, j, none⟩ = false := by
  unfold Mn4 at h
  simp [World.frozen?, h]
theorem Mn4.lt {W : World} {g : Nat} {a b c d : Value} (h : Mn4 W g a b c d) : g < W.heap.size := (Array.getElem?_eq_some_iff.1 h).1
theorem Mn4.fr {W W' : World} {g R : Nat} {a b c d : Value} (h : Mn4 W g a b c d) (hf : Fr R W W') (hn : g ≠ R) : Mn4 W' g a b c d := (hf.rest g h.lt hn).trans h
theorem Mn4.later {W W' : World} {B g : Nat} {a b c d : Value} (h : Mn4 W g a b c d) (hb : Below B W W') (hB : g < B) : Mn4 W' g a b c d := (hb.block g hB).trans h
theorem Mn4.other {W : World} {g : Nat} {a b c d : Value} (h : Mn4 W g a b c d) {p : Addr} (v : Value) (hp : g ≠ p.block) : Mn4 (W.setCell p v) g a b c d := (Below.heap_setCell W p v g hp).trans h
theorem Mn4.set3 {W : World} {g : Nat} {a b c d : Value} (h : Mn4 W g a b c d) (v : Value) : Mn4 (W.setCell ⟨g, 3, none⟩ v) g a b c v := by
  unfold Mn4 at h ⊢
  simp [World.setCell, Array.getElem?_modify, h]
theorem Mn4.setAll {W : World} {g : Nat} {a b c d : Value} (h : Mn4 W g a b c d) (a' b' c' d' : Value) : Mn4 ((((W.setCell ⟨g, 0, none⟩ a').setCell ⟨g, 1, none⟩ b').setCell ⟨g, 2, none⟩ c').setCell ⟨g, 3, none⟩ d') g a' b' c' d' := by
  unfold Mn4 at h ⊢
  simp [World.setCell, Array.getElem?_modify, h]
theorem infoMn : (Tryd.prog.info? 25).map (·.size) = some 4 := by kernel_rfl
theorem ret_mn {fn : Func} {p : Tmp} (h : fn.results = #[.cell p 25]) (tmps : Array Value) (w : World) (a b c d : Value) (g : Nat) (hp : tmps.getD p undef = .pointer (some ⟨g, 0, none⟩)) (hg : Mn4 w g a b c d) :
    (results fn tmps).run Tryd.prog w = .ok (.agg #[a, b, c, d]) w := by
  have hp' : tmps[p]?.getD undef = .pointer (some ⟨g, 0, none⟩) := by simpa using hp
  unfold Mn4 at hg
  simp [results, h, hp', asAddr, run_loadVar_row w g 25 25 _ (0, 0) _ hg Tryd.underlying25 rfl infoMn]
/-- What is read of the pairs, when some of them are read. -/
def restP (s : ByteArray) (upto : Int) (done : List PN) (m p : Nat) (last : Int) : Option (List PN × Nat) := (rdPs s upto m p last).map fun y => (done ++ y.1, y.2)
theorem restP_zero (s : ByteArray) (upto : Int) (done : List PN) (p : Nat) (last : Int) : restP s upto done 0 p last = some (done, p) := by simp [restP, rdPs]
theorem restP_no {s : ByteArray} {upto : Int} {done : List PN} {m p : Nat} {last : Int} (h : rdPN s p last upto = none) : restP s upto done (m + 1) p last = none := by simp [restP, rdPs, h]
theorem restP_yes {s : ByteArray} {upto : Int} {done : List PN} {m p q : Nat} {last : Int} {v : PN} (h : rdPN s p last upto = some (v, q)) : restP s upto done (m + 1) p last = restP s upto (done ++ [v]) m q v.hi := by
  unfold restP
  conv => lhs; unfold rdPs
  rw [h]
  simp only [Option.bind_some]
  cases rdPs s upto m q v.hi with
  | none => rfl
  | some x => simp
end Go.Proofs.YtjceellpmopnkaaDoor
