import Derived.Test.YtdpebhdjcgiboaaGreatKSdD
import Derived.Test.YtdpebhdjcgiboaaGreatKSdQ
import Derived.Lib.SliceRun
namespace Go.Proofs.YtdpebhdjcgiboaaGreat
set_option linter.unusedSimpArgs false
open Go.ChangeShapes Go.WideShapes Go.ChangeAt Go.RowKit
set_option linter.unusedVariables false
set_option maxRecDepth 100000
/-- A list in sight, behind a row of one's own. -/
theorem app_more {α : Type} {cs : α → List Value} {w : World} {ops : Array Oper} {rest : List Oper} {o : Oper} {a : Act} {Q : Exit → Act → World → Prop} (hgd : o.guard = none) (s x : Operand) (t e : TypeId)
    (ho : o.op = .call { callee := .builtin .append, args := #[s, x], argTypes := #[t, t] })
    {z : Value} {n bytes : Nat} (hu : Tryz.prog.underlying t = some (.slice e)) (hinfo : (Tryz.prog.info? e).map (fun i => (i.zero, i.size, i.bytes)) = some (some z, n, bytes)) (hzs : z.cells.size = n) (hn0 : 0 < n) (hn : ∀ y, (cs y).length = n)
    (B : Nat) (v : Value) (xs : List α) (hown : OwG cs e n w B v xs) (hs : a.eval s = v) (C : Nat) (v2 : Value) (ys : List α) (hx : a.eval x = v2) (hin : InG cs w C v2 ys) (h1 : ∀ y ∈ ys, ∀ u ∈ cs y, u.oneCell' = true)
    (hm : xs.length + ys.length ≤ maxLen) (hbytes : (xs.length + ys.length) * bytes ≤ 140737488355328) (hB : B ≤ w.heap.size)
    (h : ∀ v' w', OwG cs e n w' B v' (xs ++ ys) → Below B w w' → KpT e w w' → wpList Tryz.prog ops Q rest (a.put o.dst v') w') :
    wpList Tryz.prog ops Q (o :: rest) a w := by
  obtain ⟨i0, hi, hz0, hz1, hz2⟩ := info_parts hinfo
  obtain ⟨ao, cap, rfl, hlc, hno, hc⟩ := hin
  match ao, hno, hc with
  | none, hno, hc =>
    have hc0 := hno rfl
    have hv : ys.length = 0 := by omega
    have hv' : ys = [] := List.eq_nil_of_length_eq_zero hv
    subst hv' hc0
    exact wpList_append_own_none hgd s x t ho B e i0 n hu hi _ xs.length _ hs hown hx (h _ w (by rw [List.append_nil]; exact hown) (Below.refl _ _) (fun _ _ _ _ _ _ => rfl))
  | some ad, hno, hc =>
    refine wpList_append_own _ hgd s x t ho B e i0 z n bytes hu hi hz0 hz1 hz2 hzs hn0 v xs.length _ hs hown
      ad ys.length cap (ys.flatMap cs) hx (flat_len cs n hn ys) ?_ ?_ (by omega) hbytes hB ?_
    · intro j u hj
      obtain ⟨b, off, e1, _, e3⟩ := hc j u hj
      injection e1 with e1
      subst e1
      rw [addr_add]
      exact e3
    · intro u hu
      obtain ⟨y, hm', hy⟩ := List.mem_flatMap.1 hu
      exact h1 y hm' u hy
    · intro v' w' hown' hgrow _
      refine h v' w' ?_ ((Below.refl _ _).grown hgrow hB (fun k hk => (World.ownsRow.lt hown k hk).1)) (KpT.app hown (fun k hk hne => hgrow.block k hk hne))
      have : (xs ++ ys).length = xs.length + ys.length := by simp
      unfold OwG; rw [this, List.flatMap_append]; exact hown'
/-- The same, of an operation in a drawn region. -/
theorem app_more_wp {α : Type} {cs : α → List Value} {w : World} {o : Oper} {a : Act} {K : Act → World → Prop} {Q : Exit → Act → World → Prop} (s x : Operand) (t e : TypeId)
    (ho : o.op = .call { callee := .builtin .append, args := #[s, x], argTypes := #[t, t] })
    {z : Value} {n bytes : Nat} (hu : Tryz.prog.underlying t = some (.slice e)) (hinfo : (Tryz.prog.info? e).map (fun i => (i.zero, i.size, i.bytes)) = some (some z, n, bytes)) (hzs : z.cells.size = n) (hn0 : 0 < n) (hn : ∀ y, (cs y).length = n)
    (B : Nat) (v : Value) (xs : List α) (hown : OwG cs e n w B v xs) (hs : a.eval s = v) (C : Nat) (ad : Addr) (m cap : Nat) (ys : List α) (hx : a.eval x = .slice (some ad) m cap) (hin : InG cs w C (.slice (some ad) m cap) ys) (h1 : ∀ y ∈ ys, ∀ u ∈ cs y, u.oneCell' = true)
    (hm : xs.length + ys.length ≤ maxLen) (hbytes : (xs.length + ys.length) * bytes ≤ 140737488355328) (hB : B ≤ w.heap.size)
    (h : ∀ v' w', OwG cs e n w' B v' (xs ++ ys) → Below B w w' → KpT e w w' → K (a.put o.dst v') w') :
    o.wp Tryz.prog a w K Q := by
  obtain ⟨i0, hi, hz0, hz1, hz2⟩ := info_parts hinfo
  obtain ⟨ao, cap', e1, hlc, hno, hc⟩ := hin
  injection e1 with e1 e2 e3
  subst e1 e2 e3
  refine wp_append_own _ s x t ho B e i0 z n bytes hu hi hz0 hz1 hz2 hzs hn0 v xs.length _ hs hown
    ad ys.length cap (ys.flatMap cs) hx (flat_len cs n hn ys) ?_ ?_ (by omega) hbytes hB ?_
  · intro j u hj
    obtain ⟨b, off, e1, _, e3⟩ := hc j u hj
    injection e1 with e1
    subst e1
    rw [addr_add]
    exact e3
  · intro u hu
    obtain ⟨y, hm', hy⟩ := List.mem_flatMap.1 hu
    exact h1 y hm' u hy
  · intro v' w' hown' hgrow _
    refine h v' w' ?_ ((Below.refl _ _).grown hgrow hB (fun k hk => (World.ownsRow.lt hown k hk).1)) (KpT.app hown (fun k hk hne => hgrow.block k hk hne))
    have : (xs ++ ys).length = xs.length + ys.length := by simp
    unfold OwG; rw [this, List.flatMap_append]; exact hown'
/-- One thing more, behind a row of one's own. -/
theorem app_one {α : Type} {cs : α → List Value} {wr : World} {ops : Array Oper} {rest : List Oper} {o : Oper} {a : Act} {Q : Exit → Act → World → Prop} (hgd : o.guard = none) (s x : Operand) (t e : TypeId)
    (ho : o.op = .call { callee := .builtin .append, args := #[s, x], argTypes := #[t, t] })
    {z : Value} {n bytes : Nat} (hu : Tryz.prog.underlying t = some (.slice e)) (hinfo : (Tryz.prog.info? e).map (fun i => (i.zero, i.size, i.bytes)) = some (some z, n, bytes)) (hzs : z.cells.size = n) (hn0 : 0 < n) (hn : ∀ y, (cs y).length = n)
    (B : Nat) (v : Value) (xs : List α) (c : α) (hown : OwG cs e n wr B v xs) (hs : a.eval s = v) (g : Nat) (hg : g = wr.heap.size) (hx : a.eval x = .slice (some ⟨g, 0, none⟩) 1 1) (h1 : ∀ u ∈ cs c, u.oneCell' = true)
    (ar : Array Value) (har : ar = (cs c).toArray)
    (hm : xs.length < maxLen) (hbytes : (xs.length + 1) * bytes ≤ 140737488355328) (hB : B ≤ wr.heap.size)
    (h : ∀ v' w', OwG cs e n w' B v' (xs ++ [c]) → Below B wr w' → KpT e wr w' → wpList Tryz.prog ops Q rest (a.put o.dst v') w') :
    wpList Tryz.prog ops Q (o :: rest) a (wr.alloc (.cells ar e)) := by
  subst hg har
  obtain ⟨i0, hi, hz0, hz1, hz2⟩ := info_parts hinfo
  refine wpList_append_own _ hgd s x t ho B e i0 z n bytes hu hi hz0 hz1 hz2 hzs hn0 v xs.length _ hs (World.ownsRow.alloc hown _)
    ⟨wr.heap.size, 0, none⟩ 1 1 (cs c) hx (by rw [hn]; omega) ?_ h1 (by omega) hbytes (by rw [szAl]; omega) ?_
  · intro j u hj
    rw [addr_add, Nat.zero_add]
    unfold World.cell?
    rw [heap_alloc_last _ _ _ rfl]
    simpa using hj
  · intro v' w' hown' hgrow _
    refine h v' w' ?_ ?_ ?_
    · have : (xs ++ [c]).length = xs.length + 1 := by simp
      unfold OwG; rw [this, List.flatMap_append, show [c].flatMap cs = cs c from by simp]; exact hown'
    · exact ((Below.refl _ _).alloc hB _).grown hgrow (by rw [szAl]; omega) (fun k hk => (World.ownsRow.lt hown k hk).1)
    · exact KpT.app hown (fun k hk hne => (hgrow.block k (by rw [szAl]; omega) hne).trans (Below.heap_alloc _ _ k hk))
/-- An empty row just made. -/
theorem OwG.made {α : Type} (cs : α → List Value) (e : TypeId) (n : Nat) (w : World) (B : Nat) (hB : B ≤ w.heap.size) : OwG cs e n (w.alloc (.cells #[] e)) B (.slice (some ⟨w.heap.size, 0, none⟩) 0 0) [] := by
  have := World.ownsRow_lit (base := B) (e := e) (size := n) w #[] 0 hB (by unfold maxLen; omega) (by simp)
  exact this
theorem owG_some {α : Type} {cs : α → List Value} {e : TypeId} {n : Nat} {w : World} {B : Nat} {v : Value} {xs : List α} (h : OwG cs e n w B v xs) (hx : xs ≠ []) : ∃ g cap, v = .slice (Option.some ⟨g, 0, none⟩) xs.length cap ∧ B ≤ g ∧ g < w.heap.size := by
  rcases h.2 with ⟨rfl, hn⟩ | ⟨g, cap, cur, rfl, h1, h2, h3⟩
  · exact absurd (List.eq_nil_of_length_eq_zero hn) hx
  · exact ⟨g, cap, rfl, h1, (Array.getElem?_eq_some_iff.1 h2).1⟩
theorem owG_cap {α : Type} {cs : α → List Value} {e : TypeId} {c : Nat} {W : World} {B g m cp : Nat} {xs : List α} (h : OwG cs e c W B (.slice (some ⟨g, 0, none⟩) m cp) xs) : m = xs.length ∧ xs.length ≤ cp ∧ cp ≤ 9223372036854775807 ∧ B ≤ g ∧ ∃ cur, W.heap[g]? = some (.cells cur e (0, 0)) := by
  rcases h.2 with ⟨h1, hn⟩ | ⟨g', cap, cur, h1, h2, h3, h4, h5, h6⟩
  · cases h1
  · injection h1 with e1 e2 e3
    injection e1 with e1
    injection e1 with e1
    subst e1 e2 e3
    exact ⟨rfl, h4, by unfold maxLen at h5; omega, h2, cur, h3⟩
end Go.Proofs.YtdpebhdjcgiboaaGreat

namespace Go.Proofs.YtdpebhdjcgiboaaGreat
set_option linter.unusedSimpArgs false
open Go.ChangeShapes Go.WideShapes Go.ChangeAt Go.RowKit Go.MuLone Go.RwLone
set_option linter.unusedVariables false
set_option maxRecDepth 100000
set_option maxHeartbeats 3200000
abbrev inV (ni oi : Int) : Value := .agg #[.int .i64 3, .int .i64 1, .int .i64 2, .int .i64 (-1), .int .u64 ni, .int .i64 (-1), .int .u64 oi, .int .i64 0]
/-- A litmus program of swaps, in its blocks. -/
structure Lit2 (w : World) (x0 : Int) (n cb tb : Nat) (ib ic : Nat → Nat) : Prop where
  c0 : w.cell? ⟨cb, 0, none⟩ = some (.int .u64 7)
  c1 : w.cell? ⟨cb, 1, none⟩ = some (.int .u64 x0)
  t : ∀ i, i < n → w.cell? ⟨tb, i, none⟩ = some (.slice (some ⟨ib i, 0, none⟩) 1 (ic i))
  i : ∀ i, i < n → In8 w (ib i) 0 3 ((1 : Nat) : Int) ((2 : Nat) : Int) (-1) (nw x0 i) (-1) x0 0
  lc : cb < w.heap.size
  lt : tb < w.heap.size
  k : ∀ i, i < n → 1 ≤ ic i
abbrev litV (n cb tb tc : Nat) : Value := .agg #[.slice (some ⟨cb, 0, none⟩) 2 2, .slice (some ⟨tb, 0, none⟩) n tc]
abbrev litW (w : World) (n cb tb tc : Nat) : World := w.alloc (.cells #[.slice (some ⟨cb, 0, none⟩) 2 2, .slice (some ⟨tb, 0, none⟩) n tc] 49)
end Go.Proofs.YtdpebhdjcgiboaaGreat

namespace Go.Proofs.YtdpebhdjcgiboaaGreat
set_option linter.unusedSimpArgs false
open Go.ChangeShapes Go.WideShapes Go.ChangeAt Go.RowKit Go.MuLone Go.RwLone
set_option linter.unusedVariables false
set_option maxRecDepth 100000
set_option maxHeartbeats 3200000
/-- An instruction's cells; a place's. -/
structure I8 where
  op : Int
  c : Int
  r : Int
  nr : Int
  ni : Int
  orr : Int
  oi : Int
  n : Int
def iC (x : I8) : List Value := [.int .i64 x.op, .int .i64 x.c, .int .i64 x.r, .int .i64 x.nr, .int .u64 x.ni, .int .i64 x.orr, .int .u64 x.oi, .int .i64 x.n]
def plC (x : Nat × Int) : List Value := [.pointer (some ⟨x.1, 0, none⟩), .int .i64 x.2, .bool false]
theorem infoIn : (Tryz.prog.info? 106).map (fun i => (i.zero, i.size, i.bytes)) = some (some (.agg #[.int .i64 0, .int .i64 0, .int .i64 0, .int .i64 0, .int .u64 0, .int .i64 0, .int .u64 0, .int .i64 0]), 8, 64) := by kernel_rfl
theorem infoQ : (Tryz.prog.info? 120).map (fun i => (i.zero, i.size, i.bytes)) = some (some (.slice none 0 0), 1, 24) := by kernel_rfl
theorem iC_one (x : I8) : ∀ u ∈ iC x, u.oneCell' = true := by
  intro u hu
  simp [iC] at hu
  rcases hu with rfl | rfl | rfl | rfl | rfl | rfl | rfl | rfl <;> rfl
theorem In8.of {w : World} {ib k : Nat} {x : I8} (h : ∀ j, j < 8 → w.cell? ⟨ib, k * 8 + j, none⟩ = (iC x)[j]?) (lt : ib < w.heap.size) : In8 w ib k x.op x.c x.r x.nr x.ni x.orr x.oi x.n :=
  ⟨h 0 (by decide), h 1 (by decide), h 2 (by decide), h 3 (by decide), h 4 (by decide), h 5 (by decide), h 6 (by decide), h 7 (by decide), lt⟩
theorem hideG {P : Prop} (h : Hid P) : P := h.out
theorem eqNilI (w : World) (a : Option Addr) (n c n' c' : Nat) : (binOp .eql 102 (.slice a n c) (.slice none n' c')).run Tryz.prog w = .ok (.bool a.isNone) w := Lib.run_eql_slice_nil w _ _ a n c n' c' Tryz.underlying102
theorem clone_in (w : World) (C : Nat) (ad : Addr) (cap : Nat) (xs : List I8) (h : InG iC w C (.slice (some ad) xs.length cap) xs) (hC : C ≤ w.heap.size) (hl : xs.length ≤ 1000) :
    Calls Tryz.prog 61 #[.slice (some ad) xs.length cap] w fun e w' => ∃ v, e = .returned v ∧ OwG iC 106 8 w' w.heap.size v xs ∧ Below w.heap.size w w' := by
  have HI : Hid (InG iC (w.alloc (.cells #[] 106)) C (.slice (some ad) xs.length cap) xs) := h.later ((Below.refl _ _).alloc hC _)
  have HO : Hid (OwG iC 106 8 (w.alloc (.cells #[] 106)) w.heap.size (.slice (some ⟨w.heap.size, 0, none⟩) 0 0) []) := OwG.made _ _ _ _ _ (Nat.le_refl _)
  have q := eqNilI
  clear h
  go_enter Tryz.func61, Tryz.ntmps61
  go_wp2_with (at_builtin; refine app_more (by rfl) _ _ 102 106 (by rfl) Tryz.underlying102 infoIn rfl (by decide) (fun _ => rfl) w.heap.size _ [] HO.out (by rfl) _ _ xs (by rfl) HI.out (fun y _ => iC_one y) (by unfold maxLen; simp; omega) (by simp; omega) (by simp) ?_; intro v' w1 ho hb hk; rw [List.nil_append] at ho; obtain ⟨va, vc, rfl⟩ := ho.form; have HX : Hid (OwG iC 106 8 w1 w.heap.size (.slice va xs.length vc) xs ∧ Below w.heap.size w w1) := ⟨ho, ((Below.refl _ _).alloc (Nat.le_refl _) _).trans hb⟩; clear ho hb hk)
  go_ret
  exact ⟨_, rfl, HX.out⟩
theorem hnew_any (w : World) (n : Nat) (h1 : 1 ≤ n) (h2 : n ≤ 16) :
    Calls Tryz.prog 33 #[.int .i64 (n : Int)] w fun e w' => e = .returned (.tuple #[.pointer (some ⟨w.heap.size + 1, 0, none⟩), .int .i64 0]) ∧ w' = (w.alloc (.cells (madeCells #[.slice none 0 0] n) 120)).alloc (.cells #[.slice (some ⟨w.heap.size, 0, none⟩) n n, .int .i64 0, .slice none 0 0, .slice none 0 0] 118) := by
  have i1 : ¬ (n : Int) < 1 := by omega
  have i2 : ¬ (n : Int) > 16 := by omega
  have hm := run_make_any (P := Tryz.prog) 116 120 _ 1 24 Tryz.underlying116 infoQ n (by omega) (by omega)
  go_enter Tryz.func33, Tryz.ntmps33
  go_wp2
  go_ret2
  exact ⟨by simp, rfl⟩
/-- All blocks but qb and those of places stay. -/
def KpQ (qb : Nat) (w w' : World) : Prop := ∀ (k : Nat) (c : Array Value) (t : TypeId) (f : Nat × Nat), k ≠ qb → w.heap[k]? = some (Obj.cells c t f) → t ≠ 174 → w'.heap[k]? = w.heap[k]?
/-- The block qb keeps its type. -/
def KpY (qb : Nat) (w w' : World) : Prop := ∀ (c : Array Value) (t : TypeId), w.heap[qb]? = some (Obj.cells c t) → ∃ c', w'.heap[qb]? = some (Obj.cells c' t)
theorem submit_one (w : World) (hb qb n B i T g : Nat) (tg : Int) (v : Value) (xs : List (Nat × Int)) (h0 : w.cell? ⟨hb, 0, none⟩ = some (.slice (some ⟨qb, 0, none⟩) n n)) (hq : w.cell? ⟨qb, i, none⟩ = some v) (fz : w.frozen? ⟨qb, i, none⟩ = false) (ho : OwG plC 174 3 w B v xs) (hg : w.cell? ⟨g, 0, none⟩ = some (.pointer (some ⟨T, 0, none⟩)))
    (hi : i < n) (hx : xs.length < 64) (b1 : hb < B) (b2 : qb < B) (b3 : hb ≠ qb) (b4 : B ≤ w.heap.size) (t1 : -9223372036854775808 ≤ tg) (t2 : tg < 9223372036854775808) :
    Calls Tryz.prog 38 #[.pointer (some ⟨hb, 0, none⟩), .int .i64 (i : Int), .int .i64 tg, .slice (some ⟨g, 0, none⟩) 1 1] w fun e w' => e = .returned (.int .i64 0) ∧ ∃ v', w'.cell? ⟨qb, i, none⟩ = some v' ∧ OwG plC 174 3 w' B v' (xs ++ [(T, tg)]) ∧ (∀ j, j ≠ i → w'.cell? ⟨qb, j, none⟩ = w.cell? ⟨qb, j, none⟩) ∧ (∀ j, w'.frozen? ⟨qb, j, none⟩ = w.frozen? ⟨qb, j, none⟩) ∧ Keeps (fun x => x = qb ∨ B ≤ x) w w' ∧ KpQ qb w w' ∧ KpY qb w w' := by
  obtain ⟨va, vc, rfl⟩ := ho.form
  have HO : Hid (OwG plC 174 3 w B (.slice va xs.length vc) xs) := ho
  have i0 : (0 : Int) ≤ (i : Int) := Int.natCast_nonneg _
  have i1 : (i : Int) < (n : Int) := by omega
  have hd : decide (0 ≤ (i : Int) ∧ (i : Int) < (n : Int)) = true := by simp [i0, i1]
  have hw : IntKind.i64.wrap (64 - (xs.length : Int)) = 64 - (xs.length : Int) := by rw [IntKind.wrap_i64]; omega
  have hn : ¬ (1 : Int) > 64 - (xs.length : Int) := by omega
  clear ho
  go_enter Tryz.func38, Tryz.ntmps38
  go_wp2_with fail
  refine (hhas_any w hb n _ _ i h0).mono ?_
  rintro e w' ⟨rfl, rfl⟩
  rw [hd]
  clear hd
  go_wp2_with fail
  go_loopw [31] (fun c wr => (c = .int .i64 ((0 : Nat) : Int) ∧ wr = w') ∨ (c = .int .i64 ((1 : Nat) : Int) ∧ ∃ v', wr.cell? ⟨qb, i, none⟩ = some v' ∧ OwG plC 174 3 wr B v' (xs ++ [(T, tg)]) ∧ (∀ j, j ≠ i → wr.cell? ⟨qb, j, none⟩ = w'.cell? ⟨qb, j, none⟩) ∧ (∀ j, wr.frozen? ⟨qb, j, none⟩ = w'.frozen? ⟨qb, j, none⟩) ∧ Keeps (fun x => x = qb ∨ B ≤ x) w' wr ∧ KpQ qb w' wr ∧ KpY qb w' wr)) (fun c _ => 1 - (intOf c).toNat)
  case atStart => exact .inl ⟨rfl, rfl⟩
  case round =>
    rcases hrel with ⟨rfl, rfl⟩ | ⟨rfl, hR⟩
    · have tw : IntKind.i64.wrap tg = tg := by rw [IntKind.wrap_i64]; omega
      have HS : Hid (wr.drew.cell? ⟨hb, 0, none⟩ = some (.slice (some ⟨qb, 0, none⟩) n n)) := h0
      have HA : Hid (∀ o : Obj, (wr.drew.alloc o).cell? ⟨hb, 0, none⟩ = some (.slice (some ⟨qb, 0, none⟩) n n)) := fun o => (World.cell?_of_block (w := wr) (Below.heap_alloc wr.drew o hb (Nat.lt_of_lt_of_le b1 b4))).trans h0
      have cE : wr.drew.cell? ⟨qb, i, none⟩ = some (.slice va xs.length vc) := hq
      have cE2 : (wr.alloc (.cells #[.pointer (some ⟨T, 0, none⟩), .int .i64 tg, .bool false] 174)).cell? ⟨qb, i, none⟩ = some (.slice va xs.length vc) := (World.cell?_of_block (w := wr) (Below.heap_alloc wr _ qb (Nat.lt_of_lt_of_le b2 b4))).trans hq
      have HQ : Hid (wr.cell? ⟨qb, i, none⟩ = some (.slice va xs.length vc)) := hq
      have HF : Hid (wr.frozen? ⟨qb, i, none⟩ = false) := fz
      have HO2 : Hid (OwG plC 174 3 wr.drew B (.slice va xs.length vc) xs) := HO.out.later (Below.refl _ _).drew
      go_wp2_with fail
      clear hq fz h0
      (refine wp_region_held_drew (S := (fun W => W.cell? ⟨hb, 0, none⟩ = some (.slice (some ⟨qb, 0, none⟩) n n))) (by kernel_rfl) HS.out (fun hHeld => ?_); simp only [List.size_toArray, List.length_cons, List.length_nil, Nat.reduceAdd, Array.replicate_succ, Array.replicate_zero, List.push_toArray, List.append_toArray, List.nil_append, List.cons_append])
      refine rgT 0 (h := ?_)
      refine rgT 1 (h := ?_)
      refine rgT 2 (h := ?_)
      refine rgT 3 (h := ?_)
      refine rgT 4 (h := ?_)
      refine rgT 5 (h := ?_)
      refine rgT 6 (h := ?_)
      refine rgT 7 (h := ?_)
      refine rgT 8 (h := ?_)
      refine rgT 9 (h := ?_)
      refine rgT 10 (h := ?_)
      refine rgT 12 (h := ?_)
      refine rgT 13 (h := ?_)
      refine rgT 14 (h := ?_)
      refine rgT 15 (h := ?_)
      refine rgT 16 (h := ?_)
      (refine wpAnyH_ready (rs := [11, 17]) (by kernel_rfl) (by simp) ?_; refine rgA 11 (by rfl) (fun K hK => ?_) (rgA 17 (by rfl) (fun K hK => ?_) AllReadyH.nil) <;> go_simp)
      (refine hK.out _ _ HS.out (fun hHeld => ?_); clear hK K; try simp only [Act.put, List.setIfInBounds_toArray, List.set_cons_zero, List.set_cons_succ])
      (refine rgS 17 (h := fun K hK => ?_); go_simp)
      (refine hK.out _ _ (HA.out _) (fun hHeld => ?_); clear hK K; try simp only [Act.put, List.setIfInBounds_toArray, List.set_cons_zero, List.set_cons_succ])
      rotate_left 1
      (refine hK.out _ _ (HA.out _) (fun hHeld => ?_); clear hK K; try simp only [Act.put, List.setIfInBounds_toArray, List.set_cons_zero, List.set_cons_succ])
      (refine rgS 11 (h := fun K hK => ?_); go_simp)
      (refine hK.out _ _ (HA.out _) (fun hHeld => ?_); clear hK K; try simp only [Act.put, List.setIfInBounds_toArray, List.set_cons_zero, List.set_cons_succ])
      all_goals
        clear cE cE2
        (refine rgS 18 (h := fun K hK => ?_); rw [if_pos (by rfl)])
        refine app_one_wp (cs := plC) (wr := wr.drew) (.tmp 47) (.tmp 53) 120 174 (by rfl) Tryz.underlying120 infoPl rfl (by decide) (fun _ => rfl) B _ xs (T, tg) (HO2.out) (by rfl) wr.heap.size rfl (by rfl) (by intro u hu; simp [plC] at hu; rcases hu with rfl | rfl | rfl <;> rfl) _ rfl (by unfold maxLen; omega) (by omega) b4 ?_
        intro v' w5 ho hbl hkp
        obtain ⟨va', vc', rfl⟩ := ho.form
        generalize (xs ++ [(T, tg)]).length = mm at *
        have K5 : Keeps (fun x => B ≤ x) wr w5 := ⟨hbl.os, hbl.tape, hbl.output, hbl.size, fun k hk hn => hbl.block k (by omega)⟩
        have lq : qb < wr.heap.size := Nat.lt_of_lt_of_le b2 b4
        have nq : ¬ B ≤ qb := by omega
        have cQ : w5.cell? ⟨qb, i, none⟩ = some (.slice va xs.length vc) := (K5.cell (p := ⟨qb, i, none⟩) lq nq).trans HQ.out
        have fQ : w5.frozen? ⟨qb, i, none⟩ = false := (K5.frozen (p := ⟨qb, i, none⟩) lq nq).trans HF.out
        have H5 : Hid (w5.cell? ⟨hb, 0, none⟩ = some (.slice (some ⟨qb, 0, none⟩) n n)) := (K5.cell (p := ⟨hb, 0, none⟩) (Nat.lt_of_lt_of_le b1 b4) (show ¬ B ≤ hb by omega)).trans HS.out
        have H6 : Hid ((w5.setCell ⟨qb, i, none⟩ (.slice va' mm vc')).cell? ⟨hb, 0, none⟩ = some (.slice (some ⟨qb, 0, none⟩) n n)) := (World.cell?_setCell_other _ _ _ _ (fun e => b3 (congrArg Addr.block e).symm)).trans H5.out
        have HX : Hid (∃ v', (w5.setCell ⟨qb, i, none⟩ (.slice va' mm vc')).cell? ⟨qb, i, none⟩ = some v' ∧ OwG plC 174 3 (w5.setCell ⟨qb, i, none⟩ (.slice va' mm vc')) B v' (xs ++ [(T, tg)]) ∧ (∀ j, j ≠ i → (w5.setCell ⟨qb, i, none⟩ (.slice va' mm vc')).cell? ⟨qb, j, none⟩ = wr.cell? ⟨qb, j, none⟩) ∧ (∀ j, (w5.setCell ⟨qb, i, none⟩ (.slice va' mm vc')).frozen? ⟨qb, j, none⟩ = wr.frozen? ⟨qb, j, none⟩) ∧ Keeps (fun x => x = qb ∨ B ≤ x) wr (w5.setCell ⟨qb, i, none⟩ (.slice va' mm vc')) ∧ KpQ qb wr (w5.setCell ⟨qb, i, none⟩ (.slice va' mm vc')) ∧ KpY qb wr (w5.setCell ⟨qb, i, none⟩ (.slice va' mm vc'))) := ⟨_, World.cell?_setCell_same _ _ _ cQ, ho.set (p := ⟨qb, i, none⟩) b2 _, fun j hj => (World.cell?_setCell_other _ _ _ _ (fun e => hj (congrArg Addr.off e).symm)).trans (K5.cell (p := ⟨qb, j, none⟩) lq nq), fun j => by simpa using (K5.frozen (p := ⟨qb, j, none⟩) lq nq), (K5.mono (fun _ e => .inr e)).setCell (.inl rfl) _, fun k c t f hk hc ht => (Below.heap_setCell _ _ _ _ hk).trans (hkp k c t f hc ht), fun c t hc => ⟨_, by have e5 := (K5.block qb lq nq).trans hc; simp [World.setCell, Array.getElem?_modify, e5]; rfl⟩⟩
        clear ho hbl hkp K5 HO2 HA
        (refine hK.out _ _ H5.out (fun hHeld => ?_); clear hK K; try simp only [Act.put, List.setIfInBounds_toArray, List.set_cons_zero, List.set_cons_succ])
        refine rgT 19 (h := ?_)
        (refine rgS 20 (h := fun K hK => ?_); go_simp)
        (refine hK.out _ _ H6.out (fun hHeld => ?_); clear hK K; try simp only [Act.put, List.setIfInBounds_toArray, List.set_cons_zero, List.set_cons_succ])
        refine wpAnyH_done (by kernel_rfl) ?_ _
        go_wp2
        go_roundw
        case rel => exact .inr ⟨by go_num, HX.out⟩
        case measure => simp [intOf]
    · have HR : Hid (∃ v', wr.cell? ⟨qb, i, none⟩ = some v' ∧ OwG plC 174 3 wr B v' (xs ++ [(T, tg)]) ∧ (∀ j, j ≠ i → wr.cell? ⟨qb, j, none⟩ = w'.cell? ⟨qb, j, none⟩) ∧ (∀ j, wr.frozen? ⟨qb, j, none⟩ = w'.frozen? ⟨qb, j, none⟩) ∧ Keeps (fun x => x = qb ∨ B ≤ x) w' wr ∧ KpQ qb w' wr ∧ KpY qb w' wr) := hR
      clear hR
      go_wp2
      go_ret
      exact ⟨rfl, HR.out⟩
end Go.Proofs.YtdpebhdjcgiboaaGreat
