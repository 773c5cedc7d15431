import Derived.Test.YtegnmflbbpfdhaaGreatRowG
namespace Go.Proofs.YtegnmflbbpfdhaaGreat
open Go.ChangeShapes Go.WideShapes Go.ChangeAt Go.RowKit
set_option linter.unusedVariables false
set_option maxRecDepth 100000
/-- A list in sight, behind a row of one's own. -/
theorem app_more {α : Type} {cs : α → List Value} {w : World} {ops : Array Oper} {rest : List Oper} {o : Oper} {a : Act} {Q : Exit → Act → World → Prop} (hgd : o.guard = none) (s x : Operand) (t e : TypeId)
    (ho : o.op = .call { callee := .builtin .append, args := #[s, x], argTypes := #[t, t] })
    {z : Value} {n bytes : Nat} (hu : Tryz.prog.underlying t = some (.slice e)) (hinfo : (Tryz.prog.info? e).map (fun i => (i.zero, i.size, i.bytes)) = some (some z, n, bytes)) (hzs : z.cells.size = n) (hn0 : 0 < n) (hn : ∀ y, (cs y).length = n)
    (B : Nat) (v : Value) (xs : List α) (hown : OwG cs e n w B v xs) (hs : a.eval s = v) (C : Nat) (v2 : Value) (ys : List α) (hx : a.eval x = v2) (hin : InG cs w C v2 ys) (h1 : ∀ y ∈ ys, ∀ u ∈ cs y, u.oneCell' = true)
    (hm : xs.length + ys.length ≤ maxLen) (hbytes : (xs.length + ys.length) * bytes ≤ 140737488355328) (hB : B ≤ w.heap.size)
    (h : ∀ v' w', OwG cs e n w' B v' (xs ++ ys) → Below B w w' → KpT e w w' → wpList Tryz.prog ops Q rest (a.put o.dst v') w') :
    wpList Tryz.prog ops Q (o :: rest) a w := by
  obtain ⟨i0, hi, hz0, hz1, hz2⟩ := info_parts hinfo
  obtain ⟨ao, cap, rfl, hlc, hno, hc⟩ := hin
  match ao, hno, hc with
  | none, hno, hc =>
    have hc0 := hno rfl
    have hv : ys.length = 0 := by omega
    have hv' : ys = [] := List.eq_nil_of_length_eq_zero hv
    subst hv' hc0
    exact wpList_append_own_none hgd s x t ho B e i0 n hu hi _ xs.length _ hs hown hx (h _ w (by rw [List.append_nil]; exact hown) (Below.refl _ _) (fun _ _ _ _ _ _ => rfl))
  | some ad, hno, hc =>
    refine wpList_append_own _ hgd s x t ho B e i0 z n bytes hu hi hz0 hz1 hz2 hzs hn0 v xs.length _ hs hown
      ad ys.length cap (ys.flatMap cs) hx (flat_len cs n hn ys) ?_ ?_ (by omega) hbytes hB ?_
    · intro j u hj
      obtain ⟨b, off, e1, _, e3⟩ := hc j u hj
      injection e1 with e1
      subst e1
      rw [addr_add]
      exact e3
    · intro u hu
      obtain ⟨y, hm', hy⟩ := List.mem_flatMap.1 hu
      exact h1 y hm' u hy
    · intro v' w' hown' hgrow _
      refine h v' w' ?_ ((Below.refl _ _).grown hgrow hB (fun k hk => (World.ownsRow.lt hown k hk).1)) (KpT.app hown (fun k hk hne => hgrow.block k hk hne))
      have : (xs ++ ys).length = xs.length + ys.length := by simp
      unfold OwG; rw [this, List.flatMap_append]; exact hown'
/-- The same, of an operation in a drawn region. -/
theorem app_more_wp {α : Type} {cs : α → List Value} {w : World} {o : Oper} {a : Act} {K : Act → World → Prop} {Q : Exit → Act → World → Prop} (s x : Operand) (t e : TypeId)
    (ho : o.op = .call { callee := .builtin .append, args := #[s, x], argTypes := #[t, t] })
    {z : Value} {n bytes : Nat} (hu : Tryz.prog.underlying t = some (.slice e)) (hinfo : (Tryz.prog.info? e).map (fun i => (i.zero, i.size, i.bytes)) = some (some z, n, bytes)) (hzs : z.cells.size = n) (hn0 : 0 < n) (hn : ∀ y, (cs y).length = n)
    (B : Nat) (v : Value) (xs : List α) (hown : OwG cs e n w B v xs) (hs : a.eval s = v) (C : Nat) (ad : Addr) (m cap : Nat) (ys : List α) (hx : a.eval x = .slice (some ad) m cap) (hin : InG cs w C (.slice (some ad) m cap) ys) (h1 : ∀ y ∈ ys, ∀ u ∈ cs y, u.oneCell' = true)
    (hm : xs.length + ys.length ≤ maxLen) (hbytes : (xs.length + ys.length) * bytes ≤ 140737488355328) (hB : B ≤ w.heap.size)
    (h : ∀ v' w', OwG cs e n w' B v' (xs ++ ys) → Below B w w' → KpT e w w' → K (a.put o.dst v') w') :
    o.wp Tryz.prog a w K Q := by
  obtain ⟨i0, hi, hz0, hz1, hz2⟩ := info_parts hinfo
  obtain ⟨ao, cap', e1, hlc, hno, hc⟩ := hin
  injection e1 with e1 e2 e3
  subst e1 e2 e3
  refine wp_append_own _ s x t ho B e i0 z n bytes hu hi hz0 hz1 hz2 hzs hn0 v xs.length _ hs hown
    ad ys.length cap (ys.flatMap cs) hx (flat_len cs n hn ys) ?_ ?_ (by omega) hbytes hB ?_
  · intro j u hj
    obtain ⟨b, off, e1, _, e3⟩ := hc j u hj
    injection e1 with e1
    subst e1
    rw [addr_add]
    exact e3
  · intro u hu
    obtain ⟨y, hm', hy⟩ := List.mem_flatMap.1 hu
    exact h1 y hm' u hy
  · intro v' w' hown' hgrow _
    refine h v' w' ?_ ((Below.refl _ _).grown hgrow hB (fun k hk => (World.ownsRow.lt hown k hk).1)) (KpT.app hown (fun k hk hne => hgrow.block k hk hne))
    have : (xs ++ ys).length = xs.length + ys.length := by simp
    unfold OwG; rw [this, List.flatMap_append]; exact hown'
/-- One thing more, behind a row of one's own. -/
theorem app_one {α : Type} {cs : α → List Value} {wr : World} {ops : Array Oper} {rest : List Oper} {o : Oper} {a : Act} {Q : Exit → Act → World → Prop} (hgd : o.guard = none) (s x : Operand) (t e : TypeId)
    (ho : o.op = .call { callee := .builtin .append, args := #[s, x], argTypes := #[t, t] })
    {z : Value} {n bytes : Nat} (hu : Tryz.prog.underlying t = some (.slice e)) (hinfo : (Tryz.prog.info? e).map (fun i => (i.zero, i.size, i.bytes)) = some (some z, n, bytes)) (hzs : z.cells.size = n) (hn0 : 0 < n) (hn : ∀ y, (cs y).length = n)
    (B : Nat) (v : Value) (xs : List α) (c : α) (hown : OwG cs e n wr B v xs) (hs : a.eval s = v) (g : Nat) (hg : g = wr.heap.size) (hx : a.eval x = .slice (some ⟨g, 0, none⟩) 1 1) (h1 : ∀ u ∈ cs c, u.oneCell' = true)
    (ar : Array Value) (har : ar = (cs c).toArray)
    (hm : xs.length < maxLen) (hbytes : (xs.length + 1) * bytes ≤ 140737488355328) (hB : B ≤ wr.heap.size)
    (h : ∀ v' w', OwG cs e n w' B v' (xs ++ [c]) → Below B wr w' → KpT e wr w' → wpList Tryz.prog ops Q rest (a.put o.dst v') w') :
    wpList Tryz.prog ops Q (o :: rest) a (wr.alloc (.cells ar e)) := by
  subst hg har
  obtain ⟨i0, hi, hz0, hz1, hz2⟩ := info_parts hinfo
  refine wpList_append_own _ hgd s x t ho B e i0 z n bytes hu hi hz0 hz1 hz2 hzs hn0 v xs.length _ hs (World.ownsRow.alloc hown _)
    ⟨wr.heap.size, 0, none⟩ 1 1 (cs c) hx (by rw [hn]; omega) ?_ h1 (by omega) hbytes (by rw [szAl]; omega) ?_
  · intro j u hj
    rw [addr_add, Nat.zero_add]
    unfold World.cell?
    rw [heap_alloc_last _ _ _ rfl]
    simpa using hj
  · intro v' w' hown' hgrow _
    refine h v' w' ?_ ?_ ?_
    · have : (xs ++ [c]).length = xs.length + 1 := by simp
      unfold OwG; rw [this, List.flatMap_append, show [c].flatMap cs = cs c from by simp]; exact hown'
    · exact ((Below.refl _ _).alloc hB _).grown hgrow (by rw [szAl]; omega) (fun k hk => (World.ownsRow.lt hown k hk).1)
    · exact KpT.app hown (fun k hk hne => (hgrow.block k (by rw [szAl]; omega) hne).trans (Below.heap_alloc _ _ k hk))
/-- An empty row just made. -/
theorem OwG.made {α : Type} (cs : α → List Value) (e : TypeId) (n : Nat) (w : World) (B : Nat) (hB : B ≤ w.heap.size) : OwG cs e n (w.alloc (.cells #[] e)) B (.slice (some ⟨w.heap.size, 0, none⟩) 0 0) [] := by
  have := World.ownsRow_lit (base := B) (e := e) (size := n) w #[] 0 hB (by unfold maxLen; omega) (by simp)
  exact this
theorem owG_some {α : Type} {cs : α → List Value} {e : TypeId} {n : Nat} {w : World} {B : Nat} {v : Value} {xs : List α} (h : OwG cs e n w B v xs) (hx : xs ≠ []) : ∃ g cap, v = .slice (Option.some ⟨g, 0, none⟩) xs.length cap ∧ B ≤ g ∧ g < w.heap.size := by
  rcases h.2 with ⟨rfl, hn⟩ | ⟨g, cap, cur, rfl, h1, h2, h3⟩
  · exact absurd (List.eq_nil_of_length_eq_zero hn) hx
  · exact ⟨g, cap, rfl, h1, (Array.getElem?_eq_some_iff.1 h2).1⟩
theorem owG_cap {α : Type} {cs : α → List Value} {e : TypeId} {c : Nat} {W : World} {B g m cp : Nat} {xs : List α} (h : OwG cs e c W B (.slice (some ⟨g, 0, none⟩) m cp) xs) : m = xs.length ∧ xs.length ≤ cp ∧ cp ≤ 9223372036854775807 ∧ B ≤ g ∧ ∃ cur, W.heap[g]? = some (.cells cur e (0, 0)) := by
  rcases h.2 with ⟨h1, hn⟩ | ⟨g', cap, cur, h1, h2, h3, h4, h5, h6⟩
  · cases h1
  · injection h1 with e1 e2 e3
    injection e1 with e1
    injection e1 with e1
    subst e1 e2 e3
    exact ⟨rfl, h4, by unfold maxLen at h5; omega, h2, cur, h3⟩
end Go.Proofs.YtegnmflbbpfdhaaGreat
