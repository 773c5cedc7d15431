import Derived.Test.YtmolfemcciljjaaLentE
namespace Go.Proofs.Ytmolfemcciljjaa
open Go.ChangeShapes Go.WideShapes Go.ChangeAt Go.RowKit
set_option linter.unusedVariables false
set_option maxRecDepth 100000
theorem builtW (w : World) (x y : Value) (B : Nat) (hB : B ≤ w.heap.size) : ownRW (w.alloc (.cells #[x, y] 23)) B (.slice (some ⟨w.heap.size, 0, none⟩) 2 2) [x, y] :=
  ⟨rfl, .inr ⟨w.heap.size, 2, #[x, y], rfl, hB, heap_alloc_new w _, Nat.le_refl _, by unfold maxLen; omega, rfl, rfl⟩⟩
theorem app_rowWK {wr : World} {o : Oper} {a : Act} {K : Act → World → Prop} {Q : Exit → Act → World → Prop} (nw : List Value) (hone : ∀ u ∈ nw, u.oneCell' = true) (hn2 : nw.length ≤ 2) (s x : Operand)
    (ho : o.op = .call { callee := .builtin .append, args := #[s, x], argTypes := #[39, 39] })
    (B : Nat) (v : Value) (xs : List Value) (hown : ownRW wr B v xs) (hs : a.eval s = v) (g : Nat) (hg : g = wr.heap.size) (hx : a.eval x = .slice (some ⟨g, 0, none⟩) nw.length nw.length)
    (hlen : xs.length ≤ 4398046511104) (hB : B ≤ wr.heap.size)
    (h : ∀ v' w', ownRW w' B v' (xs ++ nw) → Below B wr w' → (∀ k, k < wr.heap.size → v.ownBlock ≠ some k → w'.heap[k]? = wr.heap[k]?) → K (a.put o.dst v') w') :
    o.wp Try.prog a (wr.alloc (.cells nw.toArray 23)) K Q := by
  subst hg
  obtain ⟨i0, hi, hz0, hz1, hz2⟩ := info_parts infoSW
  refine wp_append_own _ s x 39 ho B 23 i0 (.slice none 0 0) 1 24 Try.underlying39 hi hz0 hz1 hz2 rfl (by decide) v xs.length _ hs (World.ownsRow.alloc hown _)
    ⟨wr.heap.size, 0, none⟩ nw.length nw.length nw hx (by simp) ?_ hone (by unfold maxLen; omega) (by omega) (by simp; omega) ?_
  · have := World.news_of_block (w := wr.alloc (.cells nw.toArray 23)) (cs := nw.toArray) (heap_alloc_new wr _)
    simpa using this
  · intro v' w' hown' hgrow _
    refine h v' w' ?_ ?_ (fun k hk hn => ?_)
    · unfold ownRW; rw [List.length_append]; exact hown'
    · exact ((Below.refl _ _).alloc hB _).grown hgrow (by simp; omega) (fun k hk => (World.ownsRow.lt hown k hk).1)
    · rw [hgrow.block k (by rw [sizeAl]; omega) (fun e => hn e.symm)]; exact Below.heap_alloc wr _ k hk
abbrev RL : Type := List (Option Addr × List W3)
def valR (r : Option Addr × List W3) : Value := .slice r.1 r.2.length r.2.length
/-- The rows of writes that were gathered. -/
structure RLs (W : World) (B K2 i : Nat) (xs ys : List (Int × Value)) (rl : RL) : Prop where
  own : ∀ r ∈ rl, ownW W B (valR r) r.2 ∧ r.2.length ≤ 128
  pw : rl.Pairwise (fun a b => ∀ g, a.1 = some ⟨g, 0, none⟩ → b.1 ≠ some ⟨g, 0, none⟩)
  src : ∀ r ∈ rl, ∀ g, r.1 = some ⟨g, 0, none⟩ → g < K2 ∨ (∃ j, j < i ∧ ∃ h : j < xs.length, xs[j].2.ownBlock = some g) ∨ (∃ j, j < i ∧ ∃ h : j < ys.length, ys[j].2.ownBlock = some g)
theorem RLs.keep {W W' : World} {B K2 i : Nat} {xs ys : List (Int × Value)} {rl : RL} (h : RLs W B K2 i xs ys rl) (hk : ∀ u us, ownW W B u us → ownW W' B u us) : RLs W' B K2 i xs ys rl := ⟨fun r hr => ⟨hk _ _ (h.own r hr).1, (h.own r hr).2⟩, h.pw, h.src⟩
/-- Where the rows lie. -/
structure Rg (K2 K3 : Nat) (xs ys : List (Int × Value)) : Prop where
  x : ∀ j (h : j < xs.length) g, xs[j].2.ownBlock = some g → K2 ≤ g ∧ g < K3
  y : ∀ j (h : j < ys.length) g, ys[j].2.ownBlock = some g → K3 ≤ g
theorem RLs.push {W : World} {B K2 K3 i : Nat} {xs ys : List (Int × Value)} {rl : RL} {cs : List (Int × List W3)} (h : RLs W B K2 i xs ys rl) (hr : Rg K2 K3 xs ys) (fx : FulD xs cs) (fy : FulD ys cs) (hix : i < xs.length) (hiy : i < ys.length) (gx gy : Nat) (us : List W3)
    (ex : xs[i].2 = valR (some ⟨gx, 0, none⟩, us)) (ey : ys[i].2 = valR (some ⟨gy, 0, none⟩, us)) (ox : ownW W B (valR (some ⟨gx, 0, none⟩, us)) us) (oy : ownW W B (valR (some ⟨gy, 0, none⟩, us)) us) (hu : us.length ≤ 128) :
    RLs W B K2 (i + 1) xs ys (rl ++ [(some ⟨gx, 0, none⟩, us), (some ⟨gy, 0, none⟩, us)]) := by
  have bx : xs[i].2.ownBlock = some gx := by rw [ex]; rfl
  have bY : ys[i].2.ownBlock = some gy := by rw [ey]; rfl
  have rx := hr.x i hix gx bx
  have ry := hr.y i hiy gy bY
  have px : ∀ j, j < i → ∀ hj : j < xs.length, xs[j].2.ownBlock ≠ xs[i].2.ownBlock := fun j hj hjl => List.pairwise_iff_getElem.1 fx.apart j i hjl hix hj
  have py : ∀ j, j < i → ∀ hj : j < ys.length, ys[j].2.ownBlock ≠ ys[i].2.ownBlock := fun j hj hjl => List.pairwise_iff_getElem.1 fy.apart j i hjl hiy hj
  refine ⟨fun r hm => ?_, ?_, fun r hm g hg => ?_⟩
  · rcases List.mem_append.1 hm with hm | hm
    · exact h.own r hm
    · simp only [List.mem_cons, List.not_mem_nil, or_false] at hm
      rcases hm with rfl | rfl
      · exact ⟨ox, hu⟩
      · exact ⟨oy, hu⟩
  · rw [List.pairwise_append]
    refine ⟨h.pw, ?_, fun a ha b hb g hg => ?_⟩
    · simp only [List.pairwise_cons, List.mem_cons, List.not_mem_nil, or_false, forall_eq, List.Pairwise.nil, and_true, false_imp_iff, implies_true]
      intro g hg e
      simp only [Option.some.injEq, Addr.mk.injEq, and_true] at hg e
      omega
    · have hs := h.src a ha g hg
      simp only [List.mem_cons, List.not_mem_nil, or_false] at hb
      intro e
      rcases hb with rfl | rfl
      · have e2 : gx = g := by simpa using e
        subst e2
        rcases hs with h1 | ⟨j, hj, hjl, h1⟩ | ⟨j, hj, hjl, h1⟩
        · omega
        · exact px j hj hjl (h1.trans bx.symm)
        · have := hr.y j hjl _ h1; omega
      · have e2 : gy = g := by simpa using e
        subst e2
        rcases hs with h1 | ⟨j, hj, hjl, h1⟩ | ⟨j, hj, hjl, h1⟩
        · omega
        · have := hr.x j hjl _ h1; omega
        · exact py j hj hjl (h1.trans bY.symm)
  · rcases List.mem_append.1 hm with hm | hm
    · rcases h.src r hm g hg with h1 | ⟨j, hj, h1⟩ | ⟨j, hj, h1⟩
      · exact .inl h1
      · exact .inr (.inl ⟨j, by omega, h1⟩)
      · exact .inr (.inr ⟨j, by omega, h1⟩)
    · simp only [List.mem_cons, List.not_mem_nil, or_false] at hm
      rcases hm with rfl | rfl
      · have e2 : gx = g := by simpa using hg
        subst e2
        exact .inr (.inl ⟨i, by omega, hix, bx⟩)
      · have e2 : gy = g := by simpa using hg
        subst e2
        exact .inr (.inr ⟨i, by omega, hiy, bY⟩)
/-- What stands in the gathering loop. -/
structure LS (w W : World) (K2 i : Nat) (vl vm wv : Value) (xs ys : List (Int × Value)) (cs : List (Int × List W3)) (rl : RL) : Prop where
  two : TwoC w W vl vm xs ys cs
  row : ownRW W w.heap.size wv (rl.map valR)
  rls : RLs W w.heap.size K2 i xs ys rl
  len : rl.length = 2 + 2 * i
theorem LS.step {w W W' : World} {K2 i : Nat} {vl vm wv : Value} {xs ys : List (Int × Value)} {cs : List (Int × List W3)} {rl : RL} (h : LS w W K2 i vl vm wv xs ys cs rl) (hb : Below W.heap.size W W') : LS w W' K2 i vl vm wv xs ys cs rl :=
  ⟨h.two.step hb, h.row.same (fun k hk _ => hb.block k hk), h.rls.keep (fun u us hu => hu.same (fun k hk _ => hb.block k hk)), h.len⟩
theorem LS.push {w W W' : World} {K2 K3 i : Nat} {vl vm wv wv' : Value} {xs ys : List (Int × Value)} {cs : List (Int × List W3)} {rl : RL} (h : LS w W K2 i vl vm wv xs ys cs rl) (hr : Rg K2 K3 xs ys) (fx : FulD xs cs) (fy : FulD ys cs) (hix : i < xs.length) (hiy : i < ys.length) (gx gy : Nat) (us : List W3)
    (ex : xs[i].2 = valR (some ⟨gx, 0, none⟩, us)) (ey : ys[i].2 = valR (some ⟨gy, 0, none⟩, us)) (ox : ownW W w.heap.size (valR (some ⟨gx, 0, none⟩, us)) us) (oy : ownW W w.heap.size (valR (some ⟨gy, 0, none⟩, us)) us) (hu : us.length ≤ 128)
    (ho : ownRW W' w.heap.size wv' (rl.map valR ++ [valR (some ⟨gx, 0, none⟩, us), valR (some ⟨gy, 0, none⟩, us)])) (hb : Below w.heap.size W W') (hoth : ∀ k, k < W.heap.size → wv.ownBlock ≠ some k → W'.heap[k]? = W.heap[k]?) :
    LS w W' K2 (i + 1) vl vm wv' xs ys cs (rl ++ [(some ⟨gx, 0, none⟩, us), (some ⟨gy, 0, none⟩, us)]) := by
  have kW : ∀ B u us, ownW W B u us → ownW W' B u us := fun B u us hu => hu.keepB (fun b hb2 => hoth b (World.ownsRow.lt hu b hb2).2 (fun e => by
    rcases rows_neC hu h.row (by decide) with e2 | e2
    · rw [e2] at hb2; cases hb2
    · exact e2 (hb2.trans e.symm)))
  have kC : ∀ B u us, ownC W B u us → ownC W' B u us := fun B u us hu => hu.keepB (fun b hb2 => hoth b (World.ownsRow.lt hu b hb2).2 (fun e => by
    rcases rows_neC hu h.row (by decide) with e2 | e2
    · rw [e2] at hb2; cases hb2
    · exact e2 (hb2.trans e.symm)))
  refine ⟨⟨h.two.bel.trans hb, kC _ _ _ h.two.ov, h.two.cv.keep (kW _), kC _ _ _ h.two.ou, h.two.cu.keep (kW _)⟩, by rw [List.map_append]; exact ho, (h.rls.push hr fx fy hix hiy gx gy us ex ey ox oy hu).keep (kW _), by rw [List.length_append, h.len]; simp; omega⟩
end Go.Proofs.Ytmolfemcciljjaa
