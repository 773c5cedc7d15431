import Derived.Test.YtmolfemcciljjaaLentW
import Derived.ArgAppend
import Derived.Deep.DeepAppendRoom
namespace Go.Proofs.Ytmolfemcciljjaa
open Go.ChangeShapes Go.WideShapes Go.ChangeAt Go.RowKit
set_option linter.unusedVariables false
set_option maxRecDepth 100000
abbrev C2 : Type := Int × Value
def mkC (b : Int) (i : Nat) : C2 := (b + (i : Int), .slice none 0 0)
theorem cellsC_set : ∀ (ms : List C2) (k : Nat) (x : C2) (hk : k < ms.length), ((cellsC ms).set (k * 2) (.int .u64 x.1)).set (k * 2 + 1) x.2 = cellsC (ms.set k x)
  | m :: ms, 0, x, _ => by
    have e : ∀ (y : C2) r, cellsC (y :: r) = .int .u64 y.1 :: y.2 :: cellsC r := fun _ _ => rfl
    simp [e]
  | m :: ms, k + 1, x, hk => by
    have e : ∀ (y : C2) r, cellsC (y :: r) = .int .u64 y.1 :: y.2 :: cellsC r := fun _ _ => rfl
    have ih := cellsC_set ms k x (by simpa using hk)
    rw [e, List.set_cons_succ, e, ← ih, show (k + 1) * 2 = k * 2 + 1 + 1 from by omega]
    simp
abbrev putC (W : World) (gr k : Nat) (x : C2) : World := (W.setCell ⟨gr, k * 2, none⟩ (.int .u64 x.1)).setCell ⟨gr, k * 2 + 1, none⟩ x.2
theorem ownC.put {W : World} {B gr cap : Nat} {ms : List C2} {n : Nat} (h : ownC W B (.slice (some ⟨gr, 0, none⟩) n cap) ms) (hn : ms.length = n) (k : Nat) (hk : k < n) (x : C2) : ownC (putC W gr k x) B (.slice (some ⟨gr, 0, none⟩) n cap) (ms.set k x) := by
  unfold ownC at h ⊢
  subst hn
  rw [List.length_set, ← cellsC_set ms k x hk]
  exact ownsRow_set (ownsRow_set h _ _) _ _
theorem putC_heap (W : World) (gr k : Nat) (x : C2) (b : Nat) (hb : b ≠ gr) : (putC W gr k x).heap[b]? = W.heap[b]? := by
  unfold putC
  rw [Below.heap_setCell _ _ _ b hb, Below.heap_setCell _ _ _ b hb]
theorem ownC.keepB {w w' : World} {B : Nat} {v : Value} {xs : List C2} (h : ownC w B v xs) (hk : ∀ b, v.ownBlock = some b → w'.heap[b]? = w.heap[b]?) : ownC w' B v xs := by
  rcases h with ⟨h1, h2 | ⟨g, cap, cur, rfl, hb, hg, hr⟩⟩
  · exact ⟨h1, .inl h2⟩
  · exact ⟨h1, .inr ⟨g, cap, cur, rfl, hb, by rw [hk g rfl]; exact hg, hr⟩⟩
def rowC (sp : Nat → Option Addr) (ns cp : Nat → Nat) (i : Nat) : Value := .slice (sp i) (ns i) (cp i)
structure PC (w W : World) (B N : Nat) (sp : Nat → Option Addr) (ns cp : Nat → Nat) (cont : Nat → List C2) : Prop where
  bel : Below B w W
  oth : ∀ k, k < w.heap.size → (∀ i, i < N → ∀ g, sp i = some ⟨g, 0, none⟩ → g ≠ k) → W.heap[k]? = w.heap[k]?
  own : ∀ i, i < N → ownC W B (rowC sp ns cp i) (cont i)
  len : ∀ i, i < N → (cont i).length = ns i
structure RC2 (w : World) (B N ga : Nat) (sp : Nat → Option Addr) (ns cp : Nat → Nat) : Prop where
  all : ∀ i, i < N → w.cell? ⟨ga, i, none⟩ = some (rowC sp ns cp i)
  lga : ga < w.heap.size
  dis : ∀ i j g, i < N → j < N → i ≠ j → sp i = some ⟨g, 0, none⟩ → sp j ≠ some ⟨g, 0, none⟩
  nga : ∀ i g, i < N → sp i = some ⟨g, 0, none⟩ → g ≠ ga
  small : ∀ i, i < N → ns i ≤ 1048577
  many : N ≤ 1000
/-- A row's block is where its slice points. -/
theorem ownC.blk {W : World} {B : Nat} {ao : Option Addr} {n cap b : Nat} {xs : List C2} (h : ownC W B (.slice ao n cap) xs) (hb : (Value.slice ao n cap).ownBlock = some b) : ao = some ⟨b, 0, none⟩ := by
  rcases h.2 with ⟨hv, _⟩ | ⟨g', c', cur', hv, _⟩
  · simp only [Value.slice.injEq] at hv
    rw [hv.1] at hb
    cases hb
  · simp only [Value.slice.injEq] at hv
    rw [hv.1] at hb ⊢
    have : g' = b := by simpa [Value.ownBlock] using hb
    rw [this]
theorem PC.all {w W : World} {B N ga : Nat} {sp : Nat → Option Addr} {ns cp : Nat → Nat} {cont : Nat → List C2} (h : PC w W B N sp ns cp cont) (r : RC2 w B N ga sp ns cp) (i : Nat) (hi : i < N) : W.cell? ⟨ga, i, none⟩ = some (.slice (sp i) (ns i) (cp i)) := by
  have e := h.oth ga r.lga (fun j hj g hg => r.nga j g hj hg)
  have := r.all i hi
  simp only [World.cell?, e] at this ⊢
  exact this
theorem PC.put {w W : World} {B N ga : Nat} {sp : Nat → Option Addr} {ns cp : Nat → Nat} {cont : Nat → List C2} (h : PC w W B N sp ns cp cont) (r : RC2 w B N ga sp ns cp) (i : Nat) (hi : i < N) (g : Nat) (hg : sp i = some ⟨g, 0, none⟩) (k : Nat) (hk : k < ns i) (x : C2) :
    PC w (putC W g k x) B N sp ns cp (fun j => if j = i then (cont i).set k x else cont j) := by
  have hoi := h.own i hi
  have hB : B ≤ g := (World.ownsRow.lt hoi g (by unfold rowC; rw [hg]; rfl)).1
  refine ⟨?_, fun k' hk' hn => ?_, fun j hj => ?_, fun j hj => ?_⟩
  · unfold putC
    exact (h.bel.setCell (p := ⟨g, _, none⟩) hB _).setCell (p := ⟨g, _, none⟩) hB _
  · rw [putC_heap _ _ _ _ _ (fun e => hn i hi g hg e.symm)]; exact h.oth k' hk' hn
  · by_cases e : j = i
    · subst e
      simp only [if_true]
      unfold rowC at hoi ⊢
      rw [hg] at hoi ⊢
      exact hoi.put (h.len j hi) k hk x
    · simp only [if_neg e]
      refine (h.own j hj).keepB (fun b hb => putC_heap _ _ _ _ _ (fun e2 => ?_))
      subst e2
      exact r.dis j i b hj hi e (ownC.blk (show ownC W B (.slice (sp j) (ns j) (cp j)) (cont j) from h.own j hj) hb) hg
  · by_cases e : j = i
    · subst e; simp only [if_true, List.length_set]; exact h.len j hj
    · simp only [if_neg e]; exact h.len j hj
theorem ownC.froz {W : World} {B : Nat} {g n cap : Nat} {xs : List C2} (h : ownC W B (.slice (some ⟨g, 0, none⟩) n cap) xs) (j : Nat) : W.frozen? ⟨g, j, none⟩ = false := by
  rcases h.2 with ⟨hv, _⟩ | ⟨g', c', cur', hv, _, hg, _⟩
  · cases hv
  · simp only [Value.slice.injEq, Option.some.injEq, Addr.mk.injEq, and_true] at hv
    obtain ⟨rfl, _, _⟩ := hv
    exact frozW hg j
theorem take_markC {l : List C2} {k : Nat} (x : C2) (hk : k < l.length) (h : l.take k = List.replicate k x) : (l.set k x).take (k + 1) = List.replicate (k + 1) x := by
  rw [List.take_add_one, List.getElem?_set_self hk]
  simp [List.take_set_of_le, h, List.replicate_succ']
/-- One commit behind a row of one's own; the row itself stays in sight. -/
theorem app_sightC {wr : World} {ops : Array Oper} {rest : List Oper} {o : Oper} {a : Act} {Q : Exit → Act → World → Prop} (hgd : o.guard = none) (s x : Operand)
    (ho : o.op = .call { callee := .builtin .append, args := #[s, x], argTypes := #[33, 33] })
    (B : Nat) (v : Value) (xs : List C2) (c : C2) (h1c : c.2.oneCell' = true) (hown : ownC wr B v xs) (hs : a.eval s = v) (g0 : Nat) (hg0 : g0 = wr.heap.size) (hx : a.eval x = .slice (some ⟨g0, 0, none⟩) 1 1)
    (hlen : xs.length ≤ 4194304) (hB : B ≤ wr.heap.size)
    (h : ∀ v' w', ownC w' B v' (xs ++ [c]) → (∀ k, k < wr.heap.size → v.ownBlock ≠ some k → w'.heap[k]? = wr.heap[k]?) → (v'.ownBlock = v.ownBlock ∨ ∀ k, v'.ownBlock = some k → wr.heap.size ≤ k) → (∀ g, v.ownBlock = some g → ∀ j u, (cellsC xs)[j]? = some u → w'.cell? ⟨g, j, none⟩ = some u) → Below B wr w' → wpList Try.prog ops Q rest (a.put o.dst v') w') :
    wpList Try.prog ops Q (o :: rest) a (wr.alloc (.cells #[.int .u64 c.1, c.2] 25)) := by
  subst hg0
  obtain ⟨i0, hi, hz0, hz1, hz2⟩ := info_parts infoCo
  have hsz := sizeAl wr (.cells #[.int .u64 c.1, c.2] 25)
  have hnews : ∀ j u, (cellC c)[j]? = some u → (wr.alloc (.cells #[.int .u64 c.1, c.2] 25)).cell? ((⟨wr.heap.size, 0, none⟩ : Addr).add j) = some u := by
    intro j u hj
    match j, hj with
    | 0, hj => simp [cellC] at hj; subst hj; simp [Addr.add]
    | 1, hj => simp [cellC] at hj; subst hj; simp [Addr.add]
  have hone : ∀ u ∈ cellC c, u.oneCell' = true := by
    intro u hu; simp [cellC] at hu; rcases hu with rfl | rfl
    · rfl
    · exact h1c
  have hvl : (xs ++ [c]).length = xs.length + 1 := by simp
  have hcl : cellsC (xs ++ [c]) = cellsC xs ++ cellC c := by simp [cellsC]
  have hownA := World.ownsRow.alloc hown (.cells #[.int .u64 c.1, c.2] 25)
  rcases hown.2 with ⟨hv, h0⟩ | ⟨g, cap, cur, hv, hb, hgl, hnc, _⟩
  · subst hv
    have hnil : xs = [] := List.length_eq_zero_iff.1 h0
    subst hnil
    refine wpList_append_grows _ hgd s x 33 ho 25 i0 (.agg #[.int .u64 0, .slice none 0 0]) 2 32 Try.underlying33 hi hz0 hz1 hz2 rfl (by decide) none 0 0 [] hs (fun _ => ⟨rfl, rfl⟩) rfl (fun b hb => by cases hb)
      ⟨wr.heap.size, 0, none⟩ 1 1 (cellC c) hx rfl hnews hone (by omega) (by unfold maxLen; omega) (by omega) ?_
    intro v' w' hown' hgrow
    have ho' : ownC w' (wr.alloc (.cells #[.int .u64 c.1, c.2] 25)).heap.size v' ([] ++ [c]) := by unfold ownC; rw [hvl, hcl]; exact hown'
    refine h v' w' (ho'.base (by omega)) (fun k hk _ => ?_) (.inr fun k hk => ?_) (fun g hg => by cases hg) ?_
    · rw [hgrow.block k (by omega) (by simp)]; exact Below.heap_alloc wr _ k hk
    · have := (World.ownsRow.lt hown' k hk).1; omega
    · exact ((Below.refl _ _).alloc hB _).grown hgrow (by omega) (fun k hk => by cases hk)
  · subst hv
    have hglt := (Array.getElem?_eq_some_iff.1 hgl).1
    by_cases hroom : xs.length + 1 ≤ cap
    · refine wpList_append_own_spare _ hgd s x 33 ho B 25 i0 2 Try.underlying33 hi hz1 g xs.length cap _ hs hownA ⟨wr.heap.size, 0, none⟩ 1 1 (cellC c) hx rfl hnews hone hroom ?_
      intro w' hown' hgrow
      have ho' : ownC w' B (.slice (some ⟨g, 0, none⟩) (xs.length + 1) cap) (xs ++ [c]) := by unfold ownC; rw [hvl, hcl]; exact hown'
      refine h _ w' ho' (fun k hk hn => ?_) (.inl rfl) (fun g' hg' j u hj => ?_) ?_
      · rw [hgrow.block k (by omega) (fun e => hn e.symm)]; exact Below.heap_alloc wr _ k hk
      · have : g = g' := by simpa [Value.ownBlock] using hg'
        subst this
        have hjl : j < (cellsC xs).length := by
          rcases Nat.lt_or_ge j (cellsC xs).length with h | h
          · exact h
          · rw [List.getElem?_eq_none h] at hj; cases hj
        rw [World.ownsRow.cellAt hown' j (by rw [cellsC_len] at hjl; omega), List.getElem?_append_left hjl]
        exact hj
      · exact ((Below.refl _ _).alloc hB _).grown hgrow (by omega) (fun k hk => by cases hk; exact hb)
    · have hcells : ∀ j u, (cellsC xs)[j]? = some u → (wr.alloc (.cells #[.int .u64 c.1, c.2] 25)).cell? ⟨g, j, none⟩ = some u := by
        intro j u hj
        have hjl : j < xs.length * 2 := by
          rcases Nat.lt_or_ge j (xs.length * 2) with h | h
          · exact h
          · rw [List.getElem?_eq_none (by rw [cellsC_len]; exact h)] at hj; cases hj
        rw [World.ownsRow.cellAt hownA j hjl]
        exact hj
      refine wpList_append_grows _ hgd s x 33 ho 25 i0 (.agg #[.int .u64 0, .slice none 0 0]) 2 32 Try.underlying33 hi hz0 hz1 hz2 rfl (by decide) (some ⟨g, 0, none⟩) xs.length cap (cellsC xs) hs (fun h => by cases h) (cellsC_len xs)
        (fun b hb => by cases hb; intro j u hj; have ea : (⟨g, 0, none⟩ : Addr).add j = ⟨g, j, none⟩ := by unfold Addr.add; split <;> simp_all
                        rw [ea]; exact hcells j u hj)
        ⟨wr.heap.size, 0, none⟩ 1 1 (cellC c) hx rfl hnews hone (by omega) (by unfold maxLen; omega) (by omega) ?_
      intro v' w' hown' hgrow
      have ho' : ownC w' (wr.alloc (.cells #[.int .u64 c.1, c.2] 25)).heap.size v' (xs ++ [c]) := by unfold ownC; rw [hvl, hcl]; exact hown'
      refine h v' w' (ho'.base (by omega)) (fun k hk _ => ?_) (.inr fun k hk => ?_) (fun g' hg' j u hj => ?_) ?_
      · rw [hgrow.block k (by omega) (by simp)]; exact Below.heap_alloc wr _ k hk
      · have := (World.ownsRow.lt hown' k hk).1; omega
      · have : g = g' := by simpa [Value.ownBlock] using hg'
        subst this
        rw [World.cell?_of_block (w := wr.alloc (.cells #[.int .u64 c.1, c.2] 25)) (hgrow.block g (by omega) (by simp))]
        exact hcells j u hj
      · exact ((Below.refl _ _).alloc hB _).grown hgrow (by omega) (fun k hk => by cases hk)
/-! Rows of rows of commits. -/
theorem infoSC : (Try.prog.info? 33).map (fun i => (i.zero, i.size, i.bytes)) = some (some (.slice none 0 0), 1, 24) := by kernel_rfl
def ownRC (w : World) (B : Nat) (v : Value) (xs : List Value) : Prop := w.ownsRow B 33 1 v xs.length xs
theorem ownRC_nil (w : World) (B : Nat) : ownRC w B (.slice none 0 0) [] := World.ownsRow_nil _ _ _ _
theorem ownRC.keepB {w w' : World} {B : Nat} {v : Value} {xs : List Value} (h : ownRC w B v xs) (hk : ∀ b, v.ownBlock = some b → w'.heap[b]? = w.heap[b]?) : ownRC w' B v xs := by
  rcases h with ⟨h1, h2 | ⟨g, cap, cur, rfl, hb, hg, hr⟩⟩
  · exact ⟨h1, .inl h2⟩
  · exact ⟨h1, .inr ⟨g, cap, cur, rfl, hb, by rw [hk g rfl]; exact hg, hr⟩⟩
theorem ownRC.form {w : World} {B : Nat} {v : Value} {xs : List Value} (h : ownRC w B v xs) : ∃ ao cap, v = .slice ao xs.length cap ∧ xs.length ≤ cap ∧ ∀ j (hj : j < xs.length), ∃ g, ao = some ⟨g, 0, none⟩ ∧ w.cell? ⟨g, j, none⟩ = some xs[j] := by
  have hh := h
  rcases h.2 with ⟨e, e2⟩ | ⟨g, cap, cur, e, hb, hg, hnc, hm, hs, ht⟩
  · exact ⟨none, 0, by rw [e, e2], by omega, fun j hj => by omega⟩
  · subst e
    refine ⟨some ⟨g, 0, none⟩, cap, rfl, hnc, fun j hj => ⟨g, rfl, ?_⟩⟩
    unfold ownRC at hh
    rw [World.ownsRow.cellAt hh j (by omega), List.getElem?_eq_getElem hj]
theorem app_rowC {W wr : World} {ops : Array Oper} {rest : List Oper} {o : Oper} {a : Act} {Q : Exit → Act → World → Prop} (nw : List Value) (hone : ∀ u ∈ nw, u.oneCell' = true) (hn2 : nw.length ≤ 2) (hW : W = wr.alloc (.cells nw.toArray 33)) (hgd : o.guard = none) (s x : Operand)
    (ho : o.op = .call { callee := .builtin .append, args := #[s, x], argTypes := #[42, 42] })
    (B : Nat) (v : Value) (xs : List Value) (hown : ownRC wr B v xs) (hs : a.eval s = v) (g : Nat) (hg : g = wr.heap.size) (hx : a.eval x = .slice (some ⟨g, 0, none⟩) nw.length nw.length)
    (hlen : xs.length ≤ 4398046511104) (hB : B ≤ wr.heap.size)
    (h : ∀ v' w', ownRC w' B v' (xs ++ nw) → Below B wr w' → (∀ k, k < wr.heap.size → v.ownBlock ≠ some k → w'.heap[k]? = wr.heap[k]?) → wpList Try.prog ops Q rest (a.put o.dst v') w') :
    wpList Try.prog ops Q (o :: rest) a W := by
  subst hW
  subst hg
  obtain ⟨i0, hi, hz0, hz1, hz2⟩ := info_parts infoSC
  refine wpList_append_own _ hgd s x 42 ho B 33 i0 (.slice none 0 0) 1 24 Try.underlying42 hi hz0 hz1 hz2 rfl (by decide) v xs.length _ hs (World.ownsRow.alloc hown _)
    ⟨wr.heap.size, 0, none⟩ nw.length nw.length nw hx (by simp) ?_ hone (by unfold maxLen; omega) (by omega) (by simp; omega) ?_
  · have := World.news_of_block (w := wr.alloc (.cells nw.toArray 33)) (cs := nw.toArray) (heap_alloc_new wr _)
    simpa using this
  · intro v' w' hown' hgrow _
    refine h v' w' ?_ ?_ (fun k hk hn => ?_)
    · unfold ownRC; rw [List.length_append]; exact hown'
    · exact ((Below.refl _ _).alloc hB _).grown hgrow (by simp; omega) (fun k hk => (World.ownsRow.lt hown k hk).1)
    · rw [hgrow.block k (by rw [sizeAl]; omega) (fun e => hn e.symm)]; exact Below.heap_alloc wr _ k hk
def con9 (ns : Nat → Nat) (j t : Nat) : List C2 := List.replicate (ns j) (mkC 7000 j) ++ List.replicate t (mkC 9000 j)
theorem con9_len (ns : Nat → Nat) (j t : Nat) : (con9 ns j t).length = ns j + t := by simp [con9]
theorem con9_more (ns : Nat → Nat) (j t : Nat) : con9 ns j t ++ [mkC 9000 j] = con9 ns j (t + 1) := by simp [con9, List.replicate_succ']
theorem con9_zero (ns : Nat → Nat) (j : Nat) : con9 ns j 0 = List.replicate (ns j) (mkC 7000 j) := by simp [con9]
theorem con9_get (ns : Nat → Nat) (j t k : Nat) (hk : k < ns j) : (cellsC (con9 ns j t))[k * 2]? = some (.int .u64 (mkC 7000 j).1) := by
  have h := (cellsC_get (con9 ns j t) k (by rw [con9_len]; omega)).1
  rw [h]
  simp only [con9]
  rw [List.getElem_append_left (by simp; exact hk), List.getElem_replicate]
/-- The marks of a row are in sight. -/
def SgC (W : World) (ao : Option Addr) (n i : Nat) : Prop := ∀ k, k < n → ∃ g, ao = some ⟨g, 0, none⟩ ∧ g < W.heap.size ∧ W.cell? ⟨g, k * 2, none⟩ = some (.int .u64 (mkC 7000 i).1)
theorem SgC.keep {W W' : World} {ao : Option Addr} {n i : Nat} (h : SgC W ao n i) (hs : W.heap.size ≤ W'.heap.size) (hk : ∀ g, ao = some ⟨g, 0, none⟩ → W'.heap[g]? = W.heap[g]?) : SgC W' ao n i := fun k hkn => by
  obtain ⟨g, e, hg, c⟩ := h k hkn
  exact ⟨g, e, by omega, (World.cell?_of_block (w := W) (hk g e)).trans c⟩
/-- A row while it grows. -/
structure LC (Wi W : World) (B : Nat) (sp : Nat → Option Addr) (ns cp : Nat → Nat) (i t : Nat) (l : Value) : Prop where
  bel : Below B Wi W
  own : ownC W B l (con9 ns i t)
  sig : SgC W (sp i) (ns i) i
  blk : l.ownBlock = (rowC sp ns cp i).ownBlock ∨ ∀ k, l.ownBlock = some k → Wi.heap.size ≤ k
  oth : ∀ k, k < Wi.heap.size → (rowC sp ns cp i).ownBlock ≠ some k → W.heap[k]? = Wi.heap[k]?
theorem LC.next {Wi W W' : World} {B : Nat} {sp : Nat → Option Addr} {ns cp : Nat → Nat} {i t : Nat} {l v' : Value} (h : LC Wi W B sp ns cp i t l) (hlt : ∀ g, sp i = some ⟨g, 0, none⟩ → g < Wi.heap.size)
    (ho : ownC W' B v' (con9 ns i t ++ [mkC 9000 i])) (hoth : ∀ k, k < W.heap.size → l.ownBlock ≠ some k → W'.heap[k]? = W.heap[k]?) (hblk : v'.ownBlock = l.ownBlock ∨ ∀ k, v'.ownBlock = some k → W.heap.size ≤ k) (hsee : ∀ g, l.ownBlock = some g → ∀ j u, (cellsC (con9 ns i t))[j]? = some u → W'.cell? ⟨g, j, none⟩ = some u) (hb : Below B W W') : LC Wi W' B sp ns cp i (t + 1) v' := by
  have hsz := h.bel.size
  refine ⟨h.bel.trans hb, by rw [← con9_more]; exact ho, fun k hk => ?_, ?_, fun k hk hn => ?_⟩
  · obtain ⟨g, e, hg, c⟩ := h.sig k hk
    refine ⟨g, e, Nat.lt_of_lt_of_le hg hb.size, ?_⟩
    by_cases hl : l.ownBlock = some g
    · exact hsee g hl _ _ (con9_get ns i t k hk)
    · exact (World.cell?_of_block (w := W) (hoth g hg hl)).trans c
  · rcases hblk with e | e
    · rw [e]; exact h.blk
    · exact .inr fun k hk => Nat.le_trans hsz (e k hk)
  · rw [hoth k (by omega) ?_]
    · exact h.oth k hk hn
    · intro e
      rcases h.blk with e2 | e2
      · exact hn (e2 ▸ e)
      · have := e2 k e; omega
/-- The grown rows so far. -/
structure QC (W1 W : World) (B N : Nat) (sp : Nat → Option Addr) (ns cp : Nat → Nat) (gv : Value) (hl : List Value) : Prop where
  bel : Below B W1 W
  gown : ownRC W W1.heap.size gv hl
  rest : ∀ j, hl.length ≤ j → j < N → ownC W B (rowC sp ns cp j) (con9 ns j 0)
  sig : ∀ j, j < hl.length → SgC W (sp j) (ns j) j
  gro : ∀ j (h : j < hl.length), ownC W B hl[j] (con9 ns j 20)
  blk : ∀ j (h : j < hl.length), hl[j].ownBlock = (rowC sp ns cp j).ownBlock ∨ ∀ k, hl[j].ownBlock = some k → W1.heap.size ≤ k
  oth : ∀ k, k < W1.heap.size → (∀ j, j < N → ∀ g, sp j = some ⟨g, 0, none⟩ → g ≠ k) → W.heap[k]? = W1.heap[k]?
theorem QC.push {W1 Wi W W' : World} {B N : Nat} {sp : Nat → Option Addr} {ns cp : Nat → Nat} {gv gv' l : Value} {hl : List Value} (h : QC W1 Wi B N sp ns cp gv hl) (hi : hl.length < N)
    (hV : ∀ j g, j < N → sp j = some ⟨g, 0, none⟩ → g < W1.heap.size) (hA : ∀ j a, j < N → sp j = some a → a = ⟨a.block, 0, none⟩) (hdis : ∀ i j g, i < N → j < N → i ≠ j → sp i = some ⟨g, 0, none⟩ → sp j ≠ some ⟨g, 0, none⟩) (hB1 : B ≤ W1.heap.size)
    (hL : LC Wi W B sp ns cp hl.length 20 l) (hgW : ownRC W W1.heap.size gv hl) (ho : ownRC W' W1.heap.size gv' (hl ++ [l])) (hb : Below W1.heap.size W W') (hoth : ∀ k, k < W.heap.size → gv.ownBlock ≠ some k → W'.heap[k]? = W.heap[k]?) : QC W1 W' B N sp ns cp gv' (hl ++ [l]) := by
  have hsz1 := h.bel.size
  have hszi := hL.bel.size
  have hVi : ∀ b, (rowC sp ns cp hl.length).ownBlock = some b → sp hl.length = some ⟨b, 0, none⟩ := fun b hb2 => ownC.blk (h.rest _ (Nat.le_refl _) hi) hb2
  have keepG : ∀ u us, ownC W B u us → ownC W' B u us := fun u us hu => hu.keepB (fun b hb2 => hoth b (World.ownsRow.lt hu b hb2).2 (fun e => by
    rcases rows_neC hu hgW (by decide) with e2 | e2
    · rw [e2] at hb2; cases hb2
    · exact e2 (hb2.trans e.symm)))
  have mid : ∀ u us, ownC Wi B u us → (∀ b, u.ownBlock = some b → sp hl.length ≠ some ⟨b, 0, none⟩) → ownC W' B u us := fun u us hu hne =>
    keepG u us (hu.keepB (fun b hb2 => hL.oth b (World.ownsRow.lt hu b hb2).2 (fun e => hne b hb2 (hVi b e))))
  have low : ∀ k, k < W1.heap.size → sp hl.length ≠ some ⟨k, 0, none⟩ → W'.heap[k]? = Wi.heap[k]? := fun k hk hne => by
    rw [hoth k (by omega) (fun e => by have := (World.ownsRow.lt hgW k e).1; omega)]
    exact hL.oth k (by omega) (fun e => hne (hVi k e))
  have lowW : ∀ k, k < W1.heap.size → W'.heap[k]? = W.heap[k]? := fun k hk => hoth k (by omega) (fun e => by have := (World.ownsRow.lt hgW k e).1; omega)
  refine ⟨(h.bel.trans hL.bel).trans (hb.mono hB1), ho, fun j hj hjN => ?_, fun j hj => ?_, fun j hj => ?_, fun j hj => ?_, fun k hk hn => ?_⟩
  · have hj1 : hl.length + 1 ≤ j := by simpa using hj
    refine mid _ _ (h.rest j (by omega) hjN) (fun b hb2 => ?_)
    exact hdis j hl.length b hjN hi (by omega) (ownC.blk (h.rest j (by omega) hjN) hb2)
  · by_cases e : j < hl.length
    · refine (h.sig j e).keep (by have := hb.size; omega) (fun g hg => low g (hV j g (by omega) hg) (hdis j hl.length g (by omega) hi (by omega) hg))
    · have e2 : j = hl.length := by simp at hj; omega
      subst e2
      exact hL.sig.keep hb.size (fun g hg => lowW g (hV _ g hi hg))
  · by_cases e : j < hl.length
    · rw [List.getElem_append_left e]
      refine mid _ _ (h.gro j e) (fun b hb2 hs => ?_)
      have h1 := hV _ b hi hs
      rcases h.blk j e with e2 | e2
      · rw [e2] at hb2
        cases hsj : sp j with
        | none => unfold rowC at hb2; rw [hsj] at hb2; cases hb2
        | some a =>
          have hab : a.block = b := by unfold rowC at hb2; rw [hsj] at hb2; simpa [Value.ownBlock] using hb2
          have e4 := hA j a (by omega) hsj
          rw [hab] at e4
          subst e4
          exact hdis j hl.length b (by omega) hi (by omega) hsj hs
      · have := e2 b hb2; omega
    · have e2 : j = hl.length := by simp at hj; omega
      subst e2
      simp only [List.getElem_append_right (Nat.le_refl _), Nat.sub_self, List.getElem_cons_zero]
      exact keepG _ _ hL.own
  · by_cases e : j < hl.length
    · rw [List.getElem_append_left e]; exact h.blk j e
    · have e2 : j = hl.length := by simp at hj; omega
      subst e2
      simp only [List.getElem_append_right (Nat.le_refl _), Nat.sub_self, List.getElem_cons_zero]
      rcases hL.blk with e3 | e3
      · exact .inl e3
      · exact .inr fun k hk => Nat.le_trans hsz1 (e3 k hk)
  · rw [low k hk (fun e => hn _ hi k e rfl)]
    exact h.oth k hk hn
end Go.Proofs.Ytmolfemcciljjaa
