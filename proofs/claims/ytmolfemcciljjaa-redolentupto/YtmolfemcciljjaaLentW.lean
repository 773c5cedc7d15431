import Derived.Test.YtmolfemcciljjaaParLaw
import Derived.Deep.AppendLies
namespace Go.Proofs.Ytmolfemcciljjaa
open Go.ChangeShapes Go.WideShapes Go.ChangeAt Go.RowKit
set_option linter.unusedVariables false
set_option maxRecDepth 100000
/-- A mark. -/
def mkW (b : Int) (i : Nat) : W3 := (b + (i : Int), ⟨#[]⟩, ⟨#[]⟩)
/-- A row's value: as long as it has room. -/
def rowV (sp : Nat → Option Addr) (ns : Nat → Nat) (i : Nat) : Value := .slice (sp i) (ns i) (ns i)
theorem ownW.keepB {w w' : World} {B : Nat} {v : Value} {xs : List W3} (h : ownW w B v xs) (hk : ∀ b, v.ownBlock = some b → w'.heap[b]? = w.heap[b]?) : ownW w' B v xs := by
  rcases h with ⟨h1, h2 | ⟨g, cap, cur, rfl, hb, hg, hr⟩⟩
  · exact ⟨h1, .inl h2⟩
  · exact ⟨h1, .inr ⟨g, cap, cur, rfl, hb, by rw [hk g rfl]; exact hg, hr⟩⟩
/-- Many rows, each apart; nothing else is touched. -/
structure PW (w W : World) (B N : Nat) (sp : Nat → Option Addr) (ns : Nat → Nat) (cont : Nat → List W3) : Prop where
  bel : Below B w W
  oth : ∀ k, k < w.heap.size → (∀ i, i < N → ∀ g, sp i = some ⟨g, 0, none⟩ → g ≠ k) → W.heap[k]? = w.heap[k]?
  own : ∀ i, i < N → ownW W B (rowV sp ns i) (cont i)
  len : ∀ i, i < N → (cont i).length = ns i
/-- What the rows are: apart, and not the row of rows. -/
structure RW (w : World) (B N ga : Nat) (sp : Nat → Option Addr) (ns : Nat → Nat) : Prop where
  all : ∀ i, i < N → w.cell? ⟨ga, i, none⟩ = some (rowV sp ns i)
  lga : ga < w.heap.size
  dis : ∀ i j g, i < N → j < N → i ≠ j → sp i = some ⟨g, 0, none⟩ → sp j ≠ some ⟨g, 0, none⟩
  nga : ∀ i g, i < N → sp i = some ⟨g, 0, none⟩ → g ≠ ga
  small : ∀ i, i < N → ns i ≤ 128
  many : N ≤ 4398046511104
theorem PW.all {w W : World} {B N ga : Nat} {sp : Nat → Option Addr} {ns : Nat → Nat} {cont : Nat → List W3} (h : PW w W B N sp ns cont) (r : RW w B N ga sp ns) (i : Nat) (hi : i < N) : W.cell? ⟨ga, i, none⟩ = some (.slice (sp i) (ns i) (ns i)) := by
  have e := h.oth ga r.lga (fun j hj g hg => r.nga j g hj hg)
  have := r.all i hi
  simp only [World.cell?, e] at this ⊢
  exact this
theorem PW.put {w W : World} {B N ga : Nat} {sp : Nat → Option Addr} {ns : Nat → Nat} {cont : Nat → List W3} (h : PW w W B N sp ns cont) (r : RW w B N ga sp ns) (i : Nat) (hi : i < N) (g : Nat) (hg : sp i = some ⟨g, 0, none⟩) (k : Nat) (hk : k < ns i) (x : W3) :
    PW w (putW W g k x) B N sp ns (fun j => if j = i then (cont i).set k x else cont j) := by
  have hoi := h.own i hi
  have hB : B ≤ g := (World.ownsRow.lt hoi g (by unfold rowV; rw [hg]; rfl)).1
  refine ⟨?_, fun k' hk' hn => ?_, fun j hj => ?_, fun j hj => ?_⟩
  · unfold putW
    exact ((h.bel.setCell (p := ⟨g, _, none⟩) hB _).setCell (p := ⟨g, _, none⟩) hB _).setCell (p := ⟨g, _, none⟩) hB _
  · rw [putW_heap _ _ _ _ _ (fun e => hn i hi g hg e.symm)]; exact h.oth k' hk' hn
  · by_cases e : j = i
    · subst e
      simp only [if_true]
      unfold rowV at hoi ⊢
      rw [hg] at hoi ⊢
      exact hoi.put (h.len j hi) k hk x
    · simp only [if_neg e]
      refine (h.own j hj).keepB (fun b hb => putW_heap _ _ _ _ _ (fun e2 => ?_))
      subst e2
      unfold rowV at hb
      cases hs : sp j with
      | none => rw [hs] at hb; cases hb
      | some a =>
        have ho := (h.own j hj).2
        unfold rowV at ho
        rw [hs] at ho hb
        rcases ho with ⟨hv, _⟩ | ⟨g', c', cur', hv, _⟩
        · cases hv
        · simp only [Value.slice.injEq, Option.some.injEq] at hv
          obtain ⟨rfl, _, _⟩ := hv
          have : g' = b := by simpa [Value.ownBlock] using hb
          subst this
          exact r.dis j i g' hj hi e hs hg
  · by_cases e : j = i
    · subst e; simp only [if_true, List.length_set]; exact h.len j hj
    · simp only [if_neg e]; exact h.len j hj
theorem PW.at {w W : World} {B N : Nat} {sp : Nat → Option Addr} {ns : Nat → Nat} {cont : Nat → List W3} (h : PW w W B N sp ns cont) (i : Nat) (hi : i < N) (k : Nat) (hk : k < ns i) : ∃ g, sp i = some ⟨g, 0, none⟩ ∧ (∃ a b c, W.cell? ⟨g, k * 3, none⟩ = some a ∧ W.cell? ⟨g, k * 3 + 1, none⟩ = some b ∧ W.cell? ⟨g, k * 3 + 2, none⟩ = some c) ∧ ∀ j, W.frozen? ⟨g, j, none⟩ = false := by
  obtain ⟨g, e, _, c0, c1, c2, fz⟩ := (show ownW W B (.slice (sp i) (ns i) (ns i)) (cont i) from h.own i hi).at k (by rw [h.len i hi]; exact hk)
  exact ⟨g, e, ⟨_, _, _, c0, c1, c2⟩, fz⟩
theorem take_mark {l : List W3} {k : Nat} (x : W3) (hk : k < l.length) (h : l.take k = List.replicate k x) : (l.set k x).take (k + 1) = List.replicate (k + 1) x := by
  rw [List.take_add_one, List.getElem?_set_self hk]
  simp [List.take_set_of_le, h, List.replicate_succ']
/-! Rows of rows, and a row that must move. -/
theorem infoSW : (Try.prog.info? 23).map (fun i => (i.zero, i.size, i.bytes)) = some (some (.slice none 0 0), 1, 24) := by kernel_rfl
def ownRW (w : World) (B : Nat) (v : Value) (xs : List Value) : Prop := w.ownsRow B 23 1 v xs.length xs
theorem ownRW_nil (w : World) (B : Nat) : ownRW w B (.slice none 0 0) [] := World.ownsRow_nil _ _ _ _
theorem ownRW.same {w w' : World} {B : Nat} {v : Value} {xs : List Value} (h : ownRW w B v xs) (hk : ∀ k, k < w.heap.size → B ≤ k → w'.heap[k]? = w.heap[k]?) : ownRW w' B v xs := by
  rcases h with ⟨h1, h2 | ⟨g, cap, cur, rfl, hb, hg, hr⟩⟩
  · exact ⟨h1, .inl h2⟩
  · exact ⟨h1, .inr ⟨g, cap, cur, rfl, hb, by rw [hk g (Array.getElem?_eq_some_iff.1 hg).1 hb]; exact hg, hr⟩⟩
theorem ownRW.form {w : World} {B : Nat} {v : Value} {xs : List Value} (h : ownRW w B v xs) : ∃ ao cap, v = .slice ao xs.length cap ∧ xs.length ≤ cap ∧ ∀ j (hj : j < xs.length), ∃ g, ao = some ⟨g, 0, none⟩ ∧ w.cell? ⟨g, j, none⟩ = some xs[j] := by
  have hh := h
  rcases h.2 with ⟨e, e2⟩ | ⟨g, cap, cur, e, hb, hg, hnc, hm, hs, ht⟩
  · exact ⟨none, 0, by rw [e, e2], by omega, fun j hj => by omega⟩
  · subst e
    refine ⟨some ⟨g, 0, none⟩, cap, rfl, hnc, fun j hj => ⟨g, rfl, ?_⟩⟩
    unfold ownRW at hh
    rw [World.ownsRow.cellAt hh j (by omega), List.getElem?_eq_getElem hj]
theorem app_rowW {W wr : World} {ops : Array Oper} {rest : List Oper} {o : Oper} {a : Act} {Q : Exit → Act → World → Prop} (nw : List Value) (hone : ∀ u ∈ nw, u.oneCell' = true) (hn2 : nw.length ≤ 2) (hW : W = wr.alloc (.cells nw.toArray 23)) (hgd : o.guard = none) (s x : Operand)
    (ho : o.op = .call { callee := .builtin .append, args := #[s, x], argTypes := #[39, 39] })
    (B : Nat) (v : Value) (xs : List Value) (hown : ownRW wr B v xs) (hs : a.eval s = v) (g : Nat) (hg : g = wr.heap.size) (hx : a.eval x = .slice (some ⟨g, 0, none⟩) nw.length nw.length)
    (hlen : xs.length ≤ 4398046511104) (hB : B ≤ wr.heap.size)
    (h : ∀ v' w', ownRW w' B v' (xs ++ nw) → Below B wr w' → (∀ B' u us, ownW wr B' u us → ownW w' B' u us) → wpList Try.prog ops Q rest (a.put o.dst v') w') :
    wpList Try.prog ops Q (o :: rest) a W := by
  subst hW
  subst hg
  obtain ⟨i0, hi, hz0, hz1, hz2⟩ := info_parts infoSW
  refine wpList_append_own _ hgd s x 39 ho B 23 i0 (.slice none 0 0) 1 24 Try.underlying39 hi hz0 hz1 hz2 rfl (by decide) v xs.length _ hs (World.ownsRow.alloc hown _)
    ⟨wr.heap.size, 0, none⟩ nw.length nw.length nw hx (by simp) ?_ hone (by unfold maxLen; omega) (by omega) (by simp; omega) ?_
  · have := World.news_of_block (w := wr.alloc (.cells nw.toArray 23)) (cs := nw.toArray) (heap_alloc_new wr _)
    simpa using this
  · intro v' w' hown' hgrow _
    refine h v' w' ?_ ?_ (fun B' u us hu => ?_)
    · unfold ownRW; rw [List.length_append]; exact hown'
    · exact ((Below.refl _ _).alloc hB _).grown hgrow (by simp; omega) (fun k hk => (World.ownsRow.lt hown k hk).1)
    · exact World.ownsRow.kept (World.ownsRow.alloc hu _) hgrow (rows_neC hu hown (by decide))
/-- One write behind a row with no room: a new row, and all that was stays. -/
theorem app_fullW {wr : World} {ops : Array Oper} {rest : List Oper} {o : Oper} {a : Act} {Q : Exit → Act → World → Prop} (hgd : o.guard = none) (s x : Operand)
    (ho : o.op = .call { callee := .builtin .append, args := #[s, x], argTypes := #[23, 23] })
    (B : Nat) (ao : Option Addr) (n : Nat) (vs : List W3) (c : W3) (hn : vs.length = n) (hown : ownW wr B (.slice ao n n) vs) (hs : a.eval s = .slice ao n n) (g : Nat) (hg : g = wr.heap.size) (hx : a.eval x = .slice (some ⟨g, 0, none⟩) 1 1)
    (hlen : n ≤ 1048576)
    (h : ∀ v' w', ownW w' wr.heap.size v' (vs ++ [c]) → Below wr.heap.size wr w' → wpList Try.prog ops Q rest (a.put o.dst v') w') :
    wpList Try.prog ops Q (o :: rest) a (wr.alloc (.cells #[.int .i64 c.1, .string c.2.1, .string c.2.2] 47)) := by
  subst hg
  subst hn
  obtain ⟨i0, hi, hz0, hz1, hz2⟩ := info_parts infoW
  have hnews : ∀ j u, (cellW c)[j]? = some u → (wr.alloc (.cells #[.int .i64 c.1, .string c.2.1, .string c.2.2] 47)).cell? ((⟨wr.heap.size, 0, none⟩ : Addr).add j) = some u := by
    intro j u hj
    match j, hj with
    | 0, hj => simp [cellW] at hj; subst hj; simp [Addr.add]
    | 1, hj => simp [cellW] at hj; subst hj; simp [Addr.add]
    | 2, hj => simp [cellW] at hj; subst hj; simp [Addr.add]
  have hone : ∀ u ∈ cellW c, u.oneCell' = true := by intro u hu; simp [cellW] at hu; rcases hu with rfl | rfl | rfl <;> rfl
  have hvl : (vs ++ [c]).length = vs.length + 1 := by simp
  have hcl : cellsW (vs ++ [c]) = cellsW vs ++ cellW c := by simp [cellsW]
  have hsz := sizeAl wr (.cells #[.int .i64 c.1, .string c.2.1, .string c.2.2] 47)
  have hownA := World.ownsRow.alloc hown (.cells #[.int .i64 c.1, .string c.2.1, .string c.2.2] 47)
  have fin : ∀ v' w', w'.ownsRow (wr.alloc (.cells #[.int .i64 c.1, .string c.2.1, .string c.2.2] 47)).heap.size 47 3 v' (vs.length + 1) (cellsW vs ++ cellW c) → (wr.alloc (.cells #[.int .i64 c.1, .string c.2.1, .string c.2.2] 47)).grownBy w' none → wpList Try.prog ops Q rest (a.put o.dst v') w' := by
    intro v' w' hown' hgrow
    have ho' : ownW w' (wr.alloc (.cells #[.int .i64 c.1, .string c.2.1, .string c.2.2] 47)).heap.size v' (vs ++ [c]) := by unfold ownW; rw [hvl, hcl]; exact hown'
    exact h v' w' (ho'.base (by omega)) (((Below.refl _ _).alloc (Nat.le_refl _) _).grown hgrow (by omega) (fun k hk => by cases hk))
  rcases hown.2 with ⟨hv, h0⟩ | ⟨g, cap, cur, hv, hb, hgl, hnc⟩
  · simp only [Value.slice.injEq] at hv
    obtain ⟨rfl, hl0, _⟩ := hv
    have hnil : vs = [] := List.length_eq_zero_iff.1 h0
    subst hnil
    exact wpList_append_grows _ hgd s x 23 ho 47 i0 (.agg #[.int .i64 0, .string ⟨#[]⟩, .string ⟨#[]⟩]) 3 40 Try.underlying23 hi hz0 hz1 hz2 rfl (by decide) none 0 0 [] hs (fun _ => ⟨rfl, rfl⟩) rfl (fun b hb => by cases hb)
      ⟨wr.heap.size, 0, none⟩ 1 1 (cellW c) hx rfl hnews hone (by omega) (by unfold maxLen; omega) (by omega) fin
  · simp only [Value.slice.injEq] at hv
    obtain ⟨rfl, _, _⟩ := hv
    have hcells : ∀ j u, (cellsW vs)[j]? = some u → (wr.alloc (.cells #[.int .i64 c.1, .string c.2.1, .string c.2.2] 47)).cell? ((⟨g, 0, none⟩ : Addr).add j) = some u := by
      intro j u hj
      have hjl : j < vs.length * 3 := by
        rcases Nat.lt_or_ge j (vs.length * 3) with h | h
        · exact h
        · rw [List.getElem?_eq_none (by rw [cellsW_len]; exact h)] at hj; cases hj
      have ea : (⟨g, 0, none⟩ : Addr).add j = ⟨g, j, none⟩ := by unfold Addr.add; split <;> simp_all
      rw [ea, World.ownsRow.cellAt hownA j hjl]
      exact hj
    exact wpList_append_grows _ hgd s x 23 ho 47 i0 (.agg #[.int .i64 0, .string ⟨#[]⟩, .string ⟨#[]⟩]) 3 40 Try.underlying23 hi hz0 hz1 hz2 rfl (by decide) (some ⟨g, 0, none⟩) vs.length vs.length (cellsW vs) hs (fun h => by cases h) (cellsW_len vs) (fun b hb => by cases hb; exact hcells)
      ⟨wr.heap.size, 0, none⟩ 1 1 (cellW c) hx rfl hnews hone (by omega) (by unfold maxLen; omega) (by omega) fin
/-- What a grown row holds. -/
def cont9 (ns : Nat → Nat) (j t : Nat) : List W3 := List.replicate (ns j) (mkW 7000 j) ++ List.replicate t (mkW 9000 j)
theorem cont9_len (ns : Nat → Nat) (j t : Nat) : (cont9 ns j t).length = ns j + t := by simp [cont9]
theorem cont9_more (ns : Nat → Nat) (j t : Nat) : cont9 ns j t ++ [mkW 9000 j] = cont9 ns j (t + 1) := by simp [cont9, List.replicate_succ']
/-- The grown rows so far. -/
structure QW (W1 W : World) (ns : Nat → Nat) (gv : Value) (hl : List Value) : Prop where
  bel : Below W1.heap.size W1 W
  own : ownRW W W1.heap.size gv hl
  see : ∀ j (h : j < hl.length), ownW W W1.heap.size hl[j] (cont9 ns j 20)
theorem QW.step {W1 W W' : World} {ns : Nat → Nat} {gv : Value} {hl : List Value} (h : QW W1 W ns gv hl) (hb : Below W.heap.size W W') : QW W1 W' ns gv hl := by
  have hk : ∀ k, k < W.heap.size → W1.heap.size ≤ k → W'.heap[k]? = W.heap[k]? := fun k hk _ => hb.block k hk
  exact ⟨h.bel.trans (hb.mono h.bel.size), h.own.same hk, fun j hj => (h.see j hj).same hk⟩
theorem QW.push {W1 W W' : World} {ns : Nat → Nat} {gv gv' l : Value} {hl : List Value} (h : QW W1 W ns gv hl) (hl' : ownW W W1.heap.size l (cont9 ns hl.length 20)) (ho : ownRW W' W1.heap.size gv' (hl ++ [l])) (hb : Below W1.heap.size W W') (hk : ∀ B' u us, ownW W B' u us → ownW W' B' u us) : QW W1 W' ns gv' (hl ++ [l]) := by
  refine ⟨h.bel.trans hb, ho, fun j hj => ?_⟩
  by_cases e : j < hl.length
  · rw [List.getElem_append_left e]; exact hk _ _ _ (h.see j e)
  · have e2 : j = hl.length := by simp at hj; omega
    subst e2
    simp only [List.getElem_append_right (Nat.le_refl _), Nat.sub_self, List.getElem_cons_zero]
    exact hk _ _ _ hl'
/-- A row while it grows. -/
def LW (Wi W : World) (sp : Nat → Option Addr) (ns : Nat → Nat) (i t : Nat) (l : Value) : Prop :=
  Below Wi.heap.size Wi W ∧ ((t = 0 ∧ l = .slice (sp i) (ns i) (ns i)) ∨ (0 < t ∧ ownW W Wi.heap.size l (cont9 ns i t)))
theorem ownW.isSliceN {w : World} {B : Nat} {v : Value} {vs : List W3} (h : ownW w B v vs) : ∃ sp cp, v = .slice sp vs.length cp := by
  rcases h.2 with ⟨hv, hn⟩ | ⟨g, c, cur, hv, _⟩
  · exact ⟨none, 0, by rw [hv, hn]⟩
  · exact ⟨_, _, hv⟩
theorem eqSelf (x : W3) (w : World) : (Op.equalIn 10000 47 (.agg #[.int .i64 x.1, .string x.2.1, .string x.2.2]) (.agg #[.int .i64 x.1, .string x.2.1, .string x.2.2])).run Try.prog w = .ok true w := by
  rw [eqW x x w]; simp
set_option maxHeartbeats 6400000 in
theorem apartW (N ga cap B : Nat) (sp : Nat → Option Addr) (ns : Nat → Nat) (cont : Nat → List W3) (w : World) (hr : RW w B N ga sp ns) (hp : PW w w B N sp ns cont) (hc : N ≤ cap) (hB : B ≤ w.heap.size) :
    Calls Try.prog 11 #[.slice (some ⟨ga, 0, none⟩) N cap] w fun e w' => e = .returned (.bool true) ∧ Below B w w' ∧ (∀ k, k < w.heap.size → (∀ i, i < N → ∀ g, sp i = some ⟨g, 0, none⟩ → g ≠ k) → w'.heap[k]? = w.heap[k]?) := by
  have HR : Hid (RW w B N ga sp ns) := hr
  have HP : Hid (PW w w B N sp ns cont) := hp
  have hmany := hr.many
  have HBw : Hid (B ≤ w.heap.size) := hB
  clear hr hp hB
  go_enter Try.func11, Try.ntmps11
  go_wp2_with fail
  go_loopw [4] (fun x wr => ∃ i : Nat, i ≤ N ∧ x = .int .i64 i ∧ ∃ c : Nat → List W3, PW w wr B N sp ns c ∧ ∀ j, j < i → c j = List.replicate (ns j) (mkW 7000 j)) (fun x _ => N - (intOf x).toNat)
  case atStart => exact ⟨0, Nat.zero_le _, rfl, cont, HP.out, fun j hj => by omega⟩
  case round =>
    obtain ⟨i, hi, rfl, c, hP, hd⟩ := hrel
    have HPi : Hid (PW w wr B N sp ns c) := hP
    have HDi : Hid (∀ j, j < i → c j = List.replicate (ns j) (mkW 7000 j)) := hd
    clear hP hd HP
    by_cases hlt : i < N
    · have hsm := HR.out.small i hlt
      go_wp2_with fail
      go_loopw [5] (fun x wr => ∃ k : Nat, k ≤ ns i ∧ x = .int .i64 k ∧ ∃ c : Nat → List W3, PW w wr B N sp ns c ∧ (∀ j, j < i → c j = List.replicate (ns j) (mkW 7000 j)) ∧ (c i).take k = List.replicate k (mkW 7000 i)) (fun x _ => ns i - (intOf x).toNat)
      case atStart => exact ⟨0, Nat.zero_le _, rfl, c, HPi.out, HDi.out, rfl⟩
      case round =>
        obtain ⟨k, hk, rfl, c2, hP2, hd2, ht2⟩ := hrel
        have HP2 : Hid (PW w wr B N sp ns c2) := hP2
        have HD2 : Hid ((∀ j, j < i → c2 j = List.replicate (ns j) (mkW 7000 j)) ∧ (c2 i).take k = List.replicate k (mkW 7000 i)) := ⟨hd2, ht2⟩
        have ca := hP2.all HR.out i hlt
        clear hP2 hd2 ht2
        by_cases hkl : k < ns i
        · obtain ⟨g, hg, ⟨a, b, cc, u0, u1, u2⟩, fz⟩ := HP2.out.at i hlt k hkl
          have f0 := fz (k * 3)
          have f1 := fz (k * 3 + 1)
          have f2 := fz (k * 3 + 2)
          have HP3 : Hid _ := HP2.out.put HR.out i hlt g hg k hkl (mkW 7000 i)
          have HD3 : Hid ((∀ j, j < i → (fun j => if j = i then (c2 i).set k (mkW 7000 i) else c2 j) j = List.replicate (ns j) (mkW 7000 j)) ∧ ((fun j => if j = i then (c2 i).set k (mkW 7000 i) else c2 j) i).take (k + 1) = List.replicate (k + 1) (mkW 7000 i)) := by
            refine ⟨fun j hj => ?_, ?_⟩
            · simp only [if_neg (show j ≠ i by omega)]; exact HD2.out.1 j hj
            · simp only [if_true]; exact take_mark _ (by rw [HP2.out.len i hlt]; exact hkl) HD2.out.2
          rw [hg] at ca
          have hw7 : IntKind.i64.wrap ((7000 : Int) + (i : Int)) = (7000 : Int) + (i : Int) := by rw [IntKind.wrap_i64]; omega
          clear fz HP2 HD2
          go_wp2
          go_roundw
          case rel => exact ⟨k + 1, by omega, by go_num, _, HP3.out, HD3.out.1, HD3.out.2⟩
          case measure => simp [intOf]; omega
        · have HD3 : Hid (∀ j, j < i + 1 → c2 j = List.replicate (ns j) (mkW 7000 j)) := by
            intro j hj
            by_cases e : j = i
            · subst e
              have h1 := HD2.out.2
              have e2 : k = ns j := by omega
              rw [e2, List.take_of_length_le (by rw [HP2.out.len j hlt]; exact Nat.le_refl _)] at h1
              exact h1
            · exact HD2.out.1 j (by omega)
          clear HD2
          go_wp2
          refine ⟨⟨i + 1, by omega, by go_num, c2, HP2.out, HD3.out⟩, ?_⟩
          simp [intOf]; omega
    · have HM : Hid (∀ j, j < N → ownW wr B (.slice (sp j) (ns j) (ns j)) (List.replicate (ns j) (mkW 7000 j))) := fun j hj => by
        rw [← HDi.out j (by omega)]; exact HPi.out.own j hj
      have HQ0 : Hid (QW wr wr ns (.slice none 0 0) []) := ⟨Below.refl _ _, ownRW_nil _ _, fun j h => by cases h⟩
      clear HDi
      go_wp2_with fail
      generalize wr = W1 at *
      go_loopw [3, 6] (fun gv x wr => ∃ hl : List Value, hl.length ≤ N ∧ x = .int .i64 hl.length ∧ QW W1 wr ns gv hl) (fun _ x _ => N - (intOf x).toNat)
      case atStart => exact ⟨[], Nat.zero_le _, rfl, HQ0.out⟩
      case round =>
        obtain ⟨hl, hi2, rfl, hQ⟩ := hrel
        obtain ⟨go, gc, hgv, hgc, hgs⟩ := hQ.own.form
        subst hgv
        have HQ : Hid (QW W1 wr ns (.slice go hl.length gc) hl) := hQ
        clear hQ HQ0
        by_cases hlt2 : hl.length < N
        · have hsz1 := HPi.out.bel.size
          have hga1 := HR.out.lga
          have ca := (HQ.out.bel.cell (p := ⟨ga, hl.length, none⟩) (by simp only; omega)).trans (HPi.out.all HR.out hl.length hlt2)
          have HV : Hid (ownW wr B (.slice (sp hl.length) (ns hl.length) (ns hl.length)) (List.replicate (ns hl.length) (mkW 7000 hl.length))) := (HM.out hl.length hlt2).keepB (fun b hb => HQ.out.bel.block b (World.ownsRow.lt (HM.out hl.length hlt2) b hb).2)
          have hsm := HR.out.small hl.length hlt2
          have HI : Hid (∃ i0, i0 = hl.length) := ⟨_, rfl⟩
          clear hsz1 hga1
          go_wp2_with fail
          clear ca
          generalize wr = Wi at *
          go_loopw [7, 8] (fun l x wr => ∃ t : Nat, t ≤ 20 ∧ x = .int .i64 t ∧ LW Wi wr sp ns hl.length t l) (fun _ x _ => 20 - (intOf x).toNat)
          case atStart => exact ⟨0, by omega, rfl, Below.refl _ _, .inl ⟨rfl, rfl⟩⟩
          case round =>
            obtain ⟨t, ht, rfl, hL⟩ := hrel
            have hw9 : IntKind.i64.wrap ((9000 : Int) + (hl.length : Int)) = (9000 : Int) + (hl.length : Int) := by rw [IntKind.wrap_i64]; omega
            by_cases ht2 : t < 20
            · rcases hL with ⟨hb, ⟨rfl, rfl⟩ | ⟨ht0, hown⟩⟩
              · have HB : Hid (Below Wi.heap.size Wi wr) := hb
                have HV2 : Hid (ownW wr B (.slice (sp hl.length) (ns hl.length) (ns hl.length)) (List.replicate (ns hl.length) (mkW 7000 hl.length))) := HV.out.keepB (fun b hb2 => hb.block b (World.ownsRow.lt HV.out b hb2).2)
                clear hb
                go_wp2_with (at_builtin; refine app_fullW (by rfl) _ _ (by rfl) B (sp hl.length) (ns hl.length) _ (mkW 9000 hl.length) (List.length_replicate ..) HV2.out (by rfl) _ rfl (by rfl) (by omega) ?_; intro v' w' ho' hb'; obtain ⟨s', n', c', rfl⟩ := ho'.isSlice; have HL' : Hid (LW Wi w' sp ns hl.length 1 (.slice s' n' c')) := ⟨HB.out.trans (hb'.mono HB.out.size), .inr ⟨by omega, by have h9 := ho'.base HB.out.size; exact h9⟩⟩; clear ho' hb')
                exact ⟨⟨1, by omega, rfl, HL'.out⟩, by simp [intOf]⟩
              · obtain ⟨s1, n1, c1, rfl⟩ := hown.isSlice
                have HB : Hid (Below Wi.heap.size Wi wr) := hb
                have HO : Hid (ownW wr Wi.heap.size (.slice s1 n1 c1) (cont9 ns hl.length t)) := hown
                have HLen : Hid (((cont9 ns hl.length t).length + 1) * 40 ≤ 140737488355328) := by show _ ≤ _; rw [cont9_len]; omega
                clear hb hown
                go_wp2_with (at_builtin; refine app_write (by rfl) _ _ (by rfl) Wi.heap.size _ _ (mkW 9000 hl.length) HO.out (by rfl) _ rfl (by rfl) HLen.out HB.out.size ?_; intro v' w' ho' hb'; obtain ⟨s', n', c', rfl⟩ := ho'.isSlice; have HL' : Hid (LW Wi w' sp ns hl.length (t + 1) (.slice s' n' c')) := ⟨HB.out.trans hb', .inr ⟨by omega, by rw [← cont9_more]; exact ho'⟩⟩; clear ho' hb')
                exact ⟨⟨t + 1, by omega, by go_num, HL'.out⟩, by simp [intOf]; omega⟩
            · rcases hL with ⟨hb, ⟨ht0, _⟩ | ⟨ht0, hown⟩⟩
              · omega
              · obtain ⟨s1, n1, c1, rfl⟩ := hown.isSlice
                have e20 : t = 20 := by omega
                subst e20
                have HQ2 : Hid (QW W1 wr ns (.slice go hl.length gc) hl) := HQ.out.step hb
                have HO : Hid (ownW wr W1.heap.size (.slice s1 n1 c1) (cont9 ns hl.length 20)) := hown.base HQ.out.bel.size
                clear hb hown
                go_wp2_with (at_builtin; refine app_rowW [.slice s1 n1 c1] (by intro u hu; simp at hu; subst hu; rfl) (by simp) rfl (by rfl) _ _ (by rfl) W1.heap.size _ hl HQ2.out.own (by rfl) _ rfl (by rfl) (by omega) HQ2.out.bel.size ?_; intro v' w' ho' hb' hk'; have HQ3 : Hid (QW W1 w' ns v' (hl ++ [.slice s1 n1 c1])) := HQ2.out.push HO.out ho' hb' hk'; clear ho' hb' hk')
                refine ⟨⟨hl ++ [.slice s1 n1 c1], by simp; omega, by simp, HQ3.out⟩, ?_⟩
                simp [intOf]; omega
        · have hN : hl.length = N := by omega
          have HN : Hid (∀ _ : Unit, hl.length = N) := fun _ => hN
          have HGs : Hid (∀ j (hj : j < hl.length), ∃ g, go = some ⟨g, 0, none⟩ ∧ wr.cell? ⟨g, j, none⟩ = some hl[j]) := hgs
          rw [hN] at hgc ⊢
          clear hN hgs hi2 hlt2
          go_wp2_with fail
          generalize wr = Wf at *
          go_loopw [9] (fun x wr => ∃ i : Nat, i ≤ N ∧ x = .int .i64 i ∧ wr = Wf) (fun x _ => N - (intOf x).toNat)
          case atStart => exact ⟨0, Nat.zero_le _, rfl, rfl⟩
          case round =>
            obtain ⟨i, hi, rfl, hwf⟩ := hrel
            subst hwf
            by_cases hlt3 : i < N
            · have hsz1 := HPi.out.bel.size
              have hga1 := HR.out.lga
              have ca := (HQ.out.bel.cell (p := ⟨ga, i, none⟩) (by simp only; omega)).trans (HPi.out.all HR.out i hlt3)
              have HV : Hid (ownW wr B (.slice (sp i) (ns i) (ns i)) (List.replicate (ns i) (mkW 7000 i))) := (HM.out i hlt3).keepB (fun b hb => HQ.out.bel.block b (World.ownsRow.lt (HM.out i hlt3) b hb).2)
              obtain ⟨gg, hgo, cg⟩ := HGs.out i (by rw [HN.out ()]; exact hlt3)
              have hH := HQ.out.see i (by rw [HN.out ()]; exact hlt3)
              obtain ⟨lp, lc, hsl⟩ := hH.isSliceN
              rw [hsl] at hH cg
              rw [cont9_len] at cg hH
              have HH : Hid (ownW wr W1.heap.size (.slice lp (ns i + 20) lc) (cont9 ns i 20)) := hH
              have hsm := HR.out.small i hlt3
              have HGO : Hid (go = some ⟨gg, 0, none⟩) := hgo
              clear hH hsl hsz1 hga1 hgo
              go_wp2_with fail
              go_loopw [11] (fun x w2 => ∃ k : Nat, k ≤ ns i + 20 ∧ x = .int .i64 k ∧ w2 = wr) (fun x _ => ns i + 20 - (intOf x).toNat)
              case atStart => exact ⟨0, Nat.zero_le _, rfl, rfl⟩
              case round =>
                obtain ⟨k, hk, rfl, hw2⟩ := hrel
                subst hw2
                have hgd := guardW
                by_cases hk1 : k < ns i
                · obtain ⟨g, hg, _, u0, u1, u2, _⟩ := HV.out.at k (by simp; exact hk1)
                  simp only [List.getElem_replicate] at u0 u1 u2
                  have hev := fun w => eqSelf (mkW 7000 i) w
                  have hw7 : IntKind.i64.wrap ((7000 : Int) + (i : Int)) = (7000 : Int) + (i : Int) := by rw [IntKind.wrap_i64]; omega
                  rw [hg] at ca
                  clear hg
                  simp only [mkW] at u0 u1 u2 hev
                  go_wp2
                  refine ⟨⟨k + 1, by omega, by go_num, trivial⟩, ?_⟩
                  simp [intOf]; omega
                · by_cases hk2 : k < ns i + 20
                  · obtain ⟨g, hg, _, u0, u1, u2, _⟩ := HH.out.at k (by rw [cont9_len]; exact hk2)
                    have e9 : (cont9 ns i 20)[k]'(by rw [cont9_len]; exact hk2) = mkW 9000 i := by
                      simp only [cont9]
                      rw [List.getElem_append_right (by simp; omega), List.getElem_replicate]
                    rw [e9] at u0 u1 u2
                    have hev := fun w => eqSelf (mkW 9000 i) w
                    have hw9 : IntKind.i64.wrap ((9000 : Int) + (i : Int)) = (9000 : Int) + (i : Int) := by rw [IntKind.wrap_i64]; omega
                    have hgo := HGO.out
                    subst hg
                    subst hgo
                    simp only [mkW] at u0 u1 u2 hev
                    clear e9
                    go_wp2
                    refine ⟨⟨k + 1, by omega, by go_num, trivial⟩, ?_⟩
                    simp [intOf]; omega
                  · go_wp2
                    refine ⟨⟨i + 1, by omega, by go_num, trivial⟩, ?_⟩
                    simp [intOf]; omega
            · go_wp2
              go_ret
              refine ⟨rfl, HPi.out.bel.trans (HQ.out.bel.mono ?_), fun k hk hn => ?_⟩
              · exact Nat.le_trans HBw.out HPi.out.bel.size
              · rw [HQ.out.bel.block k (Nat.lt_of_lt_of_le hk HPi.out.bel.size)]; exact HPi.out.oth k hk hn
end Go.Proofs.Ytmolfemcciljjaa
