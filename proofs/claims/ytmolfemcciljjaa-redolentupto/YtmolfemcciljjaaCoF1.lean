import Derived.Test.YtmolfemcciljjaaCoR2
namespace Go.Proofs.Ytmolfemcciljjaa
open Go.ChangeShapes Go.WideShapes Go.ChangeAt Go.RowKit
set_option linter.unusedVariables false
set_option maxRecDepth 100000
/-- What is read of a Blob of a commit at a place: the commit, and the place behind it. -/
def rdBl (s : ByteArray) (p : Nat) : Option ((Int × List W3) × Nat) :=
  if (rbV s p 1048576).2.2 = 0 then match rdCo (rbV s p 1048576).1 with
    | some c => some (c, p + (rbV s p 1048576).2.1)
    | none => none
  else none
def rdBs (s : ByteArray) : Nat → Nat → Option (List (Int × List W3))
  | 0, _ => none
  | n + 1, p => match rdBl s p with
    | none => none
    | some (c, q) => if q < s.size then (match rdBs s n q with | none => none | some l => some (c :: l)) else some [c]
/-- What a body is read as. -/
def rdFr (s : ByteArray) : Option (List (Int × List W3)) := rdBs s (s.size + 1) 0
def restB (s : ByteArray) (done : List (Int × List W3)) (n p : Nat) : Option (List (Int × List W3)) := match rdBs s n p with | none => none | some l => some (done ++ l)
theorem restB_nil (s : ByteArray) (n p : Nat) : restB s [] n p = rdBs s n p := by unfold restB; cases rdBs s n p <;> simp
theorem restB_no {s : ByteArray} {done : List (Int × List W3)} {n p : Nat} (h : rdBl s p = none) : restB s done (n + 1) p = none := by simp [restB, rdBs, h]
theorem restB_last {s : ByteArray} {done : List (Int × List W3)} {n p q : Nat} {c : Int × List W3} (h : rdBl s p = some (c, q)) (hq : ¬ q < s.size) : restB s done (n + 1) p = some (done ++ [c]) := by simp [restB, rdBs, h, hq]
theorem restB_more {s : ByteArray} {done : List (Int × List W3)} {n p q : Nat} {c : Int × List W3} (h : rdBl s p = some (c, q)) (hq : q < s.size) : restB s done (n + 1) p = restB s (done ++ [c]) n q := by
  unfold restB
  rw [show rdBs s (n + 1) p = (match rdBs s n q with | none => none | some l => some (c :: l)) from by simp [rdBs, h, hq]]
  cases rdBs s n q with
  | none => rfl
  | some l => simp
theorem rdBl_in {s : ByteArray} {p q : Nat} {c : Int × List W3} (h : rdBl s p = some (c, q)) : p < q ∧ q ≤ s.size := by
  unfold rdBl at h
  split at h
  · rename_i hc
    have hf := rb_form s p 1048576 hc
    have hl := (uvB_len (((rbV s p 1048576).1.size : Nat) : Int)).2
    cases hr : rdCo (rbV s p 1048576).1 with
    | none => rw [hr] at h; cases h
    | some c' =>
      rw [hr] at h
      simp only [Option.some.injEq, Prod.mk.injEq] at h
      omega
  · cases h
/-! Rows of commits. -/
def cellC (x : Int × Value) : List Value := [.int .u64 x.1, x.2]
def cellsC (xs : List (Int × Value)) : List Value := xs.flatMap cellC
def ownC (w : World) (B : Nat) (v : Value) (xs : List (Int × Value)) : Prop := w.ownsRow B 25 2 v xs.length (cellsC xs)
theorem ownC_nil (w : World) (B : Nat) : ownC w B (.slice none 0 0) [] := World.ownsRow_nil _ _ _ _
theorem ownC.isSlice {w : World} {B : Nat} {v : Value} {xs : List (Int × Value)} (h : ownC w B v xs) : ∃ sp cp, v = .slice sp xs.length cp := by
  rcases h.2 with ⟨hv, hn⟩ | ⟨g, c, cur, hv, _⟩
  · exact ⟨none, 0, by rw [hv, hn]⟩
  · exact ⟨_, _, hv⟩
theorem ownC.same {w w' : World} {B : Nat} {v : Value} {xs : List (Int × Value)} (h : ownC w B v xs) (hk : ∀ k, k < w.heap.size → B ≤ k → w'.heap[k]? = w.heap[k]?) : ownC w' B v xs := by
  rcases h with ⟨h1, h2 | ⟨g, cap, cur, rfl, hb, hg, hr⟩⟩
  · exact ⟨h1, .inl h2⟩
  · exact ⟨h1, .inr ⟨g, cap, cur, rfl, hb, by rw [hk g (Array.getElem?_eq_some_iff.1 hg).1 hb]; exact hg, hr⟩⟩
theorem ownC.base {w : World} {B B' : Nat} {v : Value} {xs : List (Int × Value)} (h : ownC w B v xs) (hb : B' ≤ B) : ownC w B' v xs := by
  rcases h with ⟨h1, h2 | ⟨g, cap, cur, rfl, hg, hc, hr⟩⟩
  · exact ⟨h1, .inl h2⟩
  · exact ⟨h1, .inr ⟨g, cap, cur, rfl, by omega, hc, hr⟩⟩
/-- The commits that lie in a row: each stamp, and each row of writes. -/
def CsIn (w : World) (B : Nat) (xs : List (Int × Value)) (cs : List (Int × List W3)) : Prop := xs.length = cs.length ∧ ∀ z ∈ xs.zip cs, z.1.1 = z.2.1 ∧ ownW w B z.1.2 z.2.2
theorem CsIn.nil (w : World) (B : Nat) : CsIn w B [] [] := ⟨rfl, fun z h => by cases h⟩
theorem CsIn.keep {w w' : World} {B B' : Nat} {xs : List (Int × Value)} {cs : List (Int × List W3)} (h : CsIn w B xs cs) (hk : ∀ u us, ownW w B u us → ownW w' B' u us) : CsIn w' B' xs cs := ⟨h.1, fun z hz => ⟨(h.2 z hz).1, hk _ _ (h.2 z hz).2⟩⟩
theorem CsIn.snoc {w : World} {B : Nat} {xs : List (Int × Value)} {cs : List (Int × List W3)} (h : CsIn w B xs cs) {st : Int} {v : Value} {vs : List W3} (ho : ownW w B v vs) : CsIn w B (xs ++ [(st, v)]) (cs ++ [(st, vs)]) := by
  refine ⟨by simp [h.1], fun z hz => ?_⟩
  rw [List.zip_append h.1, List.mem_append] at hz
  rcases hz with hz | hz
  · exact h.2 z hz
  · simp at hz
    subst hz
    exact ⟨rfl, ho⟩
theorem CsIn.at {w : World} {B : Nat} {xs : List (Int × Value)} {cs : List (Int × List W3)} (h : CsIn w B xs cs) (i : Nat) (hi : i < xs.length) (hj : i < cs.length) : xs[i].1 = cs[i].1 ∧ ownW w B xs[i].2 cs[i].2 := by
  have := h.2 (xs[i], cs[i]) (by
    rw [List.mem_iff_getElem]
    exact ⟨i, by simp [List.length_zip]; omega, by simp⟩)
  exact this
theorem rows_neC {w : World} {B B' e e' k k' n n' : Nat} {v v' : Value} {xs xs' : List Value} (h : w.ownsRow B e k v n xs) (h' : w.ownsRow B' e' k' v' n' xs') (he : e ≠ e') : v.ownBlock = none ∨ v.ownBlock ≠ v'.ownBlock := by
  rcases h.2 with ⟨rfl, _⟩ | ⟨g, cap, cur, rfl, _, h1, _⟩
  · exact Or.inl rfl
  · refine Or.inr fun e1 => ?_
    rcases h'.2 with ⟨rfl, _⟩ | ⟨g', cap', cur', rfl, _, h2, _⟩
    · cases e1
    · have : g = g' := by injection e1
      subst this
      rw [h1] at h2
      injection h2 with h2
      injection h2 with _ h3 _
      exact he h3
theorem app_commitK {wr : World} {o : Oper} {a : Act} {K : Act → World → Prop} {Q : Exit → Act → World → Prop} (s x : Operand)
    (ho : o.op = .call { callee := .builtin .append, args := #[s, x], argTypes := #[33, 33] })
    (B : Nat) (v : Value) (xs : List (Int × Value)) (c : Int × Value) (hown : ownC wr B v xs) (hs : a.eval s = v) (g : Nat) (hg : g = wr.heap.size) (hx : a.eval x = .slice (some ⟨g, 0, none⟩) 1 1)
    (h1 : c.2.oneCell' = true) (hlen : (xs.length + 1) * 32 ≤ 140737488355328) (hB : B ≤ wr.heap.size)
    (h : ∀ v' w', ownC w' B v' (xs ++ [c]) → Below B wr w' → (∀ u us, ownW wr B u us → ownW w' B u us) → K (a.put o.dst v') w') :
    o.wp Try.prog a (wr.alloc (.cells #[.int .u64 c.1, c.2] 25)) K Q := by
  subst hg
  obtain ⟨i0, hi, hz0, hz1, hz2⟩ := info_parts infoCo
  refine wp_append_own _ s x 33 ho B 25 i0 (.agg #[.int .u64 0, .slice none 0 0]) 2 32 Try.underlying33 hi hz0 hz1 hz2 rfl (by decide) v xs.length _ hs (World.ownsRow.alloc hown _)
    ⟨wr.heap.size, 0, none⟩ 1 1 (cellC c) hx rfl ?_ ?_ (by unfold maxLen; omega) (by omega) (by simp; omega) ?_
  · intro j u hj
    match j, hj with
    | 0, hj => simp [cellC] at hj; subst hj; simp [Addr.add]
    | 1, hj => simp [cellC] at hj; subst hj; simp [Addr.add]
  · intro u hu; simp [cellC] at hu; rcases hu with rfl | rfl
    · rfl
    · exact h1
  · intro v' w' hown' hgrow _
    refine h v' w' ?_ ?_ (fun u us hu => ?_)
    · have : (xs ++ [c]).length = xs.length + 1 := by simp
      unfold ownC; rw [this, show cellsC (xs ++ [c]) = cellsC xs ++ cellC c from by simp [cellsC]]; exact hown'
    · exact ((Below.refl _ _).alloc hB _).grown hgrow (by simp; omega) (fun k hk => (World.ownsRow.lt hown k hk).1)
    · exact World.ownsRow.kept (World.ownsRow.alloc hu _) hgrow (rows_neC hu hown (by decide))
theorem app_commit {wr : World} {ops : Array Oper} {rest : List Oper} {o : Oper} {a : Act} {Q : Exit → Act → World → Prop} (hgd : o.guard = none) (s x : Operand)
    (ho : o.op = .call { callee := .builtin .append, args := #[s, x], argTypes := #[33, 33] })
    (B : Nat) (v : Value) (xs : List (Int × Value)) (c : Int × Value) (hown : ownC wr B v xs) (hs : a.eval s = v) (g : Nat) (hg : g = wr.heap.size) (hx : a.eval x = .slice (some ⟨g, 0, none⟩) 1 1)
    (h1 : c.2.oneCell' = true) (hlen : (xs.length + 1) * 32 ≤ 140737488355328) (hB : B ≤ wr.heap.size)
    (h : ∀ v' w', ownC w' B v' (xs ++ [c]) → Below B wr w' → (∀ u us, ownW wr B u us → ownW w' B u us) → wpList Try.prog ops Q rest (a.put o.dst v') w') :
    wpList Try.prog ops Q (o :: rest) a (wr.alloc (.cells #[.int .u64 c.1, c.2] 25)) :=
  wpList_plain hgd fun K hK => app_commitK s x ho B v xs c hown hs g hg hx h1 hlen hB fun v' w' h2 h3 h4 => hK _ _ (h v' w' h2 h3 h4)
end Go.Proofs.Ytmolfemcciljjaa
