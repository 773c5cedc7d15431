import Derived.Test.YtmolfemcciljjaaLentD
namespace Go.Proofs.Ytmolfemcciljjaa
open Go.ChangeShapes Go.WideShapes Go.ChangeAt Go.RowKit
set_option linter.unusedVariables false
set_option maxRecDepth 100000
/-! What is told of a text, in one form. -/
def dS (s : ByteArray) : Int := match rdCo s with | some (st, _) => st | none => 0
def dE (s : ByteArray) : Int := match rdCo s with | some _ => 0 | none => 112
def dV (s : ByteArray) : List W3 := match rdCo s with | some (_, vs) => vs | none => []
def fE (s : ByteArray) : Int := match rdFr s with | some _ => 0 | none => 112
def fV (s : ByteArray) : List (Int × List W3) := match rdFr s with | some cs => cs | none => []
theorem lenS {s : ByteArray} {st : Int} {vs : List W3} (h : rdCo s = some (st, vs)) : vs.length ≤ 128 := by
  obtain ⟨_, h2⟩ := rdCo_form _ _ _ h
  simp only [mayC, Bool.and_eq_true, decide_eq_true_eq] at h2
  omega
theorem dV_len (s : ByteArray) : (dV s).length ≤ 128 := by
  unfold dV
  split
  · rename_i st vs h; exact lenS h
  · simp
theorem rdBs_all {s : ByteArray} : ∀ (n p : Nat) (l : List (Int × List W3)), rdBs s n p = some l → ∀ c ∈ l, c.2.length ≤ 128
  | 0, p, l, h, c, hc => by cases h
  | n + 1, p, l, h, c, hc => by
    unfold rdBs at h
    cases hx : rdBl s p with
    | none => rw [hx] at h; cases h
    | some y =>
      obtain ⟨c1, q⟩ := y
      rw [hx] at h
      simp only at h
      have h1 : c1.2.length ≤ 128 := by
        unfold rdBl at hx
        split at hx
        · cases hr : rdCo (rbV s p 1048576).1 with
          | none => rw [hr] at hx; cases hx
          | some c2 =>
            rw [hr] at hx
            simp only [Option.some.injEq, Prod.mk.injEq] at hx
            rw [← hx.1]
            exact lenS (st := c2.1) hr
        · cases hx
      split at h
      · cases hm : rdBs s n q with
        | none => rw [hm] at h; cases h
        | some l2 =>
          rw [hm] at h
          simp only [Option.some.injEq] at h
          subst h
          rcases List.mem_cons.1 hc with rfl | hc
          · exact h1
          · exact rdBs_all n q l2 hm c hc
      · simp only [Option.some.injEq] at h
        subst h
        rcases List.mem_cons.1 hc with rfl | hc
        · exact h1
        · cases hc
theorem fV_small (s : ByteArray) : ∀ c ∈ fV s, c.2.length ≤ 128 := by
  unfold fV
  cases h : rdFr s with
  | none => intro c hc; cases hc
  | some cs => exact rdBs_all _ _ _ h
theorem fV_len (s : ByteArray) (hs : s.size ≤ 1048576) : (fV s).length ≤ 1048577 := by
  unfold fV
  cases h : rdFr s with
  | none => simp
  | some cs => exact Nat.le_trans (rdBs_count _ _ _ h) (by omega)
theorem decU (s : ByteArray) (W : World) (hs : s.size ≤ 1048576) : Calls Try.prog 5 #[.string s] W fun e w' => ∃ ao, e = .returned (.tuple #[.agg #[.int .u64 (dS s), .slice ao (dV s).length (dV s).length], .int .i64 (dE s)]) ∧ ownW w' W.heap.size (.slice ao (dV s).length (dV s).length) (dV s) ∧ (ao = none ∨ ∃ g, ao = some ⟨g, 0, none⟩) ∧ Below W.heap.size W w' := by
  refine (decodeF s W (by omega)).mono ?_
  rintro e w' ⟨hb, hm⟩
  unfold dS dE dV
  cases hr : rdCo s with
  | none => rw [hr] at hm; exact ⟨none, hm, ownW_nil _ _, .inl rfl, hb⟩
  | some y =>
    obtain ⟨st, vs⟩ := y
    rw [hr] at hm
    obtain ⟨v, h1, h2, g, h3⟩ := hm
    subst h3
    exact ⟨_, h1, h2, .inr ⟨g, rfl⟩, hb⟩
theorem rdecU (s : ByteArray) (W : World) (hs : s.size ≤ 1048576) : Calls Try.prog 6 #[.string s] W fun e w' => ∃ ao cp, e = .returned (.tuple #[.agg #[.int .u64 (dS s), .slice ao (dV s).length cp], .int .i64 (dE s)]) ∧ ownW w' W.heap.size (.slice ao (dV s).length cp) (dV s) ∧ Below W.heap.size W w' := by
  refine (refDecode s W (by omega)).mono ?_
  rintro e w' ⟨hb, hm⟩
  unfold dS dE dV
  cases hr : rdCo s with
  | none => rw [hr] at hm; exact ⟨none, 0, hm, ownW_nil _ _, hb⟩
  | some y =>
    obtain ⟨st, vs⟩ := y
    rw [hr] at hm
    obtain ⟨v, h1, h2⟩ := hm
    obtain ⟨ao, cp, rfl⟩ := h2.isSliceN
    exact ⟨ao, cp, h1, h2, hb⟩
theorem frmU (s : ByteArray) (W : World) (hs : s.size ≤ 1048576) : Calls Try.prog 9 #[.string s] W fun e w' => ∃ ao cp xs, e = .returned (.tuple #[.slice ao (fV s).length cp, .int .i64 (fE s)]) ∧ ownC w' W.heap.size (.slice ao (fV s).length cp) xs ∧ CsIn w' W.heap.size xs (fV s) ∧ FulD xs (fV s) ∧ Below W.heap.size W w' := by
  refine (frameF s W (by omega)).mono ?_
  rintro e w' ⟨hb, hm⟩
  unfold fE fV
  cases hr : rdFr s with
  | none => rw [hr] at hm; exact ⟨none, 0, [], hm, ownC_nil _ _, CsIn.nil _ _, FulD.nil, hb⟩
  | some cs =>
    rw [hr] at hm
    obtain ⟨v, xs, h1, h2, h3, h4⟩ := hm
    obtain ⟨ao, cp, rfl⟩ := h2.isSlice
    rw [h3.1] at h1 h2
    exact ⟨ao, cp, xs, h1, h2, h3, h4, hb⟩
theorem rfrmU (s : ByteArray) (W : World) (hs : s.size ≤ 1048576) : Calls Try.prog 10 #[.string s] W fun e w' => ∃ ao cp xs, e = .returned (.tuple #[.slice ao (fV s).length cp, .int .i64 (fE s)]) ∧ ownC w' W.heap.size (.slice ao (fV s).length cp) xs ∧ CsIn w' W.heap.size xs (fV s) ∧ Below W.heap.size W w' := by
  refine (refFrame s W (by omega)).mono ?_
  rintro e w' ⟨hb, hm⟩
  unfold fE fV
  cases hr : rdFr s with
  | none => rw [hr] at hm; exact ⟨none, 0, [], hm, ownC_nil _ _, CsIn.nil _ _, hb⟩
  | some cs =>
    rw [hr] at hm
    obtain ⟨v, xs, h1, h2, h3⟩ := hm
    obtain ⟨ao, cp, rfl⟩ := h2.isSlice
    rw [h3.1] at h1 h2
    exact ⟨ao, cp, xs, h1, h2, h3, hb⟩
end Go.Proofs.Ytmolfemcciljjaa
