import Derived.Test.YtfofionocnbohaaDoorLkG
namespace Go.Proofs.YtfofionocnbohaaDoor
set_option linter.unusedVariables false
set_option maxRecDepth 100000
theorem index_one : ∀ l : List UInt8, ((37 : UInt8) ∉ l ∧ Lib.index l [37] = -1) ∨ ∃ i : Nat, Lib.index l [37] = (i : Int) ∧ l = l.take i ++ 37 :: l.drop (i + 1) ∧ (37 : UInt8) ∉ l.take i ∧ i < l.length
  | [] => Or.inl ⟨by simp, by simp [Lib.index]⟩
  | b :: l => by
    by_cases h : b = 37
    · subst h
      exact Or.inr ⟨0, by simp [Lib.index, List.isPrefixOf], by simp, by simp, by simp⟩
    · have hp : ([37] : List UInt8).isPrefixOf (b :: l) = false := by simp [List.isPrefixOf, Ne.symm h]
      have hix : Lib.index (b :: l) [37] = if Lib.index l [37] == -1 then -1 else Lib.index l [37] + 1 := by rw [Lib.index, hp]; simp
      rcases index_one l with ⟨h1, h2⟩ | ⟨i, h1, h2, h3, h4⟩
      · refine Or.inl ⟨fun hm => ?_, by rw [hix, h2]; simp⟩
        rcases List.mem_cons.1 hm with hm | hm
        · exact h hm.symm
        · exact h1 hm
      · refine Or.inr ⟨i + 1, ?_, ?_, ?_, by simp; omega⟩
        · rw [hix, h1, if_neg (by simp)]; first | done | simp
        · rw [List.take_succ_cons, List.drop_succ_cons, List.cons_append, ← h2]
        · rw [List.take_succ_cons]
          intro hm
          rcases List.mem_cons.1 hm with hm | hm
          · exact h hm.symm
          · exact h3 hm
def pct : ByteArray := ⟨#[37]⟩
theorem pct_list : pct.data.toList = [37] := rfl
/-- A pattern's pieces between its % signs. -/
def pcsB (s : ByteArray) : List ByteArray := Lib.splitB pct 0 (Lib.countB s pct) s
theorem split_all : ∀ (k : Nat) (s : ByteArray), Lib.countB s pct = k → (Lib.splitB pct 0 k s) ≠ [] ∧ joinP ((Lib.splitB pct 0 k s).map fun p => chL p.data.toList) = chL s.data.toList ∧ (∀ p ∈ Lib.splitB pct 0 k s, (37 : Int) ∉ chL p.data.toList ∧ p.size ≤ s.size)
  | 0, s, h => by
    have hm : (37 : UInt8) ∉ s.data.toList := by
      rcases index_one s.data.toList with ⟨h1, _⟩ | ⟨i, h1, _⟩
      · exact h1
      · have := Lib.countB_hit s pct i (by decide) h1
        omega
    rw [Lib.splitB_zero]
    refine ⟨by simp, rfl, fun p hp => ?_⟩
    rw [List.mem_singleton.1 hp]
    exact ⟨chL_not 37 (by decide) _ hm, Nat.le_refl _⟩
  | k + 1, s, h => by
    rcases index_one s.data.toList with ⟨_, h1⟩ | ⟨i, h1, h2, h3, h4⟩
    · have := Lib.countB_miss s pct h1
      omega
    · have hc := Lib.countB_hit s pct i (by decide) h1
      obtain ⟨e1, e2, e3⟩ := split_all k (s.extract (i + pct.size) s.size) (by omega)
      rw [Lib.splitB_hit pct 0 k s i h1]
      have hx : (s.extract (i + pct.size) s.size).data.toList = s.data.toList.drop (i + 1) := by
        rw [show pct.size = 1 from rfl, ByteArray.data_extract, Array.toList_extract, List.extract_eq_take_drop]
        rw [List.take_of_length_le]
        rw [List.length_drop, Array.length_toList]
        show s.size - (i + 1) ≤ s.size - (i + 1)
        omega
      have hy : (s.extract 0 (i + 0)).data.toList = s.data.toList.take i := Lib.extract_from_zero s i
      have hx2 : (s.extract (i + pct.size) s.size).size ≤ s.size := by rw [ByteArray.size_extract]; omega
      have hy2 : (s.extract 0 (i + 0)).size ≤ s.size := by rw [ByteArray.size_extract]; omega
      refine ⟨by simp, ?_, fun p hp => ?_⟩
      · rcases hs : Lib.splitB pct 0 k (s.extract (i + pct.size) s.size) with _ | ⟨q, ps⟩
        · exact absurd hs e1
        · rw [hs] at e2
          rw [List.map_cons, List.map_cons, joinP, ← List.map_cons (f := fun p : ByteArray => chL p.data.toList), e2, hx, hy]
          conv => rhs; rw [h2, chL_app 37 (by decide)]
          rfl
      · rcases List.mem_cons.1 hp with rfl | hp
        · rw [hy]
          exact ⟨chL_not 37 (by decide) _ h3, hy2⟩
        · have := e3 p hp
          exact ⟨this.1, Nat.le_trans this.2 hx2⟩
/-- The table over a pattern is the search for its pieces. -/
theorem like_all (t s : ByteArray) : lkA (chL t.data.toList) (chL s.data.toList) = grA ((pcsB s).map fun p => chL p.data.toList) (chL t.data.toList) := by
  obtain ⟨h1, h2, h3⟩ := split_all _ s rfl
  rw [← h2]
  refine gr_all _ _ (fun p hp => ?_) (by simpa using h1)
  obtain ⟨q, hq, rfl⟩ := List.mem_map.1 hp
  exact (h3 q hq).1
theorem pcsB_len (s : ByteArray) : (pcsB s).length = Lib.countB s pct + 1 := Lib.splitB_all pct (by decide) 0 _ s rfl
theorem pcsB_size (s : ByteArray) (p : ByteArray) (h : p ∈ pcsB s) : p.size ≤ s.size := ((split_all _ s rfl).2.2 p h).2
end Go.Proofs.YtfofionocnbohaaDoor
