import Derived.Test.YtlidkdnfibfnfaaGreatDoorLxS9
import Derived.Lib.SplitLaws
namespace Go.Proofs.YtlidkdnfibfnfaaGreatDoor
open Go.ChangeShapes Go.WideShapes Go.ChangeAt Go.RowKit
set_option linter.unusedVariables false
set_option maxRecDepth 100000
/-- A list with each doubled quote made one. -/
def rpl (c : UInt8) (l : List UInt8) : List UInt8 := Lib.replaceK [c, c] [c] (Lib.count l [c, c]) l
theorem rpl_all (c : UInt8) (l : List UInt8) : Lib.replaceAll l [c, c] [c] = rpl c l := by
  unfold Lib.replaceAll Lib.replace Lib.replaceNum
  rw [if_neg (by simp), if_pos (.inl (by decide))]
  rfl
theorem rpl_nil (c : UInt8) : rpl c [] = [] := by
  unfold rpl
  have : Lib.count [] [c, c] = 0 := Lib.count_miss rfl
  rw [this]
  rfl
theorem rpl_ne (c b : UInt8) (l : List UInt8) (h : b ≠ c) : rpl c (b :: l) = b :: rpl c l := by
  have h0 : List.isPrefixOf [c, c] (b :: l) = false := by simp [List.isPrefixOf, Ne.symm h]
  unfold rpl
  rcases Lib.index_spec l [c, c] with ⟨e, _⟩ | ⟨i, e, _⟩
  · have e1 : Lib.index (b :: l) [c, c] = -1 := by rw [Lib.index, if_neg (by rw [h0]; simp), if_pos (by rw [e]; rfl)]
    rw [Lib.count_miss e1, Lib.count_miss e]
    rfl
  · have hm : ¬ (Lib.index l [c, c] == -1) = true := fun x => by have := beq_iff_eq.1 x; omega
    have e1 : Lib.index (b :: l) [c, c] = ((i + 1 : Nat) : Int) := by rw [Lib.index, if_neg (by rw [h0]; simp), if_neg hm, e]; omega
    rw [Lib.count_hit (by simp) e1, Lib.count_hit (by simp) e]
    have ed : (b :: l).drop (i + 1 + [c, c].length) = l.drop (i + [c, c].length) := by
      rw [show i + 1 + [c, c].length = (i + [c, c].length) + 1 from by omega, List.drop_succ_cons]
    rw [ed, Nat.add_comm 1, Lib.replaceK_hit _ _ _ _ _ e1, Lib.replaceK_hit _ _ _ _ _ e, ed, List.take_succ_cons]
    rfl
theorem rpl_two (c : UInt8) (l : List UInt8) : rpl c (c :: c :: l) = c :: rpl c l := by
  have h0 : List.isPrefixOf [c, c] (c :: c :: l) = true := by simp [List.isPrefixOf]
  have e1 : Lib.index (c :: c :: l) [c, c] = ((0 : Nat) : Int) := by rw [Lib.index, if_pos h0]; rfl
  unfold rpl
  rw [Lib.count_hit (by simp) e1, Nat.add_comm 1, Lib.replaceK_hit _ _ _ _ _ e1]
  rfl
theorem rpl_run (s : ByteArray) (c : UInt8) (p n : Nat) (hn : p + n ≤ s.size) (h : ∀ k, p ≤ k → k < p + n → bA s k ≠ c.toNat) (t : List UInt8) : rpl c (digsL s p (p + n) ++ t) = digsL s p (p + n) ++ rpl c t := by
  induction n generalizing p with
  | zero => rw [Nat.add_zero, digsL_nil]; rfl
  | succ n ih =>
    have hp : p < s.size := by omega
    have hb := h p (Nat.le_refl _) (by omega)
    rw [bA_of hp] at hb
    rw [digsL_cons (by omega) hp, List.cons_append, rpl_ne _ _ _ (fun e => hb (by rw [e])), List.cons_append]
    have := ih (p + 1) (by omega) (fun k h1 h2 => h k (by omega) (by omega))
    rw [show p + (n + 1) = p + 1 + n from by omega, this]
theorem quo_run (s : ByteArray) (q : Nat) (p n : Nat) (hn : p + n ≤ s.size) (h : ∀ k, p ≤ k → k < p + n → bA s k ≠ q) (acc : List UInt8) : quoP s q p acc = quoP s q (p + n) (acc ++ digsL s p (p + n)) := by
  induction n generalizing p acc with
  | zero => rw [Nat.add_zero, digsL_nil, List.append_nil]
  | succ n ih =>
    have hp : p < s.size := by omega
    rw [quoP_step hp (h p (Nat.le_refl _) (by omega)), ih (p + 1) (by omega) (fun k h1 h2 => h k (by omega) (by omega)), show p + (n + 1) = p + 1 + n from by omega, digsL_cons (by omega) hp, List.append_assoc]
    rfl
theorem quo_none (s : ByteArray) (q : Nat) (p : Nat) (hp : p ≤ s.size) (h : ∀ k, p ≤ k → k < s.size → bA s k ≠ q) (acc : List UInt8) : quoP s q p acc = none := by
  have := quo_run s q p (s.size - p) (by omega) (fun k h1 h2 => h k h1 (by omega)) acc
  rw [this, quoP_none (by omega)]
theorem fst_ix (s : ByteArray) (c : UInt8) (p : Nat) (hp : p ≤ s.size) : (Lib.index (s.data.toList.drop p) [c] = -1 ∧ ∀ k, p ≤ k → k < s.size → bA s k ≠ c.toNat) ∨ ∃ n : Nat, Lib.index (s.data.toList.drop p) [c] = n ∧ p + n < s.size ∧ bA s (p + n) = c.toNat ∧ ∀ k, p ≤ k → k < p + n → bA s k ≠ c.toNat := by
  rw [Lib.index_one]
  revert hp
  refine by_size (P := fun p => p ≤ s.size → (Lib.indexByte (s.data.toList.drop p) c = -1 ∧ ∀ k, p ≤ k → k < s.size → bA s k ≠ c.toNat) ∨ ∃ n : Nat, Lib.indexByte (s.data.toList.drop p) c = n ∧ p + n < s.size ∧ bA s (p + n) = c.toNat ∧ ∀ k, p ≤ k → k < p + n → bA s k ≠ c.toNat) s.size (fun p ih hp => ?_) p
  by_cases h : p < s.size
  · rw [drop_at h, Lib.indexByte, byte_eq, ← bA_of h]
    by_cases h10 : bA s p = c.toNat
    · refine .inr ⟨0, ?_, by omega, h10, fun k h1 h2 => by omega⟩
      rw [decide_eq_true h10]
      rfl
    · rw [decide_eq_false h10]
      rcases ih (p + 1) (by omega) (by omega) with ⟨e, hn⟩ | ⟨n, e, h1, h2, h3⟩
      · refine .inl ⟨by rw [e]; rfl, fun k hk hs => ?_⟩
        rcases Nat.eq_or_lt_of_le hk with rfl | hk
        · exact h10
        · exact hn k hk hs
      · refine .inr ⟨n + 1, ?_, by omega, by rw [show p + (n + 1) = p + 1 + n from by omega]; exact h2, fun k hk hs => ?_⟩
        · have hm : ((n : Int) == -1) = false := by simp
          rw [e]
          simp only [hm, Bool.false_eq_true, if_false]
          omega
        · rcases Nat.eq_or_lt_of_le hk with rfl | hk
          · exact h10
          · exact h3 k hk (by omega)
  · rw [drop_out (by omega)]
    exact .inl ⟨rfl, fun k h1 h2 => by omega⟩
theorem digs_join (s : ByteArray) (a b c : Nat) (h1 : a ≤ b) (h2 : b ≤ c) (hc : c ≤ s.size) : digsL s a c = digsL s a b ++ digsL s b c := by
  unfold digsL
  have e : s.data.toList.drop b = (s.data.toList.drop a).drop (b - a) := by rw [List.drop_drop]; congr 1; omega
  rw [e, show c - a = (b - a) + (c - b) from by omega, List.take_add]
theorem digs_two (s : ByteArray) (p : Nat) (c : UInt8) (h : p + 1 < s.size) (h1 : bA s p = c.toNat) (h2 : bA s (p + 1) = c.toNat) : digsL s p (p + 2) = [c, c] ∧ s[p] = c := by
  rw [bA_of (by omega : p < s.size)] at h1
  rw [bA_of h] at h2
  have e1 : s[p] = c := UInt8.toNat_inj.1 h1
  have e2 : s[p + 1] = c := UInt8.toNat_inj.1 h2
  rw [digsL_cons (by omega) (by omega : p < s.size), digsL_cons (by omega) h, show p + 1 + 1 = p + 2 from rfl, digsL_nil, e1, e2]
  exact ⟨rfl, rfl⟩
theorem rest_one {s : ByteArray} {p : Nat} (x : UInt8) (hp : p ≤ s.size) : decide ((s.extract p s.size).extract 0 (ByteArray.mk #[x]).size = ByteArray.mk #[x]) = decide (bA s p = x.toNat) := by
  have e : (s.extract p s.size).extract 0 (ByteArray.mk #[x]).size = s.extract p (min (p + 1) s.size) := by
    rw [ByteArray.extract_extract]
    rfl
  rw [e]
  by_cases h1 : p < s.size
  · have h2 : min (p + 1) s.size = p + 1 := by omega
    rw [h2]
    have h3 : s.extract p (p + 1) = ByteArray.mk #[s[p]] := by
      apply ByteArray.ext
      apply Array.ext'
      have := digsL_ext s p (p + 1)
      rw [this, digsL_cons (by omega) h1, digsL_nil]
    rw [h3, bA_of h1]
    by_cases hx : s[p] = x
    · rw [hx, decide_eq_true rfl, decide_eq_true rfl]
    · rw [decide_eq_false, decide_eq_false]
      · exact fun e => hx (UInt8.toNat_inj.1 e)
      · intro e
        injection e with e
        exact hx (by simpa using e)
  · rw [decide_eq_false, decide_eq_false]
    · intro h
      have h3 := bA_out (s := s) (i := p) (by omega)
      have := x.toNat_lt
      omega
    · intro h
      have h3 : (s.extract p (min (p + 1) s.size)).size = 1 := by rw [h]; rfl
      rw [ByteArray.size_extract] at h3
      omega
end Go.Proofs.YtlidkdnfibfnfaaGreatDoor
