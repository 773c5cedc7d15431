import Derived.Test.YtmolfemcciljjaaPlainAbove
import Derived.Laws.Strings
namespace Go.Proofs.Ytmolfemcciljjaa
open Go
set_option linter.unusedVariables false
/-- A write: its kind, its key, its data. -/
abbrev W3 := Int × ByteArray × ByteArray
theorem less_total : ∀ x y : List UInt8, (Op.bytesLess x y || x == y) = !Op.bytesLess y x
  | [], [] => by simp [Op.bytesLess]
  | a :: x, [] => by simp [Op.bytesLess]
  | [], b :: y => by simp [Op.bytesLess]
  | a :: x, b :: y => by
    have ih := less_total x y
    rw [less_cons, less_cons]
    rcases Nat.lt_trichotomy a.toNat b.toNat with h | h | h
    · have h1 : a < b := UInt8.lt_iff_toNat_lt.2 h
      have h2 : ¬ b < a := fun h' => by have := UInt8.lt_iff_toNat_lt.1 h'; omega
      have h3 : ¬ b = a := fun h' => by subst h'; omega
      simp [h1, h2, h3]
    · have h1 : a = b := UInt8.toNat_inj.1 h
      subst h1
      have h2 : ¬ a < a := fun h' => by have := UInt8.lt_iff_toNat_lt.1 h'; omega
      simp only [h2, decide_false, Bool.false_or, beq_self_eq_true, Bool.true_and]
      rw [← ih]
      congr 1
      rw [Bool.eq_iff_iff]
      simp
    · have h1 : b < a := UInt8.lt_iff_toNat_lt.2 h
      have h2 : ¬ a < b := fun h' => by have := UInt8.lt_iff_toNat_lt.1 h'; omega
      have h3 : ¬ a = b := fun h' => by subst h'; omega
      simp [h1, h2, h3]
def lessS (a b : ByteArray) : Bool := Op.bytesLess a.toList b.toList
theorem less_yes {a b : ByteArray} (h : lessS a b = true) : Op.bytesLess b.toList a.toList = false ∧ (b.toList == a.toList) = false := by
  have := less_total b.toList a.toList
  unfold lessS at h
  rw [h] at this
  simpa using this
theorem less_no {a b : ByteArray} (h : lessS a b = false) : (Op.bytesLess b.toList a.toList || b.toList == a.toList) = true := by
  rw [less_total]; unfold lessS at h; rw [h]; rfl
def mayW (p : W3) : Bool := decide (1 ≤ p.2.1.size ∧ p.2.1.size ≤ 160) && (decide (p.1 = 1 ∧ p.2.2.size ≤ 512) || decide (p.1 = 2 ∧ p.2.2.size = 0))
/-- May the write number j stand where it stands? -/
def okAt (vs : List W3) (j : Nat) : Bool :=
  match vs[j]? with
  | none => false
  | some p => mayW p && (match j with
    | 0 => true
    | i + 1 => match vs[i]? with
      | none => false
      | some q => lessS q.2.1 p.2.1)
def okAll (vs : List W3) : Bool := (List.range vs.length).all (okAt vs)
/-- May the commit be? -/
def mayC (s : Int) (vs : List W3) : Bool := decide (1 ≤ s ∧ s ≤ 4611686018427387903) && decide (1 ≤ vs.length ∧ vs.length ≤ 128) && okAll vs
theorem okAll_no {vs : List W3} {j : Nat} (hj : j < vs.length) (h : okAt vs j = false) : okAll vs = false := by
  unfold okAll
  rw [Bool.eq_false_iff]
  intro h'
  have := List.all_eq_true.1 h' j (List.mem_range.2 hj)
  rw [h] at this; cases this
theorem okAll_yes {vs : List W3} (h : ∀ j, j < vs.length → okAt vs j = true) : okAll vs = true := List.all_eq_true.2 fun j hj => h j (List.mem_range.1 hj)
theorem okAt_zero {vs : List W3} (h : 0 < vs.length) : okAt vs 0 = mayW vs[0] := by
  unfold okAt
  rw [List.getElem?_eq_getElem h]
  simp
theorem okAt_succ {vs : List W3} {i : Nat} (h : i + 1 < vs.length) : okAt vs (i + 1) = (mayW vs[i + 1] && lessS (vs[i]'(by omega)).2.1 vs[i + 1].2.1) := by
  unfold okAt
  rw [List.getElem?_eq_getElem h]
  simp only
  rw [List.getElem?_eq_getElem (show i < vs.length by omega)]
theorem okAt_no {vs : List W3} {k : Nat} (h : k < vs.length) (hm : mayW vs[k] = false) : okAt vs k = false := by
  cases k with
  | zero => rw [okAt_zero h]; exact hm
  | succ j => rw [okAt_succ h, hm]; rfl
theorem okAt_yes {vs : List W3} {k : Nat} (h : k < vs.length) (hm : mayW vs[k] = true) (hl : ∀ j (hj : j + 1 = k), lessS (vs[j]'(by omega)).2.1 vs[k].2.1 = true) : okAt vs k = true := by
  cases k with
  | zero => rw [okAt_zero h]; exact hm
  | succ j => rw [okAt_succ h, hm, hl j rfl]; rfl
theorem okAt_less {vs : List W3} {k : Nat} (h : k < vs.length) (j : Nat) (hj : j + 1 = k) (hl : lessS (vs[j]'(by omega)).2.1 vs[k].2.1 = false) : okAt vs k = false := by
  subst hj
  rw [okAt_succ h, hl, Bool.and_false]
theorem mayC_len {s : Int} {vs : List W3} (h : mayC s vs = true) : (1 ≤ s ∧ s ≤ 4611686018427387903) ∧ (1 ≤ vs.length ∧ vs.length ≤ 128) ∧ okAll vs = true := by
  unfold mayC at h
  simp only [Bool.and_eq_true, decide_eq_true_eq] at h
  exact ⟨h.1.1, h.1.2, h.2⟩
theorem okAll_get {vs : List W3} (h : okAll vs = true) (j : Nat) (hj : j < vs.length) : mayW vs[j] = true := by
  have := List.all_eq_true.1 h j (List.mem_range.2 hj)
  cases j with
  | zero => rw [okAt_zero hj] at this; exact this
  | succ i => rw [okAt_succ hj] at this; simp only [Bool.and_eq_true] at this; exact this.1
theorem mayW_parts {p : W3} (h : mayW p = true) : 1 ≤ p.2.1.size ∧ p.2.1.size ≤ 160 ∧ p.2.2.size ≤ 512 ∧ (p.1 = 1 ∨ p.1 = 2 ∧ p.2.2.size = 0) := by
  unfold mayW at h
  simp only [Bool.and_eq_true, Bool.or_eq_true, decide_eq_true_eq] at h
  obtain ⟨⟨h1, h2⟩, h3⟩ := h
  rcases h3 with ⟨h3, h4⟩ | ⟨h3, h4⟩
  · exact ⟨h1, h2, h4, .inl h3⟩
  · exact ⟨h1, h2, by omega, .inr ⟨h3, h4⟩⟩
end Go.Proofs.Ytmolfemcciljjaa
