import Derived.Test.YtoomekcglniohaaDoorSpH
namespace Go.Proofs.YtoomekcglniohaaDoor
open Go.ChangeShapes Go.WideShapes Go.ChangeAt Go.RowKit
set_option linter.unusedVariables false
set_option maxRecDepth 100000
/-- The slice value v holds the rows rs, in blocks below B. -/
def SeesRs (w : World) (B : Nat) (v : Value) (rs : List (List VL)) : Prop :=
  ∃ ao cap, v = .slice ao rs.length cap ∧ rs.length ≤ cap ∧ (∀ i (hi : i < rs.length), ∃ b off x, ao = some ⟨b, off, none⟩ ∧ b < B ∧ w.cell? ⟨b, off + i, none⟩ = some x ∧ SeesV w B x rs[i])
theorem SeesRs.later {w w' : World} {B : Nat} {v : Value} {rs : List (List VL)} (h : SeesRs w B v rs) (hb : Below B w w') : SeesRs w' B v rs := by
  obtain ⟨ao, cap, rfl, h1, h3⟩ := h
  refine ⟨ao, cap, rfl, h1, fun i hi => ?_⟩
  obtain ⟨b, off, x, e, hbB, c0, c1⟩ := h3 i hi
  exact ⟨b, off, x, e, hbB, by rw [hb.cell hbB]; exact c0, c1.later hb⟩
theorem SeesRs.up {w : World} {B C : Nat} {v : Value} {rs : List (List VL)} (h : SeesRs w B v rs) (hb : B ≤ C) : SeesRs w C v rs := by
  obtain ⟨a, cap, h1, h2, h3⟩ := h
  exact ⟨a, cap, h1, h2, fun i hi => by obtain ⟨b, off, x, e1, e2, e3, e4⟩ := h3 i hi; exact ⟨b, off, x, e1, by omega, e3, e4.up hb⟩⟩
theorem SeesRs.form {w : World} {B : Nat} {v : Value} {rs : List (List VL)} (h : SeesRs w B v rs) : ∃ a cap, v = .slice a rs.length cap := by
  obtain ⟨a, cap, e, _⟩ := h
  exact ⟨a, cap, e⟩
theorem SeesRs.cell {w : World} {B n cap : Nat} {a : Option Addr} {rs : List (List VL)} (h : SeesRs w B (.slice a n cap) rs) (i : Nat) (hi : i < rs.length) : ∃ b off x, a = some ⟨b, off, none⟩ ∧ w.cell? ⟨b, off + i, none⟩ = some x ∧ SeesV w B x rs[i] := by
  obtain ⟨ao, cap', e, h1, h3⟩ := h
  injection e with e1 e2 e3
  subst e1
  obtain ⟨b, off, x, e, _, c0, c1⟩ := h3 i hi
  exact ⟨b, off, x, e, c0, c1⟩
def I64 (n : Int) : Prop := -9223372036854775808 ≤ n ∧ n ≤ 9223372036854775807
/-- A reply whose numbers are of 64 bits, whose texts and lists are not too long. -/
structure ROK (r : RP) : Prop where
  cmd : I64 r.cmd
  who : I64 r.who
  code : I64 r.code
  count : I64 r.count
  stamp : 0 ≤ r.stamp ∧ r.stamp ≤ 18446744073709551615
  nums : ∀ i (h : i < r.nums.length), I64 r.nums[i]
  numsN : r.nums.length ≤ 1048576
  names : ∀ i (h : i < r.names.length), r.names[i].size ≤ 1048576
  namesN : r.names.length ≤ 1048576
  rows : ∀ i (h : i < r.rows.length), r.rows[i].length ≤ 1048576 ∧ ∀ j (g : j < r.rows[i].length), VOK r.rows[i][j]
  rowsN : r.rows.length ≤ 1048576
theorem head_len (k who : Int) (h : I64 who) : (headL k who).length ≤ 23 := by
  unfold headL
  split
  · have := itoa_len who h.1 (by have := h.2; omega)
    rw [List.length_cons]; omega
  · unfold kwL
    repeat' split
    all_goals simp
theorem code_len (c : Int) (h : I64 c) : (codeL c).length ≤ 23 := by
  unfold codeL
  split
  · simp
  · have := itoa_len c h.1 (by have := h.2; omega)
    rw [List.length_cons]; omega
theorem end_len (c s f : Int) (h : I64 c) (h2 : 0 ≤ s ∧ s ≤ 18446744073709551615) : (endL c s f).length ≤ 70 := by
  unfold endL cntL stpL finL
  have h3 := itoa_len c h.1 (by have := h.2; omega)
  have h4 := itoa_len s (by omega) (by omega)
  simp only [List.length_append]
  repeat' split
  all_goals simp <;> omega
theorem toL (s : List UInt8) : (tx s).data.toList = s := tx_list s
end Go.Proofs.YtoomekcglniohaaDoor
