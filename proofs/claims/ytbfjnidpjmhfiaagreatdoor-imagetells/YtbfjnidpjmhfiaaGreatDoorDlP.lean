import Derived.Test.YtbfjnidpjmhfiaaGreatDoorBlbP
import Derived.Test.YtbfjnidpjmhfiaaGreatDoorCrc9
namespace Go.Proofs.YtbfjnidpjmhfiaaGreatDoor
open Go.ChangeShapes Go.WideShapes Go.ChangeAt Go.RowKit
set_option linter.unusedVariables false
set_option maxRecDepth 100000
/-- An erasure. -/
structure ER where
  beg : Int
  fin : Int
  key : ByteArray
/-- Its numbers are those of their types. -/
structure ER.wf (p : ER) : Prop where
  b0 : 0 ≤ p.beg
  b1 : p.beg ≤ 18446744073709551615
  f0 : 0 ≤ p.fin
  f1 : p.fin ≤ 18446744073709551615
/-- Is (b, k) strictly ahead of (c, l)? -/
def aheadP (b : Int) (k : ByteArray) (c : Int) (l : ByteArray) : Prop := b < c ∨ (b = c ∧ Op.bytesLess k.toList l.toList = true)
/-- An erasure that may stand in a delta file, by itself. -/
def mayE (p : ER) : Prop := 1 ≤ p.beg ∧ p.beg < p.fin ∧ p.fin ≤ 4611686018427387903 ∧ 1 ≤ p.key.size ∧ p.key.size ≤ 160
/-- Erasure number k stands rightly. -/
def okE (ps : List ER) (k : Nat) (hk : k < ps.length) : Prop := mayE ps[k] ∧ ∀ j (hj : j + 1 = k), aheadP (ps[j]'(by omega)).beg (ps[j]'(by omega)).key ps[k].beg ps[k].key
def mayD (id gen : Int) (ps : List ER) : Prop := (1 ≤ id ∧ id ≤ 99999999) ∧ (1 ≤ gen ∧ gen ≤ 99999999) ∧ (1 ≤ ps.length ∧ ps.length ≤ 65536) ∧ ∀ k (hk : k < ps.length), okE ps k hk
def encE (last : Int) (p : ER) : List Int := uvB (p.beg - last) ++ (uvB (p.fin - p.beg) ++ blB p.key)
def encEs : Int → List ER → List Int
  | _, [] => []
  | last, p :: ps => encE last p ++ encEs p.beg ps
def encD (id gen : Int) (ps : List ER) : List Int := uvB id ++ (uvB gen ++ (uvB ps.length ++ encEs 0 ps))
def mgDl : List Int := [83, 84, 82, 65, 68, 69, 76, 49]
/-- Where the erasures ahead of number k begin. -/
def lastE (ps : List ER) (k : Nat) : Int := match k with
  | 0 => 0
  | k + 1 => (ps[k]?.map ER.beg).getD 0
theorem lastE_zero (ps : List ER) : lastE ps 0 = 0 := rfl
theorem lastE_succ {ps : List ER} {k : Nat} (h : k < ps.length) : lastE ps (k + 1) = ps[k].beg := by simp [lastE, List.getElem?_eq_getElem h]
theorem encEs_take (ps : List ER) : ∀ (k : Nat) (hk : k < ps.length) (last : Int), encEs last (ps.take (k + 1)) = encEs last (ps.take k) ++ encE (match k with | 0 => last | k + 1 => (ps[k]?.map ER.beg).getD 0) ps[k] := by
  induction ps with
  | nil => intro k hk; simp at hk
  | cons p ps ih =>
    intro k hk last
    cases k with
    | zero => simp [encEs]
    | succ k =>
      have hk' : k < ps.length := by simpa using hk
      rw [List.take_succ_cons, List.take_succ_cons, encEs, encEs, ih k hk' p.beg, List.append_assoc]
      congr 2
      cases k with
      | zero => simp
      | succ k => simp
theorem encEs_step (ps : List ER) (k : Nat) (hk : k < ps.length) : encEs 0 (ps.take (k + 1)) = encEs 0 (ps.take k) ++ encE (lastE ps k) ps[k] := by
  rw [encEs_take ps k hk 0]
  cases k <;> rfl
/-- What the strict reader reads as an erasure behind one that begins at last. -/
def rdE (s : ByteArray) (p : Nat) (last : Int) : Option (ER × Nat) :=
  (rdU s p (4611686018427387903 - last)).bind fun x1 => (rdU s x1.2 (4611686018427387903 - (last + x1.1))).bind fun x2 => (rdB s x2.2).bind fun x3 => some (⟨last + x1.1, last + x1.1 + x2.1, x3.1⟩, x3.2)
def rdEs (s : ByteArray) : Nat → Nat → Int → Option (List ER × Nat)
  | 0, p, _ => some ([], p)
  | n + 1, p, last => (rdE s p last).bind fun x => (rdEs s n x.2 x.1.beg).bind fun y => some (x.1 :: y.1, y.2)
def rdD (s : ByteArray) : Option ((Int × Int) × List ER) :=
  (rdU s 8 99999999).bind fun x1 => (rdU s x1.2 99999999).bind fun x2 => (rdU s x2.2 65536).bind fun x3 => (rdEs s x3.1.toNat x3.2 0).bind fun y => if y.2 = s.size then some ((x1.1, x2.1), y.1) else none
theorem rdE_back {s : ByteArray} {p : Nat} {last : Int} {v : ER} (hp : p ≤ s.size) (hm : mayE v) (hl : last ≤ v.beg) (h0 : 0 ≤ last) (h : HasAt s p (encE last v)) : rdE s p last = some (v, p + (encE last v).length) := by
  obtain ⟨m1, m2, m3, m4, m5⟩ := hm
  unfold encE at h
  have s1 := h.left.size hp
  have e1 := rdU_back (most := 4611686018427387903 - last) h.left (by omega) (by omega) (by omega)
  have h2 := h.right
  have s2 := h2.left.size s1
  have e2 := rdU_back (most := 4611686018427387903 - (last + (v.beg - last))) h2.left (by omega) (by omega) (by omega)
  have e3 := rdB_back s2 (by omega) h2.right
  unfold rdE
  rw [e1]; simp only [Option.bind_some]
  rw [e2]; simp only [Option.bind_some]
  rw [e3]; simp only [Option.bind_some]
  have a1 : last + (v.beg - last) = v.beg := by omega
  have a2 : v.beg + (v.fin - v.beg) = v.fin := by omega
  rw [a1, a2]
  simp only [encE, List.length_append, Nat.add_assoc]
theorem rdE_form {s : ByteArray} {p q : Nat} {last : Int} {v : ER} (h0 : 0 ≤ last) (h : rdE s p last = some (v, q)) : HasAt s p (encE last v) ∧ q = p + (encE last v).length ∧ q ≤ s.size ∧ last ≤ v.beg ∧ v.beg ≤ v.fin ∧ v.fin ≤ 4611686018427387903 ∧ v.key.size ≤ 1048576 := by
  unfold rdE at h
  obtain ⟨⟨x1, p1⟩, r1, h⟩ := Option.bind_eq_some_iff.1 h
  obtain ⟨⟨x2, p2⟩, r2, h⟩ := Option.bind_eq_some_iff.1 h
  obtain ⟨⟨x3, p3⟩, r3, h⟩ := Option.bind_eq_some_iff.1 h
  simp only at r2 r3 h
  injection h with h
  injection h with hv hq
  obtain ⟨f1, q1, a1, b1⟩ := rdU_form r1
  obtain ⟨f2, q2, a2, b2⟩ := rdU_form r2
  obtain ⟨f3, q3, z3, b3⟩ := rdB_form r3
  subst hv hq
  subst q1 q2 q3
  have c2 : last + x1 - last = x1 := by omega
  have c3 : last + x1 + x2 - (last + x1) = x2 := by omega
  refine ⟨?_, ?_, z3, by simp only; omega, by simp only; omega, by simp only; omega, b3⟩
  · unfold encE
    simp only [c2, c3]
    exact HasAt.append f1 (HasAt.append f2 f3)
  · simp only [encE, c2, c3, List.length_append]
    omega
/-- Each erasure stands rightly behind the one that begins at last. -/
def okEs : Int → List ER → Prop
  | _, [] => True
  | last, p :: ps => last ≤ p.beg ∧ mayE p ∧ okEs p.beg ps
theorem okEs_drop {ps : List ER} (h : ∀ k (hk : k < ps.length), okE ps k hk) : ∀ (n k : Nat), n + k = ps.length → okEs (lastE ps k) (ps.drop k)
  | 0, k, hk => by rw [List.drop_eq_nil_of_le (by omega)]; trivial
  | n + 1, k, hk => by
    have hkl : k < ps.length := by omega
    rw [List.drop_eq_getElem_cons hkl]
    have ih := okEs_drop h n (k + 1) (by omega)
    rw [lastE_succ hkl] at ih
    obtain ⟨h1, h2⟩ := h k hkl
    refine ⟨?_, h1, ih⟩
    cases k with
    | zero => have := h1.1; rw [lastE_zero]; omega
    | succ k =>
      rw [lastE_succ (by omega)]
      rcases h2 k rfl with a | ⟨a, _⟩ <;> omega
theorem mayD_from {id gen : Int} {ps : List ER} (h : mayD id gen ps) : okEs 0 ps := by
  have := okEs_drop h.2.2.2 ps.length 0 (by omega)
  rwa [List.drop_zero] at this
theorem rdEs_back {s : ByteArray} : ∀ (ps : List ER) (p : Nat) (last : Int), p ≤ s.size → 0 ≤ last → okEs last ps → HasAt s p (encEs last ps) → rdEs s ps.length p last = some (ps, p + (encEs last ps).length)
  | [], p, last, _, _, _, _ => by simp [rdEs, encEs]
  | v :: ps, p, last, hp, h0, ⟨o1, o2, o3⟩, h => by
    rw [encEs] at h
    have s1 := h.left.size hp
    have e1 := rdE_back hp o2 o1 h0 h.left
    have e2 := rdEs_back ps _ v.beg s1 (by have := o2.1; omega) o3 h.right
    rw [List.length_cons, rdEs, e1]
    simp only [Option.bind_some]
    rw [e2]
    simp only [Option.bind_some, encEs, List.length_append, Nat.add_assoc]
theorem rdEs_form {s : ByteArray} : ∀ (n p q : Nat) (last : Int) (ps : List ER), p ≤ s.size → 0 ≤ last → rdEs s n p last = some (ps, q) → HasAt s p (encEs last ps) ∧ q = p + (encEs last ps).length ∧ ps.length = n ∧ q ≤ s.size
  | 0, p, q, last, ps, hp, _, h => by
    rw [rdEs] at h
    injection h with h
    injection h with h1 h2
    subst h1 h2
    exact ⟨HasAt.nil s p, by simp [encEs], rfl, hp⟩
  | n + 1, p, q, last, ps, hp, h0, h => by
    rw [rdEs] at h
    obtain ⟨⟨v, p1⟩, r1, h⟩ := Option.bind_eq_some_iff.1 h
    obtain ⟨⟨vs, p2⟩, r2, h⟩ := Option.bind_eq_some_iff.1 h
    simp only at r2 h
    injection h with h
    injection h with h1 h2
    subst h1 h2
    obtain ⟨f1, q1, z1, l1, l2, _⟩ := rdE_form h0 r1
    obtain ⟨f2, q2, n2, z2⟩ := rdEs_form n p1 p2 v.beg vs z1 (by omega) r2
    subst q1
    refine ⟨HasAt.append f1 f2, ?_, by simp [n2], z2⟩
    rw [q2, encEs, List.length_append]
    omega
theorem rdD_back {s : ByteArray} {id gen : Int} {ps : List ER} (h8 : 8 ≤ s.size) (hm : mayD id gen ps) (h : HasAt s 8 (encD id gen ps)) (hl : s.size = 8 + (encD id gen ps).length) : rdD s = some ((id, gen), ps) := by
  have hf := mayD_from hm
  obtain ⟨⟨g1, g2⟩, ⟨n1, n2⟩, ⟨l0, l1⟩, hk⟩ := hm
  unfold encD at h hl
  have s1 := h.left.size h8
  have e1 := rdU_back (most := 99999999) h.left (by omega) g2 (by omega)
  have h2 := h.right
  have s2 := h2.left.size s1
  have e2 := rdU_back (most := 99999999) h2.left (by omega) n2 (by omega)
  have h3 := h2.right
  have s3 := h3.left.size s2
  have e3 := rdU_back (most := 65536) h3.left (by omega) (by omega) (by omega)
  have e4 := rdEs_back ps _ 0 s3 (by omega) hf h3.right
  unfold rdD
  rw [e1]; simp only [Option.bind_some]
  rw [e2]; simp only [Option.bind_some]
  rw [e3]; simp only [Option.bind_some, Int.toNat_natCast]
  rw [e4]; simp only [Option.bind_some]
  simp only [List.length_append] at hl
  rw [if_pos (by omega)]
theorem rdD_form {s : ByteArray} {id gen : Int} {ps : List ER} (h8 : 8 ≤ s.size) (h : rdD s = some ((id, gen), ps)) : HasAt s 8 (encD id gen ps) ∧ s.size = 8 + (encD id gen ps).length ∧ 0 ≤ id ∧ 0 ≤ gen := by
  unfold rdD at h
  obtain ⟨⟨x1, p1⟩, r1, h⟩ := Option.bind_eq_some_iff.1 h
  obtain ⟨⟨x2, p2⟩, r2, h⟩ := Option.bind_eq_some_iff.1 h
  obtain ⟨⟨x3, p3⟩, r3, h⟩ := Option.bind_eq_some_iff.1 h
  obtain ⟨⟨vs, p4⟩, r4, h⟩ := Option.bind_eq_some_iff.1 h
  simp only at r2 r3 r4 h
  split at h
  · rename_i hq
    injection h with h
    injection h with ha hv
    injection ha with ha1 ha2
    subst ha1 ha2 hv
    obtain ⟨f1, q1, a1, b1⟩ := rdU_form r1
    obtain ⟨f2, q2, a2, b2⟩ := rdU_form r2
    obtain ⟨f3, q3, a3, b3⟩ := rdU_form r3
    subst q1
    have z1 := f1.size h8
    subst q2
    have z2 := f2.size z1
    subst q3
    have z3 := f3.size z2
    obtain ⟨f4, q4, n4, z4⟩ := rdEs_form _ _ _ _ _ z3 (by omega) r4
    have e3 : x3 = ((vs.length : Nat) : Int) := by omega
    subst e3
    refine ⟨HasAt.append f1 (HasAt.append f2 (HasAt.append f3 f4)), ?_, a1, a2⟩
    rw [← hq, q4]
    simp only [encD, List.length_append]
    omega
  · cases h
end Go.Proofs.YtbfjnidpjmhfiaaGreatDoor
