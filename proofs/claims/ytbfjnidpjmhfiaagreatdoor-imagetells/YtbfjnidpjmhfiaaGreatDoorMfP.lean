import Derived.Test.YtbfjnidpjmhfiaaGreatDoorHasP
import Derived.Test.YtbfjnidpjmhfiaaGreatDoorCrc9
namespace Go.Proofs.YtbfjnidpjmhfiaaGreatDoor
set_option linter.unusedVariables false
/-- What a manifest says of a pair. -/
structure PN where
  id : Int
  lo : Int
  hi : Int
  rows : Int
  gen : Int
  gone : Int
  ds : Int
  es : Int
/-- Its numbers are those of their types. -/
structure PN.wf (p : PN) : Prop where
  id0 : -9223372036854775808 ≤ p.id
  id1 : p.id ≤ 9223372036854775807
  lo0 : 0 ≤ p.lo
  lo1 : p.lo ≤ 18446744073709551615
  hi0 : 0 ≤ p.hi
  hi1 : p.hi ≤ 18446744073709551615
  rows0 : -9223372036854775808 ≤ p.rows
  rows1 : p.rows ≤ 9223372036854775807
  gen0 : -9223372036854775808 ≤ p.gen
  gen1 : p.gen ≤ 9223372036854775807
  gone0 : -9223372036854775808 ≤ p.gone
  gone1 : p.gone ≤ 9223372036854775807
  ds0 : 0 ≤ p.ds
  ds1 : p.ds ≤ 4294967295
  es0 : 0 ≤ p.es
  es1 : p.es ≤ 4294967295
/-- A pair that may stand in a manifest, by itself. -/
def mayL (gen next upto : Int) (p : PN) : Prop := 1 ≤ p.id ∧ p.id < next ∧ p.lo < p.hi ∧ p.hi ≤ upto ∧ 0 ≤ p.rows ∧ p.rows ≤ 65536 ∧ 0 ≤ p.gen ∧ p.gen ≤ gen ∧ 0 ≤ p.gone ∧ p.gone ≤ p.rows ∧ (p.gone = 0 ↔ p.gen = 0) ∧ (p.gen = 0 → p.es = 0)
/-- Where the pairs ahead of number k end. -/
def lastP (ps : List PN) (k : Nat) : Int := match k with
  | 0 => 0
  | k + 1 => (ps[k]?.map PN.hi).getD 0
theorem lastP_zero (ps : List PN) : lastP ps 0 = 0 := rfl
theorem lastP_succ {ps : List PN} {k : Nat} (h : k < ps.length) : lastP ps (k + 1) = ps[k].hi := by simp [lastP, List.getElem?_eq_getElem h]
/-- Pair number k stands rightly. -/
def okP (gen next upto : Int) (ps : List PN) (k : Nat) (p : PN) : Prop := (∀ j (hj : j < ps.length), j < k → ps[j].id ≠ p.id) ∧ lastP ps k ≤ p.lo ∧ mayL gen next upto p
def mayM (gen next upto : Int) (ps : List PN) : Prop := (1 ≤ gen ∧ gen ≤ 99999999) ∧ (1 ≤ next ∧ next ≤ 100000000) ∧ upto ≤ 4611686018427387903 ∧ ps.length ≤ 256 ∧ ∀ k (hk : k < ps.length), okP gen next upto ps k ps[k]
def encP (last : Int) (p : PN) : List Int := uvB p.id ++ (uvB (p.lo - last) ++ (uvB (p.hi - p.lo) ++ (uvB p.rows ++ (uvB p.gen ++ (uvB p.gone ++ (fxB 4 p.ds ++ fxB 4 p.es))))))
def encPs : Int → List PN → List Int
  | _, [] => []
  | last, p :: ps => encP last p ++ encPs p.hi ps
def encM (gen next upto : Int) (ps : List PN) : List Int := uvB gen ++ (uvB next ++ (uvB upto ++ (uvB ps.length ++ encPs 0 ps)))
def mgM : List Int := [83, 84, 82, 65, 77, 65, 78, 49]
/-- Letters, contents, sum. -/
def sealM (mg body : List Int) : ByteArray := strOfNums (mg ++ body) ++ strOfNums (fxB 4 (crN (strOfNums (mg ++ body)).data.toList : Nat))
/-- The bytes up to pair number k. -/
theorem encPs_take (ps : List PN) : ∀ (k : Nat) (hk : k < ps.length) (last : Int), encPs last (ps.take (k + 1)) = encPs last (ps.take k) ++ encP (match k with | 0 => last | k + 1 => (ps[k]?.map PN.hi).getD 0) ps[k] := by
  induction ps with
  | nil => intro k hk; simp at hk
  | cons p ps ih =>
    intro k hk last
    cases k with
    | zero => simp [encPs]
    | succ k =>
      have hk' : k < ps.length := by simpa using hk
      rw [List.take_succ_cons, List.take_succ_cons, encPs, encPs, ih k hk' p.hi, List.append_assoc]
      congr 2
      cases k with
      | zero => simp
      | succ k => simp
theorem encPs_step (ps : List PN) (k : Nat) (hk : k < ps.length) : encPs 0 (ps.take (k + 1)) = encPs 0 (ps.take k) ++ encP (lastP ps k) ps[k] := by
  rw [encPs_take ps k hk 0]
  cases k <;> rfl
/-- One number of at most so much. -/
def rdU (s : ByteArray) (p : Nat) (most : Int) : Option (Int × Nat) := if (ruV s p).2.2 = 0 ∧ ((ruV s p).1 : Int) ≤ most then some (((ruV s p).1 : Int), p + (ruV s p).2.1) else none
def rdF4 (s : ByteArray) (p : Nat) : Option (Int × Nat) := if p + 4 ≤ s.size then some ((fxV s p 4 : Int), p + 4) else none
def rdPN (s : ByteArray) (p : Nat) (last upto : Int) : Option (PN × Nat) :=
  (rdU s p 99999999).bind fun x1 => (rdU s x1.2 (upto - last)).bind fun x2 => (rdU s x2.2 (upto - (last + x2.1))).bind fun x3 => (rdU s x3.2 65536).bind fun x4 => (rdU s x4.2 99999999).bind fun x5 => (rdU s x5.2 65536).bind fun x6 => (rdF4 s x6.2).bind fun x7 => (rdF4 s x7.2).bind fun x8 =>
    some (⟨x1.1, last + x2.1, last + x2.1 + x3.1, x4.1, x5.1, x6.1, x7.1, x8.1⟩, x8.2)
def rdPs (s : ByteArray) (upto : Int) : Nat → Nat → Int → Option (List PN × Nat)
  | 0, p, _ => some ([], p)
  | n + 1, p, last => (rdPN s p last upto).bind fun x => (rdPs s upto n x.2 x.1.hi).bind fun y => some (x.1 :: y.1, y.2)
theorem rdU_back {s : ByteArray} {p : Nat} {v most : Int} (h : HasAt s p (uvB v)) (h0 : 0 ≤ v) (h1 : v ≤ most) (h2 : most < 18446744073709551616) : rdU s p most = some (v, p + (uvB v).length) := by
  obtain ⟨n, rfl⟩ := Int.eq_ofNat_of_zero_le h0
  have := ru_back0 s p n h (by omega)
  unfold rdU
  rw [this]
  simp [h1]
theorem rdU_form {s : ByteArray} {p q : Nat} {v most : Int} (h : rdU s p most = some (v, q)) : HasAt s p (uvB v) ∧ q = p + (uvB v).length ∧ 0 ≤ v ∧ v ≤ most := by
  unfold rdU at h
  split at h
  · rename_i hc
    injection h with h
    injection h with h1 h2
    obtain ⟨f1, f2⟩ := ru_form0H s p (ruV s p).1 (ruV s p).2.1 (by rw [← hc.1])
    rw [← h1, ← h2]
    exact ⟨f1, by omega, by omega, hc.2⟩
  · cases h
theorem rdF4_back {s : ByteArray} {p : Nat} {v : Int} (h : HasAt s p (fxB 4 v)) (hp : p ≤ s.size) (h0 : 0 ≤ v) (h1 : v ≤ 4294967295) : rdF4 s p = some (v, p + 4) := by
  obtain ⟨n, rfl⟩ := Int.eq_ofNat_of_zero_le h0
  have hs := h.size hp
  rw [fxB_len] at hs
  unfold rdF4
  rw [if_pos hs, fx_back s p 4 n h, Nat.mod_eq_of_lt (by omega)]
theorem rdF4_form {s : ByteArray} {p q : Nat} {v : Int} (h : rdF4 s p = some (v, q)) : HasAt s p (fxB 4 v) ∧ q = p + 4 ∧ q ≤ s.size ∧ 0 ≤ v ∧ v ≤ 4294967295 := by
  unfold rdF4 at h
  split at h
  · rename_i hc
    injection h with h
    injection h with h1 h2
    have := fxV_lt s p 4
    rw [← h1, ← h2]
    exact ⟨fx_form s p 4 hc, rfl, hc, by omega, by omega⟩
  · cases h
theorem rdPN_back {s : ByteArray} {p : Nat} {last gen next upto : Int} {v : PN} (hp : p ≤ s.size) (hw : v.wf) (hm : mayL gen next upto v) (hl : last ≤ v.lo) (h0 : 0 ≤ last) (hn : next ≤ 100000000) (hg : gen ≤ 99999999) (hu : upto ≤ 4611686018427387903) (h : HasAt s p (encP last v)) : rdPN s p last upto = some (v, p + (encP last v).length) := by
  obtain ⟨m1, m2, m3, m4, m5, m6, m7, m8, m9, m10, m11, m12⟩ := hm
  unfold encP at h
  have s1 := h.left.size hp
  have e1 := rdU_back (most := 99999999) h.left (by omega) (by omega) (by omega)
  have h2 := h.right
  have s2 := h2.left.size s1
  have e2 := rdU_back (most := upto - last) h2.left (by omega) (by omega) (by omega)
  have h3 := h2.right
  have s3 := h3.left.size s2
  have e3 := rdU_back (most := upto - (last + (v.lo - last))) h3.left (by omega) (by omega) (by omega)
  have h4 := h3.right
  have s4 := h4.left.size s3
  have e4 := rdU_back (most := 65536) h4.left (by omega) (by omega) (by omega)
  have h5 := h4.right
  have s5 := h5.left.size s4
  have e5 := rdU_back (most := 99999999) h5.left (by omega) (by omega) (by omega)
  have h6 := h5.right
  have s6 := h6.left.size s5
  have e6 := rdU_back (most := 65536) h6.left (by omega) (by omega) (by omega)
  have h7 := h6.right
  have s7 := h7.left.size s6
  have e7 := rdF4_back h7.left s6 hw.ds0 hw.ds1
  have h8 := h7.right
  rw [fxB_len] at h8 s7
  have e8 := rdF4_back h8 s7 hw.es0 hw.es1
  unfold rdPN
  rw [e1]; simp only [Option.bind_some]
  rw [e2]; simp only [Option.bind_some]
  rw [e3]; simp only [Option.bind_some]
  rw [e4]; simp only [Option.bind_some]
  rw [e5]; simp only [Option.bind_some]
  rw [e6]; simp only [Option.bind_some]
  rw [e7]; simp only [Option.bind_some]
  rw [e8]; simp only [Option.bind_some]
  have a1 : last + (v.lo - last) = v.lo := by omega
  have a2 : v.lo + (v.hi - v.lo) = v.hi := by omega
  rw [a1, a2]
  have hlen : ∀ a b c d e f : Nat, p + (a + (b + (c + (d + (e + (f + (4 + 4))))))) = p + a + b + c + d + e + f + 4 + 4 := fun a b c d e f => by omega
  simp only [encP, List.length_append, fxB_len]
  rw [hlen]
theorem rdPN_form {s : ByteArray} {p q : Nat} {last upto : Int} {v : PN} (h0 : 0 ≤ last) (h : rdPN s p last upto = some (v, q)) : HasAt s p (encP last v) ∧ q = p + (encP last v).length ∧ q ≤ s.size ∧ last ≤ v.lo ∧ v.lo ≤ v.hi ∧ v.hi ≤ upto ∧ 0 ≤ v.id ∧ v.id ≤ 99999999 ∧ 0 ≤ v.rows ∧ v.rows ≤ 65536 ∧ 0 ≤ v.gen ∧ v.gen ≤ 99999999 ∧ 0 ≤ v.gone ∧ v.gone ≤ 65536 ∧ 0 ≤ v.ds ∧ v.ds ≤ 4294967295 ∧ 0 ≤ v.es ∧ v.es ≤ 4294967295 := by
  unfold rdPN at h
  obtain ⟨⟨x1, p1⟩, r1, h⟩ := Option.bind_eq_some_iff.1 h
  obtain ⟨⟨x2, p2⟩, r2, h⟩ := Option.bind_eq_some_iff.1 h
  obtain ⟨⟨x3, p3⟩, r3, h⟩ := Option.bind_eq_some_iff.1 h
  obtain ⟨⟨x4, p4⟩, r4, h⟩ := Option.bind_eq_some_iff.1 h
  obtain ⟨⟨x5, p5⟩, r5, h⟩ := Option.bind_eq_some_iff.1 h
  obtain ⟨⟨x6, p6⟩, r6, h⟩ := Option.bind_eq_some_iff.1 h
  obtain ⟨⟨x7, p7⟩, r7, h⟩ := Option.bind_eq_some_iff.1 h
  obtain ⟨⟨x8, p8⟩, r8, h⟩ := Option.bind_eq_some_iff.1 h
  simp only at r2 r3 r4 r5 r6 r7 r8 h
  injection h with h
  injection h with hv hq
  obtain ⟨f1, q1, a1, b1⟩ := rdU_form r1
  obtain ⟨f2, q2, a2, b2⟩ := rdU_form r2
  obtain ⟨f3, q3, a3, b3⟩ := rdU_form r3
  obtain ⟨f4, q4, a4, b4⟩ := rdU_form r4
  obtain ⟨f5, q5, a5, b5⟩ := rdU_form r5
  obtain ⟨f6, q6, a6, b6⟩ := rdU_form r6
  obtain ⟨f7, q7, z7, a7, b7⟩ := rdF4_form r7
  obtain ⟨f8, q8, z8, a8, b8⟩ := rdF4_form r8
  subst hv hq
  subst q1 q2 q3 q4 q5 q6 q7 q8
  have c2 : last + x2 - last = x2 := by omega
  have c3 : last + x2 + x3 - (last + x2) = x3 := by omega
  refine ⟨?_, ?_, z8, by simp only; omega, by simp only; omega, by simp only; omega, a1, b1, a4, b4, a5, b5, a6, b6, a7, b7, a8, b8⟩
  · unfold encP
    simp only [c2, c3]
    refine HasAt.append f1 (HasAt.append f2 (HasAt.append f3 (HasAt.append f4 (HasAt.append f5 (HasAt.append f6 (HasAt.append f7 ?_))))))
    rw [fxB_len]
    exact f8
  · simp only [encP, c2, c3, List.length_append, fxB_len]
    omega
/-- Each pair stands rightly behind the one that ends at last. -/
def okFrom (gen next upto : Int) : Int → List PN → Prop
  | _, [] => True
  | last, p :: ps => last ≤ p.lo ∧ mayL gen next upto p ∧ p.wf ∧ okFrom gen next upto p.hi ps
theorem okFrom_drop {gen next upto : Int} {ps : List PN} (h : ∀ k (hk : k < ps.length), lastP ps k ≤ ps[k].lo ∧ mayL gen next upto ps[k]) (hw : ∀ p ∈ ps, p.wf) : ∀ (n k : Nat), n + k = ps.length → okFrom gen next upto (lastP ps k) (ps.drop k)
  | 0, k, hk => by rw [List.drop_eq_nil_of_le (by omega)]; trivial
  | n + 1, k, hk => by
    have hkl : k < ps.length := by omega
    rw [List.drop_eq_getElem_cons hkl]
    obtain ⟨h1, h2⟩ := h k hkl
    have ih := okFrom_drop h hw n (k + 1) (by omega)
    rw [lastP_succ hkl] at ih
    exact ⟨h1, h2, hw _ (List.getElem_mem hkl), ih⟩
theorem mayM_from {gen next upto : Int} {ps : List PN} (h : mayM gen next upto ps) (hw : ∀ p ∈ ps, p.wf) : okFrom gen next upto 0 ps := by
  have := okFrom_drop (fun k hk => (h.2.2.2.2 k hk).2) hw ps.length 0 (by omega)
  rwa [List.drop_zero] at this
theorem rdPs_back {s : ByteArray} {gen next upto : Int} (hn : next ≤ 100000000) (hg : gen ≤ 99999999) (hu : upto ≤ 4611686018427387903) : ∀ (ps : List PN) (p : Nat) (last : Int), p ≤ s.size → 0 ≤ last → okFrom gen next upto last ps → HasAt s p (encPs last ps) → rdPs s upto ps.length p last = some (ps, p + (encPs last ps).length)
  | [], p, last, _, _, _, _ => by simp [rdPs, encPs]
  | v :: ps, p, last, hp, h0, ⟨o1, o2, o3, o4⟩, h => by
    rw [encPs] at h
    have s1 := h.left.size hp
    have e1 := rdPN_back hp o3 o2 o1 h0 hn hg hu h.left
    have e2 := rdPs_back hn hg hu ps _ v.hi s1 (by have := o3.hi0; omega) o4 h.right
    rw [List.length_cons, rdPs, e1]
    simp only [Option.bind_some]
    rw [e2]
    simp only [Option.bind_some, encPs, List.length_append, Nat.add_assoc]
theorem rdPs_form {s : ByteArray} {upto : Int} : ∀ (n p q : Nat) (last : Int) (ps : List PN), p ≤ s.size → 0 ≤ last → rdPs s upto n p last = some (ps, q) → HasAt s p (encPs last ps) ∧ q = p + (encPs last ps).length ∧ ps.length = n ∧ q ≤ s.size
  | 0, p, q, last, ps, hp, _, h => by
    rw [rdPs] at h
    injection h with h
    injection h with h1 h2
    subst h1 h2
    exact ⟨HasAt.nil s p, by simp [encPs], rfl, hp⟩
  | n + 1, p, q, last, ps, hp, h0, h => by
    rw [rdPs] at h
    obtain ⟨⟨v, p1⟩, r1, h⟩ := Option.bind_eq_some_iff.1 h
    obtain ⟨⟨vs, p2⟩, r2, h⟩ := Option.bind_eq_some_iff.1 h
    simp only at r2 h
    injection h with h
    injection h with h1 h2
    subst h1 h2
    obtain ⟨f1, q1, z1, l1, l2, _⟩ := rdPN_form h0 r1
    obtain ⟨f2, q2, n2, z2⟩ := rdPs_form n p1 p2 v.hi vs z1 (by omega) r2
    subst q1
    refine ⟨HasAt.append f1 f2, ?_, by simp [n2], z2⟩
    rw [q2, encPs, List.length_append]
    omega
/-- What the contents of a file (behind its letters) are read as, what may not be read too. -/
def rdM (s : ByteArray) : Option ((Int × Int × Int) × List PN) :=
  (rdU s 8 99999999).bind fun x1 => (rdU s x1.2 100000000).bind fun x2 => (rdU s x2.2 4611686018427387903).bind fun x3 => (rdU s x3.2 256).bind fun x4 => (rdPs s x3.1 x4.1.toNat x4.2 0).bind fun y => if y.2 = s.size then some ((x1.1, x2.1, x3.1), y.1) else none
theorem rdM_back {s : ByteArray} {gen next upto : Int} {ps : List PN} (h8 : 8 ≤ s.size) (hu0 : 0 ≤ upto) (hm : mayM gen next upto ps) (hw : ∀ p ∈ ps, p.wf) (h : HasAt s 8 (encM gen next upto ps)) (hl : s.size = 8 + (encM gen next upto ps).length) : rdM s = some ((gen, next, upto), ps) := by
  obtain ⟨⟨g1, g2⟩, ⟨n1, n2⟩, u1, l1, hk⟩ := hm
  have hf := mayM_from ⟨⟨g1, g2⟩, ⟨n1, n2⟩, u1, l1, hk⟩ hw
  unfold encM at h hl
  have s1 := h.left.size h8
  have e1 := rdU_back (most := 99999999) h.left (by omega) g2 (by omega)
  have h2 := h.right
  have s2 := h2.left.size s1
  have e2 := rdU_back (most := 100000000) h2.left (by omega) n2 (by omega)
  have h3 := h2.right
  have s3 := h3.left.size s2
  have e3 := rdU_back (most := 4611686018427387903) h3.left hu0 u1 (by omega)
  have h4 := h3.right
  have s4 := h4.left.size s3
  have e4 := rdU_back (most := 256) h4.left (by omega) (by omega) (by omega)
  have e5 := rdPs_back n2 g2 u1 ps _ 0 s4 (by omega) hf h4.right
  unfold rdM
  rw [e1]; simp only [Option.bind_some]
  rw [e2]; simp only [Option.bind_some]
  rw [e3]; simp only [Option.bind_some]
  rw [e4]; simp only [Option.bind_some, Int.toNat_natCast]
  rw [e5]; simp only [Option.bind_some]
  simp only [List.length_append] at hl
  rw [if_pos (by omega)]
theorem rdM_form {s : ByteArray} {gen next upto : Int} {ps : List PN} (h8 : 8 ≤ s.size) (h : rdM s = some ((gen, next, upto), ps)) : HasAt s 8 (encM gen next upto ps) ∧ s.size = 8 + (encM gen next upto ps).length ∧ 0 ≤ gen ∧ 0 ≤ next ∧ 0 ≤ upto := by
  unfold rdM at h
  obtain ⟨⟨x1, p1⟩, r1, h⟩ := Option.bind_eq_some_iff.1 h
  obtain ⟨⟨x2, p2⟩, r2, h⟩ := Option.bind_eq_some_iff.1 h
  obtain ⟨⟨x3, p3⟩, r3, h⟩ := Option.bind_eq_some_iff.1 h
  obtain ⟨⟨x4, p4⟩, r4, h⟩ := Option.bind_eq_some_iff.1 h
  obtain ⟨⟨vs, p5⟩, r5, h⟩ := Option.bind_eq_some_iff.1 h
  simp only at r2 r3 r4 r5 h
  split at h
  · rename_i hq
    injection h with h
    injection h with ha hv
    injection ha with ha1 ha2
    injection ha2 with ha2 ha3
    subst ha1 ha2 ha3 hv
    obtain ⟨f1, q1, a1, b1⟩ := rdU_form r1
    obtain ⟨f2, q2, a2, b2⟩ := rdU_form r2
    obtain ⟨f3, q3, a3, b3⟩ := rdU_form r3
    obtain ⟨f4, q4, a4, b4⟩ := rdU_form r4
    subst q1
    have z1 := f1.size h8
    subst q2
    have z2 := f2.size z1
    subst q3
    have z3 := f3.size z2
    subst q4
    have z4 := f4.size z3
    obtain ⟨f5, q5, n5, z5⟩ := rdPs_form _ _ _ _ _ z4 (by omega) r5
    have e4 : x4 = ((vs.length : Nat) : Int) := by omega
    subst e4
    refine ⟨HasAt.append f1 (HasAt.append f2 (HasAt.append f3 (HasAt.append f4 f5))), ?_, a1, a2, a3⟩
    rw [← hq, q5]
    simp only [encM, List.length_append]
    omega
  · cases h
theorem cells_at {w : World} {b : Nat} {cs : Array Value} {t : TypeId} (h : w.heap[b]? = some (.cells cs t (0, 0))) (j : Nat) : w.cell? ⟨b, j, none⟩ = cs[j]? := by simp [World.cell?, h]
end Go.Proofs.YtbfjnidpjmhfiaaGreatDoor
