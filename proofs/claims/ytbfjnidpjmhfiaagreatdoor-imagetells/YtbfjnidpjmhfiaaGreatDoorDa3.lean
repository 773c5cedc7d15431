import Derived.Test.YtbfjnidpjmhfiaaGreatDoorDe20
namespace Go.Proofs.YtbfjnidpjmhfiaaGreatDoor
set_option linter.unusedSimpArgs false
open Go.ChangeShapes Go.WideShapes Go.ChangeAt Go.RowKit
set_option linter.unusedVariables false
set_option maxRecDepth 100000
/-- A datum that may stand in a data file, by itself. -/
def mayT (lo hi : Int) (p : DT) : Prop := lo < p.beg ∧ p.beg ≤ hi ∧ 1 ≤ p.key.size ∧ p.key.size ≤ 160 ∧ p.data.size ≤ 512
/-- Datum number k stands rightly. -/
def okT (lo hi : Int) (ps : List DT) (k : Nat) (hk : k < ps.length) : Prop := mayT lo hi ps[k] ∧ ∀ j (hj : j + 1 = k), aheadP (ps[j]'(by omega)).beg (ps[j]'(by omega)).key ps[k].beg ps[k].key
def mayA (id lo hi : Int) (ps : List DT) : Prop := (1 ≤ id ∧ id ≤ 99999999) ∧ (lo < hi ∧ hi ≤ 4611686018427387903) ∧ ps.length ≤ 65536 ∧ ∀ k (hk : k < ps.length), okT lo hi ps k hk
def encT (last : Int) (p : DT) : List Int := uvB (p.beg - last) ++ (blB p.key ++ blB p.data)
def encTs : Int → List DT → List Int
  | _, [] => []
  | last, p :: ps => encT last p ++ encTs p.beg ps
def encA (id lo hi : Int) (ps : List DT) : List Int := uvB id ++ (uvB lo ++ (uvB (hi - lo) ++ (uvB ps.length ++ encTs lo ps)))
def mgDa : List Int := [83, 84, 82, 65, 68, 65, 84, 49]
/-- Where the data ahead of number k begin. -/
def lastT (lo : Int) (ps : List DT) (k : Nat) : Int := match k with
  | 0 => lo
  | k + 1 => (ps[k]?.map DT.beg).getD 0
theorem lastT_zero (lo : Int) (ps : List DT) : lastT lo ps 0 = lo := rfl
theorem lastT_succ {lo : Int} {ps : List DT} {k : Nat} (h : k < ps.length) : lastT lo ps (k + 1) = ps[k].beg := by simp [lastT, List.getElem?_eq_getElem h]
theorem encTs_take (ps : List DT) : ∀ (k : Nat) (hk : k < ps.length) (last : Int), encTs last (ps.take (k + 1)) = encTs last (ps.take k) ++ encT (match k with | 0 => last | k + 1 => (ps[k]?.map DT.beg).getD 0) ps[k] := by
  induction ps with
  | nil => intro k hk; simp at hk
  | cons p ps ih =>
    intro k hk last
    cases k with
    | zero => simp [encTs]
    | succ k =>
      have hk' : k < ps.length := by simpa using hk
      rw [List.take_succ_cons, List.take_succ_cons, encTs, encTs, ih k hk' p.beg, List.append_assoc]
      congr 2
      cases k with
      | zero => simp
      | succ k => simp
theorem encTs_step (lo : Int) (ps : List DT) (k : Nat) (hk : k < ps.length) : encTs lo (ps.take (k + 1)) = encTs lo (ps.take k) ++ encT (lastT lo ps k) ps[k] := by
  rw [encTs_take ps k hk lo]
  cases k <;> rfl
/-- What the strict reader reads as a datum behind one that begins at last. -/
def rdDt (s : ByteArray) (hi : Int) (p : Nat) (last : Int) : Option (DT × Nat) :=
  (rdU s p (hi - last)).bind fun x1 => (rdB s x1.2).bind fun x2 => (rdB s x2.2).bind fun x3 => some (⟨last + x1.1, x2.1, x3.1⟩, x3.2)
def rdDts (s : ByteArray) (hi : Int) : Nat → Nat → Int → Option (List DT × Nat)
  | 0, p, _ => some ([], p)
  | n + 1, p, last => (rdDt s hi p last).bind fun x => (rdDts s hi n x.2 x.1.beg).bind fun y => some (x.1 :: y.1, y.2)
def rdA (s : ByteArray) : Option ((Int × Int × Int) × List DT) :=
  (rdU s 8 99999999).bind fun x1 => (rdU s x1.2 4611686018427387903).bind fun x2 => (rdU s x2.2 (4611686018427387903 - x2.1)).bind fun x3 => (rdU s x3.2 65536).bind fun x4 => (rdDts s (x2.1 + x3.1) x4.1.toNat x4.2 x2.1).bind fun y => if y.2 = s.size then some ((x1.1, x2.1, x2.1 + x3.1), y.1) else none
theorem rdDt_back {s : ByteArray} {p : Nat} {lo hi last : Int} {v : DT} (hp : p ≤ s.size) (hm : mayT lo hi v) (hl : last ≤ v.beg) (h0 : 0 ≤ last) (hh : hi ≤ 4611686018427387903) (h : HasAt s p (encT last v)) : rdDt s hi p last = some (v, p + (encT last v).length) := by
  obtain ⟨m1, m2, m3, m4, m5⟩ := hm
  unfold encT at h
  have s1 := h.left.size hp
  have e1 := rdU_back (most := hi - last) h.left (by omega) (by omega) (by omega)
  have h2 := h.right
  have s2 := h2.left.size s1
  have e2 := rdB_back s1 (by omega) h2.left
  have e3 := rdB_back s2 (by omega) h2.right
  unfold rdDt
  rw [e1]; simp only [Option.bind_some]
  rw [e2]; simp only [Option.bind_some]
  rw [e3]; simp only [Option.bind_some]
  have a1 : last + (v.beg - last) = v.beg := by omega
  rw [a1]
  simp only [encT, List.length_append, Nat.add_assoc]
theorem rdDt_form {s : ByteArray} {p q : Nat} {hi last : Int} {v : DT} (h0 : 0 ≤ last) (h : rdDt s hi p last = some (v, q)) : HasAt s p (encT last v) ∧ q = p + (encT last v).length ∧ q ≤ s.size ∧ last ≤ v.beg ∧ v.beg ≤ hi ∧ v.key.size ≤ 1048576 ∧ v.data.size ≤ 1048576 := by
  unfold rdDt at h
  obtain ⟨⟨x1, p1⟩, r1, h⟩ := Option.bind_eq_some_iff.1 h
  obtain ⟨⟨x2, p2⟩, r2, h⟩ := Option.bind_eq_some_iff.1 h
  obtain ⟨⟨x3, p3⟩, r3, h⟩ := Option.bind_eq_some_iff.1 h
  simp only at r2 r3 h
  injection h with h
  injection h with hv hq
  obtain ⟨f1, q1, a1, b1⟩ := rdU_form r1
  obtain ⟨f2, q2, z2, b2⟩ := rdB_form r2
  obtain ⟨f3, q3, z3, b3⟩ := rdB_form r3
  subst hv hq
  subst q1 q2 q3
  have c2 : last + x1 - last = x1 := by omega
  refine ⟨?_, ?_, z3, by simp only; omega, by simp only; omega, b2, b3⟩
  · unfold encT
    simp only [c2]
    exact HasAt.append f1 (HasAt.append f2 f3)
  · simp only [encT, c2, List.length_append]
    omega
/-- Each datum stands rightly behind the one that begins at last. -/
def okTs (lo hi : Int) : Int → List DT → Prop
  | _, [] => True
  | last, p :: ps => last ≤ p.beg ∧ mayT lo hi p ∧ okTs lo hi p.beg ps
theorem okTs_drop {lo hi : Int} {ps : List DT} (h : ∀ k (hk : k < ps.length), okT lo hi ps k hk) : ∀ (n k : Nat), n + k = ps.length → okTs lo hi (lastT lo ps k) (ps.drop k)
  | 0, k, hk => by rw [List.drop_eq_nil_of_le (by omega)]; trivial
  | n + 1, k, hk => by
    have hkl : k < ps.length := by omega
    rw [List.drop_eq_getElem_cons hkl]
    have ih := okTs_drop h n (k + 1) (by omega)
    rw [lastT_succ hkl] at ih
    obtain ⟨h1, h2⟩ := h k hkl
    refine ⟨?_, h1, ih⟩
    cases k with
    | zero => have := h1.1; rw [lastT_zero]; omega
    | succ k =>
      rw [lastT_succ (by omega)]
      rcases h2 k rfl with a | ⟨a, _⟩ <;> omega
theorem mayA_from {id lo hi : Int} {ps : List DT} (h : mayA id lo hi ps) : okTs lo hi lo ps := by
  have := okTs_drop h.2.2.2 ps.length 0 (by omega)
  rwa [List.drop_zero] at this
theorem rdDts_back {s : ByteArray} {lo hi : Int} (hh : hi ≤ 4611686018427387903) : ∀ (ps : List DT) (p : Nat) (last : Int), p ≤ s.size → 0 ≤ last → okTs lo hi last ps → HasAt s p (encTs last ps) → rdDts s hi ps.length p last = some (ps, p + (encTs last ps).length)
  | [], p, last, _, _, _, _ => by simp [rdDts, encTs]
  | v :: ps, p, last, hp, h0, ⟨o1, o2, o3⟩, h => by
    rw [encTs] at h
    have s1 := h.left.size hp
    have e1 := rdDt_back hp o2 o1 h0 hh h.left
    have e2 := rdDts_back hh ps _ v.beg s1 (by omega) o3 h.right
    rw [List.length_cons, rdDts, e1]
    simp only [Option.bind_some]
    rw [e2]
    simp only [Option.bind_some, encTs, List.length_append, Nat.add_assoc]
theorem rdDts_form {s : ByteArray} {hi : Int} : ∀ (n p q : Nat) (last : Int) (ps : List DT), p ≤ s.size → 0 ≤ last → rdDts s hi n p last = some (ps, q) → HasAt s p (encTs last ps) ∧ q = p + (encTs last ps).length ∧ ps.length = n ∧ q ≤ s.size
  | 0, p, q, last, ps, hp, _, h => by
    rw [rdDts] at h
    injection h with h
    injection h with h1 h2
    subst h1 h2
    exact ⟨HasAt.nil s p, by simp [encTs], rfl, hp⟩
  | n + 1, p, q, last, ps, hp, h0, h => by
    rw [rdDts] at h
    obtain ⟨⟨v, p1⟩, r1, h⟩ := Option.bind_eq_some_iff.1 h
    obtain ⟨⟨vs, p2⟩, r2, h⟩ := Option.bind_eq_some_iff.1 h
    simp only at r2 h
    injection h with h
    injection h with h1 h2
    subst h1 h2
    obtain ⟨f1, q1, z1, l1, _⟩ := rdDt_form h0 r1
    obtain ⟨f2, q2, n2, z2⟩ := rdDts_form n p1 p2 v.beg vs z1 (by omega) r2
    subst q1
    refine ⟨HasAt.append f1 f2, ?_, by simp [n2], z2⟩
    rw [q2, encTs, List.length_append]
    omega
theorem rdA_back {s : ByteArray} {id lo hi : Int} {ps : List DT} (h8 : 8 ≤ s.size) (h0 : 0 ≤ lo) (hm : mayA id lo hi ps) (h : HasAt s 8 (encA id lo hi ps)) (hl : s.size = 8 + (encA id lo hi ps).length) : rdA s = some ((id, lo, hi), ps) := by
  have hf := mayA_from hm
  obtain ⟨⟨g1, g2⟩, ⟨n1, n2⟩, l1, hk⟩ := hm
  unfold encA at h hl
  have s1 := h.left.size h8
  have e1 := rdU_back (most := 99999999) h.left (by omega) g2 (by omega)
  have h2 := h.right
  have s2 := h2.left.size s1
  have e2 := rdU_back (most := 4611686018427387903) h2.left (by omega) (by omega) (by omega)
  have h3 := h2.right
  have s3 := h3.left.size s2
  have e3 := rdU_back (most := 4611686018427387903 - lo) h3.left (by omega) (by omega) (by omega)
  have h4 := h3.right
  have s4 := h4.left.size s3
  have e4 := rdU_back (most := 65536) h4.left (by omega) (by omega) (by omega)
  have e5 := rdDts_back (lo := lo) (hi := hi) (by omega) ps _ lo s4 h0 hf h4.right
  have a1 : lo + (hi - lo) = hi := by omega
  unfold rdA
  rw [e1]; simp only [Option.bind_some]
  rw [e2]; simp only [Option.bind_some]
  rw [e3]; simp only [Option.bind_some, a1]
  rw [e4]; simp only [Option.bind_some, Int.toNat_natCast]
  rw [e5]; simp only [Option.bind_some]
  simp only [List.length_append] at hl
  rw [if_pos (by omega)]
theorem rdA_form {s : ByteArray} {id lo hi : Int} {ps : List DT} (h8 : 8 ≤ s.size) (h : rdA s = some ((id, lo, hi), ps)) : HasAt s 8 (encA id lo hi ps) ∧ s.size = 8 + (encA id lo hi ps).length ∧ 0 ≤ id ∧ 0 ≤ lo ∧ lo ≤ hi := by
  unfold rdA at h
  obtain ⟨⟨x1, p1⟩, r1, h⟩ := Option.bind_eq_some_iff.1 h
  obtain ⟨⟨x2, p2⟩, r2, h⟩ := Option.bind_eq_some_iff.1 h
  obtain ⟨⟨x3, p3⟩, r3, h⟩ := Option.bind_eq_some_iff.1 h
  obtain ⟨⟨x4, p4⟩, r4, h⟩ := Option.bind_eq_some_iff.1 h
  obtain ⟨⟨vs, p5⟩, r5, h⟩ := Option.bind_eq_some_iff.1 h
  simp only at r2 r3 r4 r5 h
  split at h
  · rename_i hq
    injection h with h
    injection h with ha hv
    injection ha with ha1 ha2
    injection ha2 with ha2 ha3
    subst ha1 ha2 ha3 hv
    obtain ⟨f1, q1, a1, b1⟩ := rdU_form r1
    obtain ⟨f2, q2, a2, b2⟩ := rdU_form r2
    obtain ⟨f3, q3, a3, b3⟩ := rdU_form r3
    obtain ⟨f4, q4, a4, b4⟩ := rdU_form r4
    subst q1
    have z1 := f1.size h8
    subst q2
    have z2 := f2.size z1
    subst q3
    have z3 := f3.size z2
    subst q4
    have z4 := f4.size z3
    obtain ⟨f5, q5, n5, z5⟩ := rdDts_form _ _ _ _ _ z4 a2 r5
    have e4 : x4 = ((vs.length : Nat) : Int) := by omega
    have e3 : x2 + x3 - x2 = x3 := by omega
    subst e4
    refine ⟨?_, ?_, a1, a2, by omega⟩
    · unfold encA
      rw [e3]
      exact HasAt.append f1 (HasAt.append f2 (HasAt.append f3 (HasAt.append f4 f5)))
    · rw [← hq, q5]
      simp only [encA, e3, List.length_append]
      omega
  · cases h
end Go.Proofs.YtbfjnidpjmhfiaaGreatDoor

namespace Go.Proofs.YtbfjnidpjmhfiaaGreatDoor
set_option linter.unusedSimpArgs false
open Go.ChangeShapes Go.WideShapes Go.ChangeAt Go.RowKit
set_option linter.unusedVariables false
set_option maxRecDepth 100000
set_option maxHeartbeats 6400000 in
theorem dataMay_any (w : World) (id gen lo hi : Int) (da ao : Option Addr) (en dc cap : Nat) (ps : List DT) (hs : SeesT w w.heap.size da ps) :
    Calls Tryz.prog 29 #[.agg #[.int .i64 id, .int .u64 lo, .int .u64 hi, .slice da ps.length dc, .int .i64 gen, .slice ao en cap]] w (RetB (mayA id lo hi ps) w) := by
  have HS : Hid (SeesT w w.heap.size da ps) := hs
  clear hs
  by_cases hh : (1 ≤ id ∧ id ≤ 99999999) ∧ (lo < hi ∧ hi ≤ 4611686018427387903) ∧ ps.length ≤ 65536
  · obtain ⟨⟨g1, g2⟩, ⟨n1, n2⟩, l1⟩ := hh
    have HB0 : Hid (Below w.heap.size w (w.alloc (.cells #[.int .i64 id, .int .u64 lo, .int .u64 hi, .slice da ps.length dc, .int .i64 gen, .slice ao en cap] 26))) := (Below.refl _ _).alloc (Nat.le_refl _) _
    have HF0 : Hid (Fp6 (w.alloc (.cells #[.int .i64 id, .int .u64 lo, .int .u64 hi, .slice da ps.length dc, .int .i64 gen, .slice ao en cap] 26)) w.heap.size (.int .i64 id) (.int .u64 lo) (.int .u64 hi) (.slice da ps.length dc) (.int .i64 gen) (.slice ao en cap)) := heap_alloc_new w _
    have l1' : (ps.length : Int) ≤ 65536 := by omega
    go_enter Tryz.func29, Tryz.ntmps29
    go_wp2_with fail
    go_loopw [3] (fun i wr => ∃ k : Nat, k ≤ ps.length ∧ i = .int .i64 k ∧ (∀ j (hj : j < ps.length), j < k → okT lo hi ps j hj) ∧ Fp6 wr w.heap.size (.int .i64 id) (.int .u64 lo) (.int .u64 hi) (.slice da ps.length dc) (.int .i64 gen) (.slice ao en cap) ∧ Below w.heap.size w wr) (fun i _ => ps.length - (intOf i).toNat)
    case atStart => exact ⟨0, Nat.zero_le _, rfl, fun j _ h => absurd h (by omega), HF0.out, HB0.out⟩
    case round =>
      obtain ⟨k, hk, rfl, hok, hbox, hbel⟩ := hrel
      have HOK : Hid (∀ j (hj : j < ps.length), j < k → okT lo hi ps j hj) := hok
      have HFk : Hid (Fp6 wr w.heap.size (.int .i64 id) (.int .u64 lo) (.int .u64 hi) (.slice da ps.length dc) (.int .i64 gen) (.slice ao en cap)) := hbox
      have HBk : Hid (Below w.heap.size w wr) := hbel
      clear hok hbox hbel HF0 HB0
      have f1 : wr.cell? ⟨w.heap.size, 1, none⟩ = some (.int .u64 lo) := HFk.out.cell 1
      have f2 : wr.cell? ⟨w.heap.size, 2, none⟩ = some (.int .u64 hi) := HFk.out.cell 2
      have f3 : wr.cell? ⟨w.heap.size, 3, none⟩ = some (.slice da ps.length dc) := HFk.out.cell 3
      by_cases hkl : k < ps.length
      · obtain ⟨b, off, hao, hb, hat⟩ := (HS.out.later HBk.out) k hkl
        obtain ⟨c0, c1, c2⟩ := hat
        subst hao
        have HBA : Hid (∀ o, Below w.heap.size w (wr.alloc o)) := fun o => HBk.out.alloc HBk.out.size o
        have HK : Hid (∀ s W, _) := fun s W => key_any s W
        have HNO : Hid (¬ mayT lo hi ps[k] → ¬ mayA id lo hi ps) := fun h h2 => h (h2.2.2.2 k hkl).1
        have HFx : Hid (Fp6 (wr.alloc (.cells #[.int .u64 ps[k].beg, .string ps[k].key, .string ps[k].data] 31)) w.heap.size (.int .i64 id) (.int .u64 lo) (.int .u64 hi) (.slice (some ⟨b, off, none⟩) ps.length dc) (.int .i64 gen) (.slice ao en cap)) := (Below.heap_alloc _ _ _ HFk.out.lt).trans HFk.out
        have x1 : (wr.alloc (.cells #[.int .u64 ps[k].beg, .string ps[k].key, .string ps[k].data] 31)).cell? ⟨w.heap.size, 1, none⟩ = some (.int .u64 lo) := HFx.out.cell 1
        have x2 : (wr.alloc (.cells #[.int .u64 ps[k].beg, .string ps[k].key, .string ps[k].data] 31)).cell? ⟨w.heap.size, 2, none⟩ = some (.int .u64 hi) := HFx.out.cell 2
        by_cases q1 : ps[k].beg ≤ lo
        · have HN1 : Hid (¬ mayA id lo hi ps) := HNO.out (fun h => by have := h.1; omega)
          go_wp2
          go_ret
          exact RetB.no rfl HN1.out (HBA.out _)
        · by_cases q2 : hi < ps[k].beg
          · have HN1 : Hid (¬ mayA id lo hi ps) := HNO.out (fun h => by have := h.2.1; omega)
            go_wp2
            go_ret
            exact RetB.no rfl HN1.out (HBA.out _)
          · by_cases q4 : 1 ≤ ps[k].key.size ∧ ps[k].key.size ≤ 160
            · have HK1 : Hid (∀ W, Calls Tryz.prog 53 #[.string ps[k].key] W fun e w' => e = .returned (.bool true) ∧ w' = W) := fun W => by
                have := key_any ps[k].key W
                rwa [decide_eq_true q4] at this
              by_cases q5 : ps[k].data.size ≤ 512
              · have HME : Hid (mayT lo hi ps[k]) := ⟨by omega, by omega, q4.1, q4.2, q5⟩
                have q5' : (ps[k].data.size : Int) ≤ 512 := by omega
                clear q4
                go_wp2_with fail
                refine (HK1.out _).mono ?_
                rintro e w1 ⟨rfl, rfl⟩
                go_wp2_with fail
                have HB1 : Hid (Below w.heap.size w (wr.alloc (.cells #[.int .u64 ps[k].beg, .string ps[k].key, .string ps[k].data] 31))) := HBA.out _
                have HF1 : Hid (Fp6 (wr.alloc (.cells #[.int .u64 ps[k].beg, .string ps[k].key, .string ps[k].data] 31)) w.heap.size (.int .i64 id) (.int .u64 lo) (.int .u64 hi) (.slice (some ⟨b, off, none⟩) ps.length dc) (.int .i64 gen) (.slice ao en cap)) := (Below.heap_alloc _ _ _ HFk.out.lt).trans HFk.out
                have e0 : (wr.alloc (.cells #[.int .u64 ps[k].beg, .string ps[k].key, .string ps[k].data] 31)).cell? ⟨wr.heap.size, 0, none⟩ = some (.int .u64 ps[k].beg) := by simp [go_sem]
                have e1 : (wr.alloc (.cells #[.int .u64 ps[k].beg, .string ps[k].key, .string ps[k].data] 31)).cell? ⟨wr.heap.size, 1, none⟩ = some (.string ps[k].key) := by simp [go_sem]
                generalize hW1 : wr.alloc (.cells #[.int .u64 ps[k].beg, .string ps[k].key, .string ps[k].data] 31) = W1 at *
                generalize hXX : wr.heap.size = X at *
                clear hW1 hXX c0 c1 c2 f1 f2 f3 x1 x2 HFx HBA HK HK1 HFk HBk
                have f3 : W1.cell? ⟨w.heap.size, 3, none⟩ = some (.slice (some ⟨b, off, none⟩) ps.length dc) := HF1.out.cell 3
                rcases Nat.eq_zero_or_pos k with hk0 | hk0
                · subst hk0
                  have HO : Hid (okT lo hi ps 0 hkl) := ⟨HME.out, fun j hj => absurd hj (by omega)⟩
                  (refine wp_region_held_drew (S := (fun W => W.cell? ⟨w.heap.size, 3, none⟩ = some (.slice (some ⟨b, off, none⟩) ps.length dc))) (by kernel_rfl) f3 (fun hHeld => ?_); simp only [List.size_toArray, List.length_cons, List.length_nil, Nat.reduceAdd, Array.replicate_succ, Array.replicate_zero, List.push_toArray, List.append_toArray, List.nil_append, List.cons_append])
                  (refine tk0 (v := ?_) (by kernel_rfl) (by kernel_rfl) (by kernel_rfl) (fun _ _ _ h => h) (Or.inl ⟨by rfl, ?_⟩) (by assumption) ?_; rotate_left; (focus (intro w hSw; (try dsimp only at hSw); go_simp; (try first | (rw [dif_pos (by omega)]; simp only [Result.andThen_ok]) | rw [if_pos (by omega)]); (try with_reducible rfl); done)); try simp only [Act.put, List.setIfInBounds_toArray, List.set_cons_zero, List.set_cons_succ])
                  (refine tk1 (v := ?_) (by kernel_rfl) (by kernel_rfl) (by kernel_rfl) (fun _ _ _ h => h) (Or.inl ⟨by rfl, ?_⟩) (by assumption) ?_; rotate_left; (focus (intro w hSw; (try dsimp only at hSw); go_simp; (try first | (rw [dif_pos (by omega)]; simp only [Result.andThen_ok]) | rw [if_pos (by omega)]); (try with_reducible rfl); done)); try simp only [Act.put, List.setIfInBounds_toArray, List.set_cons_zero, List.set_cons_succ])
                  (refine tk2 (v := ?_) (by kernel_rfl) (by kernel_rfl) (by kernel_rfl) (fun _ _ _ h => h) (Or.inl ⟨by rfl, ?_⟩) (by assumption) ?_; rotate_left; (focus (intro w hSw; (try dsimp only at hSw); go_simp; (try first | (rw [dif_pos (by omega)]; simp only [Result.andThen_ok]) | rw [if_pos (by omega)]); (try with_reducible rfl); done)); try simp only [Act.put, List.setIfInBounds_toArray, List.set_cons_zero, List.set_cons_succ])
                  (refine tk3 (v := undef) (by kernel_rfl) (by kernel_rfl) (by kernel_rfl) (fun _ _ _ h => h) (Or.inr ⟨by rfl, rfl⟩) (by assumption) ?_; try simp only [Act.put, List.setIfInBounds_toArray, List.set_cons_zero, List.set_cons_succ])
                  (refine tk4 (v := undef) (by kernel_rfl) (by kernel_rfl) (by kernel_rfl) (fun _ _ _ h => h) (Or.inr ⟨by rfl, rfl⟩) (by assumption) ?_; try simp only [Act.put, List.setIfInBounds_toArray, List.set_cons_zero, List.set_cons_succ])
                  (refine tk5 (v := undef) (by kernel_rfl) (by kernel_rfl) (by kernel_rfl) (fun _ _ _ h => h) (Or.inr ⟨by rfl, rfl⟩) (by assumption) ?_; try simp only [Act.put, List.setIfInBounds_toArray, List.set_cons_zero, List.set_cons_succ])
                  (refine tk6 (v := undef) (by kernel_rfl) (by kernel_rfl) (by kernel_rfl) (fun _ _ _ h => h) (Or.inr ⟨by rfl, rfl⟩) (by assumption) ?_; try simp only [Act.put, List.setIfInBounds_toArray, List.set_cons_zero, List.set_cons_succ])
                  (refine tk7 (v := undef) (by kernel_rfl) (by kernel_rfl) (by kernel_rfl) (fun _ _ _ h => h) (Or.inr ⟨by rfl, rfl⟩) (by assumption) ?_; try simp only [Act.put, List.setIfInBounds_toArray, List.set_cons_zero, List.set_cons_succ])
                  (refine tk8 (v := undef) (by kernel_rfl) (by kernel_rfl) (by kernel_rfl) (fun _ _ _ h => h) (Or.inr ⟨by rfl, rfl⟩) (by assumption) ?_; try simp only [Act.put, List.setIfInBounds_toArray, List.set_cons_zero, List.set_cons_succ])
                  (refine tk9 (v := undef) (by kernel_rfl) (by kernel_rfl) (by kernel_rfl) (fun _ _ _ h => h) (Or.inr ⟨by rfl, rfl⟩) (by assumption) ?_; try simp only [Act.put, List.setIfInBounds_toArray, List.set_cons_zero, List.set_cons_succ])
                  (refine tk10 (v := undef) (by kernel_rfl) (by kernel_rfl) (by kernel_rfl) (fun _ _ _ h => h) (Or.inr ⟨by rfl, rfl⟩) (by assumption) ?_; try simp only [Act.put, List.setIfInBounds_toArray, List.set_cons_zero, List.set_cons_succ])
                  (refine tk11 (v := undef) (by kernel_rfl) (by kernel_rfl) (by kernel_rfl) (fun _ _ _ h => h) (Or.inr ⟨by rfl, rfl⟩) (by assumption) ?_; try simp only [Act.put, List.setIfInBounds_toArray, List.set_cons_zero, List.set_cons_succ])
                  (refine tk12 (v := undef) (by kernel_rfl) (by kernel_rfl) (by kernel_rfl) (fun _ _ _ h => h) (Or.inr ⟨by rfl, rfl⟩) (by assumption) ?_; try simp only [Act.put, List.setIfInBounds_toArray, List.set_cons_zero, List.set_cons_succ])
                  (refine tk13 (v := undef) (by kernel_rfl) (by kernel_rfl) (by kernel_rfl) (fun _ _ _ h => h) (Or.inr ⟨by rfl, rfl⟩) (by assumption) ?_; try simp only [Act.put, List.setIfInBounds_toArray, List.set_cons_zero, List.set_cons_succ])
                  (refine tk14 (v := undef) (by kernel_rfl) (by kernel_rfl) (by kernel_rfl) (fun _ _ _ h => h) (Or.inr ⟨by rfl, rfl⟩) (by assumption) ?_; try simp only [Act.put, List.setIfInBounds_toArray, List.set_cons_zero, List.set_cons_succ])
                  (refine tk15 (v := undef) (by kernel_rfl) (by kernel_rfl) (by kernel_rfl) (fun _ _ _ h => h) (Or.inr ⟨by rfl, rfl⟩) (by assumption) ?_; try simp only [Act.put, List.setIfInBounds_toArray, List.set_cons_zero, List.set_cons_succ])
                  (refine tk16 (v := undef) (by kernel_rfl) (by kernel_rfl) (by kernel_rfl) (fun _ _ _ h => h) (Or.inr ⟨by rfl, rfl⟩) (by assumption) ?_; try simp only [Act.put, List.setIfInBounds_toArray, List.set_cons_zero, List.set_cons_succ])
                  (refine tk17 (v := undef) (by kernel_rfl) (by kernel_rfl) (by kernel_rfl) (fun _ _ _ h => h) (Or.inr ⟨by rfl, rfl⟩) (by assumption) ?_; try simp only [Act.put, List.setIfInBounds_toArray, List.set_cons_zero, List.set_cons_succ])
                  (refine tk18 (v := undef) (by kernel_rfl) (by kernel_rfl) (by kernel_rfl) (fun _ _ _ h => h) (Or.inr ⟨by rfl, rfl⟩) (by assumption) ?_; try simp only [Act.put, List.setIfInBounds_toArray, List.set_cons_zero, List.set_cons_succ])
                  (refine tk19 (v := undef) (by kernel_rfl) (by kernel_rfl) (by kernel_rfl) (fun _ _ _ h => h) (Or.inr ⟨by rfl, rfl⟩) (by assumption) ?_; try simp only [Act.put, List.setIfInBounds_toArray, List.set_cons_zero, List.set_cons_succ])
                  (refine tk20 (v := undef) (by kernel_rfl) (by kernel_rfl) (by kernel_rfl) (fun _ _ _ h => h) (Or.inr ⟨by rfl, rfl⟩) (by assumption) ?_; try simp only [Act.put, List.setIfInBounds_toArray, List.set_cons_zero, List.set_cons_succ])
                  (refine tk21 (v := undef) (by kernel_rfl) (by kernel_rfl) (by kernel_rfl) (fun _ _ _ h => h) (Or.inr ⟨by rfl, rfl⟩) (by assumption) ?_; try simp only [Act.put, List.setIfInBounds_toArray, List.set_cons_zero, List.set_cons_succ])
                  (refine tk22 (v := undef) (by kernel_rfl) (by kernel_rfl) (by kernel_rfl) (fun _ _ _ h => h) (Or.inr ⟨by rfl, rfl⟩) (by assumption) ?_; try simp only [Act.put, List.setIfInBounds_toArray, List.set_cons_zero, List.set_cons_succ])
                  (refine tk23 (v := ?_) (by kernel_rfl) (by kernel_rfl) (by kernel_rfl) (fun _ _ _ h => h) (Or.inl ⟨by rfl, ?_⟩) (by assumption) ?_; rotate_left; (focus (intro w hSw; (try dsimp only at hSw); go_simp; (try first | (rw [dif_pos (by omega)]; simp only [Result.andThen_ok]) | rw [if_pos (by omega)]); (try with_reducible rfl); done)); try simp only [Act.put, List.setIfInBounds_toArray, List.set_cons_zero, List.set_cons_succ])
                  refine wpAnyH_done (by kernel_rfl) ?_ _
                  go_wp2
                  go_roundw
                  case rel =>
                    refine ⟨1, by omega, by go_num, fun j hj hj1 => ?_, HF1.out, HB1.out.drew⟩
                    obtain rfl : j = 0 := by omega
                    exact HO.out
                  case measure => simp [intOf]; omega
                · obtain ⟨j, rfl⟩ : ∃ j, k = j + 1 := ⟨k - 1, by omega⟩
                  have hw1 : IntKind.i64.wrap (((j + 1 : Nat) : Int) - 1) = (j : Int) := by rw [IntKind.wrap_i64]; omega
                  have hw2 : IntKind.i64.wrap ((j : Int) + 1 - 1) = (j : Int) := by rw [IntKind.wrap_i64]; omega
                  have hw3 : IntKind.i64.wrap (j : Int) = (j : Int) := by rw [IntKind.wrap_i64]; omega
                  have hjl : (j : Int) < (ps.length : Int) := by omega
                  obtain ⟨b', off', hao', hb', hat'⟩ := (HS.out.later HB1.out) j (by omega)
                  injection hao' with hao'
                  injection hao' with i1 i2
                  subst i1 i2
                  obtain ⟨d0, d1, d2⟩ := hat'
                  have HA : Hid (∀ W, _) := fun W => ahead_any ps[j].beg ps[j].key ps[j + 1].beg ps[j + 1].key W
                  have hXl : X < W1.heap.size := cell_ltM e0
                  have hwl : w.heap.size < W1.heap.size := HF1.out.lt
                  clear d2
                  (refine wp_region_held_drew (S := (fun W => W.cell? ⟨w.heap.size, 3, none⟩ = some (.slice (some ⟨b, off, none⟩) ps.length dc) ∧ W.cell? ⟨b, off + j * 3, none⟩ = some (.int .u64 ps[j].beg) ∧ W.cell? ⟨b, off + j * 3 + 1, none⟩ = some (.string ps[j].key) ∧ W.cell? ⟨X, 0, none⟩ = some (.int .u64 ps[j + 1].beg) ∧ W.cell? ⟨X, 1, none⟩ = some (.string ps[j + 1].key))) (by kernel_rfl) ⟨f3, d0, d1, e0, e1⟩ (fun hHeld => ?_); simp only [List.size_toArray, List.length_cons, List.length_nil, Nat.reduceAdd, Array.replicate_succ, Array.replicate_zero, List.push_toArray, List.append_toArray, List.nil_append, List.cons_append])
                  (refine tk0 (v := ?_) (by kernel_rfl) (by kernel_rfl) (by kernel_rfl) (fun _ _ _ h => h) (Or.inl ⟨by rfl, ?_⟩) (by assumption) ?_; rotate_left; (focus (intro w hSw; (try dsimp only at hSw); go_simp; (try first | (rw [dif_pos (by omega)]; simp only [Result.andThen_ok]) | rw [if_pos (by omega)]); (try with_reducible rfl); done)); try simp only [Act.put, List.setIfInBounds_toArray, List.set_cons_zero, List.set_cons_succ])
                  (refine tk1 (v := ?_) (by kernel_rfl) (by kernel_rfl) (by kernel_rfl) (fun _ _ _ h => h) (Or.inl ⟨by rfl, ?_⟩) (by assumption) ?_; rotate_left; (focus (intro w hSw; (try dsimp only at hSw); go_simp; (try first | (rw [dif_pos (by omega)]; simp only [Result.andThen_ok]) | rw [if_pos (by omega)]); (try with_reducible rfl); done)); try simp only [Act.put, List.setIfInBounds_toArray, List.set_cons_zero, List.set_cons_succ])
                  (refine tk2 (v := ?_) (by kernel_rfl) (by kernel_rfl) (by kernel_rfl) (fun _ _ _ h => h) (Or.inl ⟨by rfl, ?_⟩) (by assumption) ?_; rotate_left; (focus (intro w hSw; (try dsimp only at hSw); go_simp; (try first | (rw [dif_pos (by omega)]; simp only [Result.andThen_ok]) | rw [if_pos (by omega)]); (try with_reducible rfl); done)); try simp only [Act.put, List.setIfInBounds_toArray, List.set_cons_zero, List.set_cons_succ])
                  (refine tk3 (v := ?_) (by kernel_rfl) (by kernel_rfl) (by kernel_rfl) (fun _ _ _ h => h) (Or.inl ⟨by rfl, ?_⟩) (by assumption) ?_; rotate_left; (focus (intro w hSw; (try dsimp only at hSw); go_simp; (try first | (rw [dif_pos (by omega)]; simp only [Result.andThen_ok]) | rw [if_pos (by omega)]); (try with_reducible rfl); done)); try simp only [Act.put, List.setIfInBounds_toArray, List.set_cons_zero, List.set_cons_succ])
                  (refine tk4 (v := ?_) (by kernel_rfl) (by kernel_rfl) (by kernel_rfl) (fun _ _ _ h => h) (Or.inl ⟨by rfl, ?_⟩) (by assumption) ?_; rotate_left; (focus (intro w hSw; (try dsimp only at hSw); go_simp; (try first | (rw [dif_pos (by omega)]; simp only [Result.andThen_ok]) | rw [if_pos (by omega)]); (try with_reducible rfl); done)); try simp only [Act.put, List.setIfInBounds_toArray, List.set_cons_zero, List.set_cons_succ])
                  (refine tk5 (v := ?_) (by kernel_rfl) (by kernel_rfl) (by kernel_rfl) (fun _ _ _ h => h) (Or.inl ⟨by rfl, ?_⟩) (by assumption) ?_; rotate_left; (focus (intro w hSw; (try dsimp only at hSw); go_simp; (try first | (rw [dif_pos (by omega)]; simp only [Result.andThen_ok]) | rw [if_pos (by omega)]); (try with_reducible rfl); done)); try simp only [Act.put, List.setIfInBounds_toArray, List.set_cons_zero, List.set_cons_succ])
                  (refine tk6 (v := ?_) (by kernel_rfl) (by kernel_rfl) (by kernel_rfl) (fun _ _ _ h => h) (Or.inl ⟨by rfl, ?_⟩) (by assumption) ?_; rotate_left; (focus (intro w hSw; (try dsimp only at hSw); go_simp; (try first | (rw [dif_pos (by omega)]; simp only [Result.andThen_ok]) | rw [if_pos (by omega)]); (try with_reducible rfl); done)); try simp only [Act.put, List.setIfInBounds_toArray, List.set_cons_zero, List.set_cons_succ])
                  (refine tk7 (v := ?_) (by kernel_rfl) (by kernel_rfl) (by kernel_rfl) (fun _ _ _ h => h) (Or.inl ⟨by rfl, ?_⟩) (by assumption) ?_; rotate_left; (focus (intro w hSw; (try dsimp only at hSw); go_simp; (try first | (rw [dif_pos (by omega)]; simp only [Result.andThen_ok]) | rw [if_pos (by omega)]); (try with_reducible rfl); done)); try simp only [Act.put, List.setIfInBounds_toArray, List.set_cons_zero, List.set_cons_succ])
                  (refine tk8 (v := ?_) (by kernel_rfl) (by kernel_rfl) (by kernel_rfl) (fun _ _ _ h => h) (Or.inl ⟨by rfl, ?_⟩) (by assumption) ?_; rotate_left; (focus (intro w hSw; (try dsimp only at hSw); go_simp; (try first | (rw [dif_pos (by omega)]; simp only [Result.andThen_ok]) | rw [if_pos (by omega)]); (try with_reducible rfl); done)); try simp only [Act.put, List.setIfInBounds_toArray, List.set_cons_zero, List.set_cons_succ])
                  (refine tk9 (v := ?_) (by kernel_rfl) (by kernel_rfl) (by kernel_rfl) (fun _ _ _ h => h) (Or.inl ⟨by rfl, ?_⟩) (by assumption) ?_; rotate_left; (focus (intro w hSw; (try dsimp only at hSw); go_simp; (try first | (rw [dif_pos (by omega)]; simp only [Result.andThen_ok]) | rw [if_pos (by omega)]); (try with_reducible rfl); done)); try simp only [Act.put, List.setIfInBounds_toArray, List.set_cons_zero, List.set_cons_succ])
                  (refine tk10 (v := ?_) (by kernel_rfl) (by kernel_rfl) (by kernel_rfl) (fun _ _ _ h => h) (Or.inl ⟨by rfl, ?_⟩) (by assumption) ?_; rotate_left; (focus (intro w hSw; (try dsimp only at hSw); go_simp; (try first | (rw [dif_pos (by omega)]; simp only [Result.andThen_ok]) | rw [if_pos (by omega)]); (try with_reducible rfl); done)); try simp only [Act.put, List.setIfInBounds_toArray, List.set_cons_zero, List.set_cons_succ])
                  (refine tk11 (v := ?_) (by kernel_rfl) (by kernel_rfl) (by kernel_rfl) (fun _ _ _ h => h) (Or.inl ⟨by rfl, ?_⟩) (by assumption) ?_; rotate_left; (focus (intro w hSw; (try dsimp only at hSw); go_simp; (try first | (rw [dif_pos (by omega)]; simp only [Result.andThen_ok]) | rw [if_pos (by omega)]); (try with_reducible rfl); done)); try simp only [Act.put, List.setIfInBounds_toArray, List.set_cons_zero, List.set_cons_succ])
                  (refine tk12 (v := ?_) (by kernel_rfl) (by kernel_rfl) (by kernel_rfl) (fun _ _ _ h => h) (Or.inl ⟨by rfl, ?_⟩) (by assumption) ?_; rotate_left; (focus (intro w hSw; (try dsimp only at hSw); go_simp; (try first | (rw [dif_pos (by omega)]; simp only [Result.andThen_ok]) | rw [if_pos (by omega)]); (try with_reducible rfl); done)); try simp only [Act.put, List.setIfInBounds_toArray, List.set_cons_zero, List.set_cons_succ])
                  (refine tk13 (v := ?_) (by kernel_rfl) (by kernel_rfl) (by kernel_rfl) (fun _ _ _ h => h) (Or.inl ⟨by rfl, ?_⟩) (by assumption) ?_; rotate_left; (focus (intro w hSw; (try dsimp only at hSw); go_simp; (try first | (rw [dif_pos (by omega)]; simp only [Result.andThen_ok]) | rw [if_pos (by omega)]); (try with_reducible rfl); done)); try simp only [Act.put, List.setIfInBounds_toArray, List.set_cons_zero, List.set_cons_succ])
                  (refine tk14 (v := ?_) (by kernel_rfl) (by kernel_rfl) (by kernel_rfl) (fun _ _ _ h => h) (Or.inl ⟨by rfl, ?_⟩) (by assumption) ?_; rotate_left; (focus (intro w hSw; (try dsimp only at hSw); go_simp; (try first | (rw [dif_pos (by omega)]; simp only [Result.andThen_ok]) | rw [if_pos (by omega)]); (try with_reducible rfl); done)); try simp only [Act.put, List.setIfInBounds_toArray, List.set_cons_zero, List.set_cons_succ])
                  (refine tk15 (v := ?_) (by kernel_rfl) (by kernel_rfl) (by kernel_rfl) (fun _ _ _ h => h) (Or.inl ⟨by rfl, ?_⟩) (by assumption) ?_; rotate_left; (focus (intro w hSw; (try dsimp only at hSw); go_simp; (try first | (rw [dif_pos (by omega)]; simp only [Result.andThen_ok]) | rw [if_pos (by omega)]); (try with_reducible rfl); done)); try simp only [Act.put, List.setIfInBounds_toArray, List.set_cons_zero, List.set_cons_succ])
                  (refine tk16 (v := ?_) (by kernel_rfl) (by kernel_rfl) (by kernel_rfl) (fun _ _ _ h => h) (Or.inl ⟨by rfl, ?_⟩) (by assumption) ?_; rotate_left; (focus (intro w hSw; (try dsimp only at hSw); go_simp; (try first | (rw [dif_pos (by omega)]; simp only [Result.andThen_ok]) | rw [if_pos (by omega)]); (try with_reducible rfl); done)); try simp only [Act.put, List.setIfInBounds_toArray, List.set_cons_zero, List.set_cons_succ])
                  (refine tk17 (v := ?_) (by kernel_rfl) (by kernel_rfl) (by kernel_rfl) (fun _ _ _ h => h) (Or.inl ⟨by rfl, ?_⟩) (by assumption) ?_; rotate_left; (focus (intro w hSw; (try dsimp only at hSw); go_simp; (try first | (rw [dif_pos (by omega)]; simp only [Result.andThen_ok]) | rw [if_pos (by omega)]); (try with_reducible rfl); done)); try simp only [Act.put, List.setIfInBounds_toArray, List.set_cons_zero, List.set_cons_succ])
                  (refine tk18 (v := ?_) (by kernel_rfl) (by kernel_rfl) (by kernel_rfl) (fun _ _ _ h => h) (Or.inl ⟨by rfl, ?_⟩) (by assumption) ?_; rotate_left; (focus (intro w hSw; (try dsimp only at hSw); go_simp; (try first | (rw [dif_pos (by omega)]; simp only [Result.andThen_ok]) | rw [if_pos (by omega)]); (try with_reducible rfl); done)); try simp only [Act.put, List.setIfInBounds_toArray, List.set_cons_zero, List.set_cons_succ])
                  (refine tk19 (v := ?_) (by kernel_rfl) (by kernel_rfl) (by kernel_rfl) (fun _ _ _ h => h) (Or.inl ⟨by rfl, ?_⟩) (by assumption) ?_; rotate_left; (focus (intro w hSw; (try dsimp only at hSw); go_simp; (try first | (rw [dif_pos (by omega)]; simp only [Result.andThen_ok]) | rw [if_pos (by omega)]); (try with_reducible rfl); done)); try simp only [Act.put, List.setIfInBounds_toArray, List.set_cons_zero, List.set_cons_succ])
                  (refine tk20 (v := ?_) (by kernel_rfl) (by kernel_rfl) (by kernel_rfl) (fun _ _ _ h => h) (Or.inl ⟨by rfl, ?_⟩) (by assumption) ?_; rotate_left; (focus (intro w hSw; (try dsimp only at hSw); go_simp; (try first | (rw [dif_pos (by omega)]; simp only [Result.andThen_ok]) | rw [if_pos (by omega)]); (try with_reducible rfl); done)); try simp only [Act.put, List.setIfInBounds_toArray, List.set_cons_zero, List.set_cons_succ])
                  (refine wpAnyH_ready (rs := [21]) (by kernel_rfl) (by simp) ?_; refine ar21 (fun K hK => ?_) AllReadyH.nil; go_simp)
                  refine (HA.out _).mono ?_
                  rintro _ w2 ⟨c, rfl, hiff, hb2⟩
                  have hb2' : Below W1.heap.size W1 w2 := (Below.refl _ _).drew.trans hb2
                  have HIF : Hid (c = true ↔ aheadP ps[j].beg ps[j].key ps[j + 1].beg ps[j + 1].key) := hiff
                  have HB2 : Hid (Below w.heap.size w w2) := HB1.out.trans (hb2'.mono HB1.out.size)
                  have HF2 : Hid (Fp6 w2 w.heap.size (.int .i64 id) (.int .u64 lo) (.int .u64 hi) (.slice (some ⟨b, off, none⟩) ps.length dc) (.int .i64 gen) (.slice ao en cap)) := HF1.out.later hb2' hwl
                  have S2 : w2.cell? ⟨w.heap.size, 3, none⟩ = some (.slice (some ⟨b, off, none⟩) ps.length dc) ∧ w2.cell? ⟨b, off + j * 3, none⟩ = some (.int .u64 ps[j].beg) ∧ w2.cell? ⟨b, off + j * 3 + 1, none⟩ = some (.string ps[j].key) ∧ w2.cell? ⟨X, 0, none⟩ = some (.int .u64 ps[j + 1].beg) ∧ w2.cell? ⟨X, 1, none⟩ = some (.string ps[j + 1].key) := ⟨(hb2'.cell (p := ⟨w.heap.size, 3, none⟩) hwl).trans f3, (hb2'.cell (p := ⟨b, off + j * 3, none⟩) (by simp only; omega)).trans d0, (hb2'.cell (p := ⟨b, off + j * 3 + 1, none⟩) (by simp only; omega)).trans d1, (hb2'.cell (p := ⟨X, 0, none⟩) hXl).trans e0, (hb2'.cell (p := ⟨X, 1, none⟩) hXl).trans e1⟩
                  clear hiff hb2 hb2' HA f3 d0 d1 e0 e1 hHeld
                  (refine hK.out _ _ S2 (fun hHeld => ?_); clear hK K; try simp only [Act.put, List.setIfInBounds_toArray, List.set_cons_zero, List.set_cons_succ])
                  (refine tk22 (v := ?_) (by kernel_rfl) (by kernel_rfl) (by kernel_rfl) (fun _ _ _ h => h) (Or.inl ⟨by rfl, ?_⟩) (by assumption) ?_; rotate_left; (focus (intro w hSw; (try dsimp only at hSw); go_simp; (try first | (rw [dif_pos (by omega)]; simp only [Result.andThen_ok]) | rw [if_pos (by omega)]); (try with_reducible rfl); done)); try simp only [Act.put, List.setIfInBounds_toArray, List.set_cons_zero, List.set_cons_succ])
                  (refine tk23 (v := ?_) (by kernel_rfl) (by kernel_rfl) (by kernel_rfl) (fun _ _ _ h => h) (Or.inl ⟨by rfl, ?_⟩) (by assumption) ?_; rotate_left; (focus (intro w hSw; (try dsimp only at hSw); go_simp; (try first | (rw [dif_pos (by omega)]; simp only [Result.andThen_ok]) | rw [if_pos (by omega)]); (try with_reducible rfl); done)); try simp only [Act.put, List.setIfInBounds_toArray, List.set_cons_zero, List.set_cons_succ])
                  refine wpAnyH_done (by kernel_rfl) ?_ _
                  clear S2 hHeld
                  cases c
                  · have HN1 : Hid (¬ mayA id lo hi ps) := fun h => by
                      have := HIF.out.2 ((h.2.2.2 (j + 1) hkl).2 j rfl)
                      cases this
                    go_wp2
                    go_ret
                    exact RetB.no rfl HN1.out HB2.out
                  · have HO : Hid (okT lo hi ps (j + 1) hkl) := ⟨HME.out, fun i hi => by
                      have e : i = j := (by omega)
                      subst e
                      exact HIF.out.1 rfl⟩
                    go_wp2
                    go_roundw
                    case rel =>
                      refine ⟨j + 1 + 1, by omega, by go_num, fun i hi hi1 => ?_, HF2.out, HB2.out⟩
                      rcases Nat.lt_or_ge i (j + 1) with h | h
                      · exact HOK.out i hi h
                      · obtain rfl : i = j + 1 := by omega
                        exact HO.out
                    case measure => simp [intOf]; omega
              · have HN1 : Hid (¬ mayA id lo hi ps) := HNO.out (fun h => by have := h.2.2.2.2; omega)
                have q5' : (512 : Int) < (ps[k].data.size : Int) := by omega
                clear q4
                go_wp2_with fail
                refine (HK1.out _).mono ?_
                rintro e w1 ⟨rfl, rfl⟩
                go_wp2
                go_ret
                exact RetB.no rfl HN1.out (HBA.out _)
            · have HN1 : Hid (¬ mayA id lo hi ps) := HNO.out (fun h => q4 ⟨h.2.2.1, h.2.2.2.1⟩)
              have HK1 : Hid (∀ W, Calls Tryz.prog 53 #[.string ps[k].key] W fun e w' => e = .returned (.bool false) ∧ w' = W) := fun W => by
                have := key_any ps[k].key W
                rwa [decide_eq_false q4] at this
              clear q4
              go_wp2_with fail
              refine (HK1.out _).mono ?_
              rintro e w1 ⟨rfl, rfl⟩
              go_wp2
              go_ret
              exact RetB.no rfl HN1.out (HBA.out _)
      · have hke : k = ps.length := by omega
        subst hke
        go_wp2
        go_ret
        exact RetB.yes rfl ⟨⟨g1, g2⟩, ⟨n1, n2⟩, l1, fun k hk => HOK.out k hk hk⟩ HBk.out
  · have HN : Hid (¬ mayA id lo hi ps) := fun h => hh ⟨h.1, h.2.1, h.2.2.1⟩
    have HB : Hid (Below w.heap.size w (w.alloc (.cells #[.int .i64 id, .int .u64 lo, .int .u64 hi, .slice da ps.length dc, .int .i64 gen, .slice ao en cap] 26))) := (Below.refl _ _).alloc (Nat.le_refl _) _
    go_enter Tryz.func29, Tryz.ntmps29
    go_wp2
    all_goals first | (exfalso; omega) | (go_ret; exact RetB.no rfl HN.out HB.out)
end Go.Proofs.YtbfjnidpjmhfiaaGreatDoor

namespace Go.Proofs.YtbfjnidpjmhfiaaGreatDoor
set_option linter.unusedSimpArgs false
open Go.ChangeShapes Go.WideShapes Go.ChangeAt Go.RowKit
set_option linter.unusedVariables false
set_option maxRecDepth 100000
set_option maxHeartbeats 6400000 in
theorem mayBeData_any (w : World) (id gen lo hi : Int) (da ao : Option Addr) (en dc cap : Nat) (ps : List DT) (hs : SeesT w w.heap.size da ps) :
    Calls Tryz.prog 24 #[.agg #[.int .i64 id, .int .u64 lo, .int .u64 hi, .slice da ps.length dc, .int .i64 gen, .slice ao en cap]] w (RetB (mayA id lo hi ps) w) := by
  have HS : Hid (SeesT w w.heap.size da ps) := hs
  clear hs
  by_cases hh : (1 ≤ id ∧ id ≤ 99999999) ∧ (lo < hi ∧ hi ≤ 4611686018427387903) ∧ ps.length ≤ 65536
  · obtain ⟨⟨g1, g2⟩, ⟨n1, n2⟩, l1⟩ := hh
    have HB0 : Hid (Below w.heap.size w (w.alloc (.cells #[.int .i64 id, .int .u64 lo, .int .u64 hi, .slice da ps.length dc, .int .i64 gen, .slice ao en cap] 26))) := (Below.refl _ _).alloc (Nat.le_refl _) _
    have HF0 : Hid (Fp6 (w.alloc (.cells #[.int .i64 id, .int .u64 lo, .int .u64 hi, .slice da ps.length dc, .int .i64 gen, .slice ao en cap] 26)) w.heap.size (.int .i64 id) (.int .u64 lo) (.int .u64 hi) (.slice da ps.length dc) (.int .i64 gen) (.slice ao en cap)) := heap_alloc_new w _
    have l1' : (ps.length : Int) ≤ 65536 := by omega
    go_enter Tryz.func24, Tryz.ntmps24
    have HI1 : Hid (∀ W, Calls Tryz.prog 47 #[.int .i64 id] W fun e w' => e = .returned (.bool true) ∧ w' = W) := fun W => by
      have := isFileNo_any W id
      rwa [decide_eq_true ⟨g1, g2⟩] at this
    go_wp2_with fail
    refine (HI1.out _).mono ?_
    rintro e w1 ⟨rfl, rfl⟩
    go_wp2_with fail
    clear HI1
    go_loopw [30] (fun i wr => ∃ k : Nat, k ≤ ps.length ∧ i = .int .i64 k ∧ (∀ j (hj : j < ps.length), j < k → okT lo hi ps j hj) ∧ Fp6 wr w.heap.size (.int .i64 id) (.int .u64 lo) (.int .u64 hi) (.slice da ps.length dc) (.int .i64 gen) (.slice ao en cap) ∧ Below w.heap.size w wr) (fun i _ => ps.length - (intOf i).toNat)
    case atStart => exact ⟨0, Nat.zero_le _, rfl, fun j _ h => absurd h (by omega), HF0.out, HB0.out⟩
    case round =>
      obtain ⟨k, hk, rfl, hok, hbox, hbel⟩ := hrel
      have HOK : Hid (∀ j (hj : j < ps.length), j < k → okT lo hi ps j hj) := hok
      have HFk : Hid (Fp6 wr w.heap.size (.int .i64 id) (.int .u64 lo) (.int .u64 hi) (.slice da ps.length dc) (.int .i64 gen) (.slice ao en cap)) := hbox
      have HBk : Hid (Below w.heap.size w wr) := hbel
      clear hok hbox hbel HF0 HB0
      have f1 : wr.cell? ⟨w.heap.size, 1, none⟩ = some (.int .u64 lo) := HFk.out.cell 1
      have f2 : wr.cell? ⟨w.heap.size, 2, none⟩ = some (.int .u64 hi) := HFk.out.cell 2
      have f3 : wr.cell? ⟨w.heap.size, 3, none⟩ = some (.slice da ps.length dc) := HFk.out.cell 3
      by_cases hkl : k < ps.length
      · obtain ⟨b, off, hao, hb, hat⟩ := (HS.out.later HBk.out) k hkl
        obtain ⟨c0, c1, c2⟩ := hat
        subst hao
        have HBA : Hid (∀ o, Below w.heap.size w (wr.alloc o)) := fun o => HBk.out.alloc HBk.out.size o
        have HK : Hid (∀ s W, _) := fun s W => isKey_any s W
        have HNO : Hid (¬ mayT lo hi ps[k] → ¬ mayA id lo hi ps) := fun h h2 => h (h2.2.2.2 k hkl).1
        have HFx : Hid (Fp6 (wr.alloc (.cells #[.int .u64 ps[k].beg, .string ps[k].key, .string ps[k].data] 31)) w.heap.size (.int .i64 id) (.int .u64 lo) (.int .u64 hi) (.slice (some ⟨b, off, none⟩) ps.length dc) (.int .i64 gen) (.slice ao en cap)) := (Below.heap_alloc _ _ _ HFk.out.lt).trans HFk.out
        have x1 : (wr.alloc (.cells #[.int .u64 ps[k].beg, .string ps[k].key, .string ps[k].data] 31)).cell? ⟨w.heap.size, 1, none⟩ = some (.int .u64 lo) := HFx.out.cell 1
        have x2 : (wr.alloc (.cells #[.int .u64 ps[k].beg, .string ps[k].key, .string ps[k].data] 31)).cell? ⟨w.heap.size, 2, none⟩ = some (.int .u64 hi) := HFx.out.cell 2
        by_cases q1 : ps[k].beg ≤ lo
        · have HN1 : Hid (¬ mayA id lo hi ps) := HNO.out (fun h => by have := h.1; omega)
          go_wp2
          go_ret
          exact RetB.no rfl HN1.out (HBA.out _)
        · by_cases q2 : hi < ps[k].beg
          · have HN1 : Hid (¬ mayA id lo hi ps) := HNO.out (fun h => by have := h.2.1; omega)
            go_wp2
            go_ret
            exact RetB.no rfl HN1.out (HBA.out _)
          · by_cases q4 : 1 ≤ ps[k].key.size ∧ ps[k].key.size ≤ 160
            · have HK1 : Hid (∀ W, Calls Tryz.prog 48 #[.string ps[k].key] W fun e w' => e = .returned (.bool true) ∧ w' = W) := fun W => by
                have := isKey_any ps[k].key W
                rwa [decide_eq_true q4] at this
              by_cases q5 : ps[k].data.size ≤ 512
              · have HME : Hid (mayT lo hi ps[k]) := ⟨by omega, by omega, q4.1, q4.2, q5⟩
                have q5' : (ps[k].data.size : Int) ≤ 512 := by omega
                clear q4
                go_wp2_with fail
                refine (HK1.out _).mono ?_
                rintro e w1 ⟨rfl, rfl⟩
                go_wp2_with fail
                have HB1 : Hid (Below w.heap.size w (wr.alloc (.cells #[.int .u64 ps[k].beg, .string ps[k].key, .string ps[k].data] 31))) := HBA.out _
                have HF1 : Hid (Fp6 (wr.alloc (.cells #[.int .u64 ps[k].beg, .string ps[k].key, .string ps[k].data] 31)) w.heap.size (.int .i64 id) (.int .u64 lo) (.int .u64 hi) (.slice (some ⟨b, off, none⟩) ps.length dc) (.int .i64 gen) (.slice ao en cap)) := (Below.heap_alloc _ _ _ HFk.out.lt).trans HFk.out
                have e0 : (wr.alloc (.cells #[.int .u64 ps[k].beg, .string ps[k].key, .string ps[k].data] 31)).cell? ⟨wr.heap.size, 0, none⟩ = some (.int .u64 ps[k].beg) := by simp [go_sem]
                have e1 : (wr.alloc (.cells #[.int .u64 ps[k].beg, .string ps[k].key, .string ps[k].data] 31)).cell? ⟨wr.heap.size, 1, none⟩ = some (.string ps[k].key) := by simp [go_sem]
                generalize hW1 : wr.alloc (.cells #[.int .u64 ps[k].beg, .string ps[k].key, .string ps[k].data] 31) = W1 at *
                generalize hXX : wr.heap.size = X at *
                clear hW1 hXX c0 c1 c2 f1 f2 f3 x1 x2 HFx HBA HK HK1 HFk HBk
                have f3 : W1.cell? ⟨w.heap.size, 3, none⟩ = some (.slice (some ⟨b, off, none⟩) ps.length dc) := HF1.out.cell 3
                rcases Nat.eq_zero_or_pos k with hk0 | hk0
                · subst hk0
                  have HO : Hid (okT lo hi ps 0 hkl) := ⟨HME.out, fun j hj => absurd hj (by omega)⟩
                  (refine wp_region_held_drew (S := (fun W => W.cell? ⟨w.heap.size, 3, none⟩ = some (.slice (some ⟨b, off, none⟩) ps.length dc))) (by kernel_rfl) f3 (fun hHeld => ?_); simp only [List.size_toArray, List.length_cons, List.length_nil, Nat.reduceAdd, Array.replicate_succ, Array.replicate_zero, List.push_toArray, List.append_toArray, List.nil_append, List.cons_append])
                  (refine tk0 (v := ?_) (by kernel_rfl) (by kernel_rfl) (by kernel_rfl) (fun _ _ _ h => h) (Or.inl ⟨by rfl, ?_⟩) (by assumption) ?_; rotate_left; (focus (intro w hSw; (try dsimp only at hSw); go_simp; (try first | (rw [dif_pos (by omega)]; simp only [Result.andThen_ok]) | rw [if_pos (by omega)]); (try with_reducible rfl); done)); try simp only [Act.put, List.setIfInBounds_toArray, List.set_cons_zero, List.set_cons_succ])
                  (refine tk1 (v := ?_) (by kernel_rfl) (by kernel_rfl) (by kernel_rfl) (fun _ _ _ h => h) (Or.inl ⟨by rfl, ?_⟩) (by assumption) ?_; rotate_left; (focus (intro w hSw; (try dsimp only at hSw); go_simp; (try first | (rw [dif_pos (by omega)]; simp only [Result.andThen_ok]) | rw [if_pos (by omega)]); (try with_reducible rfl); done)); try simp only [Act.put, List.setIfInBounds_toArray, List.set_cons_zero, List.set_cons_succ])
                  (refine tk2 (v := ?_) (by kernel_rfl) (by kernel_rfl) (by kernel_rfl) (fun _ _ _ h => h) (Or.inl ⟨by rfl, ?_⟩) (by assumption) ?_; rotate_left; (focus (intro w hSw; (try dsimp only at hSw); go_simp; (try first | (rw [dif_pos (by omega)]; simp only [Result.andThen_ok]) | rw [if_pos (by omega)]); (try with_reducible rfl); done)); try simp only [Act.put, List.setIfInBounds_toArray, List.set_cons_zero, List.set_cons_succ])
                  (refine tk3 (v := undef) (by kernel_rfl) (by kernel_rfl) (by kernel_rfl) (fun _ _ _ h => h) (Or.inr ⟨by rfl, rfl⟩) (by assumption) ?_; try simp only [Act.put, List.setIfInBounds_toArray, List.set_cons_zero, List.set_cons_succ])
                  (refine tk4 (v := undef) (by kernel_rfl) (by kernel_rfl) (by kernel_rfl) (fun _ _ _ h => h) (Or.inr ⟨by rfl, rfl⟩) (by assumption) ?_; try simp only [Act.put, List.setIfInBounds_toArray, List.set_cons_zero, List.set_cons_succ])
                  (refine tk5 (v := undef) (by kernel_rfl) (by kernel_rfl) (by kernel_rfl) (fun _ _ _ h => h) (Or.inr ⟨by rfl, rfl⟩) (by assumption) ?_; try simp only [Act.put, List.setIfInBounds_toArray, List.set_cons_zero, List.set_cons_succ])
                  (refine tk6 (v := undef) (by kernel_rfl) (by kernel_rfl) (by kernel_rfl) (fun _ _ _ h => h) (Or.inr ⟨by rfl, rfl⟩) (by assumption) ?_; try simp only [Act.put, List.setIfInBounds_toArray, List.set_cons_zero, List.set_cons_succ])
                  (refine tk7 (v := undef) (by kernel_rfl) (by kernel_rfl) (by kernel_rfl) (fun _ _ _ h => h) (Or.inr ⟨by rfl, rfl⟩) (by assumption) ?_; try simp only [Act.put, List.setIfInBounds_toArray, List.set_cons_zero, List.set_cons_succ])
                  (refine tk8 (v := undef) (by kernel_rfl) (by kernel_rfl) (by kernel_rfl) (fun _ _ _ h => h) (Or.inr ⟨by rfl, rfl⟩) (by assumption) ?_; try simp only [Act.put, List.setIfInBounds_toArray, List.set_cons_zero, List.set_cons_succ])
                  (refine tk9 (v := undef) (by kernel_rfl) (by kernel_rfl) (by kernel_rfl) (fun _ _ _ h => h) (Or.inr ⟨by rfl, rfl⟩) (by assumption) ?_; try simp only [Act.put, List.setIfInBounds_toArray, List.set_cons_zero, List.set_cons_succ])
                  (refine tk10 (v := undef) (by kernel_rfl) (by kernel_rfl) (by kernel_rfl) (fun _ _ _ h => h) (Or.inr ⟨by rfl, rfl⟩) (by assumption) ?_; try simp only [Act.put, List.setIfInBounds_toArray, List.set_cons_zero, List.set_cons_succ])
                  (refine tk11 (v := undef) (by kernel_rfl) (by kernel_rfl) (by kernel_rfl) (fun _ _ _ h => h) (Or.inr ⟨by rfl, rfl⟩) (by assumption) ?_; try simp only [Act.put, List.setIfInBounds_toArray, List.set_cons_zero, List.set_cons_succ])
                  (refine tk12 (v := undef) (by kernel_rfl) (by kernel_rfl) (by kernel_rfl) (fun _ _ _ h => h) (Or.inr ⟨by rfl, rfl⟩) (by assumption) ?_; try simp only [Act.put, List.setIfInBounds_toArray, List.set_cons_zero, List.set_cons_succ])
                  (refine tk13 (v := undef) (by kernel_rfl) (by kernel_rfl) (by kernel_rfl) (fun _ _ _ h => h) (Or.inr ⟨by rfl, rfl⟩) (by assumption) ?_; try simp only [Act.put, List.setIfInBounds_toArray, List.set_cons_zero, List.set_cons_succ])
                  (refine tk14 (v := undef) (by kernel_rfl) (by kernel_rfl) (by kernel_rfl) (fun _ _ _ h => h) (Or.inr ⟨by rfl, rfl⟩) (by assumption) ?_; try simp only [Act.put, List.setIfInBounds_toArray, List.set_cons_zero, List.set_cons_succ])
                  (refine tk15 (v := undef) (by kernel_rfl) (by kernel_rfl) (by kernel_rfl) (fun _ _ _ h => h) (Or.inr ⟨by rfl, rfl⟩) (by assumption) ?_; try simp only [Act.put, List.setIfInBounds_toArray, List.set_cons_zero, List.set_cons_succ])
                  (refine tk16 (v := undef) (by kernel_rfl) (by kernel_rfl) (by kernel_rfl) (fun _ _ _ h => h) (Or.inr ⟨by rfl, rfl⟩) (by assumption) ?_; try simp only [Act.put, List.setIfInBounds_toArray, List.set_cons_zero, List.set_cons_succ])
                  (refine tk17 (v := undef) (by kernel_rfl) (by kernel_rfl) (by kernel_rfl) (fun _ _ _ h => h) (Or.inr ⟨by rfl, rfl⟩) (by assumption) ?_; try simp only [Act.put, List.setIfInBounds_toArray, List.set_cons_zero, List.set_cons_succ])
                  (refine tk18 (v := undef) (by kernel_rfl) (by kernel_rfl) (by kernel_rfl) (fun _ _ _ h => h) (Or.inr ⟨by rfl, rfl⟩) (by assumption) ?_; try simp only [Act.put, List.setIfInBounds_toArray, List.set_cons_zero, List.set_cons_succ])
                  (refine tk19 (v := undef) (by kernel_rfl) (by kernel_rfl) (by kernel_rfl) (fun _ _ _ h => h) (Or.inr ⟨by rfl, rfl⟩) (by assumption) ?_; try simp only [Act.put, List.setIfInBounds_toArray, List.set_cons_zero, List.set_cons_succ])
                  (refine tk20 (v := undef) (by kernel_rfl) (by kernel_rfl) (by kernel_rfl) (fun _ _ _ h => h) (Or.inr ⟨by rfl, rfl⟩) (by assumption) ?_; try simp only [Act.put, List.setIfInBounds_toArray, List.set_cons_zero, List.set_cons_succ])
                  (refine tk21 (v := undef) (by kernel_rfl) (by kernel_rfl) (by kernel_rfl) (fun _ _ _ h => h) (Or.inr ⟨by rfl, rfl⟩) (by assumption) ?_; try simp only [Act.put, List.setIfInBounds_toArray, List.set_cons_zero, List.set_cons_succ])
                  (refine tk22 (v := undef) (by kernel_rfl) (by kernel_rfl) (by kernel_rfl) (fun _ _ _ h => h) (Or.inr ⟨by rfl, rfl⟩) (by assumption) ?_; try simp only [Act.put, List.setIfInBounds_toArray, List.set_cons_zero, List.set_cons_succ])
                  (refine tk23 (v := ?_) (by kernel_rfl) (by kernel_rfl) (by kernel_rfl) (fun _ _ _ h => h) (Or.inl ⟨by rfl, ?_⟩) (by assumption) ?_; rotate_left; (focus (intro w hSw; (try dsimp only at hSw); go_simp; (try first | (rw [dif_pos (by omega)]; simp only [Result.andThen_ok]) | rw [if_pos (by omega)]); (try with_reducible rfl); done)); try simp only [Act.put, List.setIfInBounds_toArray, List.set_cons_zero, List.set_cons_succ])
                  refine wpAnyH_done (by kernel_rfl) ?_ _
                  go_wp2
                  go_roundw
                  case rel =>
                    refine ⟨1, by omega, by go_num, fun j hj hj1 => ?_, HF1.out, HB1.out.drew⟩
                    obtain rfl : j = 0 := by omega
                    exact HO.out
                  case measure => simp [intOf]; omega
                · obtain ⟨j, rfl⟩ : ∃ j, k = j + 1 := ⟨k - 1, by omega⟩
                  have hw1 : IntKind.i64.wrap (((j + 1 : Nat) : Int) - 1) = (j : Int) := by rw [IntKind.wrap_i64]; omega
                  have hw2 : IntKind.i64.wrap ((j : Int) + 1 - 1) = (j : Int) := by rw [IntKind.wrap_i64]; omega
                  have hw3 : IntKind.i64.wrap (j : Int) = (j : Int) := by rw [IntKind.wrap_i64]; omega
                  have hjl : (j : Int) < (ps.length : Int) := by omega
                  obtain ⟨b', off', hao', hb', hat'⟩ := (HS.out.later HB1.out) j (by omega)
                  injection hao' with hao'
                  injection hao' with i1 i2
                  subst i1 i2
                  obtain ⟨d0, d1, d2⟩ := hat'
                  have HA : Hid (∀ W, _) := fun W => order_any ps[j].beg ps[j].key ps[j + 1].beg ps[j + 1].key W
                  have hXl : X < W1.heap.size := cell_ltM e0
                  have hwl : w.heap.size < W1.heap.size := HF1.out.lt
                  clear d2
                  (refine wp_region_held_drew (S := (fun W => W.cell? ⟨w.heap.size, 3, none⟩ = some (.slice (some ⟨b, off, none⟩) ps.length dc) ∧ W.cell? ⟨b, off + j * 3, none⟩ = some (.int .u64 ps[j].beg) ∧ W.cell? ⟨b, off + j * 3 + 1, none⟩ = some (.string ps[j].key) ∧ W.cell? ⟨X, 0, none⟩ = some (.int .u64 ps[j + 1].beg) ∧ W.cell? ⟨X, 1, none⟩ = some (.string ps[j + 1].key))) (by kernel_rfl) ⟨f3, d0, d1, e0, e1⟩ (fun hHeld => ?_); simp only [List.size_toArray, List.length_cons, List.length_nil, Nat.reduceAdd, Array.replicate_succ, Array.replicate_zero, List.push_toArray, List.append_toArray, List.nil_append, List.cons_append])
                  (refine tk0 (v := ?_) (by kernel_rfl) (by kernel_rfl) (by kernel_rfl) (fun _ _ _ h => h) (Or.inl ⟨by rfl, ?_⟩) (by assumption) ?_; rotate_left; (focus (intro w hSw; (try dsimp only at hSw); go_simp; (try first | (rw [dif_pos (by omega)]; simp only [Result.andThen_ok]) | rw [if_pos (by omega)]); (try with_reducible rfl); done)); try simp only [Act.put, List.setIfInBounds_toArray, List.set_cons_zero, List.set_cons_succ])
                  (refine tk1 (v := ?_) (by kernel_rfl) (by kernel_rfl) (by kernel_rfl) (fun _ _ _ h => h) (Or.inl ⟨by rfl, ?_⟩) (by assumption) ?_; rotate_left; (focus (intro w hSw; (try dsimp only at hSw); go_simp; (try first | (rw [dif_pos (by omega)]; simp only [Result.andThen_ok]) | rw [if_pos (by omega)]); (try with_reducible rfl); done)); try simp only [Act.put, List.setIfInBounds_toArray, List.set_cons_zero, List.set_cons_succ])
                  (refine tk2 (v := ?_) (by kernel_rfl) (by kernel_rfl) (by kernel_rfl) (fun _ _ _ h => h) (Or.inl ⟨by rfl, ?_⟩) (by assumption) ?_; rotate_left; (focus (intro w hSw; (try dsimp only at hSw); go_simp; (try first | (rw [dif_pos (by omega)]; simp only [Result.andThen_ok]) | rw [if_pos (by omega)]); (try with_reducible rfl); done)); try simp only [Act.put, List.setIfInBounds_toArray, List.set_cons_zero, List.set_cons_succ])
                  (refine tk3 (v := ?_) (by kernel_rfl) (by kernel_rfl) (by kernel_rfl) (fun _ _ _ h => h) (Or.inl ⟨by rfl, ?_⟩) (by assumption) ?_; rotate_left; (focus (intro w hSw; (try dsimp only at hSw); go_simp; (try first | (rw [dif_pos (by omega)]; simp only [Result.andThen_ok]) | rw [if_pos (by omega)]); (try with_reducible rfl); done)); try simp only [Act.put, List.setIfInBounds_toArray, List.set_cons_zero, List.set_cons_succ])
                  (refine tk4 (v := ?_) (by kernel_rfl) (by kernel_rfl) (by kernel_rfl) (fun _ _ _ h => h) (Or.inl ⟨by rfl, ?_⟩) (by assumption) ?_; rotate_left; (focus (intro w hSw; (try dsimp only at hSw); go_simp; (try first | (rw [dif_pos (by omega)]; simp only [Result.andThen_ok]) | rw [if_pos (by omega)]); (try with_reducible rfl); done)); try simp only [Act.put, List.setIfInBounds_toArray, List.set_cons_zero, List.set_cons_succ])
                  (refine tk5 (v := ?_) (by kernel_rfl) (by kernel_rfl) (by kernel_rfl) (fun _ _ _ h => h) (Or.inl ⟨by rfl, ?_⟩) (by assumption) ?_; rotate_left; (focus (intro w hSw; (try dsimp only at hSw); go_simp; (try first | (rw [dif_pos (by omega)]; simp only [Result.andThen_ok]) | rw [if_pos (by omega)]); (try with_reducible rfl); done)); try simp only [Act.put, List.setIfInBounds_toArray, List.set_cons_zero, List.set_cons_succ])
                  (refine tk6 (v := ?_) (by kernel_rfl) (by kernel_rfl) (by kernel_rfl) (fun _ _ _ h => h) (Or.inl ⟨by rfl, ?_⟩) (by assumption) ?_; rotate_left; (focus (intro w hSw; (try dsimp only at hSw); go_simp; (try first | (rw [dif_pos (by omega)]; simp only [Result.andThen_ok]) | rw [if_pos (by omega)]); (try with_reducible rfl); done)); try simp only [Act.put, List.setIfInBounds_toArray, List.set_cons_zero, List.set_cons_succ])
                  (refine tk7 (v := ?_) (by kernel_rfl) (by kernel_rfl) (by kernel_rfl) (fun _ _ _ h => h) (Or.inl ⟨by rfl, ?_⟩) (by assumption) ?_; rotate_left; (focus (intro w hSw; (try dsimp only at hSw); go_simp; (try first | (rw [dif_pos (by omega)]; simp only [Result.andThen_ok]) | rw [if_pos (by omega)]); (try with_reducible rfl); done)); try simp only [Act.put, List.setIfInBounds_toArray, List.set_cons_zero, List.set_cons_succ])
                  (refine tk8 (v := ?_) (by kernel_rfl) (by kernel_rfl) (by kernel_rfl) (fun _ _ _ h => h) (Or.inl ⟨by rfl, ?_⟩) (by assumption) ?_; rotate_left; (focus (intro w hSw; (try dsimp only at hSw); go_simp; (try first | (rw [dif_pos (by omega)]; simp only [Result.andThen_ok]) | rw [if_pos (by omega)]); (try with_reducible rfl); done)); try simp only [Act.put, List.setIfInBounds_toArray, List.set_cons_zero, List.set_cons_succ])
                  (refine tk9 (v := ?_) (by kernel_rfl) (by kernel_rfl) (by kernel_rfl) (fun _ _ _ h => h) (Or.inl ⟨by rfl, ?_⟩) (by assumption) ?_; rotate_left; (focus (intro w hSw; (try dsimp only at hSw); go_simp; (try first | (rw [dif_pos (by omega)]; simp only [Result.andThen_ok]) | rw [if_pos (by omega)]); (try with_reducible rfl); done)); try simp only [Act.put, List.setIfInBounds_toArray, List.set_cons_zero, List.set_cons_succ])
                  (refine tk10 (v := ?_) (by kernel_rfl) (by kernel_rfl) (by kernel_rfl) (fun _ _ _ h => h) (Or.inl ⟨by rfl, ?_⟩) (by assumption) ?_; rotate_left; (focus (intro w hSw; (try dsimp only at hSw); go_simp; (try first | (rw [dif_pos (by omega)]; simp only [Result.andThen_ok]) | rw [if_pos (by omega)]); (try with_reducible rfl); done)); try simp only [Act.put, List.setIfInBounds_toArray, List.set_cons_zero, List.set_cons_succ])
                  (refine tk11 (v := ?_) (by kernel_rfl) (by kernel_rfl) (by kernel_rfl) (fun _ _ _ h => h) (Or.inl ⟨by rfl, ?_⟩) (by assumption) ?_; rotate_left; (focus (intro w hSw; (try dsimp only at hSw); go_simp; (try first | (rw [dif_pos (by omega)]; simp only [Result.andThen_ok]) | rw [if_pos (by omega)]); (try with_reducible rfl); done)); try simp only [Act.put, List.setIfInBounds_toArray, List.set_cons_zero, List.set_cons_succ])
                  (refine tk12 (v := ?_) (by kernel_rfl) (by kernel_rfl) (by kernel_rfl) (fun _ _ _ h => h) (Or.inl ⟨by rfl, ?_⟩) (by assumption) ?_; rotate_left; (focus (intro w hSw; (try dsimp only at hSw); go_simp; (try first | (rw [dif_pos (by omega)]; simp only [Result.andThen_ok]) | rw [if_pos (by omega)]); (try with_reducible rfl); done)); try simp only [Act.put, List.setIfInBounds_toArray, List.set_cons_zero, List.set_cons_succ])
                  (refine tk13 (v := ?_) (by kernel_rfl) (by kernel_rfl) (by kernel_rfl) (fun _ _ _ h => h) (Or.inl ⟨by rfl, ?_⟩) (by assumption) ?_; rotate_left; (focus (intro w hSw; (try dsimp only at hSw); go_simp; (try first | (rw [dif_pos (by omega)]; simp only [Result.andThen_ok]) | rw [if_pos (by omega)]); (try with_reducible rfl); done)); try simp only [Act.put, List.setIfInBounds_toArray, List.set_cons_zero, List.set_cons_succ])
                  (refine tk14 (v := ?_) (by kernel_rfl) (by kernel_rfl) (by kernel_rfl) (fun _ _ _ h => h) (Or.inl ⟨by rfl, ?_⟩) (by assumption) ?_; rotate_left; (focus (intro w hSw; (try dsimp only at hSw); go_simp; (try first | (rw [dif_pos (by omega)]; simp only [Result.andThen_ok]) | rw [if_pos (by omega)]); (try with_reducible rfl); done)); try simp only [Act.put, List.setIfInBounds_toArray, List.set_cons_zero, List.set_cons_succ])
                  (refine tk15 (v := ?_) (by kernel_rfl) (by kernel_rfl) (by kernel_rfl) (fun _ _ _ h => h) (Or.inl ⟨by rfl, ?_⟩) (by assumption) ?_; rotate_left; (focus (intro w hSw; (try dsimp only at hSw); go_simp; (try first | (rw [dif_pos (by omega)]; simp only [Result.andThen_ok]) | rw [if_pos (by omega)]); (try with_reducible rfl); done)); try simp only [Act.put, List.setIfInBounds_toArray, List.set_cons_zero, List.set_cons_succ])
                  (refine tk16 (v := ?_) (by kernel_rfl) (by kernel_rfl) (by kernel_rfl) (fun _ _ _ h => h) (Or.inl ⟨by rfl, ?_⟩) (by assumption) ?_; rotate_left; (focus (intro w hSw; (try dsimp only at hSw); go_simp; (try first | (rw [dif_pos (by omega)]; simp only [Result.andThen_ok]) | rw [if_pos (by omega)]); (try with_reducible rfl); done)); try simp only [Act.put, List.setIfInBounds_toArray, List.set_cons_zero, List.set_cons_succ])
                  (refine tk17 (v := ?_) (by kernel_rfl) (by kernel_rfl) (by kernel_rfl) (fun _ _ _ h => h) (Or.inl ⟨by rfl, ?_⟩) (by assumption) ?_; rotate_left; (focus (intro w hSw; (try dsimp only at hSw); go_simp; (try first | (rw [dif_pos (by omega)]; simp only [Result.andThen_ok]) | rw [if_pos (by omega)]); (try with_reducible rfl); done)); try simp only [Act.put, List.setIfInBounds_toArray, List.set_cons_zero, List.set_cons_succ])
                  (refine tk18 (v := ?_) (by kernel_rfl) (by kernel_rfl) (by kernel_rfl) (fun _ _ _ h => h) (Or.inl ⟨by rfl, ?_⟩) (by assumption) ?_; rotate_left; (focus (intro w hSw; (try dsimp only at hSw); go_simp; (try first | (rw [dif_pos (by omega)]; simp only [Result.andThen_ok]) | rw [if_pos (by omega)]); (try with_reducible rfl); done)); try simp only [Act.put, List.setIfInBounds_toArray, List.set_cons_zero, List.set_cons_succ])
                  (refine tk19 (v := ?_) (by kernel_rfl) (by kernel_rfl) (by kernel_rfl) (fun _ _ _ h => h) (Or.inl ⟨by rfl, ?_⟩) (by assumption) ?_; rotate_left; (focus (intro w hSw; (try dsimp only at hSw); go_simp; (try first | (rw [dif_pos (by omega)]; simp only [Result.andThen_ok]) | rw [if_pos (by omega)]); (try with_reducible rfl); done)); try simp only [Act.put, List.setIfInBounds_toArray, List.set_cons_zero, List.set_cons_succ])
                  (refine tk20 (v := ?_) (by kernel_rfl) (by kernel_rfl) (by kernel_rfl) (fun _ _ _ h => h) (Or.inl ⟨by rfl, ?_⟩) (by assumption) ?_; rotate_left; (focus (intro w hSw; (try dsimp only at hSw); go_simp; (try first | (rw [dif_pos (by omega)]; simp only [Result.andThen_ok]) | rw [if_pos (by omega)]); (try with_reducible rfl); done)); try simp only [Act.put, List.setIfInBounds_toArray, List.set_cons_zero, List.set_cons_succ])
                  (refine wpAnyH_ready (rs := [21]) (by kernel_rfl) (by simp) ?_; refine ar21 (fun K hK => ?_) AllReadyH.nil; go_simp)
                  refine (HA.out _).mono ?_
                  rintro _ w2 ⟨⟨r, rfl, hiff⟩, hb2⟩
                  have hb2' : Below W1.heap.size W1 w2 := (Below.refl _ _).drew.trans hb2
                  have HIF : Hid (r < 0 ↔ aheadP ps[j].beg ps[j].key ps[j + 1].beg ps[j + 1].key) := hiff
                  have HB2 : Hid (Below w.heap.size w w2) := HB1.out.trans (hb2'.mono HB1.out.size)
                  have HF2 : Hid (Fp6 w2 w.heap.size (.int .i64 id) (.int .u64 lo) (.int .u64 hi) (.slice (some ⟨b, off, none⟩) ps.length dc) (.int .i64 gen) (.slice ao en cap)) := HF1.out.later hb2' hwl
                  have S2 : w2.cell? ⟨w.heap.size, 3, none⟩ = some (.slice (some ⟨b, off, none⟩) ps.length dc) ∧ w2.cell? ⟨b, off + j * 3, none⟩ = some (.int .u64 ps[j].beg) ∧ w2.cell? ⟨b, off + j * 3 + 1, none⟩ = some (.string ps[j].key) ∧ w2.cell? ⟨X, 0, none⟩ = some (.int .u64 ps[j + 1].beg) ∧ w2.cell? ⟨X, 1, none⟩ = some (.string ps[j + 1].key) := ⟨(hb2'.cell (p := ⟨w.heap.size, 3, none⟩) hwl).trans f3, (hb2'.cell (p := ⟨b, off + j * 3, none⟩) (by simp only; omega)).trans d0, (hb2'.cell (p := ⟨b, off + j * 3 + 1, none⟩) (by simp only; omega)).trans d1, (hb2'.cell (p := ⟨X, 0, none⟩) hXl).trans e0, (hb2'.cell (p := ⟨X, 1, none⟩) hXl).trans e1⟩
                  clear hiff hb2 hb2' HA f3 d0 d1 e0 e1 hHeld
                  by_cases hr : r < 0
                  · have hrd : decide ((0 : Int) ≤ r) = false := decide_eq_false (by omega)
                    have HO : Hid (okT lo hi ps (j + 1) hkl) := ⟨HME.out, fun i hi => by
                      have e : i = j := (by omega)
                      subst e
                      exact HIF.out.1 hr⟩
                    (refine hK.out _ _ S2 (fun hHeld => ?_); clear hK K; try simp only [Act.put, List.setIfInBounds_toArray, List.set_cons_zero, List.set_cons_succ])
                    (refine tk22 (v := ?_) (by kernel_rfl) (by kernel_rfl) (by kernel_rfl) (fun _ _ _ h => h) (Or.inl ⟨by rfl, ?_⟩) (by assumption) ?_; rotate_left; (focus (intro w hSw; (try dsimp only at hSw); go_simp; (try first | (rw [dif_pos (by omega)]; simp only [Result.andThen_ok]) | rw [if_pos (by omega)]); (try with_reducible rfl); done)); try simp only [Act.put, List.setIfInBounds_toArray, List.set_cons_zero, List.set_cons_succ])
                    (refine tk23 (v := ?_) (by kernel_rfl) (by kernel_rfl) (by kernel_rfl) (fun _ _ _ h => h) (Or.inl ⟨by rfl, ?_⟩) (by assumption) ?_; rotate_left; (focus (intro w hSw; (try dsimp only at hSw); go_simp; (try first | (rw [dif_pos (by omega)]; simp only [Result.andThen_ok]) | rw [if_pos (by omega)]); (try with_reducible rfl); done)); try simp only [Act.put, List.setIfInBounds_toArray, List.set_cons_zero, List.set_cons_succ])
                    refine wpAnyH_done (by kernel_rfl) ?_ _
                    clear S2 hHeld
                    go_wp2
                    go_roundw
                    case rel =>
                      refine ⟨j + 1 + 1, by omega, by go_num, fun i hi hi1 => ?_, HF2.out, HB2.out⟩
                      rcases Nat.lt_or_ge i (j + 1) with h | h
                      · exact HOK.out i hi h
                      · obtain rfl : i = j + 1 := by omega
                        exact HO.out
                    case measure => simp [intOf]; omega
                  · have hrd : decide ((0 : Int) ≤ r) = true := decide_eq_true (by omega)
                    have HN1 : Hid (¬ mayA id lo hi ps) := fun h => hr (HIF.out.2 ((h.2.2.2 (j + 1) hkl).2 j rfl))
                    (refine hK.out _ _ S2 (fun hHeld => ?_); clear hK K; try simp only [Act.put, List.setIfInBounds_toArray, List.set_cons_zero, List.set_cons_succ])
                    (refine tk22 (v := ?_) (by kernel_rfl) (by kernel_rfl) (by kernel_rfl) (fun _ _ _ h => h) (Or.inl ⟨by rfl, ?_⟩) (by assumption) ?_; rotate_left; (focus (intro w hSw; (try dsimp only at hSw); go_simp; (try first | (rw [dif_pos (by omega)]; simp only [Result.andThen_ok]) | rw [if_pos (by omega)]); (try with_reducible rfl); done)); try simp only [Act.put, List.setIfInBounds_toArray, List.set_cons_zero, List.set_cons_succ])
                    (refine tk23 (v := ?_) (by kernel_rfl) (by kernel_rfl) (by kernel_rfl) (fun _ _ _ h => h) (Or.inl ⟨by rfl, ?_⟩) (by assumption) ?_; rotate_left; (focus (intro w hSw; (try dsimp only at hSw); go_simp; (try first | (rw [dif_pos (by omega)]; simp only [Result.andThen_ok]) | rw [if_pos (by omega)]); (try with_reducible rfl); done)); try simp only [Act.put, List.setIfInBounds_toArray, List.set_cons_zero, List.set_cons_succ])
                    refine wpAnyH_done (by kernel_rfl) ?_ _
                    clear S2 hHeld
                    go_wp2
                    go_ret
                    exact RetB.no rfl HN1.out HB2.out
              · have HN1 : Hid (¬ mayA id lo hi ps) := HNO.out (fun h => by have := h.2.2.2.2; omega)
                have q5' : (512 : Int) < (ps[k].data.size : Int) := by omega
                clear q4
                go_wp2_with fail
                refine (HK1.out _).mono ?_
                rintro e w1 ⟨rfl, rfl⟩
                go_wp2
                go_ret
                exact RetB.no rfl HN1.out (HBA.out _)
            · have HN1 : Hid (¬ mayA id lo hi ps) := HNO.out (fun h => q4 ⟨h.2.2.1, h.2.2.2.1⟩)
              have HK1 : Hid (∀ W, Calls Tryz.prog 48 #[.string ps[k].key] W fun e w' => e = .returned (.bool false) ∧ w' = W) := fun W => by
                have := isKey_any ps[k].key W
                rwa [decide_eq_false q4] at this
              clear q4
              go_wp2_with fail
              refine (HK1.out _).mono ?_
              rintro e w1 ⟨rfl, rfl⟩
              go_wp2
              go_ret
              exact RetB.no rfl HN1.out (HBA.out _)
      · have hke : k = ps.length := by omega
        subst hke
        go_wp2
        go_ret
        exact RetB.yes rfl ⟨⟨g1, g2⟩, ⟨n1, n2⟩, l1, fun k hk => HOK.out k hk hk⟩ HBk.out
  · have HN : Hid (¬ mayA id lo hi ps) := fun h => hh ⟨h.1, h.2.1, h.2.2.1⟩
    have HB : Hid (Below w.heap.size w (w.alloc (.cells #[.int .i64 id, .int .u64 lo, .int .u64 hi, .slice da ps.length dc, .int .i64 gen, .slice ao en cap] 26))) := (Below.refl _ _).alloc (Nat.le_refl _) _
    by_cases h1 : 1 ≤ id ∧ id ≤ 99999999
    · have HI1 : Hid (∀ W, Calls Tryz.prog 47 #[.int .i64 id] W fun e w' => e = .returned (.bool true) ∧ w' = W) := fun W => by
        have := isFileNo_any W id
        rwa [decide_eq_true h1] at this
      have hor : hi ≤ lo ∨ 4611686018427387903 < hi ∨ 65536 < ps.length := by omega
      clear hh
      go_enter Tryz.func24, Tryz.ntmps24
      go_wp2_with fail
      refine (HI1.out _).mono ?_
      rintro e w1 ⟨rfl, rfl⟩
      go_wp2
      all_goals first | (exfalso; omega) | (go_ret; exact RetB.no rfl HN.out HB.out)
    · have HI1 : Hid (∀ W, Calls Tryz.prog 47 #[.int .i64 id] W fun e w' => e = .returned (.bool false) ∧ w' = W) := fun W => by
        have := isFileNo_any W id
        rwa [decide_eq_false h1] at this
      clear hh h1
      go_enter Tryz.func24, Tryz.ntmps24
      go_wp2_with fail
      refine (HI1.out _).mono ?_
      rintro e w1 ⟨rfl, rfl⟩
      go_wp2
      go_ret
      exact RetB.no rfl HN.out HB.out
end Go.Proofs.YtbfjnidpjmhfiaaGreatDoor
