import Derived.Test.YtbfjnidpjmhfiaaGreatDoorCrc4
import Derived.Laws.BytesArg
import Derived.Laws.Strings
namespace Go.Proofs.YtbfjnidpjmhfiaaGreatDoor
open Go.ChangeShapes Go.WideShapes Go.ChangeAt Go.RowKit Go.MuLone
set_option linter.unusedVariables false

/-- The slice value v is seen to hold the texts ps, in blocks below B. -/
def SeesS (w : World) (B : Nat) (v : Value) (ps : List ByteArray) : Prop :=
  ∃ a cap, v = .slice a ps.length cap ∧ ps.length ≤ cap ∧ ps.length ≤ 140737488355328 ∧ ∀ i (hi : i < ps.length), ∃ b off, a = some ⟨b, off, none⟩ ∧ b < B ∧ w.cell? ⟨b, off + i, none⟩ = some (.string ps[i])
def joinS (ps : List ByteArray) : List UInt8 := ps.flatMap fun p => p.data.toList
/-- The sum of the bytes l. -/
def crN (l : List UInt8) : Nat := 4294967295 - ovN 4294967295 l
theorem u32_compl (q : Nat) (hq : q < 4294967296) : bits .xor .u32 IntKind.u32.max (q : Int) = ((4294967295 - q : Nat) : Int) := by
  have h := u32_xor_nat 4294967295 q (by omega) hq
  have e : (4294967295 : Nat) ^^^ q = 4294967295 - q := by
    have h1 : (BitVec.allOnes 32 ^^^ BitVec.ofNat 32 q).toNat = 4294967295 ^^^ q := by
      rw [BitVec.toNat_xor, BitVec.toNat_allOnes, BitVec.toNat_ofNat, Nat.mod_eq_of_lt (by omega)]
    rw [← h1, BitVec.allOnes_xor, BitVec.toNat_not, BitVec.toNat_ofNat, Nat.mod_eq_of_lt (by omega)]
  rw [e] at h
  exact h
def zeroC : Array Value := #[.int .u32 0, .int .i32 0, .int .u32 0] ++ Array.replicate 256 (.int .u32 0)
theorem zeroSum (w : World) : Sem.run Tryz.prog (zeroValue 128) w = .ok (.agg zeroC) w := by as_aux_lemma => kernel_rfl
theorem fresh_new (w : World) : Fresh (w.alloc (.cells zeroC 128)) w.heap.size := by
  refine ⟨?_, ?_, ?_, ?_, ?_⟩
  · simp [go_sem, zeroC]
  · simp [go_sem, zeroC]
  · intro j hj; omega
  · intro j _ hj
    rw [World.cell?_alloc_at _ _ _ _ rfl]
    unfold zeroC
    rw [Array.getElem?_append_right (by simp), Array.getElem?_replicate, if_pos (by simp; omega)]
  · intro j
    simp [go_sem]
set_option maxRecDepth 100000 in
set_option maxHeartbeats 1600000 in
theorem checksum_any (a : Value) (ps : List ByteArray) (B : Nat) (w : World) (hB : B ≤ w.heap.size) (ha : SeesS w B a ps) (hz : ∀ p ∈ ps, p.size ≤ 9223372036854775807) (hT : HalfAt w) (hg : 0 < B) :
    Calls Tryz.prog 52 #[a] w fun e w' => e = .returned (.int .u32 (crN (joinS ps) : Nat)) ∧ Below B w w' := by
  obtain ⟨ao, cap, rfl, hl1, hc1, hs1⟩ := ha
  have HA : Hid _ := hs1
  clear hs1
  go_enter Tryz.func52, Tryz.ntmps52
  have hzv := zeroSum
  have HF : Hid (Fresh (w.alloc (.cells zeroC 128)) w.heap.size) := fresh_new w
  have HB0 : Hid (Below B w (w.alloc (.cells zeroC 128))) := (Below.refl _ _).alloc hB _
  have HTw : Hid (HalfAt w) := hT
  clear hT
  go_wp2_with fail
  generalize w.heap.size = n at *
  go_loopw [4, 9] (fun c i wr => ∃ k : Nat, k ≤ ps.length ∧ i = .int .i64 k ∧ c = .int .u32 (ovN 4294967295 (joinS (ps.take k)) : Nat) ∧ SumAt wr n ∧ Below B w wr) (fun _ i _ => ps.length - (intOf i).toNat)
  case atStart => exact ⟨0, by omega, rfl, rfl, .inl HF.out, HB0.out⟩
  case round =>
    obtain ⟨k, hk, rfl, rfl, hsum, hbel⟩ := hrel
    have HS : Hid (SumAt wr n) := hsum
    have HB : Hid (Below B w wr) := hbel
    have HT : Hid (HalfAt wr) := fun j hj => (hbel.cell (p := ⟨0, j, none⟩) hg).trans (HTw.out j hj)
    clear hsum hbel
    have hq := ovN_lt (joinS (ps.take k)) 4294967295 (by omega)
    by_cases h1 : k < ps.length
    · obtain ⟨b1, o1, e1, hb1, x0⟩ := HA.out k h1
      have y0 := (HB.out.cell (p := ⟨b1, o1 + k, none⟩) hb1).trans x0
      clear x0
      subst e1
      have hz1 := hz _ (List.getElem_mem h1)
      have HJ : Hid (ovN 4294967295 (joinS (ps.take (k + 1))) = ovN (ovN 4294967295 (joinS (ps.take k))) ps[k].data.toList) := by
        show _ = _
        rw [← ovN_app]
        congr 1
        unfold joinS
        rw [List.take_succ_eq_append_getElem h1, List.flatMap_append]
        simp
      generalize ovN 4294967295 (joinS (ps.take k)) = q at *
      generalize ps[k] = p at *
      go_wp2_with fail
      refine (over_any n B wr p q hz1 hq hB HT.out hg HS.out).mono ?_
      rintro e w2 ⟨rfl, hs2, hb2⟩
      have HS2 : Hid (SumAt w2 n) := hs2
      have HB2 : Hid (Below B w w2) := HB.out.trans hb2
      clear hs2 hb2 HS HB HT y0
      go_wp2
      go_roundw
      case rel => exact ⟨k + 1, by omega, by go_num, by rw [HJ.out], HS2.out, HB2.out⟩
      case measure => simp [intOf]; omega
    · have HE : Hid (joinS (ps.take k) = joinS ps) := by show _ = _; rw [List.take_of_length_le (by omega)]
      have HC : Hid (crN (joinS ps) = 4294967295 - ovN 4294967295 (joinS (ps.take k))) := by show _ = _; rw [HE.out]; rfl
      generalize ovN 4294967295 (joinS (ps.take k)) = q at *
      have hx := u32_compl q hq
      go_wp2
      go_ret
      exact ⟨by rw [HC.out]; rfl, HB.out⟩
/-- One text alone. -/
theorem sees_one {w : World} {p : ByteArray} (g : Nat) (hc : w.cell? ⟨g, 0, none⟩ = some (.string p)) (hg : g < w.heap.size) : SeesS w w.heap.size (.slice (some ⟨g, 0, none⟩) 1 1) [p] :=
  ⟨some ⟨g, 0, none⟩, 1, rfl, by simp, by simp, fun i hi => ⟨g, 0, rfl, hg, by
    have : i = 0 := by simpa using hi
    subst this
    exact hc⟩⟩
theorem half_pos {w : World} (h : HalfAt w) : 0 < w.heap.size := by
  have h0 := h 0 (by omega)
  rcases Nat.lt_or_ge 0 w.heap.size with h1 | h1
  · exact h1
  · unfold World.cell? at h0
    simp [Array.getElem?_eq_none h1] at h0
theorem HalfAt.later {w w' : World} (h : HalfAt w) (hb : Below w.heap.size w w') : HalfAt w' := fun j hj => (hb.cell (p := ⟨0, j, none⟩) (half_pos h)).trans (h j hj)
theorem checksum_new (p : ByteArray) (w : World) (hz : p.size ≤ 9223372036854775807) (hT : HalfAt w) :
    Calls Tryz.prog 52 #[.slice (some ⟨w.heap.size, 0, none⟩) 1 1] (w.alloc (.cells #[.string p] 9)) fun e w' => e = .returned (.int .u32 (crN p.data.toList : Nat)) ∧ Below w.heap.size w w' := by
  have hb : Below w.heap.size w (w.alloc (.cells #[.string p] 9)) := (Below.refl _ _).alloc (Nat.le_refl _) _
  have hT2 := hT.later hb
  have hs := sees_one (w := w.alloc (.cells #[.string p] 9)) (p := p) w.heap.size (by simp) (by simp)
  refine (checksum_any _ [p] _ _ (Nat.le_refl _) hs (by simpa using hz) hT2 (half_pos hT2)).mono fun e w' ⟨he, hb2⟩ => ⟨?_, hb.trans (hb2.mono hb.size)⟩
  rw [he]
  simp [joinS]
theorem conv_four (w : World) (x0 x1 x2 x3 : Int) :
    (convert 64 9 (.slice (some ⟨w.heap.size, 0, none⟩) 4 4)).run Tryz.prog (w.alloc (.cells #[.int .u8 x0, .int .u8 x1, .int .u8 x2, .int .u8 x3] 5)).drew = .ok (.string (strOfNums [x0, x1, x2, x3])) (w.alloc (.cells #[.int .u8 x0, .int .u8 x1, .int .u8 x2, .int .u8 x3] 5)).drew :=
  run_convert_bytes_arg _ 64 5 Tryz.underlying64 Tryz.underlying5 w.heap.size 0 4 4 [x0, x1, x2, x3] rfl (fun i hi => by
    have : i = 0 ∨ i = 1 ∨ i = 2 ∨ i = 3 := by simpa using (by omega : i < 4 → i = 0 ∨ i = 1 ∨ i = 2 ∨ i = 3) hi
    rcases this with e | e | e | e <;> subst e <;> simp [go_sem]) 9 Tryz.underlying9
theorem told_pure (p q : List UInt8) (a0 a1 a2 a3 c0 c1 c2 c3 : UInt8) : crN (p ++ [a0, a1, a2, a3] ++ q) = crN (p ++ [c0, c1, c2, c3] ++ q) ↔ p ++ [a0, a1, a2, a3] ++ q = p ++ [c0, c1, c2, c3] ++ q := by
  constructor
  · intro h
    have l1 := ovN_lt (p ++ [a0, a1, a2, a3] ++ q) 4294967295 (by omega)
    have l2 := ovN_lt (p ++ [c0, c1, c2, c3] ++ q) 4294967295 (by omega)
    have h2 : ovN 4294967295 (p ++ [a0, a1, a2, a3] ++ q) = ovN 4294967295 (p ++ [c0, c1, c2, c3] ++ q) := by unfold crN at h; omega
    rw [ovN_app, ovN_app, ovN_app, ovN_app] at h2
    have lp := ovN_lt p 4294967295 (by omega)
    have h3 := ovN_inj q _ _ (ovN_lt _ _ lp) (ovN_lt _ _ lp) h2
    obtain ⟨rfl, rfl, rfl, rfl⟩ := four_inj _ lp _ _ _ _ _ _ _ _ h3
    rfl
  · intro h
    rw [h]
theorem cut_four (s : ByteArray) (n : Nat) (h : n + 4 ≤ s.size) : s.data.toList = s.data.toList.take n ++ [s[n], s[n + 1], s[n + 2], s[n + 3]] ++ s.data.toList.drop (n + 4) := by
  have hl : s.data.toList.length = s.size := by rw [Array.length_toList]; rfl
  have e0 := List.drop_eq_getElem_cons (l := s.data.toList) (i := n) (by omega)
  have e1 := List.drop_eq_getElem_cons (l := s.data.toList) (i := n + 1) (by omega)
  have e2 := List.drop_eq_getElem_cons (l := s.data.toList) (i := n + 2) (by omega)
  have e3 := List.drop_eq_getElem_cons (l := s.data.toList) (i := n + 3) (by omega)
  conv => lhs; rw [← List.take_append_drop n s.data.toList, e0, e1, e2, e3]
  rw [List.append_assoc]
  rfl
theorem told_two (s : ByteArray) (n : Nat) (h : n + 4 ≤ s.size) (x0 x1 x2 x3 : Int) :
    ((crN s.data.toList : Int) == (crN (s.extract 0 n ++ strOfNums [x0, x1, x2, x3] ++ s.extract (n + 4) s.size).data.toList : Int)) = (s.toList == (s.extract 0 n ++ strOfNums [x0, x1, x2, x3] ++ s.extract (n + 4) s.size).toList) ∧ (s.extract 0 n ++ strOfNums [x0, x1, x2, x3] ++ s.extract (n + 4) s.size).size ≤ s.size := by
  have e : (s.extract 0 n ++ strOfNums [x0, x1, x2, x3] ++ s.extract (n + 4) s.size).data.toList = s.data.toList.take n ++ [UInt8.ofNat x0.toNat, UInt8.ofNat x1.toNat, UInt8.ofNat x2.toNat, UInt8.ofNat x3.toNat] ++ s.data.toList.drop (n + 4) := by
    rw [ByteArray.data_append, Array.toList_append, ByteArray.data_append, Array.toList_append, Lib.extract_data, Lib.extract_data]
    have hl : s.data.toList.length = s.size := by rw [Array.length_toList]; rfl
    simp [strOfNums]
    exact List.take_of_length_le (by rw [List.length_drop]; omega)
  refine ⟨?_, ?_⟩
  · rw [Lib.toList_data, Lib.toList_data, e]
    have hc := told_pure (s.data.toList.take n) (s.data.toList.drop (n + 4)) s[n] s[n + 1] s[n + 2] s[n + 3] (UInt8.ofNat x0.toNat) (UInt8.ofNat x1.toNat) (UInt8.ofNat x2.toNat) (UInt8.ofNat x3.toNat)
    rw [← cut_four s n h] at hc
    rw [Bool.eq_iff_iff]
    simp only [beq_iff_eq, Int.ofNat_inj]
    exact hc
  · rw [ByteArray.size_append, ByteArray.size_append, strOfNums_size, ByteArray.size_extract, ByteArray.size_extract]
    simp
    omega
theorem crN_nine : crN [49, 50, 51, 52, 53, 54, 55, 56, 57] = 3808858755 := by decide +kernel
end Go.Proofs.YtbfjnidpjmhfiaaGreatDoor
