import Derived.Test.YtbfjnidpjmhfiaaGreatDoorBlbP
import Derived.Test.YtbfjnidpjmhfiaaGreatDoorMf6
import Derived.Test.YtbfjnidpjmhfiaaGreatDoorDe2
namespace Go.Proofs.YtbfjnidpjmhfiaaGreatDoor
set_option linter.unusedSimpArgs false
open Go.ChangeShapes Go.WideShapes Go.ChangeAt Go.RowKit
set_option linter.unusedVariables false
set_option maxRecDepth 100000
theorem txtN_app (a b : ByteArray) : txtN (a ++ b) = txtN a ++ txtN b := by unfold txtN; rw [ByteArray.data_append, Array.toList_append, List.map_append]
theorem blB_txt (s : ByteArray) (h : s.size ≤ 1048576) : txtN (strOfNums (uvB s.size) ++ s) = blB s := by
  unfold blB
  rw [txtN_app, txtStr _ (uvB_bytes _ (by omega) (by omega))]
theorem blB_len (s : ByteArray) : (blB s).length ≤ 10 + s.size := by
  unfold blB
  rw [List.length_append, txtN_lenB]
  have := (uvB_len s.size).1
  omega
/-- The bytes of a short text with its length, by the program and by the document. -/
theorem blob_short (s : ByteArray) (w : World) (hs : s.size ≤ 1048576) : Calls Tryz.prog 51 #[.string s] w fun e w' => e = .returned (.tuple #[.string (strOfNums (uvB s.size) ++ s), .int .i64 0]) ∧ Below w.heap.size w w' := by
  have hb := blob s w (by omega)
  have he : blobV s = (strOfNums (uvB s.size) ++ s, 0) := by unfold blobV; rw [if_pos hs]
  rw [he] at hb
  exact hb
set_option maxHeartbeats 1600000 in
theorem blobs_any (w : World) (B g vb sb cap : Nat) (xs : List Int) (ks : List ByteArray) (h : Wr w B g vb xs) (hc : ∀ i (hi : i < ks.length), w.cell? ⟨sb, i, none⟩ = some (.string ks[i])) (hn : ∀ x ∈ ks, x.size ≤ 1048576) (h1 : sb ≠ g) (h2 : sb ≠ vb) (hsb : sb < w.heap.size) (hl : xs.length + ks.length * 1048586 ≤ 140737488355328) (hB : B ≤ w.heap.size) :
    Calls Tryz.prog 27 #[.pointer (some ⟨g, 0, none⟩), .slice (some ⟨sb, 0, none⟩) ks.length cap] w fun e w' => e = .returned (.tuple #[]) ∧ ∃ vb', Wr w' B g vb' (xs ++ ks.flatMap blB) ∧ (vb' = vb ∨ w.heap.size ≤ vb') ∧ Kept (fun k => k = g ∨ k = vb) w w' := by
  have HH : Hid (Wr w B g vb xs) := h
  have HC : Hid (∀ i (hi : i < ks.length), w.cell? ⟨sb, i, none⟩ = some (.string ks[i])) := hc
  have HN : Hid (∀ x ∈ ks, x.size ≤ 1048576) := hn
  clear h hc hn
  go_enter Tryz.func27, Tryz.ntmps27
  go_wp2_with fail
  go_loopw [10] (fun i wr => ∃ k : Nat, k ≤ ks.length ∧ i = .int .i64 k ∧ ∃ vb', Wr wr B g vb' (xs ++ (ks.take k).flatMap blB) ∧ (vb' = vb ∨ w.heap.size ≤ vb') ∧ Kept (fun k => k = g ∨ k = vb) w wr ∧ ((ks.take k).flatMap blB).length ≤ k * 1048586) (fun i _ => ks.length - (intOf i).toNat)
  case atStart => exact ⟨0, Nat.zero_le _, rfl, vb, by simpa using HH.out, Or.inl rfl, Kept.refl _ _, by simp⟩
  case round =>
    obtain ⟨k, hk, rfl, vb1, hwr, hvb, hkp, hlen⟩ := hrel
    have HWR : Hid (Wr wr B g vb1 (xs ++ (ks.take k).flatMap blB)) := hwr
    have HVB : Hid (vb1 = vb ∨ w.heap.size ≤ vb1) := hvb
    have HKP : Hid (Kept (fun k => k = g ∨ k = vb) w wr) := hkp
    have s1 := hkp.size
    clear hwr hvb hkp
    by_cases hkl : k < ks.length
    · have c1 := (HKP.out.cell (p := ⟨sb, k, none⟩) hsb (fun e => by rcases e with e | e; exact h1 e; exact h2 e)).trans (HC.out k hkl)
      have hb := HN.out _ (List.getElem_mem hkl)
      have HST : Hid (xs ++ (ks.take (k + 1)).flatMap blB = xs ++ (ks.take k).flatMap blB ++ blB ks[k]) := by
        show _ = _
        rw [List.take_succ_eq_append_getElem hkl, List.flatMap_append, List.append_assoc]
        simp
      have HLN : Hid (((ks.take (k + 1)).flatMap blB).length ≤ (k + 1) * 1048586) := by
        show _ ≤ _
        rw [List.take_succ_eq_append_getElem hkl, List.flatMap_append, List.length_append, List.flatMap_singleton]
        have := blB_len ks[k]
        omega
      generalize ks[k] = x at *
      have HTX : Hid _ := blB_txt x hb
      have hul := (uvB_len x.size).1
      go_wp2_with fail
      refine (blob_short x wr hb).mono ?_
      rintro _ w1 ⟨rfl, hb1⟩
      have HB1 : Hid (Below wr.heap.size wr w1) := hb1
      have HW1 : Hid (Wr w1 B g vb1 (xs ++ (ks.take k).flatMap blB)) := HWR.out.keep (Kept.of (K := fun _ => False) hb1) (fun h => h) (fun h => h)
      have s2 := hb1.size
      clear hb1
      have hsz : (strOfNums (uvB x.size) ++ x).size = (uvB x.size).length + x.size := by rw [ByteArray.size_append, strOfNums_size]
      generalize strOfNums (uvB x.size) ++ x = tx at *
      go_wp2_with fail
      refine (text_any w1 B g vb1 _ tx HW1.out (by rw [hsz, List.length_append]; omega) (by omega)).mono ?_
      rintro _ w2 ⟨rfl, vb2, hw2, hv2, hk2⟩
      rw [HTX.out] at hw2
      have HW2 : Hid (Wr w2 B g vb2 (xs ++ (ks.take k).flatMap blB ++ blB x)) := hw2
      have HV2 : Hid (vb2 = vb ∨ w.heap.size ≤ vb2) := by
        rcases hv2 with e | e
        · rw [e]; exact HVB.out
        · right; omega
      have HK2 : Hid (Kept (fun k => k = g ∨ k = vb) w w2) := (HKP.out.trans (Kept.of (K := fun _ => False) HB1.out) (fun _ _ h => h.elim)).trans hk2 (fun y hy hh => by
        rcases hh with e | e
        · exact Or.inl e
        · rcases HVB.out with e2 | e2
          · exact Or.inr (e.trans e2)
          · omega)
      clear hw2 hv2 hk2 hsz
      go_wp2
      go_roundw
      case rel => exact ⟨k + 1, by omega, by go_num, vb2, by rw [HST.out]; exact HW2.out, HV2.out, HK2.out, HLN.out⟩
      case measure => simp [intOf]; omega
    · have hke : k = ks.length := by omega
      subst hke
      rw [List.take_length] at HWR
      go_wp2
      refine bodyPost_end (results_none rfl _ _ _) rfl ⟨rfl, ?_⟩
      exact ⟨vb1, HWR.out, HVB.out, HKP.out⟩
end Go.Proofs.YtbfjnidpjmhfiaaGreatDoor

namespace Go.Proofs.YtbfjnidpjmhfiaaGreatDoor
set_option linter.unusedSimpArgs false
open Go.ChangeShapes Go.WideShapes Go.ChangeAt Go.RowKit
set_option linter.unusedVariables false
set_option maxRecDepth 100000
set_option maxHeartbeats 6400000 in
theorem mayBeDelta_any (w : World) (id gen lo hi : Int) (da ao : Option Addr) (dn dc cap : Nat) (ps : List ER) (hs : SeesE w w.heap.size ao ps) :
    Calls Tryz.prog 39 #[.agg #[.int .i64 id, .int .u64 lo, .int .u64 hi, .slice da dn dc, .int .i64 gen, .slice ao ps.length cap]] w (RetB (mayD id gen ps) w) := by
  have HS : Hid (SeesE w w.heap.size ao ps) := hs
  have HFi : Hid (∀ n W, _) := fun n W => isFileNo_any n W
  clear hs
  by_cases hh : (1 ≤ id ∧ id ≤ 99999999) ∧ (1 ≤ gen ∧ gen ≤ 99999999) ∧ (1 ≤ ps.length ∧ ps.length ≤ 65536)
  · obtain ⟨⟨g1, g2⟩, ⟨n1, n2⟩, l0, l1⟩ := hh
    have HB0 : Hid (Below w.heap.size w (w.alloc (.cells #[.int .i64 id, .int .u64 lo, .int .u64 hi, .slice da dn dc, .int .i64 gen, .slice ao ps.length cap] 26))) := (Below.refl _ _).alloc (Nat.le_refl _) _
    have HF0 : Hid (Fp6 (w.alloc (.cells #[.int .i64 id, .int .u64 lo, .int .u64 hi, .slice da dn dc, .int .i64 gen, .slice ao ps.length cap] 26)) w.heap.size (.int .i64 id) (.int .u64 lo) (.int .u64 hi) (.slice da dn dc) (.int .i64 gen) (.slice ao ps.length cap)) := heap_alloc_new w _
    have l0' : (1 : Int) ≤ (ps.length : Int) := by omega
    have l1' : (ps.length : Int) ≤ 65536 := by omega
    go_enter Tryz.func39, Tryz.ntmps39
    have HI1 : Hid (∀ W, Calls Tryz.prog 47 #[.int .i64 id] W fun e w' => e = .returned (.bool true) ∧ w' = W) := fun W => by
      have := isFileNo_any W id
      rwa [decide_eq_true ⟨g1, g2⟩] at this
    have HI2 : Hid (∀ W, Calls Tryz.prog 47 #[.int .i64 gen] W fun e w' => e = .returned (.bool true) ∧ w' = W) := fun W => by
      have := isFileNo_any W gen
      rwa [decide_eq_true ⟨n1, n2⟩] at this
    go_wp2_with fail
    refine (HI1.out _).mono ?_
    rintro e w1 ⟨rfl, rfl⟩
    go_wp2_with fail
    refine (HI2.out _).mono ?_
    rintro e w1 ⟨rfl, rfl⟩
    go_wp2_with fail
    clear HFi HI1 HI2
    go_loopw [30] (fun i wr => ∃ k : Nat, k ≤ ps.length ∧ i = .int .i64 k ∧ (∀ j (hj : j < ps.length), j < k → okE ps j hj) ∧ Fp6 wr w.heap.size (.int .i64 id) (.int .u64 lo) (.int .u64 hi) (.slice da dn dc) (.int .i64 gen) (.slice ao ps.length cap) ∧ Below w.heap.size w wr) (fun i _ => ps.length - (intOf i).toNat)
    case atStart => exact ⟨0, Nat.zero_le _, rfl, fun j _ h => absurd h (by omega), HF0.out, HB0.out⟩
    case round =>
      obtain ⟨k, hk, rfl, hok, hbox, hbel⟩ := hrel
      have HOK : Hid (∀ j (hj : j < ps.length), j < k → okE ps j hj) := hok
      have HFk : Hid (Fp6 wr w.heap.size (.int .i64 id) (.int .u64 lo) (.int .u64 hi) (.slice da dn dc) (.int .i64 gen) (.slice ao ps.length cap)) := hbox
      have HBk : Hid (Below w.heap.size w wr) := hbel
      clear hok hbox hbel HF0 HB0
      have f5 : wr.cell? ⟨w.heap.size, 5, none⟩ = some (.slice ao ps.length cap) := HFk.out.cell 5
      by_cases hkl : k < ps.length
      · obtain ⟨b, off, hao, hb, hat⟩ := (HS.out.later HBk.out) k hkl
        obtain ⟨c0, c1, c2⟩ := hat
        subst hao
        have HBA : Hid (∀ o, Below w.heap.size w (wr.alloc o)) := fun o => HBk.out.alloc HBk.out.size o
        have HK : Hid (∀ s W, _) := fun s W => isKey_any s W
        have HNO : Hid (¬ mayE ps[k] → ¬ mayD id gen ps) := fun h h2 => h (h2.2.2.2 k hkl).1
        by_cases q1 : ps[k].beg < 1
        · have HN1 : Hid (¬ mayD id gen ps) := HNO.out (fun h => by have := h.1; omega)
          go_wp2
          go_ret
          exact RetB.no rfl HN1.out (HBA.out _)
        · by_cases q2 : ps[k].fin ≤ ps[k].beg
          · have HN1 : Hid (¬ mayD id gen ps) := HNO.out (fun h => by have := h.2.1; omega)
            go_wp2
            go_ret
            exact RetB.no rfl HN1.out (HBA.out _)
          · by_cases q3 : 4611686018427387903 < ps[k].fin
            · have HN1 : Hid (¬ mayD id gen ps) := HNO.out (fun h => by have := h.2.2.1; omega)
              go_wp2
              go_ret
              exact RetB.no rfl HN1.out (HBA.out _)
            · by_cases q4 : 1 ≤ ps[k].key.size ∧ ps[k].key.size ≤ 160
              · have HK1 : Hid (∀ W, Calls Tryz.prog 48 #[.string ps[k].key] W fun e w' => e = .returned (.bool true) ∧ w' = W) := fun W => by
                  have := isKey_any ps[k].key W
                  rwa [decide_eq_true q4] at this
                have HME : Hid (mayE ps[k]) := ⟨by omega, by omega, by omega, q4.1, q4.2⟩
                clear q4
                go_wp2_with fail
                refine (HK1.out _).mono ?_
                rintro e w1 ⟨rfl, rfl⟩
                go_wp2_with fail
                have HB1 : Hid (Below w.heap.size w (wr.alloc (.cells #[.int .u64 ps[k].beg, .int .u64 ps[k].fin, .string ps[k].key] 33))) := HBA.out _
                have HF1 : Hid (Fp6 (wr.alloc (.cells #[.int .u64 ps[k].beg, .int .u64 ps[k].fin, .string ps[k].key] 33)) w.heap.size (.int .i64 id) (.int .u64 lo) (.int .u64 hi) (.slice da dn dc) (.int .i64 gen) (.slice (some ⟨b, off, none⟩) ps.length cap)) := (Below.heap_alloc _ _ _ HFk.out.lt).trans HFk.out
                have e0 : (wr.alloc (.cells #[.int .u64 ps[k].beg, .int .u64 ps[k].fin, .string ps[k].key] 33)).cell? ⟨wr.heap.size, 0, none⟩ = some (.int .u64 ps[k].beg) := by simp [go_sem]
                have e2 : (wr.alloc (.cells #[.int .u64 ps[k].beg, .int .u64 ps[k].fin, .string ps[k].key] 33)).cell? ⟨wr.heap.size, 2, none⟩ = some (.string ps[k].key) := by simp [go_sem]
                generalize hW1 : wr.alloc (.cells #[.int .u64 ps[k].beg, .int .u64 ps[k].fin, .string ps[k].key] 33) = W1 at *
                generalize hXX : wr.heap.size = X at *
                clear hW1 hXX c0 c1 c2 f5 HBA HK HK1 HFk HBk
                have f5 : W1.cell? ⟨w.heap.size, 5, none⟩ = some (.slice (some ⟨b, off, none⟩) ps.length cap) := HF1.out.cell 5
                rcases Nat.eq_zero_or_pos k with hk0 | hk0
                · subst hk0
                  have HO : Hid (okE ps 0 hkl) := ⟨HME.out, fun j hj => absurd hj (by omega)⟩
                  (refine wp_region_held_drew (S := (fun W => W.cell? ⟨w.heap.size, 5, none⟩ = some (.slice (some ⟨b, off, none⟩) ps.length cap))) (by kernel_rfl) f5 (fun hHeld => ?_); simp only [List.size_toArray, List.length_cons, List.length_nil, Nat.reduceAdd, Array.replicate_succ, Array.replicate_zero, List.push_toArray, List.append_toArray, List.nil_append, List.cons_append])
                  (refine tk0 (v := ?_) (by kernel_rfl) (by kernel_rfl) (by kernel_rfl) (fun _ _ _ h => h) (Or.inl ⟨by rfl, ?_⟩) (by assumption) ?_; rotate_left; (focus (intro w hSw; (try dsimp only at hSw); go_simp; (try first | (rw [dif_pos (by omega)]; simp only [Result.andThen_ok]) | rw [if_pos (by omega)]); (try with_reducible rfl); done)); try simp only [Act.put, List.setIfInBounds_toArray, List.set_cons_zero, List.set_cons_succ])
                  (refine tk1 (v := ?_) (by kernel_rfl) (by kernel_rfl) (by kernel_rfl) (fun _ _ _ h => h) (Or.inl ⟨by rfl, ?_⟩) (by assumption) ?_; rotate_left; (focus (intro w hSw; (try dsimp only at hSw); go_simp; (try first | (rw [dif_pos (by omega)]; simp only [Result.andThen_ok]) | rw [if_pos (by omega)]); (try with_reducible rfl); done)); try simp only [Act.put, List.setIfInBounds_toArray, List.set_cons_zero, List.set_cons_succ])
                  (refine tk2 (v := ?_) (by kernel_rfl) (by kernel_rfl) (by kernel_rfl) (fun _ _ _ h => h) (Or.inl ⟨by rfl, ?_⟩) (by assumption) ?_; rotate_left; (focus (intro w hSw; (try dsimp only at hSw); go_simp; (try first | (rw [dif_pos (by omega)]; simp only [Result.andThen_ok]) | rw [if_pos (by omega)]); (try with_reducible rfl); done)); try simp only [Act.put, List.setIfInBounds_toArray, List.set_cons_zero, List.set_cons_succ])
                  (refine tk3 (v := undef) (by kernel_rfl) (by kernel_rfl) (by kernel_rfl) (fun _ _ _ h => h) (Or.inr ⟨by rfl, rfl⟩) (by assumption) ?_; try simp only [Act.put, List.setIfInBounds_toArray, List.set_cons_zero, List.set_cons_succ])
                  (refine tk4 (v := undef) (by kernel_rfl) (by kernel_rfl) (by kernel_rfl) (fun _ _ _ h => h) (Or.inr ⟨by rfl, rfl⟩) (by assumption) ?_; try simp only [Act.put, List.setIfInBounds_toArray, List.set_cons_zero, List.set_cons_succ])
                  (refine tk5 (v := undef) (by kernel_rfl) (by kernel_rfl) (by kernel_rfl) (fun _ _ _ h => h) (Or.inr ⟨by rfl, rfl⟩) (by assumption) ?_; try simp only [Act.put, List.setIfInBounds_toArray, List.set_cons_zero, List.set_cons_succ])
                  (refine tk6 (v := undef) (by kernel_rfl) (by kernel_rfl) (by kernel_rfl) (fun _ _ _ h => h) (Or.inr ⟨by rfl, rfl⟩) (by assumption) ?_; try simp only [Act.put, List.setIfInBounds_toArray, List.set_cons_zero, List.set_cons_succ])
                  (refine tk7 (v := undef) (by kernel_rfl) (by kernel_rfl) (by kernel_rfl) (fun _ _ _ h => h) (Or.inr ⟨by rfl, rfl⟩) (by assumption) ?_; try simp only [Act.put, List.setIfInBounds_toArray, List.set_cons_zero, List.set_cons_succ])
                  (refine tk8 (v := undef) (by kernel_rfl) (by kernel_rfl) (by kernel_rfl) (fun _ _ _ h => h) (Or.inr ⟨by rfl, rfl⟩) (by assumption) ?_; try simp only [Act.put, List.setIfInBounds_toArray, List.set_cons_zero, List.set_cons_succ])
                  (refine tk9 (v := undef) (by kernel_rfl) (by kernel_rfl) (by kernel_rfl) (fun _ _ _ h => h) (Or.inr ⟨by rfl, rfl⟩) (by assumption) ?_; try simp only [Act.put, List.setIfInBounds_toArray, List.set_cons_zero, List.set_cons_succ])
                  (refine tk10 (v := undef) (by kernel_rfl) (by kernel_rfl) (by kernel_rfl) (fun _ _ _ h => h) (Or.inr ⟨by rfl, rfl⟩) (by assumption) ?_; try simp only [Act.put, List.setIfInBounds_toArray, List.set_cons_zero, List.set_cons_succ])
                  (refine tk11 (v := undef) (by kernel_rfl) (by kernel_rfl) (by kernel_rfl) (fun _ _ _ h => h) (Or.inr ⟨by rfl, rfl⟩) (by assumption) ?_; try simp only [Act.put, List.setIfInBounds_toArray, List.set_cons_zero, List.set_cons_succ])
                  (refine tk12 (v := undef) (by kernel_rfl) (by kernel_rfl) (by kernel_rfl) (fun _ _ _ h => h) (Or.inr ⟨by rfl, rfl⟩) (by assumption) ?_; try simp only [Act.put, List.setIfInBounds_toArray, List.set_cons_zero, List.set_cons_succ])
                  (refine tk13 (v := undef) (by kernel_rfl) (by kernel_rfl) (by kernel_rfl) (fun _ _ _ h => h) (Or.inr ⟨by rfl, rfl⟩) (by assumption) ?_; try simp only [Act.put, List.setIfInBounds_toArray, List.set_cons_zero, List.set_cons_succ])
                  (refine tk14 (v := undef) (by kernel_rfl) (by kernel_rfl) (by kernel_rfl) (fun _ _ _ h => h) (Or.inr ⟨by rfl, rfl⟩) (by assumption) ?_; try simp only [Act.put, List.setIfInBounds_toArray, List.set_cons_zero, List.set_cons_succ])
                  (refine tk15 (v := undef) (by kernel_rfl) (by kernel_rfl) (by kernel_rfl) (fun _ _ _ h => h) (Or.inr ⟨by rfl, rfl⟩) (by assumption) ?_; try simp only [Act.put, List.setIfInBounds_toArray, List.set_cons_zero, List.set_cons_succ])
                  (refine tk16 (v := undef) (by kernel_rfl) (by kernel_rfl) (by kernel_rfl) (fun _ _ _ h => h) (Or.inr ⟨by rfl, rfl⟩) (by assumption) ?_; try simp only [Act.put, List.setIfInBounds_toArray, List.set_cons_zero, List.set_cons_succ])
                  (refine tk17 (v := undef) (by kernel_rfl) (by kernel_rfl) (by kernel_rfl) (fun _ _ _ h => h) (Or.inr ⟨by rfl, rfl⟩) (by assumption) ?_; try simp only [Act.put, List.setIfInBounds_toArray, List.set_cons_zero, List.set_cons_succ])
                  (refine tk18 (v := undef) (by kernel_rfl) (by kernel_rfl) (by kernel_rfl) (fun _ _ _ h => h) (Or.inr ⟨by rfl, rfl⟩) (by assumption) ?_; try simp only [Act.put, List.setIfInBounds_toArray, List.set_cons_zero, List.set_cons_succ])
                  (refine tk19 (v := undef) (by kernel_rfl) (by kernel_rfl) (by kernel_rfl) (fun _ _ _ h => h) (Or.inr ⟨by rfl, rfl⟩) (by assumption) ?_; try simp only [Act.put, List.setIfInBounds_toArray, List.set_cons_zero, List.set_cons_succ])
                  (refine tk20 (v := undef) (by kernel_rfl) (by kernel_rfl) (by kernel_rfl) (fun _ _ _ h => h) (Or.inr ⟨by rfl, rfl⟩) (by assumption) ?_; try simp only [Act.put, List.setIfInBounds_toArray, List.set_cons_zero, List.set_cons_succ])
                  (refine tk21 (v := undef) (by kernel_rfl) (by kernel_rfl) (by kernel_rfl) (fun _ _ _ h => h) (Or.inr ⟨by rfl, rfl⟩) (by assumption) ?_; try simp only [Act.put, List.setIfInBounds_toArray, List.set_cons_zero, List.set_cons_succ])
                  (refine tk22 (v := undef) (by kernel_rfl) (by kernel_rfl) (by kernel_rfl) (fun _ _ _ h => h) (Or.inr ⟨by rfl, rfl⟩) (by assumption) ?_; try simp only [Act.put, List.setIfInBounds_toArray, List.set_cons_zero, List.set_cons_succ])
                  (refine tk23 (v := ?_) (by kernel_rfl) (by kernel_rfl) (by kernel_rfl) (fun _ _ _ h => h) (Or.inl ⟨by rfl, ?_⟩) (by assumption) ?_; rotate_left; (focus (intro w hSw; (try dsimp only at hSw); go_simp; (try first | (rw [dif_pos (by omega)]; simp only [Result.andThen_ok]) | rw [if_pos (by omega)]); (try with_reducible rfl); done)); try simp only [Act.put, List.setIfInBounds_toArray, List.set_cons_zero, List.set_cons_succ])
                  refine wpAnyH_done (by kernel_rfl) ?_ _
                  go_wp2
                  go_roundw
                  case rel =>
                    refine ⟨1, by omega, by go_num, fun j hj hj1 => ?_, HF1.out, HB1.out.drew⟩
                    obtain rfl : j = 0 := by omega
                    exact HO.out
                  case measure => simp [intOf]; omega
                · obtain ⟨j, rfl⟩ : ∃ j, k = j + 1 := ⟨k - 1, by omega⟩
                  have hw1 : IntKind.i64.wrap (((j + 1 : Nat) : Int) - 1) = (j : Int) := by rw [IntKind.wrap_i64]; omega
                  have hw2 : IntKind.i64.wrap ((j : Int) + 1 - 1) = (j : Int) := by rw [IntKind.wrap_i64]; omega
                  have hw3 : IntKind.i64.wrap (j : Int) = (j : Int) := by rw [IntKind.wrap_i64]; omega
                  have hjl : (j : Int) < (ps.length : Int) := by omega
                  obtain ⟨b', off', hao', hb', hat'⟩ := (HS.out.later HB1.out) j (by omega)
                  injection hao' with hao'
                  injection hao' with i1 i2
                  subst i1 i2
                  obtain ⟨d0, d1, d2⟩ := hat'
                  have HA : Hid (∀ W, _) := fun W => order_any ps[j].beg ps[j].key ps[j + 1].beg ps[j + 1].key W
                  have hXl : X < W1.heap.size := cell_ltM e0
                  have hwl : w.heap.size < W1.heap.size := HF1.out.lt
                  clear d1
                  (refine wp_region_held_drew (S := (fun W => W.cell? ⟨w.heap.size, 5, none⟩ = some (.slice (some ⟨b, off, none⟩) ps.length cap) ∧ W.cell? ⟨b, off + j * 3, none⟩ = some (.int .u64 ps[j].beg) ∧ W.cell? ⟨b, off + j * 3 + 2, none⟩ = some (.string ps[j].key) ∧ W.cell? ⟨X, 0, none⟩ = some (.int .u64 ps[j + 1].beg) ∧ W.cell? ⟨X, 2, none⟩ = some (.string ps[j + 1].key))) (by kernel_rfl) ⟨f5, d0, d2, e0, e2⟩ (fun hHeld => ?_); simp only [List.size_toArray, List.length_cons, List.length_nil, Nat.reduceAdd, Array.replicate_succ, Array.replicate_zero, List.push_toArray, List.append_toArray, List.nil_append, List.cons_append])
                  (refine tk0 (v := ?_) (by kernel_rfl) (by kernel_rfl) (by kernel_rfl) (fun _ _ _ h => h) (Or.inl ⟨by rfl, ?_⟩) (by assumption) ?_; rotate_left; (focus (intro w hSw; (try dsimp only at hSw); go_simp; (try first | (rw [dif_pos (by omega)]; simp only [Result.andThen_ok]) | rw [if_pos (by omega)]); (try with_reducible rfl); done)); try simp only [Act.put, List.setIfInBounds_toArray, List.set_cons_zero, List.set_cons_succ])
                  (refine tk1 (v := ?_) (by kernel_rfl) (by kernel_rfl) (by kernel_rfl) (fun _ _ _ h => h) (Or.inl ⟨by rfl, ?_⟩) (by assumption) ?_; rotate_left; (focus (intro w hSw; (try dsimp only at hSw); go_simp; (try first | (rw [dif_pos (by omega)]; simp only [Result.andThen_ok]) | rw [if_pos (by omega)]); (try with_reducible rfl); done)); try simp only [Act.put, List.setIfInBounds_toArray, List.set_cons_zero, List.set_cons_succ])
                  (refine tk2 (v := ?_) (by kernel_rfl) (by kernel_rfl) (by kernel_rfl) (fun _ _ _ h => h) (Or.inl ⟨by rfl, ?_⟩) (by assumption) ?_; rotate_left; (focus (intro w hSw; (try dsimp only at hSw); go_simp; (try first | (rw [dif_pos (by omega)]; simp only [Result.andThen_ok]) | rw [if_pos (by omega)]); (try with_reducible rfl); done)); try simp only [Act.put, List.setIfInBounds_toArray, List.set_cons_zero, List.set_cons_succ])
                  (refine tk3 (v := ?_) (by kernel_rfl) (by kernel_rfl) (by kernel_rfl) (fun _ _ _ h => h) (Or.inl ⟨by rfl, ?_⟩) (by assumption) ?_; rotate_left; (focus (intro w hSw; (try dsimp only at hSw); go_simp; (try first | (rw [dif_pos (by omega)]; simp only [Result.andThen_ok]) | rw [if_pos (by omega)]); (try with_reducible rfl); done)); try simp only [Act.put, List.setIfInBounds_toArray, List.set_cons_zero, List.set_cons_succ])
                  (refine tk4 (v := ?_) (by kernel_rfl) (by kernel_rfl) (by kernel_rfl) (fun _ _ _ h => h) (Or.inl ⟨by rfl, ?_⟩) (by assumption) ?_; rotate_left; (focus (intro w hSw; (try dsimp only at hSw); go_simp; (try first | (rw [dif_pos (by omega)]; simp only [Result.andThen_ok]) | rw [if_pos (by omega)]); (try with_reducible rfl); done)); try simp only [Act.put, List.setIfInBounds_toArray, List.set_cons_zero, List.set_cons_succ])
                  (refine tk5 (v := ?_) (by kernel_rfl) (by kernel_rfl) (by kernel_rfl) (fun _ _ _ h => h) (Or.inl ⟨by rfl, ?_⟩) (by assumption) ?_; rotate_left; (focus (intro w hSw; (try dsimp only at hSw); go_simp; (try first | (rw [dif_pos (by omega)]; simp only [Result.andThen_ok]) | rw [if_pos (by omega)]); (try with_reducible rfl); done)); try simp only [Act.put, List.setIfInBounds_toArray, List.set_cons_zero, List.set_cons_succ])
                  (refine tk6 (v := ?_) (by kernel_rfl) (by kernel_rfl) (by kernel_rfl) (fun _ _ _ h => h) (Or.inl ⟨by rfl, ?_⟩) (by assumption) ?_; rotate_left; (focus (intro w hSw; (try dsimp only at hSw); go_simp; (try first | (rw [dif_pos (by omega)]; simp only [Result.andThen_ok]) | rw [if_pos (by omega)]); (try with_reducible rfl); done)); try simp only [Act.put, List.setIfInBounds_toArray, List.set_cons_zero, List.set_cons_succ])
                  (refine tk7 (v := ?_) (by kernel_rfl) (by kernel_rfl) (by kernel_rfl) (fun _ _ _ h => h) (Or.inl ⟨by rfl, ?_⟩) (by assumption) ?_; rotate_left; (focus (intro w hSw; (try dsimp only at hSw); go_simp; (try first | (rw [dif_pos (by omega)]; simp only [Result.andThen_ok]) | rw [if_pos (by omega)]); (try with_reducible rfl); done)); try simp only [Act.put, List.setIfInBounds_toArray, List.set_cons_zero, List.set_cons_succ])
                  (refine tk8 (v := ?_) (by kernel_rfl) (by kernel_rfl) (by kernel_rfl) (fun _ _ _ h => h) (Or.inl ⟨by rfl, ?_⟩) (by assumption) ?_; rotate_left; (focus (intro w hSw; (try dsimp only at hSw); go_simp; (try first | (rw [dif_pos (by omega)]; simp only [Result.andThen_ok]) | rw [if_pos (by omega)]); (try with_reducible rfl); done)); try simp only [Act.put, List.setIfInBounds_toArray, List.set_cons_zero, List.set_cons_succ])
                  (refine tk9 (v := ?_) (by kernel_rfl) (by kernel_rfl) (by kernel_rfl) (fun _ _ _ h => h) (Or.inl ⟨by rfl, ?_⟩) (by assumption) ?_; rotate_left; (focus (intro w hSw; (try dsimp only at hSw); go_simp; (try first | (rw [dif_pos (by omega)]; simp only [Result.andThen_ok]) | rw [if_pos (by omega)]); (try with_reducible rfl); done)); try simp only [Act.put, List.setIfInBounds_toArray, List.set_cons_zero, List.set_cons_succ])
                  (refine tk10 (v := ?_) (by kernel_rfl) (by kernel_rfl) (by kernel_rfl) (fun _ _ _ h => h) (Or.inl ⟨by rfl, ?_⟩) (by assumption) ?_; rotate_left; (focus (intro w hSw; (try dsimp only at hSw); go_simp; (try first | (rw [dif_pos (by omega)]; simp only [Result.andThen_ok]) | rw [if_pos (by omega)]); (try with_reducible rfl); done)); try simp only [Act.put, List.setIfInBounds_toArray, List.set_cons_zero, List.set_cons_succ])
                  (refine tk11 (v := ?_) (by kernel_rfl) (by kernel_rfl) (by kernel_rfl) (fun _ _ _ h => h) (Or.inl ⟨by rfl, ?_⟩) (by assumption) ?_; rotate_left; (focus (intro w hSw; (try dsimp only at hSw); go_simp; (try first | (rw [dif_pos (by omega)]; simp only [Result.andThen_ok]) | rw [if_pos (by omega)]); (try with_reducible rfl); done)); try simp only [Act.put, List.setIfInBounds_toArray, List.set_cons_zero, List.set_cons_succ])
                  (refine tk12 (v := ?_) (by kernel_rfl) (by kernel_rfl) (by kernel_rfl) (fun _ _ _ h => h) (Or.inl ⟨by rfl, ?_⟩) (by assumption) ?_; rotate_left; (focus (intro w hSw; (try dsimp only at hSw); go_simp; (try first | (rw [dif_pos (by omega)]; simp only [Result.andThen_ok]) | rw [if_pos (by omega)]); (try with_reducible rfl); done)); try simp only [Act.put, List.setIfInBounds_toArray, List.set_cons_zero, List.set_cons_succ])
                  (refine tk13 (v := ?_) (by kernel_rfl) (by kernel_rfl) (by kernel_rfl) (fun _ _ _ h => h) (Or.inl ⟨by rfl, ?_⟩) (by assumption) ?_; rotate_left; (focus (intro w hSw; (try dsimp only at hSw); go_simp; (try first | (rw [dif_pos (by omega)]; simp only [Result.andThen_ok]) | rw [if_pos (by omega)]); (try with_reducible rfl); done)); try simp only [Act.put, List.setIfInBounds_toArray, List.set_cons_zero, List.set_cons_succ])
                  (refine tk14 (v := ?_) (by kernel_rfl) (by kernel_rfl) (by kernel_rfl) (fun _ _ _ h => h) (Or.inl ⟨by rfl, ?_⟩) (by assumption) ?_; rotate_left; (focus (intro w hSw; (try dsimp only at hSw); go_simp; (try first | (rw [dif_pos (by omega)]; simp only [Result.andThen_ok]) | rw [if_pos (by omega)]); (try with_reducible rfl); done)); try simp only [Act.put, List.setIfInBounds_toArray, List.set_cons_zero, List.set_cons_succ])
                  (refine tk15 (v := ?_) (by kernel_rfl) (by kernel_rfl) (by kernel_rfl) (fun _ _ _ h => h) (Or.inl ⟨by rfl, ?_⟩) (by assumption) ?_; rotate_left; (focus (intro w hSw; (try dsimp only at hSw); go_simp; (try first | (rw [dif_pos (by omega)]; simp only [Result.andThen_ok]) | rw [if_pos (by omega)]); (try with_reducible rfl); done)); try simp only [Act.put, List.setIfInBounds_toArray, List.set_cons_zero, List.set_cons_succ])
                  (refine tk16 (v := ?_) (by kernel_rfl) (by kernel_rfl) (by kernel_rfl) (fun _ _ _ h => h) (Or.inl ⟨by rfl, ?_⟩) (by assumption) ?_; rotate_left; (focus (intro w hSw; (try dsimp only at hSw); go_simp; (try first | (rw [dif_pos (by omega)]; simp only [Result.andThen_ok]) | rw [if_pos (by omega)]); (try with_reducible rfl); done)); try simp only [Act.put, List.setIfInBounds_toArray, List.set_cons_zero, List.set_cons_succ])
                  (refine tk17 (v := ?_) (by kernel_rfl) (by kernel_rfl) (by kernel_rfl) (fun _ _ _ h => h) (Or.inl ⟨by rfl, ?_⟩) (by assumption) ?_; rotate_left; (focus (intro w hSw; (try dsimp only at hSw); go_simp; (try first | (rw [dif_pos (by omega)]; simp only [Result.andThen_ok]) | rw [if_pos (by omega)]); (try with_reducible rfl); done)); try simp only [Act.put, List.setIfInBounds_toArray, List.set_cons_zero, List.set_cons_succ])
                  (refine tk18 (v := ?_) (by kernel_rfl) (by kernel_rfl) (by kernel_rfl) (fun _ _ _ h => h) (Or.inl ⟨by rfl, ?_⟩) (by assumption) ?_; rotate_left; (focus (intro w hSw; (try dsimp only at hSw); go_simp; (try first | (rw [dif_pos (by omega)]; simp only [Result.andThen_ok]) | rw [if_pos (by omega)]); (try with_reducible rfl); done)); try simp only [Act.put, List.setIfInBounds_toArray, List.set_cons_zero, List.set_cons_succ])
                  (refine tk19 (v := ?_) (by kernel_rfl) (by kernel_rfl) (by kernel_rfl) (fun _ _ _ h => h) (Or.inl ⟨by rfl, ?_⟩) (by assumption) ?_; rotate_left; (focus (intro w hSw; (try dsimp only at hSw); go_simp; (try first | (rw [dif_pos (by omega)]; simp only [Result.andThen_ok]) | rw [if_pos (by omega)]); (try with_reducible rfl); done)); try simp only [Act.put, List.setIfInBounds_toArray, List.set_cons_zero, List.set_cons_succ])
                  (refine tk20 (v := ?_) (by kernel_rfl) (by kernel_rfl) (by kernel_rfl) (fun _ _ _ h => h) (Or.inl ⟨by rfl, ?_⟩) (by assumption) ?_; rotate_left; (focus (intro w hSw; (try dsimp only at hSw); go_simp; (try first | (rw [dif_pos (by omega)]; simp only [Result.andThen_ok]) | rw [if_pos (by omega)]); (try with_reducible rfl); done)); try simp only [Act.put, List.setIfInBounds_toArray, List.set_cons_zero, List.set_cons_succ])
                  (refine wpAnyH_ready (rs := [21]) (by kernel_rfl) (by simp) ?_; refine ar21 (fun K hK => ?_) AllReadyH.nil; go_simp)
                  refine (HA.out _).mono ?_
                  rintro _ w2 ⟨⟨r, rfl, hiff⟩, hb2⟩
                  have hb2' : Below W1.heap.size W1 w2 := (Below.refl _ _).drew.trans hb2
                  have HIF : Hid (r < 0 ↔ aheadP ps[j].beg ps[j].key ps[j + 1].beg ps[j + 1].key) := hiff
                  have HB2 : Hid (Below w.heap.size w w2) := HB1.out.trans (hb2'.mono HB1.out.size)
                  have HF2 : Hid (Fp6 w2 w.heap.size (.int .i64 id) (.int .u64 lo) (.int .u64 hi) (.slice da dn dc) (.int .i64 gen) (.slice (some ⟨b, off, none⟩) ps.length cap)) := HF1.out.later hb2' hwl
                  have S2 : w2.cell? ⟨w.heap.size, 5, none⟩ = some (.slice (some ⟨b, off, none⟩) ps.length cap) ∧ w2.cell? ⟨b, off + j * 3, none⟩ = some (.int .u64 ps[j].beg) ∧ w2.cell? ⟨b, off + j * 3 + 2, none⟩ = some (.string ps[j].key) ∧ w2.cell? ⟨X, 0, none⟩ = some (.int .u64 ps[j + 1].beg) ∧ w2.cell? ⟨X, 2, none⟩ = some (.string ps[j + 1].key) := ⟨(hb2'.cell (p := ⟨w.heap.size, 5, none⟩) hwl).trans f5, (hb2'.cell (p := ⟨b, off + j * 3, none⟩) (by simp only; omega)).trans d0, (hb2'.cell (p := ⟨b, off + j * 3 + 2, none⟩) (by simp only; omega)).trans d2, (hb2'.cell (p := ⟨X, 0, none⟩) hXl).trans e0, (hb2'.cell (p := ⟨X, 2, none⟩) hXl).trans e2⟩
                  clear hiff hb2 hb2' HA f5 d0 d2 e0 e2 hHeld
                  by_cases hr : r < 0
                  · have hrd : decide ((0 : Int) ≤ r) = false := decide_eq_false (by omega)
                    have HO : Hid (okE ps (j + 1) hkl) := ⟨HME.out, fun i hi => by
                      have e : i = j := (by omega)
                      subst e
                      exact HIF.out.1 hr⟩
                    (refine hK.out _ _ S2 (fun hHeld => ?_); clear hK K; try simp only [Act.put, List.setIfInBounds_toArray, List.set_cons_zero, List.set_cons_succ])
                    (refine tk22 (v := ?_) (by kernel_rfl) (by kernel_rfl) (by kernel_rfl) (fun _ _ _ h => h) (Or.inl ⟨by rfl, ?_⟩) (by assumption) ?_; rotate_left; (focus (intro w hSw; (try dsimp only at hSw); go_simp; (try first | (rw [dif_pos (by omega)]; simp only [Result.andThen_ok]) | rw [if_pos (by omega)]); (try with_reducible rfl); done)); try simp only [Act.put, List.setIfInBounds_toArray, List.set_cons_zero, List.set_cons_succ])
                    (refine tk23 (v := ?_) (by kernel_rfl) (by kernel_rfl) (by kernel_rfl) (fun _ _ _ h => h) (Or.inl ⟨by rfl, ?_⟩) (by assumption) ?_; rotate_left; (focus (intro w hSw; (try dsimp only at hSw); go_simp; (try first | (rw [dif_pos (by omega)]; simp only [Result.andThen_ok]) | rw [if_pos (by omega)]); (try with_reducible rfl); done)); try simp only [Act.put, List.setIfInBounds_toArray, List.set_cons_zero, List.set_cons_succ])
                    refine wpAnyH_done (by kernel_rfl) ?_ _
                    clear S2 hHeld
                    go_wp2
                    go_roundw
                    case rel =>
                      refine ⟨j + 1 + 1, by omega, by go_num, fun i hi hi1 => ?_, HF2.out, HB2.out⟩
                      rcases Nat.lt_or_ge i (j + 1) with h | h
                      · exact HOK.out i hi h
                      · obtain rfl : i = j + 1 := by omega
                        exact HO.out
                    case measure => simp [intOf]; omega
                  · have hrd : decide ((0 : Int) ≤ r) = true := decide_eq_true (by omega)
                    have HN1 : Hid (¬ mayD id gen ps) := fun h => hr (HIF.out.2 ((h.2.2.2 (j + 1) hkl).2 j rfl))
                    (refine hK.out _ _ S2 (fun hHeld => ?_); clear hK K; try simp only [Act.put, List.setIfInBounds_toArray, List.set_cons_zero, List.set_cons_succ])
                    (refine tk22 (v := ?_) (by kernel_rfl) (by kernel_rfl) (by kernel_rfl) (fun _ _ _ h => h) (Or.inl ⟨by rfl, ?_⟩) (by assumption) ?_; rotate_left; (focus (intro w hSw; (try dsimp only at hSw); go_simp; (try first | (rw [dif_pos (by omega)]; simp only [Result.andThen_ok]) | rw [if_pos (by omega)]); (try with_reducible rfl); done)); try simp only [Act.put, List.setIfInBounds_toArray, List.set_cons_zero, List.set_cons_succ])
                    (refine tk23 (v := ?_) (by kernel_rfl) (by kernel_rfl) (by kernel_rfl) (fun _ _ _ h => h) (Or.inl ⟨by rfl, ?_⟩) (by assumption) ?_; rotate_left; (focus (intro w hSw; (try dsimp only at hSw); go_simp; (try first | (rw [dif_pos (by omega)]; simp only [Result.andThen_ok]) | rw [if_pos (by omega)]); (try with_reducible rfl); done)); try simp only [Act.put, List.setIfInBounds_toArray, List.set_cons_zero, List.set_cons_succ])
                    refine wpAnyH_done (by kernel_rfl) ?_ _
                    clear S2 hHeld
                    go_wp2
                    go_ret
                    exact RetB.no rfl HN1.out HB2.out
              · have HN1 : Hid (¬ mayD id gen ps) := HNO.out (fun h => q4 ⟨h.2.2.2.1, h.2.2.2.2⟩)
                have HK1 : Hid (∀ W, Calls Tryz.prog 48 #[.string ps[k].key] W fun e w' => e = .returned (.bool false) ∧ w' = W) := fun W => by
                  have := isKey_any ps[k].key W
                  rwa [decide_eq_false q4] at this
                clear q4
                go_wp2_with fail
                refine (HK1.out _).mono ?_
                rintro e w1 ⟨rfl, rfl⟩
                go_wp2
                go_ret
                exact RetB.no rfl HN1.out (HBA.out _)
      · have hke : k = ps.length := by omega
        subst hke
        go_wp2
        go_ret
        exact RetB.yes rfl ⟨⟨g1, g2⟩, ⟨n1, n2⟩, ⟨l0, l1⟩, fun k hk => HOK.out k hk hk⟩ HBk.out
  · have HN : Hid (¬ mayD id gen ps) := fun h => hh ⟨h.1, h.2.1, h.2.2.1⟩
    have HB : Hid (Below w.heap.size w (w.alloc (.cells #[.int .i64 id, .int .u64 lo, .int .u64 hi, .slice da dn dc, .int .i64 gen, .slice ao ps.length cap] 26))) := (Below.refl _ _).alloc (Nat.le_refl _) _
    by_cases h1 : 1 ≤ id ∧ id ≤ 99999999
    · have HI1 : Hid (∀ W, Calls Tryz.prog 47 #[.int .i64 id] W fun e w' => e = .returned (.bool true) ∧ w' = W) := fun W => by
        have := isFileNo_any W id
        rwa [decide_eq_true h1] at this
      by_cases h2 : 1 ≤ gen ∧ gen ≤ 99999999
      · have HI2 : Hid (∀ W, Calls Tryz.prog 47 #[.int .i64 gen] W fun e w' => e = .returned (.bool true) ∧ w' = W) := fun W => by
          have := isFileNo_any W gen
          rwa [decide_eq_true h2] at this
        have hor : ps.length < 1 ∨ 65536 < ps.length := by omega
        clear hh HFi
        go_enter Tryz.func39, Tryz.ntmps39
        go_wp2_with fail
        refine (HI1.out _).mono ?_
        rintro e w1 ⟨rfl, rfl⟩
        go_wp2_with fail
        refine (HI2.out _).mono ?_
        rintro e w1 ⟨rfl, rfl⟩
        rcases hor with hor | hor
        · have hor' : (ps.length : Int) < 1 := by omega
          go_wp2
          go_ret
          exact RetB.no rfl HN.out HB.out
        · have hor' : (65536 : Int) < (ps.length : Int) := by omega
          have hor2 : ¬ (ps.length : Int) < 1 := by omega
          have hor3 : decide ((ps.length : Int) < 1) = false := decide_eq_false hor2
          go_wp2
          go_ret
          exact RetB.no rfl HN.out HB.out
      · have HI2 : Hid (∀ W, Calls Tryz.prog 47 #[.int .i64 gen] W fun e w' => e = .returned (.bool false) ∧ w' = W) := fun W => by
          have := isFileNo_any W gen
          rwa [decide_eq_false h2] at this
        clear hh h2 HFi
        go_enter Tryz.func39, Tryz.ntmps39
        go_wp2_with fail
        refine (HI1.out _).mono ?_
        rintro e w1 ⟨rfl, rfl⟩
        go_wp2_with fail
        refine (HI2.out _).mono ?_
        rintro e w1 ⟨rfl, rfl⟩
        go_wp2
        go_ret
        exact RetB.no rfl HN.out HB.out
    · have HI1 : Hid (∀ W, Calls Tryz.prog 47 #[.int .i64 id] W fun e w' => e = .returned (.bool false) ∧ w' = W) := fun W => by
        have := isFileNo_any W id
        rwa [decide_eq_false h1] at this
      clear hh h1 HFi
      go_enter Tryz.func39, Tryz.ntmps39
      go_wp2_with fail
      refine (HI1.out _).mono ?_
      rintro e w1 ⟨rfl, rfl⟩
      go_wp2
      go_ret
      exact RetB.no rfl HN.out HB.out
end Go.Proofs.YtbfjnidpjmhfiaaGreatDoor

namespace Go.Proofs.YtbfjnidpjmhfiaaGreatDoor
set_option linter.unusedSimpArgs false
open Go.ChangeShapes Go.WideShapes Go.ChangeAt Go.RowKit
set_option linter.unusedVariables false
set_option maxRecDepth 100000
/-- What the encoding of a delta file answers. -/
def EncB (id gen : Int) (ps : List ER) (w : World) (e : Ending) (w' : World) : Prop :=
  (mayD id gen ps → e = .returned (.tuple #[.string (sealM mgDl (encD id gen ps)), .int .i64 0])) ∧ (¬ mayD id gen ps → e = .returned (.tuple #[.string ⟨#[]⟩, .int .i64 2])) ∧ Below w.heap.size w w'
def headD (id gen : Int) (ps : List ER) : List Int := [id, gen, (ps.length : Int)].flatMap uvB
theorem encD_head (id gen : Int) (ps : List ER) : encD id gen ps = headD id gen ps ++ encEs 0 ps := by simp [encD, headD]
theorem encE_two (last : Int) (p : ER) : encE last p = [p.beg - last, p.fin - p.beg].flatMap uvB ++ [p.key].flatMap blB := by simp [encE]
theorem encEs_len : ∀ (ps : List ER) (last : Int), (∀ p ∈ ps, p.key.size ≤ 160) → (encEs last ps).length ≤ ps.length * 190
  | [], _, _ => by simp [encEs]
  | p :: ps, last, h => by
    have := encEs_len ps p.beg (fun q hq => h q (List.mem_cons_of_mem _ hq))
    have h1 := (uvB_len (p.beg - last)).1
    have h2 := (uvB_len (p.fin - p.beg)).1
    have h3 := blB_len p.key
    have h4 := h p (by simp)
    simp only [encEs, encE, List.length_append, List.length_cons]
    omega
theorem headD_len (id gen : Int) (ps : List ER) : (headD id gen ps).length ≤ 30 := by
  have h1 := (uvB_len id).1
  have h2 := (uvB_len gen).1
  have h4 := (uvB_len (ps.length : Int)).1
  simp only [headD, List.flatMap_cons, List.flatMap_nil, List.append_nil, List.length_append]
  omega
theorem lastE_nonneg {ps : List ER} {k : Nat} (hw : ∀ p ∈ ps, p.wf) (hk : k ≤ ps.length) : 0 ≤ lastE ps k := by
  cases k with
  | zero => exact Int.le_refl _
  | succ k =>
    rw [lastE_succ (by omega)]
    exact (hw _ (List.getElem_mem _)).b0
theorem txtN_mgDl : txtN ⟨#[83, 84, 82, 65, 68, 69, 76, 49]⟩ = mgDl := by decide
theorem SeesE.mono {w : World} {B B' : Nat} {ao : Option Addr} {ps : List ER} (h : SeesE w B ao ps) (hb : B ≤ B') : SeesE w B' ao ps := fun i hi => by
  obtain ⟨b, off, e, hbB, c⟩ := h i hi
  exact ⟨b, off, e, by omega, c⟩
theorem mayD_lo {id gen : Int} {ps : List ER} (h : mayD id gen ps) {k : Nat} (hk : k < ps.length) : lastE ps k ≤ ps[k].beg := by
  obtain ⟨h1, h2⟩ := h.2.2.2 k hk
  cases k with
  | zero => have := h1.1; rw [lastE_zero]; omega
  | succ k =>
    rw [lastE_succ (by omega)]
    rcases h2 k rfl with a | ⟨a, _⟩ <;> omega
set_option maxHeartbeats 12800000 in
theorem encDelta_any (w : World) (id gen lo hi : Int) (da ao : Option Addr) (dn dc cap : Nat) (ps : List ER) (hs : SeesE w w.heap.size ao ps) (hw : ∀ p ∈ ps, p.wf) (hT : HalfAt w) :
    Calls Tryz.prog 17 #[.agg #[.int .i64 id, .int .u64 lo, .int .u64 hi, .slice da dn dc, .int .i64 gen, .slice ao ps.length cap]] w (EncB id gen ps w) := by
  have HS : Hid (SeesE w w.heap.size ao ps) := hs
  have HW : Hid (∀ p ∈ ps, p.wf) := hw
  have HT : Hid (HalfAt w) := hT
  clear hs hw hT
  have HBB : Hid (Below w.heap.size w (w.alloc (.cells #[.int .i64 id, .int .u64 lo, .int .u64 hi, .slice da dn dc, .int .i64 gen, .slice ao ps.length cap] 26))) := (Below.refl _ _).alloc (Nat.le_refl _) _
  have HF0 : Hid (Fp6 (w.alloc (.cells #[.int .i64 id, .int .u64 lo, .int .u64 hi, .slice da dn dc, .int .i64 gen, .slice ao ps.length cap] 26)) w.heap.size (.int .i64 id) (.int .u64 lo) (.int .u64 hi) (.slice da dn dc) (.int .i64 gen) (.slice ao ps.length cap)) := heap_alloc_new w _
  go_enter Tryz.func17, Tryz.ntmps17
  go_wp2_with fail
  generalize hwb : w.alloc (.cells #[.int .i64 id, .int .u64 lo, .int .u64 hi, .slice da dn dc, .int .i64 gen, .slice ao ps.length cap] 26) = wb at *
  clear hwb
  refine (mayBeDelta_any wb id gen lo hi da ao dn dc cap ps ((HS.out.later HBB.out).mono HBB.out.size)).mono ?_
  rintro _ w1 ⟨c, rfl, hiff, hb1⟩
  have HIF : Hid (c = true ↔ mayD id gen ps) := hiff
  have HB1 : Hid (Below w.heap.size w w1) := HBB.out.trans (hb1.mono HBB.out.size)
  have HF1 : Hid (Fp6 w1 w.heap.size (.int .i64 id) (.int .u64 lo) (.int .u64 hi) (.slice da dn dc) (.int .i64 gen) (.slice ao ps.length cap)) := HF0.out.later hb1 HF0.out.lt
  clear hiff hb1 HF0 HBB
  cases c
  · go_wp2
    go_ret2
    exact ⟨fun h => (by have := HIF.out.2 h; cases this), fun _ => rfl, HB1.out⟩
  · have HM : Hid (mayD id gen ps) := HIF.out.1 rfl
    obtain ⟨⟨g1, g2⟩, ⟨n1, n2⟩, ⟨l0, l1⟩, _⟩ := HM.out
    have HKs : Hid (∀ p ∈ ps, p.key.size ≤ 160) := fun p hp => by
      obtain ⟨i, hi, rfl⟩ := List.mem_iff_getElem.1 hp
      exact (HM.out.2.2.2 i hi).1.2.2.2.2
    go_wp2_with fail
    refine (begin_any w1 w1.heap.size ⟨#[83, 84, 82, 65, 68, 69, 76, 49]⟩ (by decide) (Nat.le_refl _)).mono ?_
    rintro _ w2 ⟨g, vb, rfl, hwr, hv, hg, hgl, hb2⟩
    rw [txtN_mgDl] at hwr
    have HWR : Hid (Wr w2 w1.heap.size g vb mgDl) := hwr
    have HB2 : Hid (Below w1.heap.size w1 w2) := hb2
    have hF2 := HF1.out.later hb2 HF1.out.lt
    have b0 : w2.cell? ⟨w.heap.size, 0, none⟩ = some (.int .i64 id) := hF2.cell 0
    have b4 : w2.cell? ⟨w.heap.size, 4, none⟩ = some (.int .i64 gen) := hF2.cell 4
    have b5 : w2.cell? ⟨w.heap.size, 5, none⟩ = some (.slice ao ps.length cap) := hF2.cell 5
    have HVL : Hid (vb < w2.heap.size) := by
      obtain ⟨⟨n, cp, _, ho⟩, _⟩ := hwr
      exact (ownsM.lt ho vb rfl).2
    have s2 := hb2.size
    clear hwr hb2 hF2
    go_wp2_with fail
    obtain ⟨w3, hw3⟩ : ∃ w3, w2.alloc (.cells #[.int .u64 id, .int .u64 gen, .int .u64 (ps.length : Int)] 22) = w3 := ⟨_, rfl⟩
    rw [hw3]
    have x3 : w3.heap[w2.heap.size]? = some (.cells #[.int .u64 id, .int .u64 gen, .int .u64 (ps.length : Int)] 22 (0, 0)) := by rw [← hw3]; exact heap_alloc_new w2 _
    have hb3 : Below w2.heap.size w2 w3 := by rw [← hw3]; exact (Below.refl _ _).alloc (Nat.le_refl _) _
    have s3 : w3.heap.size = w2.heap.size + 1 := by rw [← hw3]; simp
    have hvl := HVL.out
    refine (numbers_any w3 w1.heap.size g vb w2.heap.size 3 mgDl [id, gen, (ps.length : Int)] (HWR.out.keep (Kept.of (K := fun _ => False) hb3) (fun h => h) (fun h => h)) (fun i hi => by
      match i, hi with
      | 0, _ => exact cells_at x3 0
      | 1, _ => exact cells_at x3 1
      | 2, _ => exact cells_at x3 2) (by intro x hx; simp at hx; rcases hx with rfl | rfl | rfl <;> omega) (by omega) (by omega) (by omega) (by show 8 + 3 * 10 ≤ _; decide) (by omega)).mono ?_
    rintro _ w4 ⟨rfl, vb4, hwr4, hv4, hk4⟩
    have HWR4 : Hid (Wr w4 w1.heap.size g vb4 (mgDl ++ headD id gen ps)) := hwr4
    have HB4 : Hid (Below w1.heap.size w1 w4) := (HB2.out.trans (hb3.mono s2)).trans (hk4.below (by omega) (fun k hk e => by
      rcases e with e | e
      · omega
      · omega))
    have b54 : w4.cell? ⟨w.heap.size, 5, none⟩ = some (.slice ao ps.length cap) := (HF1.out.later HB4.out HF1.out.lt).cell 5
    have HV4 : Hid (w1.heap.size ≤ vb4) := by show _ ≤ _; rcases hv4 with e | e <;> omega
    clear hwr4 hv4 hk4 x3 hb3 b0 b4 b5 HWR HVL hvl hw3 HB2
    go_wp2
    go_loopw [5, 28] (fun h i wr => ∃ k : Nat, k ≤ ps.length ∧ i = .int .i64 k ∧ h = .int .u64 (lastE ps k) ∧ ∃ vb', Wr wr w1.heap.size g vb' (mgDl ++ headD id gen ps ++ encEs 0 (ps.take k)) ∧ w1.heap.size ≤ vb' ∧ Below w1.heap.size w1 wr) (fun _ i _ => ps.length - (intOf i).toNat)
    case atStart => exact ⟨0, Nat.zero_le _, rfl, rfl, vb4, by simpa [encEs] using HWR4.out, HV4.out, HB4.out⟩
    case round =>
      obtain ⟨k, hk, rfl, rfl, vb5, hwr, hv5, hbe⟩ := hrel
      have HWR : Hid (Wr wr w1.heap.size g vb5 (mgDl ++ headD id gen ps ++ encEs 0 (ps.take k))) := hwr
      have HBE : Hid (Below w1.heap.size w1 wr) := hbe
      have HBW : Hid (Below w.heap.size w wr) := HB1.out.trans (hbe.mono HB1.out.size)
      have s5 := hbe.size
      have hgl5 : g < wr.heap.size := by
        obtain ⟨⟨n, cp, hc, ho⟩, _⟩ := hwr
        exact cell_ltM hc
      have hvl5 : vb5 < wr.heap.size := by
        obtain ⟨⟨n, cp, hc, ho⟩, _⟩ := hwr
        exact (ownsM.lt ho vb5 rfl).2
      have hlen5 := encEs_len (ps.take k) 0 (fun p hp => HKs.out p (List.mem_of_mem_take hp))
      have hlh := headD_len id gen ps
      clear hwr hbe b54 HWR4 HV4 HB4
      by_cases hkl : k < ps.length
      · obtain ⟨b, off, hao, hb, hat⟩ := (HS.out.later HBW.out) k hkl
        obtain ⟨c0, c1, c2⟩ := hat
        have hlo := mayD_lo HM.out hkl
        obtain ⟨m1, m2, m3, m4, m5⟩ := (HM.out.2.2.2 k hkl).1
        have hl0 := lastE_nonneg HW.out hk
        have HST : Hid (mgDl ++ headD id gen ps ++ encEs 0 (ps.take (k + 1)) = mgDl ++ headD id gen ps ++ encEs 0 (ps.take k) ++ [ps[k].beg - lastE ps k, ps[k].fin - ps[k].beg].flatMap uvB ++ [ps[k].key].flatMap blB) := by
          show _ = _
          rw [encEs_step ps k hkl, encE_two]
          simp only [List.append_assoc]
        have HL2 : Hid _ := lastE_succ hkl
        have ht : (ps.take k).length = k := by rw [List.length_take]; omega
        rw [ht] at hlen5
        generalize hpk : ps[k] = p at *
        obtain ⟨bg, fn, ky⟩ := p
        simp only at c0 c1 c2 hlo m1 m2 m3 m4 m5 HST HL2
        generalize lastE ps k = lst at *
        subst hao
        clear hpk ht
        have HLEN : Hid ((mgDl ++ headD id gen ps ++ encEs 0 (ps.take k)).length ≤ 38 + k * 190) := by
          show _ ≤ _
          have : mgDl.length = 8 := rfl
          simp only [List.length_append]
          omega
        generalize mgDl ++ headD id gen ps ++ encEs 0 (ps.take k) = XS at *
        clear hlen5 hlh
        go_wp2_with fail
        obtain ⟨w6, hw6⟩ : ∃ w6, wr.alloc (.cells #[.int .u64 bg, .int .u64 fn, .string ky] 33) = w6 := ⟨_, rfl⟩
        rw [hw6]
        have x6 : w6.heap[wr.heap.size]? = some (.cells #[.int .u64 bg, .int .u64 fn, .string ky] 33 (0, 0)) := by rw [← hw6]; exact heap_alloc_new wr _
        have hb6 : Below wr.heap.size wr w6 := by rw [← hw6]; exact (Below.refl _ _).alloc (Nat.le_refl _) _
        have s6 : w6.heap.size = wr.heap.size + 1 := by rw [← hw6]; simp
        obtain ⟨w7, hw7⟩ : ∃ w7, w6.alloc (.cells #[.int .u64 (bg - lst), .int .u64 (fn - bg)] 22) = w7 := ⟨_, rfl⟩
        rw [hw7]
        have x7 : w7.heap[w6.heap.size]? = some (.cells #[.int .u64 (bg - lst), .int .u64 (fn - bg)] 22 (0, 0)) := by rw [← hw7]; exact heap_alloc_new w6 _
        have hb7 : Below w6.heap.size w6 w7 := by rw [← hw7]; exact (Below.refl _ _).alloc (Nat.le_refl _) _
        have s7 : w7.heap.size = w6.heap.size + 1 := by rw [← hw7]; simp
        have hb67 : Below wr.heap.size wr w7 := hb6.trans (hb7.mono (by omega))
        rw [← s6]
        refine (numbers_any w7 w1.heap.size g vb5 w6.heap.size 2 _ [bg - lst, fn - bg] (HWR.out.keep (Kept.of (K := fun _ => False) hb67) (fun h => h) (fun h => h)) (fun i hi => by
          match i, hi with
          | 0, _ => exact cells_at x7 0
          | 1, _ => exact cells_at x7 1) (by intro x hx; simp at hx; rcases hx with rfl | rfl <;> omega) (by omega) (by omega) (by omega) (by have := HLEN.out; simp only [List.length_cons, List.length_nil]; omega) (by omega)).mono ?_
        rintro _ w8 ⟨rfl, vb8, hwr8, hv8, hk8⟩
        have s8 := hk8.size
        have x8 : w8.heap[wr.heap.size]? = some (.cells #[.int .u64 bg, .int .u64 fn, .string ky] 33 (0, 0)) := (hk8.block _ (by omega) (fun e => by rcases e with e | e <;> omega)).trans ((hb7.block _ (by omega)).trans x6)
        have HWR8 : Hid (Wr w8 w1.heap.size g vb8 (XS ++ [bg - lst, fn - bg].flatMap uvB)) := hwr8
        have HV8 : Hid (vb8 = vb5 ∨ w7.heap.size ≤ vb8) := hv8
        have HVL8 : Hid (vb8 < w8.heap.size) := by
          obtain ⟨⟨n, cp, _, ho⟩, _⟩ := hwr8
          exact (ownsM.lt ho vb8 rfl).2
        have HB8 : Hid (Below w1.heap.size w1 w8) := (HBE.out.trans (hb67.mono s5)).trans (hk8.below (by omega) (fun k hk e => by rcases e with e | e <;> omega))
        have HLN : Hid ((XS ++ [bg - lst, fn - bg].flatMap uvB).length ≤ 58 + k * 190) := by
          show _ ≤ _
          have h1 := (uvB_len (bg - lst)).1
          have h2 := (uvB_len (fn - bg)).1
          have := HLEN.out
          simp only [List.length_append, List.flatMap_cons, List.flatMap_nil, List.length_nil]
          omega
        have f2 : w8.cell? ⟨wr.heap.size, 2, none⟩ = some (.string ky) := cells_at x8 2
        have HX8 : Hid (w8.heap[wr.heap.size]? = some (.cells #[.int .u64 bg, .int .u64 fn, .string ky] 33 (0, 0))) := x8
        clear hwr8 hv8 hk8 x6 x7 hb6 hb7 hb67 x8 hw6 hw7
        go_wp2_with fail
        obtain ⟨w9, hw9⟩ : ∃ w9, w8.alloc (.cells #[.string ky] 9) = w9 := ⟨_, rfl⟩
        rw [hw9]
        have x9 : w9.heap[w8.heap.size]? = some (.cells #[.string ky] 9 (0, 0)) := by rw [← hw9]; exact heap_alloc_new w8 _
        have hb9 : Below w8.heap.size w8 w9 := by rw [← hw9]; exact (Below.refl _ _).alloc (Nat.le_refl _) _
        have s9 : w9.heap.size = w8.heap.size + 1 := by rw [← hw9]; simp
        have hvl8 := HVL8.out
        have sB8 := HB8.out.size
        refine (blobs_any w9 w1.heap.size g vb8 w8.heap.size 1 _ [ky] (HWR8.out.keep (Kept.of (K := fun _ => False) hb9) (fun h => h) (fun h => h)) (fun i hi => by
          match i, hi with
          | 0, _ => exact cells_at x9 0) (by intro x hx; simp at hx; subst hx; omega) (by omega) (by omega) (by omega) (by have := HLN.out; simp only [List.length_cons, List.length_nil]; omega) (by omega)).mono ?_
        rintro _ wC ⟨rfl, vbC, hwrC, hvC, hkC⟩
        have hne8 : ¬ (wr.heap.size = g ∨ wr.heap.size = vb8) := fun e => by
          rcases e with e | e
          · omega
          · rcases HV8.out with e2 | e2 <;> omega
        have xC := (hkC.block wr.heap.size (by omega) hne8).trans ((hb9.block _ (by omega)).trans HX8.out)
        have t0 : wC.cell? ⟨wr.heap.size, 0, none⟩ = some (.int .u64 bg) := cells_at xC 0
        have HWRC : Hid (Wr wC w1.heap.size g vbC (mgDl ++ headD id gen ps ++ encEs 0 (ps.take (k + 1)))) := by rw [HST.out]; exact hwrC
        have HVC : Hid (w1.heap.size ≤ vbC) := by
          show _ ≤ _
          rcases hvC with e | e
          · rcases HV8.out with e2 | e2 <;> omega
          · omega
        have HBC : Hid (Below w1.heap.size w1 wC) := (HB8.out.trans (hb9.mono sB8)).trans (hkC.below (by omega) (fun k hk e => by
          rcases e with e | e
          · omega
          · rcases HV8.out with e2 | e2 <;> omega))
        clear hwrC hvC hkC xC f2 hb9 x9 hw9
        go_wp2
        go_roundw
        case rel => exact ⟨k + 1, by omega, by go_num, by rw [HL2.out], vbC, HWRC.out, HVC.out, HBC.out⟩
        case measure => simp [intOf]; omega
      · have hke : k = ps.length := by omega
        subst hke
        rw [List.take_length] at HWR hlen5
        have HBT : Hid (HalfAt wr) := HT.out.later HBW.out
        go_wp2_with fail
        refine (end_any wr w1.heap.size g vb5 _ HWR.out (by simp only [List.length_append]; have : mgDl.length = 8 := rfl; omega) HBT.out).mono ?_
        rintro _ w6 ⟨rfl, hb6⟩
        have HB6 : Hid (Below w.heap.size w w6) := HBW.out.trans (hb6.mono HBW.out.size)
        clear hb6
        go_wp2
        go_ret2
        refine ⟨fun _ => ?_, fun h => absurd HM.out h, HB6.out⟩
        unfold sealM
        rw [encD_head, ← List.append_assoc]
        rfl
end Go.Proofs.YtbfjnidpjmhfiaaGreatDoor
