import Derived.Test.YtbfjnidpjmhfiaaGreatDoorBlbP
import Derived.Test.YtbfjnidpjmhfiaaGreatDoorMf6
namespace Go.Proofs.YtbfjnidpjmhfiaaGreatDoor
open Go.ChangeShapes Go.WideShapes Go.ChangeAt Go.RowKit
set_option linter.unusedVariables false
set_option maxRecDepth 100000
theorem txtN_app (a b : ByteArray) : txtN (a ++ b) = txtN a ++ txtN b := by unfold txtN; rw [ByteArray.data_append, Array.toList_append, List.map_append]
theorem blB_txt (s : ByteArray) (h : s.size ≤ 1048576) : txtN (strOfNums (uvB s.size) ++ s) = blB s := by
  unfold blB
  rw [txtN_app, txtStr _ (uvB_bytes _ (by omega) (by omega))]
theorem blB_len (s : ByteArray) : (blB s).length ≤ 10 + s.size := by
  unfold blB
  rw [List.length_append, txtN_lenB]
  have := (uvB_len s.size).1
  omega
/-- The bytes of a short text with its length, by the program and by the document. -/
theorem blob_short (s : ByteArray) (w : World) (hs : s.size ≤ 1048576) : Calls Tryz.prog 51 #[.string s] w fun e w' => e = .returned (.tuple #[.string (strOfNums (uvB s.size) ++ s), .int .i64 0]) ∧ Below w.heap.size w w' := by
  have hb := blob s w (by omega)
  have he : blobV s = (strOfNums (uvB s.size) ++ s, 0) := by unfold blobV; rw [if_pos hs]
  rw [he] at hb
  exact hb
set_option maxHeartbeats 1600000 in
theorem blobs_any (w : World) (B g vb sb cap : Nat) (xs : List Int) (ks : List ByteArray) (h : Wr w B g vb xs) (hc : ∀ i (hi : i < ks.length), w.cell? ⟨sb, i, none⟩ = some (.string ks[i])) (hn : ∀ x ∈ ks, x.size ≤ 1048576) (h1 : sb ≠ g) (h2 : sb ≠ vb) (hsb : sb < w.heap.size) (hl : xs.length + ks.length * 1048586 ≤ 140737488355328) (hB : B ≤ w.heap.size) :
    Calls Tryz.prog 27 #[.pointer (some ⟨g, 0, none⟩), .slice (some ⟨sb, 0, none⟩) ks.length cap] w fun e w' => e = .returned (.tuple #[]) ∧ ∃ vb', Wr w' B g vb' (xs ++ ks.flatMap blB) ∧ (vb' = vb ∨ w.heap.size ≤ vb') ∧ Kept (fun k => k = g ∨ k = vb) w w' := by
  have HH : Hid (Wr w B g vb xs) := h
  have HC : Hid (∀ i (hi : i < ks.length), w.cell? ⟨sb, i, none⟩ = some (.string ks[i])) := hc
  have HN : Hid (∀ x ∈ ks, x.size ≤ 1048576) := hn
  clear h hc hn
  go_enter Tryz.func27, Tryz.ntmps27
  go_wp2_with fail
  go_loopw [10] (fun i wr => ∃ k : Nat, k ≤ ks.length ∧ i = .int .i64 k ∧ ∃ vb', Wr wr B g vb' (xs ++ (ks.take k).flatMap blB) ∧ (vb' = vb ∨ w.heap.size ≤ vb') ∧ Kept (fun k => k = g ∨ k = vb) w wr ∧ ((ks.take k).flatMap blB).length ≤ k * 1048586) (fun i _ => ks.length - (intOf i).toNat)
  case atStart => exact ⟨0, Nat.zero_le _, rfl, vb, by simpa using HH.out, Or.inl rfl, Kept.refl _ _, by simp⟩
  case round =>
    obtain ⟨k, hk, rfl, vb1, hwr, hvb, hkp, hlen⟩ := hrel
    have HWR : Hid (Wr wr B g vb1 (xs ++ (ks.take k).flatMap blB)) := hwr
    have HVB : Hid (vb1 = vb ∨ w.heap.size ≤ vb1) := hvb
    have HKP : Hid (Kept (fun k => k = g ∨ k = vb) w wr) := hkp
    have s1 := hkp.size
    clear hwr hvb hkp
    by_cases hkl : k < ks.length
    · have c1 := (HKP.out.cell (p := ⟨sb, k, none⟩) hsb (fun e => by rcases e with e | e; exact h1 e; exact h2 e)).trans (HC.out k hkl)
      have hb := HN.out _ (List.getElem_mem hkl)
      have HST : Hid (xs ++ (ks.take (k + 1)).flatMap blB = xs ++ (ks.take k).flatMap blB ++ blB ks[k]) := by
        show _ = _
        rw [List.take_succ_eq_append_getElem hkl, List.flatMap_append, List.append_assoc]
        simp
      have HLN : Hid (((ks.take (k + 1)).flatMap blB).length ≤ (k + 1) * 1048586) := by
        show _ ≤ _
        rw [List.take_succ_eq_append_getElem hkl, List.flatMap_append, List.length_append, List.flatMap_singleton]
        have := blB_len ks[k]
        omega
      generalize ks[k] = x at *
      have HTX : Hid _ := blB_txt x hb
      have hul := (uvB_len x.size).1
      go_wp2_with fail
      refine (blob_short x wr hb).mono ?_
      rintro _ w1 ⟨rfl, hb1⟩
      have HB1 : Hid (Below wr.heap.size wr w1) := hb1
      have HW1 : Hid (Wr w1 B g vb1 (xs ++ (ks.take k).flatMap blB)) := HWR.out.keep (Kept.of (K := fun _ => False) hb1) (fun h => h) (fun h => h)
      have s2 := hb1.size
      clear hb1
      have hsz : (strOfNums (uvB x.size) ++ x).size = (uvB x.size).length + x.size := by rw [ByteArray.size_append, strOfNums_size]
      generalize strOfNums (uvB x.size) ++ x = tx at *
      go_wp2_with fail
      refine (text_any w1 B g vb1 _ tx HW1.out (by rw [hsz, List.length_append]; omega) (by omega)).mono ?_
      rintro _ w2 ⟨rfl, vb2, hw2, hv2, hk2⟩
      rw [HTX.out] at hw2
      have HW2 : Hid (Wr w2 B g vb2 (xs ++ (ks.take k).flatMap blB ++ blB x)) := hw2
      have HV2 : Hid (vb2 = vb ∨ w.heap.size ≤ vb2) := by
        rcases hv2 with e | e
        · rw [e]; exact HVB.out
        · right; omega
      have HK2 : Hid (Kept (fun k => k = g ∨ k = vb) w w2) := (HKP.out.trans (Kept.of (K := fun _ => False) HB1.out) (fun _ _ h => h.elim)).trans hk2 (fun y hy hh => by
        rcases hh with e | e
        · exact Or.inl e
        · rcases HVB.out with e2 | e2
          · exact Or.inr (e.trans e2)
          · omega)
      clear hw2 hv2 hk2 hsz
      go_wp2
      go_roundw
      case rel => exact ⟨k + 1, by omega, by go_num, vb2, by rw [HST.out]; exact HW2.out, HV2.out, HK2.out, HLN.out⟩
      case measure => simp [intOf]; omega
    · have hke : k = ks.length := by omega
      subst hke
      rw [List.take_length] at HWR
      go_wp2
      refine bodyPost_end (results_none rfl _ _ _) rfl ⟨rfl, ?_⟩
      exact ⟨vb1, HWR.out, HVB.out, HKP.out⟩
end Go.Proofs.YtbfjnidpjmhfiaaGreatDoor
