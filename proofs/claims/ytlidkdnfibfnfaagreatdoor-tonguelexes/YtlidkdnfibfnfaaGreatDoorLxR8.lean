import Derived.Test.YtlidkdnfibfnfaaGreatDoorLxR7
namespace Go.Proofs.YtlidkdnfibfnfaaGreatDoor
open Go.ChangeShapes Go.WideShapes Go.ChangeAt Go.RowKit
set_option linter.unusedVariables false
set_option maxRecDepth 100000
theorem kws_len : ∀ u ∈ kws, u.length ≤ 12 := by decide
theorem isKw_len {v : ByteArray} (h : isKw v = true) : v.size ≤ 12 := kws_len _ (List.contains_iff_mem.1 h)
theorem upP_size (v : ByteArray) : (upP v).size = v.size := by unfold upP; show (Array.map _ _).size = _; rw [Array.size_map]; rfl
theorem wordE_step {s : ByteArray} {j : Nat} (h : j < s.size) (h1 : isWd (bA s j)) : wordE s j = wordE s (j + 1) := by rw [wordE_eq, dif_pos ⟨h, h1⟩]
theorem wordE_stop {s : ByteArray} {j : Nat} (h : ¬ (j < s.size ∧ isWd (bA s j))) : wordE s j = j := by rw [wordE_eq, dif_neg h]
theorem wordE_all (s : ByteArray) (i k : Nat) (h1 : i ≤ k) (h2 : k < wordE s i) : isWd (bA s k) := by
  revert h1 h2
  refine by_size (P := fun i => i ≤ k → k < wordE s i → isWd (bA s k)) s.size (fun i ih h1 h2 => ?_) i
  rw [wordE_eq] at h2
  split at h2
  · next h =>
    rcases Nat.lt_or_ge i k with h3 | h3
    · exact ih (i + 1) (by omega) h3 h2
    · rw [show k = i from by omega]; exact h.2
  · omega
theorem up_sp {s : ByteArray} {i j : Nat} (h : wordE s i = j) (hj : j ≤ s.size) : (32 : UInt8) ∉ (upP (s.extract i j)).data.toList := by
  intro hm
  unfold upP at hm
  rw [Array.toList_map] at hm
  obtain ⟨c, hc, he⟩ := List.mem_map.1 hm
  have h1 := upI_byte c
  rw [he] at h1
  have h3 : c.toNat = 32 := by
    unfold upI at h1
    split at h1
    · have : (32 : UInt8).toNat = 32 := rfl
      omega
    · have : (32 : UInt8).toNat = 32 := rfl
      omega
  obtain ⟨k, hk, hkc⟩ := List.getElem_of_mem hc
  have hk' : k < (s.extract i j).size := hk
  have hg := ext_get (a := i) (b := j) hj hk'
  have hsz : (s.extract i j).size = min j s.size - i := ByteArray.size_extract
  have hw := wordE_all s i (i + k) (by omega) (by omega)
  rw [← hg, show (s.extract i j)[k] = c from hkc, h3] at hw
  exact absurd hw (by decide)
def wordQ (W : ByteArray) (i j : Nat) : Except Int (TK × Nat) := if isKw (upP W) = true then .ok (⟨2, upP W, 0, i⟩, j) else if 32 < j - i then .error 153 else .ok (⟨1, loP W, 0, i⟩, j)
theorem wordP_at {s : ByteArray} {i j : Nat} (h : wordE s i = j) (hij : i ≤ j) : wordP s i = wordQ (s.extract i j) i j := by unfold wordP wordQ; rw [h]
/-- The token's block is held as long as nothing but later blocks is written. -/
theorem heldTk {w w' : World} (h : Below (w.alloc (.cells tkZ 30)).heap.size (w.alloc (.cells tkZ 30)) w') : Hid (w'.heap[w.heap.size]? = some (.cells tkZ 30 (0, 0))) ∧ Hid (Below w.heap.size w w') := by
  have hsz : (w.alloc (.cells tkZ 30)).heap.size = w.heap.size + 1 := by show (w.heap.push _).size = _; rw [Array.size_push]
  exact ⟨(h.block _ (by omega)).trans (heap_alloc_new w _), (belTk w tkZ).trans (h.mono (by omega))⟩
set_option maxHeartbeats 12800000 in
theorem refWord (s : ByteArray) (i : Nat) (w : World) (hs : s.size ≤ 65536) (hi : i ≤ s.size) : Calls Tryz.prog 17 #[.string s, .int .i64 (i : Int)] w fun e w' => e = .returned (tokV (wordP s i)) ∧ Below w.heap.size w w' := by
  go_enter Tryz.func17, Tryz.ntmps17
  go_wp2_with fail
  go_loopw [7] (fun x wr => ∃ j : Nat, i ≤ j ∧ j ≤ s.size ∧ x = .int .i64 (j : Int) ∧ wordE s i = wordE s j ∧ wr = w.alloc (.cells tkZ 30)) (fun x _ => s.size - (intOf x).toNat)
  case atStart => exact ⟨i, Nat.le_refl _, hi, rfl, rfl, rfl⟩
  case round =>
    obtain ⟨j, hij, hj, rfl, ha, hw⟩ := hrel
    subst hw
    have HA : Hid (wordE s i = wordE s j) := ha
    clear ha
    by_cases hjl : j < s.size
    · have hjj : (j : Int) < (s.size : Int) := by omega
      have hb0 := bA_of hjl
      go_wp2_with fail
      refine (refLetter s[j].toNat _).mono ?_
      rintro e w1 ⟨rfl, rfl⟩
      by_cases hL : isLt s[j].toNat
      · rw [decide_eq_true hL]
        have HS : Hid (wordE s i = wordE s (j + 1)) := HA.out.trans (wordE_step hjl (by rw [hb0]; exact Or.inl hL))
        go_wp2
        go_roundw
        case rel => exact ⟨j + 1, by omega, by omega, by go_num, HS.out, trivial⟩
        case measure => simp [intOf]; omega
      · rw [decide_eq_false hL]
        go_wp2_with fail
        refine (refDigit s[j].toNat _).mono ?_
        rintro e w1 ⟨rfl, rfl⟩
        by_cases hD : isDg s[j].toNat
        · rw [decide_eq_true hD]
          have HS : Hid (wordE s i = wordE s (j + 1)) := HA.out.trans (wordE_step hjl (by rw [hb0]; exact Or.inr hD))
          go_wp2
          go_roundw
          case rel => exact ⟨j + 1, by omega, by omega, by go_num, HS.out, trivial⟩
          case measure => simp [intOf]; omega
        · rw [decide_eq_false hD]
          have HWE : wordE s i = j := HA.out.trans (wordE_stop (fun h => by rw [hb0] at h; exact h.2.elim hL hD))
          have HE0 : Hid (wordE s i = j) := HWE
          have hWs : (s.extract i j).size = j - i := by rw [ByteArray.size_extract]; omega
          have HSP : Hid ((32 : UInt8) ∉ (upP (s.extract i j)).data.toList) := up_sp (by rw [← HWE]) hj
          have HP : Hid (wordP s i = wordQ (s.extract i j) i j) := wordP_at HWE hij
          clear HWE
          by_cases hl : j - i ≤ 12
          · have hl' : ((j - i : Nat) : Int) ≤ 12 := by omega
            go_wp2_with fail
            generalize s.extract i j = W at *
            refine (refUpper W _ (by omega)).mono ?_
            rintro e w1 ⟨rfl, hb1⟩
            have HB1 : Hid _ := hb1
            clear hb1
            go_wp2_with fail
            refine (refKeyword (upP W) _ (by rw [upP_size]; omega) HSP.out).mono ?_
            rintro e w2 ⟨rfl, rfl⟩
            by_cases hkw : isKw (upP W) = true
            · rw [hkw]
              have HE : Hid (wordP s i = .ok (⟨2, upP W, 0, i⟩, j)) := HP.out.trans (by unfold wordQ; rw [if_pos hkw])
              clear hkw
              go_wp2_with fail
              refine (refUpper W _ (by omega)).mono ?_
              rintro e w3 ⟨rfl, hb3⟩
              obtain ⟨HT, HBW⟩ := heldTk (HB1.out.trans (hb3.mono HB1.out.size))
              obtain ⟨c0, c1, c2, c3, f0, f1, f2, f3⟩ := zTk HT.out
              clear hb3
              go_wp2
              exact bodyPost_ret (results_rtt rfl _ _ w.heap.size _ _ (0, 0) _ (by rfl) (set4 HT.out) Tryz.underlying30 rfl infoTk) rfl ⟨by rw [HE.out]; rfl, bel4 HBW.out _ _ _ _⟩
            · have hk2 : isKw (upP W) = false := by simpa using hkw
              rw [hk2]
              have HE : Hid (wordP s i = .ok (⟨1, loP W, 0, i⟩, j)) := HP.out.trans (by unfold wordQ; rw [if_neg hkw, if_neg (by omega)])
              clear hk2 hkw
              have hl3 : ¬ (32 : Int) < ((j - i : Nat) : Int) := by omega
              go_wp2_with fail
              refine (refLower W _ (by omega)).mono ?_
              rintro e w3 ⟨rfl, hb3⟩
              obtain ⟨HT, HBW⟩ := heldTk (HB1.out.trans (hb3.mono HB1.out.size))
              obtain ⟨c0, c1, c2, c3, f0, f1, f2, f3⟩ := zTk HT.out
              clear hb3
              go_wp2
              exact bodyPost_ret (results_rtt rfl _ _ w.heap.size _ _ (0, 0) _ (by rfl) (set4 HT.out) Tryz.underlying30 rfl infoTk) rfl ⟨by rw [HE.out]; rfl, bel4 HBW.out _ _ _ _⟩
          · have hl' : ¬ ((j - i : Nat) : Int) ≤ 12 := by omega
            have hkw : isKw (upP (s.extract i j)) = false := by
              rw [← Bool.not_eq_true]
              intro h
              have := isKw_len h
              rw [upP_size] at this
              omega
            by_cases hl2 : 32 < j - i
            · have hl3 : (32 : Int) < ((j - i : Nat) : Int) := by omega
              have HE : Hid (wordP s i = .error 153) := HP.out.trans (by unfold wordQ; rw [hkw, if_neg (by decide), if_pos (by omega)])
              clear hkw
              go_wp2
              exact bodyPost_ret (results_rtt rfl _ _ w.heap.size _ _ (0, 0) _ (by rfl) (heap_alloc_new w _) Tryz.underlying30 rfl infoTk) rfl ⟨by rw [HE.out]; rfl, belTk w _⟩
            · have hl3 : ¬ (32 : Int) < ((j - i : Nat) : Int) := by omega
              have HE : Hid (wordP s i = .ok (⟨1, loP (s.extract i j), 0, i⟩, j)) := HP.out.trans (by unfold wordQ; rw [hkw, if_neg (by decide), if_neg (by omega)])
              clear hkw
              go_wp2_with fail
              generalize s.extract i j = W at *
              refine (refLower W _ (by omega)).mono ?_
              rintro e w3 ⟨rfl, hb3⟩
              obtain ⟨HT, HBW⟩ := heldTk hb3
              obtain ⟨c0, c1, c2, c3, f0, f1, f2, f3⟩ := zTk HT.out
              clear hb3
              go_wp2
              exact bodyPost_ret (results_rtt rfl _ _ w.heap.size _ _ (0, 0) _ (by rfl) (set4 HT.out) Tryz.underlying30 rfl infoTk) rfl ⟨by rw [HE.out]; rfl, bel4 HBW.out _ _ _ _⟩
    · have hjj : ¬ (j : Int) < (s.size : Int) := by omega
      have HWE : wordE s i = j := HA.out.trans (wordE_stop (fun h => hjl h.1))
      have HE0 : Hid (wordE s i = j) := HWE
      have hWs : (s.extract i j).size = j - i := by rw [ByteArray.size_extract]; omega
      have HSP : Hid ((32 : UInt8) ∉ (upP (s.extract i j)).data.toList) := up_sp (by rw [← HWE]) hj
      have HP : Hid (wordP s i = wordQ (s.extract i j) i j) := wordP_at HWE hij
      clear HWE
      by_cases hl : j - i ≤ 12
      · have hl' : ((j - i : Nat) : Int) ≤ 12 := by omega
        go_wp2_with fail
        generalize s.extract i j = W at *
        refine (refUpper W _ (by omega)).mono ?_
        rintro e w1 ⟨rfl, hb1⟩
        have HB1 : Hid _ := hb1
        clear hb1
        go_wp2_with fail
        refine (refKeyword (upP W) _ (by rw [upP_size]; omega) HSP.out).mono ?_
        rintro e w2 ⟨rfl, rfl⟩
        by_cases hkw : isKw (upP W) = true
        · rw [hkw]
          have HE : Hid (wordP s i = .ok (⟨2, upP W, 0, i⟩, j)) := HP.out.trans (by unfold wordQ; rw [if_pos hkw])
          clear hkw
          go_wp2_with fail
          refine (refUpper W _ (by omega)).mono ?_
          rintro e w3 ⟨rfl, hb3⟩
          obtain ⟨HT, HBW⟩ := heldTk (HB1.out.trans (hb3.mono HB1.out.size))
          obtain ⟨c0, c1, c2, c3, f0, f1, f2, f3⟩ := zTk HT.out
          clear hb3
          go_wp2
          exact bodyPost_ret (results_rtt rfl _ _ w.heap.size _ _ (0, 0) _ (by rfl) (set4 HT.out) Tryz.underlying30 rfl infoTk) rfl ⟨by rw [HE.out]; rfl, bel4 HBW.out _ _ _ _⟩
        · have hk2 : isKw (upP W) = false := by simpa using hkw
          rw [hk2]
          have HE : Hid (wordP s i = .ok (⟨1, loP W, 0, i⟩, j)) := HP.out.trans (by unfold wordQ; rw [if_neg hkw, if_neg (by omega)])
          clear hk2 hkw
          have hl3 : ¬ (32 : Int) < ((j - i : Nat) : Int) := by omega
          go_wp2_with fail
          refine (refLower W _ (by omega)).mono ?_
          rintro e w3 ⟨rfl, hb3⟩
          obtain ⟨HT, HBW⟩ := heldTk (HB1.out.trans (hb3.mono HB1.out.size))
          obtain ⟨c0, c1, c2, c3, f0, f1, f2, f3⟩ := zTk HT.out
          clear hb3
          go_wp2
          exact bodyPost_ret (results_rtt rfl _ _ w.heap.size _ _ (0, 0) _ (by rfl) (set4 HT.out) Tryz.underlying30 rfl infoTk) rfl ⟨by rw [HE.out]; rfl, bel4 HBW.out _ _ _ _⟩
      · have hl' : ¬ ((j - i : Nat) : Int) ≤ 12 := by omega
        have hkw : isKw (upP (s.extract i j)) = false := by
          rw [← Bool.not_eq_true]
          intro h
          have := isKw_len h
          rw [upP_size] at this
          omega
        by_cases hl2 : 32 < j - i
        · have hl3 : (32 : Int) < ((j - i : Nat) : Int) := by omega
          have HE : Hid (wordP s i = .error 153) := HP.out.trans (by unfold wordQ; rw [hkw, if_neg (by decide), if_pos (by omega)])
          clear hkw
          go_wp2
          exact bodyPost_ret (results_rtt rfl _ _ w.heap.size _ _ (0, 0) _ (by rfl) (heap_alloc_new w _) Tryz.underlying30 rfl infoTk) rfl ⟨by rw [HE.out]; rfl, belTk w _⟩
        · have hl3 : ¬ (32 : Int) < ((j - i : Nat) : Int) := by omega
          have HE : Hid (wordP s i = .ok (⟨1, loP (s.extract i j), 0, i⟩, j)) := HP.out.trans (by unfold wordQ; rw [hkw, if_neg (by decide), if_neg (by omega)])
          clear hkw
          go_wp2_with fail
          generalize s.extract i j = W at *
          refine (refLower W _ (by omega)).mono ?_
          rintro e w3 ⟨rfl, hb3⟩
          obtain ⟨HT, HBW⟩ := heldTk hb3
          obtain ⟨c0, c1, c2, c3, f0, f1, f2, f3⟩ := zTk HT.out
          clear hb3
          go_wp2
          exact bodyPost_ret (results_rtt rfl _ _ w.heap.size _ _ (0, 0) _ (by rfl) (set4 HT.out) Tryz.underlying30 rfl infoTk) rfl ⟨by rw [HE.out]; rfl, bel4 HBW.out _ _ _ _⟩
end Go.Proofs.YtlidkdnfibfnfaaGreatDoor
