import Derived.Test.YtlidkdnfibfnfaaGreatDoorLxR1
namespace Go.Proofs.YtlidkdnfibfnfaaGreatDoor
open Go.ChangeShapes Go.WideShapes Go.ChangeAt Go.RowKit
set_option linter.unusedVariables false
set_option maxRecDepth 100000
/-- The first k of a list turned by f. -/
def upTo (f : Int → Int) (l : List Int) (k : Nat) : List Int := (l.map f).take k ++ l.drop k
theorem upTo_len (f : Int → Int) (l : List Int) (k : Nat) : (upTo f l k).length = l.length := by
  unfold upTo
  rw [List.length_append, List.length_take, List.length_map, List.length_drop]
  omega
theorem upTo_get (f : Int → Int) (l : List Int) (k : Nat) : (upTo f l k)[k]? = l[k]? := by
  unfold upTo
  by_cases h : k < l.length
  · rw [List.getElem?_append_right (by rw [List.length_take, List.length_map]; omega), List.length_take, List.length_map, List.getElem?_drop]
    congr 1
    omega
  · rw [List.getElem?_eq_none (by rw [List.length_append, List.length_take, List.length_map, List.length_drop]; omega), List.getElem?_eq_none (by omega)]
theorem upTo_succ (f : Int → Int) (l : List Int) (k : Nat) (h : k < l.length) : upTo f l (k + 1) = (upTo f l k).set k (f l[k]) := by
  unfold upTo
  rw [List.set_append_right _ _ (by rw [List.length_take]; omega), List.length_take, List.length_map, show k - min k l.length = 0 from by omega, List.drop_eq_getElem_cons h, List.set_cons_zero, List.take_succ_eq_append_getElem (by rw [List.length_map]; exact h), List.append_assoc]
  simp
theorem upTo_all (f : Int → Int) (l : List Int) : upTo f l l.length = l.map f := by
  unfold upTo
  rw [List.drop_length, List.append_nil]
  exact List.take_of_length_le (by simp)
theorem set_same {l : List Int} {k : Nat} {x : Int} (h : l[k]? = some x) : l.set k x = l := by
  obtain ⟨hk, rfl⟩ := List.getElem?_eq_some_iff.1 h
  exact List.set_getElem_self hk
def upI (n : Int) : Int := if 97 ≤ n ∧ n ≤ 122 then n - 32 else n
def loI (n : Int) : Int := if 65 ≤ n ∧ n ≤ 90 then n + 32 else n
theorem upI_byte (c : UInt8) : upI (c.toNat : Int) = ((Lib.upperB c).toNat : Int) := by
  unfold upI
  by_cases h : Lib.isLowerB c = true
  · have h2 := h
    rw [Lib.isLowerB_int] at h2
    simp only [Bool.and_eq_true, decide_eq_true_eq] at h2
    rw [if_pos h2, Lib.upperB_int c h]
  · have h2 := h
    rw [Lib.isLowerB_int] at h2
    simp only [Bool.and_eq_true, decide_eq_true_eq] at h2
    rw [if_neg h2]
    unfold Lib.upperB
    rw [if_neg h]
theorem loI_byte (c : UInt8) : loI (c.toNat : Int) = ((Lib.lowerB c).toNat : Int) := by
  unfold loI
  by_cases h : Lib.isUpperB c = true
  · have h2 := h
    rw [Lib.isUpperB_int] at h2
    simp only [Bool.and_eq_true, decide_eq_true_eq] at h2
    rw [if_pos h2, Lib.lowerB_int c h]
  · have h2 := h
    rw [Lib.isUpperB_int] at h2
    simp only [Bool.and_eq_true, decide_eq_true_eq] at h2
    rw [if_neg h2]
    unfold Lib.lowerB
    rw [if_neg h]
theorem upP_str (s : ByteArray) : strOfNums ((txtN s).map upI) = upP s := by
  have : (txtN s).map upI = txtN (upP s) := by
    unfold txtN upP
    simp only [Array.toList_map, List.map_map]
    exact List.map_congr_left (fun c _ => upI_byte c)
  rw [this, strTxt]
theorem loP_str (s : ByteArray) : strOfNums ((txtN s).map loI) = loP s := by
  have : (txtN s).map loI = txtN (loP s) := by
    unfold txtN loP
    simp only [Array.toList_map, List.map_map]
    exact List.map_congr_left (fun c _ => loI_byte c)
  rw [this, strTxt]
theorem txtN_bd (s : ByteArray) : ∀ x ∈ txtN s, 0 ≤ x ∧ x < 256 := by
  intro x hx
  unfold txtN at hx
  obtain ⟨c, _, rfl⟩ := List.mem_map.1 hx
  have := c.toNat_lt
  exact ⟨by omega, by omega⟩
set_option maxHeartbeats 3200000 in
theorem refUpper (s : ByteArray) (w : World) (hs : s.size ≤ 140737488355328) : Calls Tryz.prog 37 #[.string s] w fun e w' => e = .returned (.string (upP s)) ∧ Below w.heap.size w w' := by
  have hcv := conv_bytes w s
  obtain ⟨ho, hb⟩ := conv_ownMB w w.heap.size s (Nat.le_refl _) hs
  have HO : Hid _ := ho
  have HB : Hid (Below w.heap.size w (Lib.bytesWorld w 5 s)) := hb
  have hl : (txtN s).length = s.size := txtN_len s
  have HBD : Hid _ := txtN_bd s
  have HU : Hid (strOfNums ((txtN s).map upI) = upP s) := upP_str s
  generalize Lib.bytesWorld w 5 s = w1 at *
  generalize grownCap w s.size 0 5 = cp at *
  generalize upP s = US at *
  generalize txtN s = L at *
  clear ho hb
  go_enter Tryz.func37, Tryz.ntmps37
  go_wp2_with fail
  go_loopw [4] (fun i wr => ∃ k : Nat, k ≤ s.size ∧ i = .int .i64 k ∧ ownMB wr w.heap.size (.slice (some ⟨w.heap.size, 0, none⟩) s.size cp) (upTo upI L k) ∧ Below w.heap.size w wr) (fun i _ => s.size - (intOf i).toNat)
  case atStart => exact ⟨0, by omega, rfl, by rw [show upTo upI L 0 = L from by simp [upTo]]; exact HO.out, HB.out⟩
  case round =>
    obtain ⟨k, hk, rfl, hown, hbel⟩ := hrel
    have HOW : Hid (ownMB wr w.heap.size (.slice (some ⟨w.heap.size, 0, none⟩) s.size cp) (upTo upI L k)) := hown
    have HBE : Hid (Below w.heap.size w wr) := hbel
    clear hown hbel HO HB
    by_cases hkl : k < s.size
    · have hkl' : k < L.length := by omega
      have hkk : (k : Int) < (s.size : Int) := by omega
      have hg := (upTo_get upI L k).trans (List.getElem?_eq_getElem hkl')
      have hfz := ownsM.free HOW.out k (by rw [List.length_map, upTo_len]; exact hkl')
      have hc : wr.cell? ⟨w.heap.size, k, none⟩ = some (.int .u8 L[k]) := by
        have h1 := ownsM.cells HOW.out k (.int .u8 L[k]) (by rw [List.getElem?_map, hg]; rfl)
        have hadd : (⟨w.heap.size, 0, none⟩ : Addr).add k = ⟨w.heap.size, k, none⟩ := by unfold Addr.add; split <;> simp_all
        rwa [hadd] at h1
      have HST : Hid (upTo upI L (k + 1) = (upTo upI L k).set k (upI L[k])) := upTo_succ upI L k hkl'
      have hbd := HBD.out L[k] (List.getElem_mem hkl')
      have HG : Hid ((upTo upI L k)[k]? = some L[k]) := hg
      clear hg
      generalize L[k] = X at *
      by_cases h1 : 97 ≤ X
      · by_cases h2 : X ≤ 122
        · have hw : IntKind.u8.wrap (X - 32) = X - 32 := by rw [IntKind.wrap_u8]; omega
          have HSet : Hid (ownMB (wr.setCell ⟨w.heap.size, k, none⟩ (.int .u8 (X - 32))) w.heap.size (.slice (some ⟨w.heap.size, 0, none⟩) s.size cp) (upTo upI L (k + 1))) := by
            have := HOW.out.set k (X - 32)
            rw [HST.out, show upI X = X - 32 from by unfold upI; rw [if_pos ⟨h1, h2⟩]]
            exact this
          go_wp2
          go_roundw
          case rel => exact ⟨k + 1, by omega, by go_num, HSet.out, HBE.out.setCell (p := ⟨w.heap.size, k, none⟩) (Nat.le_refl _) _⟩
          case measure => simp [intOf]; omega
        · have HSet : Hid (ownMB wr w.heap.size (.slice (some ⟨w.heap.size, 0, none⟩) s.size cp) (upTo upI L (k + 1))) := by
            rw [HST.out, show upI X = X from by unfold upI; rw [if_neg (fun h => h2 h.2)], set_same HG.out]
            exact HOW.out
          go_wp2
          go_roundw
          case rel => exact ⟨k + 1, by omega, by go_num, HSet.out, HBE.out⟩
          case measure => simp [intOf]; omega
      · have HSet : Hid (ownMB wr w.heap.size (.slice (some ⟨w.heap.size, 0, none⟩) s.size cp) (upTo upI L (k + 1))) := by
          rw [HST.out, show upI X = X from by unfold upI; rw [if_neg (fun h => h1 h.1)], set_same HG.out]
          exact HOW.out
        go_wp2
        go_roundw
        case rel => exact ⟨k + 1, by omega, by go_num, HSet.out, HBE.out⟩
        case measure => simp [intOf]; omega
    · have hke : k = L.length := by omega
      subst hke
      have hcv2 := HOW.out.conv
      rw [upTo_all, HU.out] at hcv2
      go_wp2
      go_ret
      exact ⟨rfl, HBE.out⟩
set_option maxHeartbeats 3200000 in
theorem refLower (s : ByteArray) (w : World) (hs : s.size ≤ 140737488355328) : Calls Tryz.prog 38 #[.string s] w fun e w' => e = .returned (.string (loP s)) ∧ Below w.heap.size w w' := by
  have hcv := conv_bytes w s
  obtain ⟨ho, hb⟩ := conv_ownMB w w.heap.size s (Nat.le_refl _) hs
  have HO : Hid _ := ho
  have HB : Hid (Below w.heap.size w (Lib.bytesWorld w 5 s)) := hb
  have hl : (txtN s).length = s.size := txtN_len s
  have HBD : Hid _ := txtN_bd s
  have HU : Hid (strOfNums ((txtN s).map loI) = loP s) := loP_str s
  generalize Lib.bytesWorld w 5 s = w1 at *
  generalize grownCap w s.size 0 5 = cp at *
  generalize loP s = US at *
  generalize txtN s = L at *
  clear ho hb
  go_enter Tryz.func38, Tryz.ntmps38
  go_wp2_with fail
  go_loopw [4] (fun i wr => ∃ k : Nat, k ≤ s.size ∧ i = .int .i64 k ∧ ownMB wr w.heap.size (.slice (some ⟨w.heap.size, 0, none⟩) s.size cp) (upTo loI L k) ∧ Below w.heap.size w wr) (fun i _ => s.size - (intOf i).toNat)
  case atStart => exact ⟨0, by omega, rfl, by rw [show upTo loI L 0 = L from by simp [upTo]]; exact HO.out, HB.out⟩
  case round =>
    obtain ⟨k, hk, rfl, hown, hbel⟩ := hrel
    have HOW : Hid (ownMB wr w.heap.size (.slice (some ⟨w.heap.size, 0, none⟩) s.size cp) (upTo loI L k)) := hown
    have HBE : Hid (Below w.heap.size w wr) := hbel
    clear hown hbel HO HB
    by_cases hkl : k < s.size
    · have hkl' : k < L.length := by omega
      have hkk : (k : Int) < (s.size : Int) := by omega
      have hg := (upTo_get loI L k).trans (List.getElem?_eq_getElem hkl')
      have hfz := ownsM.free HOW.out k (by rw [List.length_map, upTo_len]; exact hkl')
      have hc : wr.cell? ⟨w.heap.size, k, none⟩ = some (.int .u8 L[k]) := by
        have h1 := ownsM.cells HOW.out k (.int .u8 L[k]) (by rw [List.getElem?_map, hg]; rfl)
        have hadd : (⟨w.heap.size, 0, none⟩ : Addr).add k = ⟨w.heap.size, k, none⟩ := by unfold Addr.add; split <;> simp_all
        rwa [hadd] at h1
      have HST : Hid (upTo loI L (k + 1) = (upTo loI L k).set k (loI L[k])) := upTo_succ loI L k hkl'
      have hbd := HBD.out L[k] (List.getElem_mem hkl')
      have HG : Hid ((upTo loI L k)[k]? = some L[k]) := hg
      clear hg
      generalize L[k] = X at *
      by_cases h1 : 65 ≤ X
      · by_cases h2 : X ≤ 90
        · have hw : IntKind.u8.wrap (X + 32) = X + 32 := by rw [IntKind.wrap_u8]; omega
          have HSet : Hid (ownMB (wr.setCell ⟨w.heap.size, k, none⟩ (.int .u8 (X + 32))) w.heap.size (.slice (some ⟨w.heap.size, 0, none⟩) s.size cp) (upTo loI L (k + 1))) := by
            have := HOW.out.set k (X + 32)
            rw [HST.out, show loI X = X + 32 from by unfold loI; rw [if_pos ⟨h1, h2⟩]]
            exact this
          go_wp2
          go_roundw
          case rel => exact ⟨k + 1, by omega, by go_num, HSet.out, HBE.out.setCell (p := ⟨w.heap.size, k, none⟩) (Nat.le_refl _) _⟩
          case measure => simp [intOf]; omega
        · have HSet : Hid (ownMB wr w.heap.size (.slice (some ⟨w.heap.size, 0, none⟩) s.size cp) (upTo loI L (k + 1))) := by
            rw [HST.out, show loI X = X from by unfold loI; rw [if_neg (fun h => h2 h.2)], set_same HG.out]
            exact HOW.out
          go_wp2
          go_roundw
          case rel => exact ⟨k + 1, by omega, by go_num, HSet.out, HBE.out⟩
          case measure => simp [intOf]; omega
      · have HSet : Hid (ownMB wr w.heap.size (.slice (some ⟨w.heap.size, 0, none⟩) s.size cp) (upTo loI L (k + 1))) := by
          rw [HST.out, show loI X = X from by unfold loI; rw [if_neg (fun h => h1 h.1)], set_same HG.out]
          exact HOW.out
        go_wp2
        go_roundw
        case rel => exact ⟨k + 1, by omega, by go_num, HSet.out, HBE.out⟩
        case measure => simp [intOf]; omega
    · have hke : k = L.length := by omega
      subst hke
      have hcv2 := HOW.out.conv
      rw [upTo_all, HU.out] at hcv2
      go_wp2
      go_ret
      exact ⟨rfl, HBE.out⟩
end Go.Proofs.YtlidkdnfibfnfaaGreatDoor
