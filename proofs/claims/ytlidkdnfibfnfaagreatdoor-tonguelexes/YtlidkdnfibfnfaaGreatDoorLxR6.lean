import Derived.Test.YtlidkdnfibfnfaaGreatDoorLxR5
namespace Go.Proofs.YtlidkdnfibfnfaaGreatDoor
open Go.ChangeShapes Go.WideShapes Go.ChangeAt Go.RowKit
set_option linter.unusedVariables false
set_option maxRecDepth 100000
theorem ownB.len {w : World} {B : Nat} {v : Value} {xs : List Int} (h : ownB w B v xs) : (Builtin.len_ #[51] 3 #[v]).run Tryz.prog w = .ok (.int .i64 xs.length) w := by
  rcases h with ⟨h1, ⟨rfl, h2⟩ | ⟨g, cap, cur, rfl, hb, hg, hr⟩⟩
  · rw [h2]; rfl
  · rfl
theorem belRow {B : Nat} {a w : World} (h : Below B a w) (g : Nat) (hg : B ≤ g) (cs : Array Value) : Below B a (w.setRow g cs) := by
  refine h.trans ⟨rfl, rfl, rfl, by simp, fun k hk => ?_⟩
  unfold World.setRow
  simp only [Array.getElem?_modify]
  rw [if_neg (by omega)]
theorem stTk (k : Int) (t : ByteArray) (n p : Int) (w : World) (g : Nat) (hg : w.heap[g]? = some (.cells tkZ 30 (0, 0))) :
    Sem.run Tryz.prog (storeCells ⟨g, 0, none⟩ [.int .i64 k, .string t, .int .i64 n, .int .i64 p]) w = .ok () (w.setRow g #[.int .i64 k, .string t, .int .i64 n, .int .i64 p]) := by
  have := run_storeCells_from (P := Tryz.prog) g 30 [.int .i64 k, .string t, .int .i64 n, .int .i64 p] 0 _ w hg (by simp) (fun v hv => by
    simp only [List.mem_cons, List.not_mem_nil, or_false] at hv
    rcases hv with rfl | rfl | rfl | rfl <;> rfl)
  simpa using this
theorem zTk {w : World} {g : Nat} (h : w.heap[g]? = some (.cells tkZ 30 (0, 0))) : w.cell? ⟨g, 0, none⟩ = some (.int .i64 0) ∧ w.cell? ⟨g, 1, none⟩ = some (.string ⟨#[]⟩) ∧ w.cell? ⟨g, 2, none⟩ = some (.int .i64 0) ∧ w.cell? ⟨g, 3, none⟩ = some (.int .i64 0) ∧ w.frozen? ⟨g, 0, none⟩ = false ∧ w.frozen? ⟨g, 1, none⟩ = false ∧ w.frozen? ⟨g, 2, none⟩ = false ∧ w.frozen? ⟨g, 3, none⟩ = false :=
  ⟨by simp [World.cell?, h], by simp [World.cell?, h], by simp [World.cell?, h], by simp [World.cell?, h], by simp [World.frozen?, h], by simp [World.frozen?, h], by simp [World.frozen?, h], by simp [World.frozen?, h]⟩
theorem set4 {w : World} {n : Nat} {t : TypeId} {a b c d x y z u : Value} (h : w.heap[n]? = some (.cells #[a, b, c, d] t (0, 0))) : ((((w.setCell ⟨n, 0, none⟩ x).setCell ⟨n, 1, none⟩ y).setCell ⟨n, 2, none⟩ z).setCell ⟨n, 3, none⟩ u).heap[n]? = some (.cells #[x, y, z, u] t (0, 0)) := by
  simp [World.setCell, Array.getElem?_modify, h]
theorem bel4 {g : Nat} {a w : World} (h : Below g a w) (x y z u : Value) : Below g a ((((w.setCell ⟨g, 0, none⟩ x).setCell ⟨g, 1, none⟩ y).setCell ⟨g, 2, none⟩ z).setCell ⟨g, 3, none⟩ u) :=
  (((h.setCell (p := ⟨g, 0, none⟩) (Nat.le_refl _) _).setCell (p := ⟨g, 1, none⟩) (Nat.le_refl _) _).setCell (p := ⟨g, 2, none⟩) (Nat.le_refl _) _).setCell (p := ⟨g, 3, none⟩) (Nat.le_refl _) _
theorem apoP_step {s : ByteArray} {j : Nat} (h : j < s.size) (h1 : bA s j ≠ 39) : apoP s j = apoP s (j + 1) := by rw [apoP_eq, dif_pos ⟨h, h1⟩]
theorem apoP_stop {s : ByteArray} {j : Nat} (h : ¬ (j < s.size ∧ bA s j ≠ 39)) : apoP s j = j := by rw [apoP_eq, dif_neg h]
theorem hexP_ok {s : ByteArray} {e k : Nat} {acc : List UInt8} (h : k + 1 < e) (h1 : ¬ (hexV (bA s k) < 0 ∨ hexV (bA s (k + 1)) < 0)) : hexP s e k acc = hexP s e (k + 2) (acc ++ [UInt8.ofNat (16 * (hexV (bA s k)).toNat + (hexV (bA s (k + 1))).toNat)]) := by rw [hexP_eq, dif_pos h, if_neg h1]
theorem hexP_bad {s : ByteArray} {e k : Nat} {acc : List UInt8} (h : k + 1 < e) (h1 : hexV (bA s k) < 0 ∨ hexV (bA s (k + 1)) < 0) : hexP s e k acc = none := by rw [hexP_eq, dif_pos h, if_pos h1]
theorem hexP_end {s : ByteArray} {e k : Nat} {acc : List UInt8} (h : ¬ k + 1 < e) : hexP s e k acc = some acc := by rw [hexP_eq, dif_neg h]
theorem hexV_le (n : Nat) : -1 ≤ hexV n ∧ hexV n ≤ 15 := by
  unfold hexV
  by_cases h1 : isDg n
  · rw [if_pos h1]; unfold isDg at h1; omega
  · rw [if_neg h1]
    by_cases h2 : 97 ≤ n ∧ n ≤ 102
    · rw [if_pos h2]; omega
    · rw [if_neg h2]
      by_cases h3 : 65 ≤ n ∧ n ≤ 70
      · rw [if_pos h3]; omega
      · rw [if_neg h3]; omega
theorem hexT_open {s : ByteArray} {i j : Nat} (ha : apoP s (i + 2) = j) (h : ¬ j < s.size) : hexT s i = .error 151 := by unfold hexT; rw [ha, if_pos (by omega)]
theorem hexT_odd {s : ByteArray} {i j : Nat} (ha : apoP s (i + 2) = j) (h : j < s.size) (h2 : ¬ (j - (i + 2)) % 2 = 0) : hexT s i = .error 154 := by unfold hexT; rw [ha, if_neg (by omega), if_pos h2]
theorem hexT_bad {s : ByteArray} {i j : Nat} (ha : apoP s (i + 2) = j) (h : j < s.size) (h2 : (j - (i + 2)) % 2 = 0) (h3 : hexP s j (i + 2) [] = none) : hexT s i = .error 154 := by unfold hexT; rw [ha, if_neg (by omega), if_neg (by omega), h3]
theorem hexT_long {s : ByteArray} {i j : Nat} {l : List UInt8} (ha : apoP s (i + 2) = j) (h : j < s.size) (h2 : (j - (i + 2)) % 2 = 0) (h3 : hexP s j (i + 2) [] = some l) (h4 : 4096 < l.length) : hexT s i = .error 4 := by
  unfold hexT
  rw [ha, if_neg (by omega), if_neg (by omega), h3]
  simp only [if_pos h4]
theorem hexT_ok {s : ByteArray} {i j : Nat} {l : List UInt8} (ha : apoP s (i + 2) = j) (h : j < s.size) (h2 : (j - (i + 2)) % 2 = 0) (h3 : hexP s j (i + 2) [] = some l) (h4 : ¬ 4096 < l.length) : hexT s i = .ok (⟨4, ⟨l.toArray⟩, 0, i⟩, j + 1) := by
  unfold hexT
  rw [ha, if_neg (by omega), if_neg (by omega), h3]
  simp only [if_neg h4]
theorem ext_get {s : ByteArray} {a b k : Nat} (hb : b ≤ s.size) (hk : k < (s.extract a b).size) : ((s.extract a b)[k]).toNat = bA s (a + k) := by
  have h : a + k < s.size := by rw [ByteArray.size_extract] at hk; omega
  rw [bA_of h, ByteArray.getElem_extract]
set_option maxHeartbeats 12800000 in
theorem refHexText (s : ByteArray) (i : Nat) (w : World) (hs : s.size ≤ 65536) (hi : i + 2 ≤ s.size) : Calls Tryz.prog 15 #[.string s, .int .i64 (i : Int)] w fun e w' => e = .returned (tokV (hexT s i)) ∧ Below w.heap.size w w' := by
  go_enter Tryz.func15, Tryz.ntmps15
  go_wp2_with fail
  go_loopw [7] (fun x wr => ∃ j : Nat, i + 2 ≤ j ∧ j ≤ s.size ∧ x = .int .i64 (j : Int) ∧ apoP s (i + 2) = apoP s j ∧ wr = w.alloc (.cells tkZ 30)) (fun x _ => s.size - (intOf x).toNat)
  case atStart => exact ⟨i + 2, by omega, hi, by go_num, rfl, rfl⟩
  case round =>
    obtain ⟨j, hj0, hj, rfl, ha, hw⟩ := hrel
    subst hw
    by_cases hjl : j < s.size
    · have hjj : (j : Int) < (s.size : Int) := by omega
      have hb0 := bA_of hjl
      by_cases hq : s[j].toNat = 39
      · have e1 : ((s[j].toNat : Nat) : Int) = 39 := by omega
        have HA : Hid (apoP s (i + 2) = j) := ha.trans (apoP_stop (fun h => h.2 (by omega)))
        clear ha
        have hds : (s.extract (i + 2) j).size = j - (i + 2) := by rw [ByteArray.size_extract]; omega
        have HD : Hid (∀ k (h : k < (s.extract (i + 2) j).size), ((s.extract (i + 2) j)[k]).toNat = bA s (i + 2 + k)) := fun k h => ext_get hj h
        have hng : ¬ (s.size : Int) ≤ (j : Int) := by omega
        by_cases hodd : (j - (i + 2)) % 2 = 0
        · have ho : ((((j - (i + 2) : Nat) : Int) % 2) != 0) = false := by simp; omega
          go_wp2_with fail
          generalize s.extract (i + 2) j = D at *
          go_loopw [9, 10, 11, 12] (fun b x _ _ wr => ∃ (k : Nat) (acc : List UInt8), k ≤ D.size ∧ k % 2 = 0 ∧ acc.length * 2 = k ∧ x = .int .i64 (k : Int) ∧ ownB wr (w.heap.size + 1) b (numsL acc) ∧ hexP s j (i + 2) [] = hexP s j (i + 2 + k) acc ∧ Below (w.heap.size + 1) (w.alloc (.cells tkZ 30)) wr) (fun _ x _ _ _ => D.size - (intOf x).toNat)
          case atStart => exact ⟨0, [], by omega, rfl, rfl, by rfl, ownB_nil _ _, rfl, Below.refl _ _⟩
          case round =>
            obtain ⟨k, acc, hk, hk2, hal, rfl, hown, hn, hbel⟩ := hrel
            have HN : Hid (hexP s j (i + 2) [] = hexP s j (i + 2 + k) acc) := hn
            have HBA : Hid (Below (w.heap.size + 1) (w.alloc (.cells tkZ 30)) wr) := hbel
            have hsz : (w.alloc (.cells tkZ 30)).heap.size = w.heap.size + 1 := by show (w.heap.push _).size = _; rw [Array.size_push]
            have hBr : w.heap.size + 1 ≤ wr.heap.size := by have := hbel.size; omega
            have HT : Hid (wr.heap[w.heap.size]? = some (.cells tkZ 30 (0, 0))) := (hbel.block _ (by omega)).trans (heap_alloc_new w _)
            have HBW : Hid (Below w.heap.size w wr) := (belTk w tkZ).trans (hbel.mono (by omega))
            have HO : Hid (ownB wr (w.heap.size + 1) _ (numsL acc)) := hown
            clear hn hbel hown
            by_cases hkl : k < D.size
            · have hkl1 : k + 1 < D.size := by omega
              have hkk : (k : Int) < (D.size : Int) := by omega
              have hkk1 : (k : Int) + 1 < (D.size : Int) := by omega
              have HK0 : Hid (D[k].toNat = bA s (i + 2 + k)) := HD.out k hkl
              have HK1 : Hid (D[k + 1].toNat = bA s (i + 2 + (k + 1))) := HD.out (k + 1) hkl1
              have hlt0 := D[k].toNat_lt
              have hlt1 := D[k + 1].toNat_lt
              go_wp2_with fail
              refine (refHexDigit D[k].toNat _ hlt0).mono ?_
              rintro e w1 ⟨rfl, rfl⟩
              go_wp2_with fail
              refine (refHexDigit D[k + 1].toNat _ hlt1).mono ?_
              rintro e w1 ⟨rfl, rfl⟩
              have hv0 := hexV_le D[k].toNat
              have hv1 := hexV_le D[k + 1].toNat
              have HX0 : Hid (hexV (bA s (i + 2 + k)) = hexV D[k].toNat) := congrArg hexV HK0.out.symm
              have HX1 : Hid (hexV (bA s (i + 2 + k + 1)) = hexV D[k + 1].toNat) := congrArg hexV HK1.out.symm
              generalize hexV D[k].toNat = H at *
              generalize hexV D[k + 1].toNat = L at *
              by_cases hH : H < 0
              · have HE : Hid (hexT s i = .error 154) := hexT_bad HA.out hjl hodd (HN.out.trans (hexP_bad (by omega) (by rw [HX0.out, HX1.out]; omega)))
                obtain ⟨c0, c1, c2, c3, f0, f1, f2, f3⟩ := zTk HT.out
                go_wp2
                exact bodyPost_ret (results_rtt rfl _ _ w.heap.size _ _ (0, 0) _ (by rfl) (set4 HT.out) Tryz.underlying30 rfl infoTk) rfl ⟨by rw [HE.out]; rfl, bel4 HBW.out _ _ _ _⟩
              · by_cases hL : L < 0
                · have HE : Hid (hexT s i = .error 154) := hexT_bad HA.out hjl hodd (HN.out.trans (hexP_bad (by omega) (by rw [HX0.out, HX1.out]; omega)))
                  obtain ⟨c0, c1, c2, c3, f0, f1, f2, f3⟩ := zTk HT.out
                  go_wp2
                  exact bodyPost_ret (results_rtt rfl _ _ w.heap.size _ _ (0, 0) _ (by rfl) (set4 HT.out) Tryz.underlying30 rfl infoTk) rfl ⟨by rw [HE.out]; rfl, bel4 HBW.out _ _ _ _⟩
                · have HE : Hid (hexP s j (i + 2) [] = hexP s j (i + 2 + (k + 2)) (acc ++ [UInt8.ofNat (16 * H.toNat + L.toNat)])) := by
                    have h := hexP_ok (s := s) (e := j) (k := i + 2 + k) (acc := acc) (by omega) (by rw [HX0.out, HX1.out]; omega)
                    rw [HX0.out, HX1.out] at h
                    exact HN.out.trans h
                  have hwr : IntKind.u8.wrap (16 * H + L) = 16 * H + L := by rw [IntKind.wrap_u8]; omega
                  have HV : Hid (((UInt8.ofNat (16 * H.toNat + L.toNat)).toNat : Int) = 16 * H + L) := by
                    show ((UInt8.ofNat (16 * H.toNat + L.toNat)).toNat : Int) = 16 * H + L
                    rw [UInt8.toNat_ofNat']
                    omega
                  go_wp2_with (at_builtin; refine app_one (by rfl) _ _ (by rfl) (w.heap.size + 1) _ (numsL acc) _ HO.out (by rfl) (by rfl) (by rw [numsL_len]; omega) hBr ?_; intro v' w1 hown1 hbel1; have HO1 : Hid _ := hown1; have HB1 : Hid _ := hbel1; clear hown1 hbel1)
                  go_roundw
                  case rel => exact ⟨k + 2, acc ++ [UInt8.ofNat (16 * H.toNat + L.toNat)], by omega, by omega, by simp; omega, by go_num, by rw [numsL_app, HV.out]; exact HO1.out, HE.out, HBA.out.trans HB1.out⟩
                  case measure => simp [intOf]; omega
            · have hkk : ¬ (k : Int) < (D.size : Int) := by omega
              have HN2 : Hid (hexP s j (i + 2) [] = some acc) := HN.out.trans (hexP_end (by omega))
              have hlen := HO.out.len
              rw [numsL_len] at hlen
              by_cases hlg : 4096 < acc.length
              · have hlg' : (4096 : Int) < (acc.length : Int) := by omega
                have HE : Hid (hexT s i = .error 4) := hexT_long HA.out hjl hodd HN2.out hlg
                obtain ⟨c0, c1, c2, c3, f0, f1, f2, f3⟩ := zTk HT.out
                go_wp2
                exact bodyPost_ret (results_rtt rfl _ _ w.heap.size _ _ (0, 0) _ (by rfl) (set4 HT.out) Tryz.underlying30 rfl infoTk) rfl ⟨by rw [HE.out]; rfl, bel4 HBW.out _ _ _ _⟩
              · have hlg' : ¬ (4096 : Int) < (acc.length : Int) := by omega
                have HE : Hid (hexT s i = .ok (⟨4, ⟨acc.toArray⟩, 0, i⟩, j + 1)) := hexT_ok HA.out hjl hodd HN2.out hlg
                have hcv := HO.out.conv
                rw [numsL_str] at hcv
                obtain ⟨c0, c1, c2, c3, f0, f1, f2, f3⟩ := zTk HT.out
                go_wp2
                exact bodyPost_ret (results_rtt rfl _ _ w.heap.size _ _ (0, 0) _ (by rfl) (set4 HT.out) Tryz.underlying30 rfl infoTk) rfl ⟨by rw [HE.out]; rfl, bel4 HBW.out _ _ _ _⟩
        · have ho : ((((j - (i + 2) : Nat) : Int) % 2) != 0) = true := by simp; omega
          have HE : Hid (hexT s i = .error 154) := hexT_odd HA.out hjl hodd
          go_wp2
          exact bodyPost_ret (results_rtt rfl _ _ w.heap.size _ _ (0, 0) _ (by rfl) (heap_alloc_new w _) Tryz.underlying30 rfl infoTk) rfl ⟨by rw [HE.out]; rfl, belTk w _⟩
      · have e1 : ¬ ((s[j].toNat : Nat) : Int) = 39 := by omega
        have HA : Hid (apoP s (i + 2) = apoP s (j + 1)) := ha.trans (apoP_step hjl (by omega))
        clear ha
        go_wp2
        go_roundw
        case rel => exact ⟨j + 1, by omega, by omega, by go_num, HA.out, trivial⟩
        case measure => simp [intOf]; omega
    · have hjj : ¬ (j : Int) < (s.size : Int) := by omega
      have hge : (s.size : Int) ≤ (j : Int) := by omega
      have HE : Hid (hexT s i = .error 151) := hexT_open (ha.trans (apoP_stop (fun h => hjl h.1))) hjl
      clear ha
      go_wp2
      exact bodyPost_ret (results_rtt rfl _ _ w.heap.size _ _ (0, 0) _ (by rfl) (heap_alloc_new w _) Tryz.underlying30 rfl infoTk) rfl ⟨by rw [HE.out]; rfl, belTk w _⟩
end Go.Proofs.YtlidkdnfibfnfaaGreatDoor
