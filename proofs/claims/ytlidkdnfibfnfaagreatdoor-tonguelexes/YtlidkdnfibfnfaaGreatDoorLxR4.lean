import Derived.Test.YtlidkdnfibfnfaaGreatDoorLxR3
namespace Go.Proofs.YtlidkdnfibfnfaaGreatDoor
open Go.ChangeShapes Go.WideShapes Go.ChangeAt Go.RowKit
set_option linter.unusedVariables false
set_option maxRecDepth 100000
theorem refHexDigit (c : Nat) (w : World) (hc : c < 256) : Calls Tryz.prog 35 #[.int .u8 (c : Int)] w fun e w' => e = .returned (.int .i64 (hexV c)) ∧ w' = w := by
  have hsp : (0 ≤ c ∧ c ≤ 47) ∨ (48 ≤ c ∧ c ≤ 57) ∨ (58 ≤ c ∧ c ≤ 64) ∨ (65 ≤ c ∧ c ≤ 70) ∨ (71 ≤ c ∧ c ≤ 96) ∨ (97 ≤ c ∧ c ≤ 102) ∨ (103 ≤ c ∧ c ≤ 255) := by omega
  rcases hsp with h | h | h | h | h | h | h
  · have hdg : ¬ isDg c := by unfold isDg; omega
    have : ¬ ((97 : Int) ≤ (c : Int)) := by omega
    have : ((c : Int) ≤ 102) := by omega
    have : ¬ ((65 : Int) ≤ (c : Int)) := by omega
    have : ((c : Int) ≤ 70) := by omega
    have hv : hexV c = -1 := by unfold hexV; rw [if_neg hdg]; rw [if_neg (by omega), if_neg (by omega)]
    go_enter Tryz.func35, Tryz.ntmps35
    go_wp2_with fail
    refine (refDigit c w).mono ?_
    rintro e w1 ⟨rfl, rfl⟩
    rw [decide_eq_false hdg]
    go_wp2
    go_ret
    exact ⟨by first | rfl | (congr 2; omega) | go_num, rfl⟩
  · have hdg : isDg c := ⟨by omega, by omega⟩
    have : ¬ ((97 : Int) ≤ (c : Int)) := by omega
    have : ((c : Int) ≤ 102) := by omega
    have : ¬ ((65 : Int) ≤ (c : Int)) := by omega
    have : ((c : Int) ≤ 70) := by omega
    have hv : hexV c = (c : Int) - 48 := by unfold hexV; rw [if_pos hdg]
    have hw : IntKind.u8.wrap ((c : Int) - 48) = (c : Int) - 48 := by rw [IntKind.wrap_u8]; omega
    go_enter Tryz.func35, Tryz.ntmps35
    go_wp2_with fail
    refine (refDigit c w).mono ?_
    rintro e w1 ⟨rfl, rfl⟩
    rw [decide_eq_true hdg]
    go_wp2
    go_ret
    exact ⟨by first | rfl | (congr 2; omega) | go_num, rfl⟩
  · have hdg : ¬ isDg c := by unfold isDg; omega
    have : ¬ ((97 : Int) ≤ (c : Int)) := by omega
    have : ((c : Int) ≤ 102) := by omega
    have : ¬ ((65 : Int) ≤ (c : Int)) := by omega
    have : ((c : Int) ≤ 70) := by omega
    have hv : hexV c = -1 := by unfold hexV; rw [if_neg hdg]; rw [if_neg (by omega), if_neg (by omega)]
    go_enter Tryz.func35, Tryz.ntmps35
    go_wp2_with fail
    refine (refDigit c w).mono ?_
    rintro e w1 ⟨rfl, rfl⟩
    rw [decide_eq_false hdg]
    go_wp2
    go_ret
    exact ⟨by first | rfl | (congr 2; omega) | go_num, rfl⟩
  · have hdg : ¬ isDg c := by unfold isDg; omega
    have : ¬ ((97 : Int) ≤ (c : Int)) := by omega
    have : ((c : Int) ≤ 102) := by omega
    have : ((65 : Int) ≤ (c : Int)) := by omega
    have : ((c : Int) ≤ 70) := by omega
    have hv : hexV c = (c : Int) - 55 := by unfold hexV; rw [if_neg hdg]; rw [if_neg (by omega), if_pos ⟨by omega, by omega⟩]
    have hw : IntKind.u8.wrap ((c : Int) - 65) = (c : Int) - 65 := by rw [IntKind.wrap_u8]; omega
    go_enter Tryz.func35, Tryz.ntmps35
    go_wp2_with fail
    refine (refDigit c w).mono ?_
    rintro e w1 ⟨rfl, rfl⟩
    rw [decide_eq_false hdg]
    go_wp2
    go_ret
    exact ⟨by first | rfl | (congr 2; omega) | go_num, rfl⟩
  · have hdg : ¬ isDg c := by unfold isDg; omega
    have : ¬ ((97 : Int) ≤ (c : Int)) := by omega
    have : ((c : Int) ≤ 102) := by omega
    have : ((65 : Int) ≤ (c : Int)) := by omega
    have : ¬ ((c : Int) ≤ 70) := by omega
    have hv : hexV c = -1 := by unfold hexV; rw [if_neg hdg]; rw [if_neg (by omega), if_neg (by omega)]
    go_enter Tryz.func35, Tryz.ntmps35
    go_wp2_with fail
    refine (refDigit c w).mono ?_
    rintro e w1 ⟨rfl, rfl⟩
    rw [decide_eq_false hdg]
    go_wp2
    go_ret
    exact ⟨by first | rfl | (congr 2; omega) | go_num, rfl⟩
  · have hdg : ¬ isDg c := by unfold isDg; omega
    have : ((97 : Int) ≤ (c : Int)) := by omega
    have : ((c : Int) ≤ 102) := by omega
    have : ((65 : Int) ≤ (c : Int)) := by omega
    have : ¬ ((c : Int) ≤ 70) := by omega
    have hv : hexV c = (c : Int) - 87 := by unfold hexV; rw [if_neg hdg]; rw [if_pos ⟨by omega, by omega⟩]
    have hw : IntKind.u8.wrap ((c : Int) - 97) = (c : Int) - 97 := by rw [IntKind.wrap_u8]; omega
    go_enter Tryz.func35, Tryz.ntmps35
    go_wp2_with fail
    refine (refDigit c w).mono ?_
    rintro e w1 ⟨rfl, rfl⟩
    rw [decide_eq_false hdg]
    go_wp2
    go_ret
    exact ⟨by first | rfl | (congr 2; omega) | go_num, rfl⟩
  · have hdg : ¬ isDg c := by unfold isDg; omega
    have : ((97 : Int) ≤ (c : Int)) := by omega
    have : ¬ ((c : Int) ≤ 102) := by omega
    have : ((65 : Int) ≤ (c : Int)) := by omega
    have : ¬ ((c : Int) ≤ 70) := by omega
    have hv : hexV c = -1 := by unfold hexV; rw [if_neg hdg]; rw [if_neg (by omega), if_neg (by omega)]
    go_enter Tryz.func35, Tryz.ntmps35
    go_wp2_with fail
    refine (refDigit c w).mono ?_
    rintro e w1 ⟨rfl, rfl⟩
    rw [decide_eq_false hdg]
    go_wp2
    go_ret
    exact ⟨by first | rfl | (congr 2; omega) | go_num, rfl⟩
theorem results_rtt {P : Program} {fn : Func} {p : Tmp} {ty : TypeId} {q r : Tmp} (h : fn.results = #[.cell p ty, .tmp q, .tmp r]) (tmps : Array Value) (w : World) (g : Nat) (t : TypeId) (cs : Array Value) (fr : Nat × Nat) (d : TypeDesc)
    (hp : tmps.getD p undef = .pointer (some ⟨g, 0, none⟩)) (hg : w.heap[g]? = some (.cells cs t fr))
    (hu : P.underlying ty = some d) (hd : (match d with | .struct _ | .array _ _ => true | _ => false) = true) (hi : (P.info? ty).map (·.size) = some cs.size) :
    (results fn tmps).run P w = .ok (.tuple #[.agg cs, tmps.getD q undef, tmps.getD r undef]) w := by
  have hp' : tmps[p]?.getD undef = .pointer (some ⟨g, 0, none⟩) := by simpa using hp
  simp [results, h, hp', asAddr, run_loadVar_row w g t ty cs fr d hg hu hd hi]
theorem infoTk : (Tryz.prog.info? 30).map (·.size) = some 4 := by kernel_rfl
theorem belTk (w : World) (c : Array Value) : Below w.heap.size w (w.alloc (.cells c 30)) := (Below.refl _ _).alloc (Nat.le_refl _) _
abbrev tkZ : Array Value := #[.int .i64 0, .string ⟨#[]⟩, .int .i64 0, .int .i64 0]
def tkC (t : TK) : Array Value := #[.int .i64 t.kind, .string t.text, .int .i64 t.num, .int .i64 t.at_]
/-- What the calls on one token answer. -/
def tokV : Except Int (TK × Nat) → Value
  | .ok (t, j) => .tuple #[.agg (tkC t), .int .i64 (j : Int), .int .i64 0]
  | .error e => .tuple #[.agg tkZ, .int .i64 0, .int .i64 e]
theorem numP_dg {s : ByteArray} {j acc : Nat} (h : j < s.size) (hd : isDg (bA s j)) (hl : acc * 10 + (bA s j - 48) ≤ 9223372036854775807) : numP s j acc = numP s (j + 1) (acc * 10 + (bA s j - 48)) := by rw [numP_eq, dif_pos ⟨h, hd⟩, if_pos hl]
theorem numP_over {s : ByteArray} {j acc : Nat} (h : j < s.size) (hd : isDg (bA s j)) (hl : ¬ acc * 10 + (bA s j - 48) ≤ 9223372036854775807) : numP s j acc = none := by rw [numP_eq, dif_pos ⟨h, hd⟩, if_neg hl]
theorem numP_end {s : ByteArray} {j acc : Nat} (h : ¬ (j < s.size ∧ isDg (bA s j))) : numP s j acc = some (acc, j) := by rw [numP_eq, dif_neg h]
set_option maxHeartbeats 12800000 in
theorem refNumber (s : ByteArray) (i : Nat) (w : World) (hs : s.size ≤ 65536) (hi : i ≤ s.size) : Calls Tryz.prog 19 #[.string s, .int .i64 (i : Int)] w fun e w' => e = .returned (tokV (intP s i)) ∧ Below w.heap.size w w' := by
  go_enter Tryz.func19, Tryz.ntmps19
  go_wp2_with fail
  go_loopw [7, 8, 9] (fun x y _ wr => ∃ j acc : Nat, j ≤ s.size ∧ acc ≤ 9223372036854775807 ∧ x = .int .i64 (j : Int) ∧ y = .int .i64 (acc : Int) ∧ numP s i 0 = numP s j acc ∧ wr = w.alloc (.cells tkZ 30)) (fun x _ _ _ => s.size - (intOf x).toNat)
  case atStart => exact ⟨i, 0, hi, by omega, rfl, rfl, rfl, rfl⟩
  case round =>
    obtain ⟨j, acc, hj, hacc, rfl, rfl, hn, hw⟩ := hrel
    subst hw
    have HN : Hid (numP s i 0 = numP s j acc) := hn
    clear hn
    by_cases hjl : j < s.size
    · have hjj : (j : Int) < (s.size : Int) := by omega
      have hb0 := bA_of hjl
      go_wp2_with fail
      refine (refDigit s[j].toNat _).mono ?_
      rintro e w1 ⟨rfl, rfl⟩
      by_cases hd : isDg s[j].toNat
      · rw [decide_eq_true hd]
        have hw8 : IntKind.u8.wrap ((s[j].toNat : Int) - 48) = (s[j].toNat : Int) - 48 := by rw [IntKind.wrap_u8]; unfold isDg at hd; omega
        have hd1 := hd.1
        have hd2 := hd.2
        have hnn : (0 : Int) ≤ 9223372036854775807 - ((s[j].toNat : Int) - 48) := by omega
        by_cases hl : acc * 10 + (s[j].toNat - 48) ≤ 9223372036854775807
        · have hq : ¬ (Int.tdiv (9223372036854775807 - ((s[j].toNat : Int) - 48)) 10 < (acc : Int)) := by rw [Int.tdiv_eq_ediv_of_nonneg hnn]; omega
          have HE : Hid (numP s i 0 = numP s (j + 1) (acc * 10 + (s[j].toNat - 48))) := by
            have := numP_dg hjl (by rw [hb0]; exact hd) (by rw [hb0]; exact hl)
            rw [hb0] at this
            exact HN.out.trans this
          go_wp2
          go_roundw
          case rel => exact ⟨j + 1, acc * 10 + (s[j].toNat - 48), by omega, hl, by go_num, by go_num, HE.out, trivial⟩
          case measure => simp [intOf]; omega
        · have hq : (Int.tdiv (9223372036854775807 - ((s[j].toNat : Int) - 48)) 10 < (acc : Int)) := by rw [Int.tdiv_eq_ediv_of_nonneg hnn]; omega
          have HE : Hid (intP s i = .error 152) := by
            have h1 := HN.out.trans (numP_over hjl (by rw [hb0]; exact hd) (by rw [hb0]; exact hl))
            show intP s i = _
            unfold intP
            rw [h1]
          go_wp2
          exact bodyPost_ret (results_rtt rfl _ _ w.heap.size _ _ (0, 0) _ (by rfl) (heap_alloc_new w _) Tryz.underlying30 rfl infoTk) rfl ⟨by rw [HE.out]; rfl, belTk w _⟩
      · rw [decide_eq_false hd]
        have HN2 : Hid (numP s i 0 = some (acc, j)) := HN.out.trans (numP_end (fun h => hd (by rw [← hb0]; exact h.2)))
        go_wp2_with fail
        refine (refLetter s[j].toNat _).mono ?_
        rintro e w1 ⟨rfl, rfl⟩
        by_cases hL : isLt s[j].toNat
        · rw [decide_eq_true hL]
          have HE : Hid (intP s i = .error 152) := by
            show intP s i = _
            unfold intP
            rw [HN2.out]
            simp only [hb0, if_pos hL]
          go_wp2
          exact bodyPost_ret (results_rtt rfl _ _ w.heap.size _ _ (0, 0) _ (by rfl) (heap_alloc_new w _) Tryz.underlying30 rfl infoTk) rfl ⟨by rw [HE.out]; rfl, belTk w _⟩
        · rw [decide_eq_false hL]
          have HE : Hid (intP s i = .ok (⟨3, ⟨#[]⟩, acc, i⟩, j)) := by
            show intP s i = _
            unfold intP
            rw [HN2.out]
            simp only [hb0, if_neg hL]
          go_wp2
          exact bodyPost_ret (results_rtt rfl _ _ w.heap.size _ _ (0, 0) _ (by rfl) (heap_alloc_new w _) Tryz.underlying30 rfl infoTk) rfl ⟨by rw [HE.out]; rfl, belTk w _⟩
    · have hjj : ¬ (j : Int) < (s.size : Int) := by omega
      have HN2 : Hid (numP s i 0 = some (acc, j)) := HN.out.trans (numP_end (fun h => hjl h.1))
      have HE : Hid (intP s i = .ok (⟨3, ⟨#[]⟩, acc, i⟩, j)) := by
        show intP s i = _
        unfold intP
        rw [HN2.out]
        have hL : ¬ isLt (bA s j) := by rw [bA_out (by omega)]; decide
        simp only [if_neg hL]
      go_wp2
      exact bodyPost_ret (results_rtt rfl _ _ w.heap.size _ _ (0, 0) _ (by rfl) (heap_alloc_new w _) Tryz.underlying30 rfl infoTk) rfl ⟨by rw [HE.out]; rfl, belTk w _⟩
end Go.Proofs.YtlidkdnfibfnfaaGreatDoor
