import Derived.Test.YtlidkdnfibfnfaaGreatDoorLxR9
namespace Go.Proofs.YtlidkdnfibfnfaaGreatDoor
open Go.ChangeShapes Go.WideShapes Go.ChangeAt Go.RowKit
set_option linter.unusedVariables false
set_option maxRecDepth 100000
theorem tokP_hex {s : ByteArray} {i : Nat} (h : (bA s i = 120 ∨ bA s i = 88) ∧ bA s (i + 1) = 39) : tokP s i = hexT s i := by
  unfold tokP
  exact if_pos h
theorem tokP_word {s : ByteArray} {i : Nat} (h : ¬ ((bA s i = 120 ∨ bA s i = 88) ∧ bA s (i + 1) = 39)) (h1 : isLt (bA s i)) : tokP s i = wordP s i := by
  unfold tokP
  exact (if_neg h).trans (if_pos h1)
theorem tokP_num {s : ByteArray} {i : Nat} (h : ¬ ((bA s i = 120 ∨ bA s i = 88) ∧ bA s (i + 1) = 39)) (h1 : ¬ isLt (bA s i)) (h2 : isDg (bA s i)) : tokP s i = intP s i := by
  unfold tokP
  exact (if_neg h).trans ((if_neg h1).trans (if_pos h2))
theorem tokP_sign {s : ByteArray} {i : Nat} (h : ¬ ((bA s i = 120 ∨ bA s i = 88) ∧ bA s (i + 1) = 39)) (h1 : ¬ isLt (bA s i)) (h2 : ¬ isDg (bA s i)) (h3 : ¬ bA s i = 34) (h4 : ¬ bA s i = 39) : tokP s i = signP s i := by
  unfold tokP
  exact (if_neg h).trans ((if_neg h1).trans ((if_neg h2).trans ((if_neg h3).trans (if_neg h4))))
structure Tk34 (s : ByteArray) (i : Nat) : Prop where
  eq : tokP s i = match quoP s 34 (i + 1) [] with
    | none => .error 151
    | some (l, j) => if l.length < 1 ∨ 32 < l.length then .error 153 else .ok (⟨1, ⟨l.toArray⟩, 0, i⟩, j)
structure Tk39 (s : ByteArray) (i : Nat) : Prop where
  eq : tokP s i = match quoP s 39 (i + 1) [] with
    | none => .error 151
    | some (l, j) => if 4096 < l.length then .error 4 else .ok (⟨4, ⟨l.toArray⟩, 0, i⟩, j)
theorem tq34 {s : ByteArray} {i : Nat} (h : bA s i = 34) : Tk34 s i := by
  constructor
  unfold tokP
  exact (if_neg (by omega)).trans ((if_neg (by rw [h]; decide)).trans ((if_neg (by rw [h]; decide)).trans (if_pos h)))
theorem tq39 {s : ByteArray} {i : Nat} (h : bA s i = 39) : Tk39 s i := by
  constructor
  unfold tokP
  exact (if_neg (by omega)).trans ((if_neg (by rw [h]; decide)).trans ((if_neg (by rw [h]; decide)).trans ((if_neg (by omega)).trans (if_pos h))))
theorem tokP_name0 {s : ByteArray} {i : Nat} (h : Tk34 s i) (hr : quoP s 34 (i + 1) [] = none) : tokP s i = .error 151 := by
  rw [h.eq, hr]
theorem tokP_name1 {s : ByteArray} {i j : Nat} {l : List UInt8} (h : Tk34 s i) (hr : quoP s 34 (i + 1) [] = some (l, j)) : tokP s i = if l.length < 1 ∨ 32 < l.length then .error 153 else .ok (⟨1, ⟨l.toArray⟩, 0, i⟩, j) := by
  rw [h.eq, hr]
theorem tokP_text0 {s : ByteArray} {i : Nat} (h : Tk39 s i) (hr : quoP s 39 (i + 1) [] = none) : tokP s i = .error 151 := by
  rw [h.eq, hr]
theorem tokP_text1 {s : ByteArray} {i j : Nat} {l : List UInt8} (h : Tk39 s i) (hr : quoP s 39 (i + 1) [] = some (l, j)) : tokP s i = if 4096 < l.length then .error 4 else .ok (⟨4, ⟨l.toArray⟩, 0, i⟩, j) := by
  rw [h.eq, hr]
set_option maxHeartbeats 12800000 in
theorem refToken (s : ByteArray) (i : Nat) (w : World) (hs : s.size ≤ 65536) (hi : i < s.size) : Calls Tryz.prog 11 #[.string s, .int .i64 (i : Int)] w fun e w' => e = .returned (tokV (tokP s i)) ∧ Below w.heap.size w w' := by
  have hb0 := bA_of hi
  have hii : (i : Int) < (s.size : Int) := by omega
  go_enter Tryz.func11, Tryz.ntmps11
  by_cases c120 : s[i].toNat = 120
  · have hL : isLt s[i].toNat := by unfold isLt; omega
    by_cases hi1 : i + 1 < s.size
    · have hii1 : (i : Int) + 1 < (s.size : Int) := by omega
      have hb1 := bA_of hi1
      by_cases d39 : s[i + 1].toNat = 39
      · have e120a : ((s[i].toNat : Nat) : Int) = 120 := by omega
        have e120b : (((s[i].toNat : Nat) : Int) == 120) = true := by rw [beq_iff_eq]; omega
        have f39a : ((s[i + 1].toNat : Nat) : Int) = 39 := by omega
        have f39b : (((s[i + 1].toNat : Nat) : Int) == 39) = true := by rw [beq_iff_eq]; omega
        have HE0 : Hid (tokP s i = hexT s i) := tokP_hex (by omega)
        go_wp2_with fail
        refine (refHexText s i _ hs (by omega)).mono ?_
        rintro e w3 ⟨rfl, hb3⟩
        obtain ⟨HT, HBW⟩ := heldTk hb3
        obtain ⟨c0, c1, c2, c3, f0, f1, f2, f3⟩ := zTk HT.out
        clear hb3
        rcases hR : hexT s i with er | ⟨t, j⟩
        · have HE : Hid (tokP s i = .error er) := HE0.out.trans hR
          clear hR
          dsimp only [tokV, tkC]
          go_wp2
          exact bodyPost_ret (results_rtt rfl _ _ w.heap.size _ _ (0, 0) _ (by rfl) (set4 HT.out) Tryz.underlying30 rfl infoTk) rfl ⟨by rw [HE.out]; rfl, bel4 HBW.out _ _ _ _⟩
        · have HE : Hid (tokP s i = .ok (t, j)) := HE0.out.trans hR
          clear hR
          dsimp only [tokV, tkC]
          go_wp2
          exact bodyPost_ret (results_rtt rfl _ _ w.heap.size _ _ (0, 0) _ (by rfl) (set4 HT.out) Tryz.underlying30 rfl infoTk) rfl ⟨by rw [HE.out]; rfl, bel4 HBW.out _ _ _ _⟩
      · have e120a : ((s[i].toNat : Nat) : Int) = 120 := by omega
        have e120b : (((s[i].toNat : Nat) : Int) == 120) = true := by rw [beq_iff_eq]; omega
        have f39a : ¬ ((s[i + 1].toNat : Nat) : Int) = 39 := by omega
        have f39b : (((s[i + 1].toNat : Nat) : Int) == 39) = false := by rw [beq_eq_false_iff_ne]; omega
        go_wp2_with fail
        refine (refLetter 120 _).mono ?_
        rintro e w1 ⟨rfl, rfl⟩
        rw [decide_eq_true (show isLt 120 from by decide)]
        have HE0 : Hid (tokP s i = wordP s i) := tokP_word (by omega) (by rw [hb0]; exact hL)
        go_wp2_with fail
        refine (refWord s i _ hs (by omega)).mono ?_
        rintro e w3 ⟨rfl, hb3⟩
        obtain ⟨HT, HBW⟩ := heldTk hb3
        obtain ⟨c0, c1, c2, c3, f0, f1, f2, f3⟩ := zTk HT.out
        clear hb3
        rcases hR : wordP s i with er | ⟨t, j⟩
        · have HE : Hid (tokP s i = .error er) := HE0.out.trans hR
          clear hR
          dsimp only [tokV, tkC]
          go_wp2
          exact bodyPost_ret (results_rtt rfl _ _ w.heap.size _ _ (0, 0) _ (by rfl) (set4 HT.out) Tryz.underlying30 rfl infoTk) rfl ⟨by rw [HE.out]; rfl, bel4 HBW.out _ _ _ _⟩
        · have HE : Hid (tokP s i = .ok (t, j)) := HE0.out.trans hR
          clear hR
          dsimp only [tokV, tkC]
          go_wp2
          exact bodyPost_ret (results_rtt rfl _ _ w.heap.size _ _ (0, 0) _ (by rfl) (set4 HT.out) Tryz.underlying30 rfl infoTk) rfl ⟨by rw [HE.out]; rfl, bel4 HBW.out _ _ _ _⟩
    · have hii1 : ¬ (i : Int) + 1 < (s.size : Int) := by omega
      have hb1 : bA s (i + 1) = 256 := bA_out (by omega)
      have e120a : ((s[i].toNat : Nat) : Int) = 120 := by omega
      have e120b : (((s[i].toNat : Nat) : Int) == 120) = true := by rw [beq_iff_eq]; omega
      go_wp2_with fail
      refine (refLetter 120 _).mono ?_
      rintro e w1 ⟨rfl, rfl⟩
      rw [decide_eq_true (show isLt 120 from by decide)]
      have HE0 : Hid (tokP s i = wordP s i) := tokP_word (by omega) (by rw [hb0]; exact hL)
      go_wp2_with fail
      refine (refWord s i _ hs (by omega)).mono ?_
      rintro e w3 ⟨rfl, hb3⟩
      obtain ⟨HT, HBW⟩ := heldTk hb3
      obtain ⟨c0, c1, c2, c3, f0, f1, f2, f3⟩ := zTk HT.out
      clear hb3
      rcases hR : wordP s i with er | ⟨t, j⟩
      · have HE : Hid (tokP s i = .error er) := HE0.out.trans hR
        clear hR
        dsimp only [tokV, tkC]
        go_wp2
        exact bodyPost_ret (results_rtt rfl _ _ w.heap.size _ _ (0, 0) _ (by rfl) (set4 HT.out) Tryz.underlying30 rfl infoTk) rfl ⟨by rw [HE.out]; rfl, bel4 HBW.out _ _ _ _⟩
      · have HE : Hid (tokP s i = .ok (t, j)) := HE0.out.trans hR
        clear hR
        dsimp only [tokV, tkC]
        go_wp2
        exact bodyPost_ret (results_rtt rfl _ _ w.heap.size _ _ (0, 0) _ (by rfl) (set4 HT.out) Tryz.underlying30 rfl infoTk) rfl ⟨by rw [HE.out]; rfl, bel4 HBW.out _ _ _ _⟩
  · by_cases c88 : s[i].toNat = 88
    · have hL : isLt s[i].toNat := by unfold isLt; omega
      by_cases hi1 : i + 1 < s.size
      · have hii1 : (i : Int) + 1 < (s.size : Int) := by omega
        have hb1 := bA_of hi1
        by_cases d39 : s[i + 1].toNat = 39
        · have n120a : ¬ ((s[i].toNat : Nat) : Int) = 120 := by omega
          have n120b : (((s[i].toNat : Nat) : Int) == 120) = false := by rw [beq_eq_false_iff_ne]; omega
          have e88a : ((s[i].toNat : Nat) : Int) = 88 := by omega
          have e88b : (((s[i].toNat : Nat) : Int) == 88) = true := by rw [beq_iff_eq]; omega
          have f39a : ((s[i + 1].toNat : Nat) : Int) = 39 := by omega
          have f39b : (((s[i + 1].toNat : Nat) : Int) == 39) = true := by rw [beq_iff_eq]; omega
          have HE0 : Hid (tokP s i = hexT s i) := tokP_hex (by omega)
          go_wp2_with fail
          refine (refHexText s i _ hs (by omega)).mono ?_
          rintro e w3 ⟨rfl, hb3⟩
          obtain ⟨HT, HBW⟩ := heldTk hb3
          obtain ⟨c0, c1, c2, c3, f0, f1, f2, f3⟩ := zTk HT.out
          clear hb3
          rcases hR : hexT s i with er | ⟨t, j⟩
          · have HE : Hid (tokP s i = .error er) := HE0.out.trans hR
            clear hR
            dsimp only [tokV, tkC]
            go_wp2
            exact bodyPost_ret (results_rtt rfl _ _ w.heap.size _ _ (0, 0) _ (by rfl) (set4 HT.out) Tryz.underlying30 rfl infoTk) rfl ⟨by rw [HE.out]; rfl, bel4 HBW.out _ _ _ _⟩
          · have HE : Hid (tokP s i = .ok (t, j)) := HE0.out.trans hR
            clear hR
            dsimp only [tokV, tkC]
            go_wp2
            exact bodyPost_ret (results_rtt rfl _ _ w.heap.size _ _ (0, 0) _ (by rfl) (set4 HT.out) Tryz.underlying30 rfl infoTk) rfl ⟨by rw [HE.out]; rfl, bel4 HBW.out _ _ _ _⟩
        · have n120a : ¬ ((s[i].toNat : Nat) : Int) = 120 := by omega
          have n120b : (((s[i].toNat : Nat) : Int) == 120) = false := by rw [beq_eq_false_iff_ne]; omega
          have e88a : ((s[i].toNat : Nat) : Int) = 88 := by omega
          have e88b : (((s[i].toNat : Nat) : Int) == 88) = true := by rw [beq_iff_eq]; omega
          have f39a : ¬ ((s[i + 1].toNat : Nat) : Int) = 39 := by omega
          have f39b : (((s[i + 1].toNat : Nat) : Int) == 39) = false := by rw [beq_eq_false_iff_ne]; omega
          go_wp2_with fail
          refine (refLetter 88 _).mono ?_
          rintro e w1 ⟨rfl, rfl⟩
          rw [decide_eq_true (show isLt 88 from by decide)]
          have HE0 : Hid (tokP s i = wordP s i) := tokP_word (by omega) (by rw [hb0]; exact hL)
          go_wp2_with fail
          refine (refWord s i _ hs (by omega)).mono ?_
          rintro e w3 ⟨rfl, hb3⟩
          obtain ⟨HT, HBW⟩ := heldTk hb3
          obtain ⟨c0, c1, c2, c3, f0, f1, f2, f3⟩ := zTk HT.out
          clear hb3
          rcases hR : wordP s i with er | ⟨t, j⟩
          · have HE : Hid (tokP s i = .error er) := HE0.out.trans hR
            clear hR
            dsimp only [tokV, tkC]
            go_wp2
            exact bodyPost_ret (results_rtt rfl _ _ w.heap.size _ _ (0, 0) _ (by rfl) (set4 HT.out) Tryz.underlying30 rfl infoTk) rfl ⟨by rw [HE.out]; rfl, bel4 HBW.out _ _ _ _⟩
          · have HE : Hid (tokP s i = .ok (t, j)) := HE0.out.trans hR
            clear hR
            dsimp only [tokV, tkC]
            go_wp2
            exact bodyPost_ret (results_rtt rfl _ _ w.heap.size _ _ (0, 0) _ (by rfl) (set4 HT.out) Tryz.underlying30 rfl infoTk) rfl ⟨by rw [HE.out]; rfl, bel4 HBW.out _ _ _ _⟩
      · have hii1 : ¬ (i : Int) + 1 < (s.size : Int) := by omega
        have hb1 : bA s (i + 1) = 256 := bA_out (by omega)
        have n120a : ¬ ((s[i].toNat : Nat) : Int) = 120 := by omega
        have n120b : (((s[i].toNat : Nat) : Int) == 120) = false := by rw [beq_eq_false_iff_ne]; omega
        have e88a : ((s[i].toNat : Nat) : Int) = 88 := by omega
        have e88b : (((s[i].toNat : Nat) : Int) == 88) = true := by rw [beq_iff_eq]; omega
        go_wp2_with fail
        refine (refLetter 88 _).mono ?_
        rintro e w1 ⟨rfl, rfl⟩
        rw [decide_eq_true (show isLt 88 from by decide)]
        have HE0 : Hid (tokP s i = wordP s i) := tokP_word (by omega) (by rw [hb0]; exact hL)
        go_wp2_with fail
        refine (refWord s i _ hs (by omega)).mono ?_
        rintro e w3 ⟨rfl, hb3⟩
        obtain ⟨HT, HBW⟩ := heldTk hb3
        obtain ⟨c0, c1, c2, c3, f0, f1, f2, f3⟩ := zTk HT.out
        clear hb3
        rcases hR : wordP s i with er | ⟨t, j⟩
        · have HE : Hid (tokP s i = .error er) := HE0.out.trans hR
          clear hR
          dsimp only [tokV, tkC]
          go_wp2
          exact bodyPost_ret (results_rtt rfl _ _ w.heap.size _ _ (0, 0) _ (by rfl) (set4 HT.out) Tryz.underlying30 rfl infoTk) rfl ⟨by rw [HE.out]; rfl, bel4 HBW.out _ _ _ _⟩
        · have HE : Hid (tokP s i = .ok (t, j)) := HE0.out.trans hR
          clear hR
          dsimp only [tokV, tkC]
          go_wp2
          exact bodyPost_ret (results_rtt rfl _ _ w.heap.size _ _ (0, 0) _ (by rfl) (set4 HT.out) Tryz.underlying30 rfl infoTk) rfl ⟨by rw [HE.out]; rfl, bel4 HBW.out _ _ _ _⟩
    · by_cases hL : isLt s[i].toNat
      · have n120a : ¬ ((s[i].toNat : Nat) : Int) = 120 := by omega
        have n120b : (((s[i].toNat : Nat) : Int) == 120) = false := by rw [beq_eq_false_iff_ne]; omega
        have n88a : ¬ ((s[i].toNat : Nat) : Int) = 88 := by omega
        have n88b : (((s[i].toNat : Nat) : Int) == 88) = false := by rw [beq_eq_false_iff_ne]; omega
        go_wp2_with fail
        refine (refLetter s[i].toNat _).mono ?_
        rintro e w1 ⟨rfl, rfl⟩
        rw [decide_eq_true hL]
        have HE0 : Hid (tokP s i = wordP s i) := tokP_word (by omega) (by rw [hb0]; exact hL)
        go_wp2_with fail
        refine (refWord s i _ hs (by omega)).mono ?_
        rintro e w3 ⟨rfl, hb3⟩
        obtain ⟨HT, HBW⟩ := heldTk hb3
        obtain ⟨c0, c1, c2, c3, f0, f1, f2, f3⟩ := zTk HT.out
        clear hb3
        rcases hR : wordP s i with er | ⟨t, j⟩
        · have HE : Hid (tokP s i = .error er) := HE0.out.trans hR
          clear hR
          dsimp only [tokV, tkC]
          go_wp2
          exact bodyPost_ret (results_rtt rfl _ _ w.heap.size _ _ (0, 0) _ (by rfl) (set4 HT.out) Tryz.underlying30 rfl infoTk) rfl ⟨by rw [HE.out]; rfl, bel4 HBW.out _ _ _ _⟩
        · have HE : Hid (tokP s i = .ok (t, j)) := HE0.out.trans hR
          clear hR
          dsimp only [tokV, tkC]
          go_wp2
          exact bodyPost_ret (results_rtt rfl _ _ w.heap.size _ _ (0, 0) _ (by rfl) (set4 HT.out) Tryz.underlying30 rfl infoTk) rfl ⟨by rw [HE.out]; rfl, bel4 HBW.out _ _ _ _⟩
      · have n120a : ¬ ((s[i].toNat : Nat) : Int) = 120 := by omega
        have n120b : (((s[i].toNat : Nat) : Int) == 120) = false := by rw [beq_eq_false_iff_ne]; omega
        have n88a : ¬ ((s[i].toNat : Nat) : Int) = 88 := by omega
        have n88b : (((s[i].toNat : Nat) : Int) == 88) = false := by rw [beq_eq_false_iff_ne]; omega
        go_wp2_with fail
        refine (refLetter s[i].toNat _).mono ?_
        rintro e w1 ⟨rfl, rfl⟩
        rw [decide_eq_false hL]
        go_wp2_with fail
        refine (refDigit s[i].toNat _).mono ?_
        rintro e w1 ⟨rfl, rfl⟩
        by_cases hD : isDg s[i].toNat
        · rw [decide_eq_true hD]
          have HE0 : Hid (tokP s i = intP s i) := tokP_num (by omega) (by rw [hb0]; exact hL) (by rw [hb0]; exact hD)
          go_wp2_with fail
          refine (refNumber s i _ hs (by omega)).mono ?_
          rintro e w3 ⟨rfl, hb3⟩
          obtain ⟨HT, HBW⟩ := heldTk hb3
          obtain ⟨c0, c1, c2, c3, f0, f1, f2, f3⟩ := zTk HT.out
          clear hb3
          rcases hR : intP s i with er | ⟨t, j⟩
          · have HE : Hid (tokP s i = .error er) := HE0.out.trans hR
            clear hR
            dsimp only [tokV, tkC]
            go_wp2
            exact bodyPost_ret (results_rtt rfl _ _ w.heap.size _ _ (0, 0) _ (by rfl) (set4 HT.out) Tryz.underlying30 rfl infoTk) rfl ⟨by rw [HE.out]; rfl, bel4 HBW.out _ _ _ _⟩
          · have HE : Hid (tokP s i = .ok (t, j)) := HE0.out.trans hR
            clear hR
            dsimp only [tokV, tkC]
            go_wp2
            exact bodyPost_ret (results_rtt rfl _ _ w.heap.size _ _ (0, 0) _ (by rfl) (set4 HT.out) Tryz.underlying30 rfl infoTk) rfl ⟨by rw [HE.out]; rfl, bel4 HBW.out _ _ _ _⟩
        · rw [decide_eq_false hD]
          by_cases c34 : s[i].toNat = 34
          · have e34a : ((s[i].toNat : Nat) : Int) = 34 := by omega
            have e34b : (((s[i].toNat : Nat) : Int) == 34) = true := by rw [beq_iff_eq]; omega
            have HQ0 : Hid (Tk34 s i) := tq34 (by omega)
            go_wp2_with fail
            refine (refQuoted s i 34 _ hs hi (by omega)).mono ?_
            rintro e w3 ⟨rfl, hb3⟩
            obtain ⟨HT, HBW⟩ := heldTk hb3
            obtain ⟨c0, c1, c2, c3, f0, f1, f2, f3⟩ := zTk HT.out
            clear hb3
            rcases hR : quoP s 34 (i + 1) [] with _ | ⟨l, j⟩
            · have HE : Hid (tokP s i = .error 151) := tokP_name0 HQ0.out hR
              clear hR
              dsimp only [quoV]
              go_wp2
              exact bodyPost_ret (results_rtt rfl _ _ w.heap.size _ _ (0, 0) _ (by rfl) (set4 HT.out) Tryz.underlying30 rfl infoTk) rfl ⟨by rw [HE.out]; rfl, bel4 HBW.out _ _ _ _⟩
            · have HQ : Hid _ := tokP_name1 HQ0.out hR
              clear hR
              have hsz : (ByteArray.mk l.toArray).size = l.length := by show l.toArray.size = _; simp
              have hj0 : ¬ (j : Int) < 0 := by omega
              dsimp only [quoV]
              by_cases hn : l.length < 1
              · have hn' : (l.length : Int) < 1 := by omega
                have HE : Hid (tokP s i = .error 153) := HQ.out.trans (if_pos (by omega))
                go_wp2
                exact bodyPost_ret (results_rtt rfl _ _ w.heap.size _ _ (0, 0) _ (by rfl) (set4 HT.out) Tryz.underlying30 rfl infoTk) rfl ⟨by rw [HE.out]; rfl, bel4 HBW.out _ _ _ _⟩
              · have hn' : ¬ (l.length : Int) < 1 := by omega
                by_cases hg : 32 < l.length
                · have hg' : (32 : Int) < (l.length : Int) := by omega
                  have HE : Hid (tokP s i = .error 153) := HQ.out.trans (if_pos (by omega))
                  go_wp2
                  exact bodyPost_ret (results_rtt rfl _ _ w.heap.size _ _ (0, 0) _ (by rfl) (set4 HT.out) Tryz.underlying30 rfl infoTk) rfl ⟨by rw [HE.out]; rfl, bel4 HBW.out _ _ _ _⟩
                · have hg' : ¬ (32 : Int) < (l.length : Int) := by omega
                  have HE : Hid (tokP s i = .ok (⟨1, ⟨l.toArray⟩, 0, i⟩, j)) := HQ.out.trans (if_neg (by omega))
                  go_wp2
                  exact bodyPost_ret (results_rtt rfl _ _ w.heap.size _ _ (0, 0) _ (by rfl) (set4 HT.out) Tryz.underlying30 rfl infoTk) rfl ⟨by rw [HE.out]; rfl, bel4 HBW.out _ _ _ _⟩
          · by_cases c39 : s[i].toNat = 39
            · have n34a : ¬ ((s[i].toNat : Nat) : Int) = 34 := by omega
              have n34b : (((s[i].toNat : Nat) : Int) == 34) = false := by rw [beq_eq_false_iff_ne]; omega
              have e39a : ((s[i].toNat : Nat) : Int) = 39 := by omega
              have e39b : (((s[i].toNat : Nat) : Int) == 39) = true := by rw [beq_iff_eq]; omega
              have HQ0 : Hid (Tk39 s i) := tq39 (by omega)
              go_wp2_with fail
              refine (refQuoted s i 39 _ hs hi (by omega)).mono ?_
              rintro e w3 ⟨rfl, hb3⟩
              obtain ⟨HT, HBW⟩ := heldTk hb3
              obtain ⟨c0, c1, c2, c3, f0, f1, f2, f3⟩ := zTk HT.out
              clear hb3
              rcases hR : quoP s 39 (i + 1) [] with _ | ⟨l, j⟩
              · have HE : Hid (tokP s i = .error 151) := tokP_text0 HQ0.out hR
                clear hR
                dsimp only [quoV]
                go_wp2
                exact bodyPost_ret (results_rtt rfl _ _ w.heap.size _ _ (0, 0) _ (by rfl) (set4 HT.out) Tryz.underlying30 rfl infoTk) rfl ⟨by rw [HE.out]; rfl, bel4 HBW.out _ _ _ _⟩
              · have HQ : Hid _ := tokP_text1 HQ0.out hR
                clear hR
                have hsz : (ByteArray.mk l.toArray).size = l.length := by show l.toArray.size = _; simp
                have hj0 : ¬ (j : Int) < 0 := by omega
                dsimp only [quoV]
                by_cases hg : 4096 < l.length
                · have hg' : (4096 : Int) < (l.length : Int) := by omega
                  have HE : Hid (tokP s i = .error 4) := HQ.out.trans (if_pos (by omega))
                  go_wp2
                  exact bodyPost_ret (results_rtt rfl _ _ w.heap.size _ _ (0, 0) _ (by rfl) (set4 HT.out) Tryz.underlying30 rfl infoTk) rfl ⟨by rw [HE.out]; rfl, bel4 HBW.out _ _ _ _⟩
                · have hg' : ¬ (4096 : Int) < (l.length : Int) := by omega
                  have HE : Hid (tokP s i = .ok (⟨4, ⟨l.toArray⟩, 0, i⟩, j)) := HQ.out.trans (if_neg (by omega))
                  go_wp2
                  exact bodyPost_ret (results_rtt rfl _ _ w.heap.size _ _ (0, 0) _ (by rfl) (set4 HT.out) Tryz.underlying30 rfl infoTk) rfl ⟨by rw [HE.out]; rfl, bel4 HBW.out _ _ _ _⟩
            · have n34a : ¬ ((s[i].toNat : Nat) : Int) = 34 := by omega
              have n34b : (((s[i].toNat : Nat) : Int) == 34) = false := by rw [beq_eq_false_iff_ne]; omega
              have n39a : ¬ ((s[i].toNat : Nat) : Int) = 39 := by omega
              have n39b : (((s[i].toNat : Nat) : Int) == 39) = false := by rw [beq_eq_false_iff_ne]; omega
              have HE0 : Hid (tokP s i = signP s i) := tokP_sign (by omega) (by rw [hb0]; exact hL) (by rw [hb0]; exact hD) (by omega) (by omega)
              go_wp2_with fail
              refine (refSign s i _ hs hi).mono ?_
              rintro e w3 ⟨rfl, hb3⟩
              obtain ⟨HT, HBW⟩ := heldTk hb3
              obtain ⟨c0, c1, c2, c3, f0, f1, f2, f3⟩ := zTk HT.out
              clear hb3
              rcases hR : signP s i with er | ⟨t, j⟩
              · have HE : Hid (tokP s i = .error er) := HE0.out.trans hR
                clear hR
                dsimp only [tokV, tkC]
                go_wp2
                exact bodyPost_ret (results_rtt rfl _ _ w.heap.size _ _ (0, 0) _ (by rfl) (set4 HT.out) Tryz.underlying30 rfl infoTk) rfl ⟨by rw [HE.out]; rfl, bel4 HBW.out _ _ _ _⟩
              · have HE : Hid (tokP s i = .ok (t, j)) := HE0.out.trans hR
                clear hR
                dsimp only [tokV, tkC]
                go_wp2
                exact bodyPost_ret (results_rtt rfl _ _ w.heap.size _ _ (0, 0) _ (by rfl) (set4 HT.out) Tryz.underlying30 rfl infoTk) rfl ⟨by rw [HE.out]; rfl, bel4 HBW.out _ _ _ _⟩
end Go.Proofs.YtlidkdnfibfnfaaGreatDoor
