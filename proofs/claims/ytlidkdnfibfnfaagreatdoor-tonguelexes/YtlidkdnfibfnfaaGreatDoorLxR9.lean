import Derived.Test.YtlidkdnfibfnfaaGreatDoorLxR8
namespace Go.Proofs.YtlidkdnfibfnfaaGreatDoor
open Go.ChangeShapes Go.WideShapes Go.ChangeAt Go.RowKit
set_option linter.unusedVariables false
set_option maxRecDepth 100000
theorem ext_two {s : ByteArray} {i : Nat} (h : i + 1 < s.size) : (s.extract i (i + 2)).toList = [s[i], s[i + 1]] := by
  rw [ByteArray.toList_eq]
  apply List.ext_getElem
  · show (s.extract i (i + 2)).size = 2
    rw [ByteArray.size_extract]
    omega
  · intro k h1 h2
    have hk : k < (s.extract i (i + 2)).size := h1
    have e : (s.extract i (i + 2)).data.toList[k] = (s.extract i (i + 2))[k] := rfl
    rw [e, ByteArray.getElem_extract]
    match k, h2 with
    | 0, _ => rfl
    | 1, _ => rfl
theorem two_at {s : ByteArray} {i : Nat} (h : i + 1 < s.size) {x y : UInt8} : ((s.extract i (i + 2)).toList == [x, y]) = decide (s[i].toNat = x.toNat ∧ s[i + 1].toNat = y.toNat) := by
  rw [ext_two h]
  by_cases hh : s[i].toNat = x.toNat ∧ s[i + 1].toNat = y.toNat
  · rw [decide_eq_true hh, UInt8.toNat_inj.1 hh.1, UInt8.toNat_inj.1 hh.2, beq_self_eq_true]
  · rw [decide_eq_false hh, beq_eq_false_iff_ne]
    intro h2
    injection h2 with h3 h4
    injection h4 with h4 _
    exact hh ⟨by rw [h3], by rw [h4]⟩
theorem signP_two {s : ByteArray} {i : Nat} (h : (bA s i = 60 ∧ (bA s (i + 1) = 62 ∨ bA s (i + 1) = 61)) ∨ (bA s i = 62 ∧ bA s (i + 1) = 61) ∨ (bA s i = 124 ∧ bA s (i + 1) = 124)) : signP s i = .ok (⟨5, s.extract i (i + 2), 0, i⟩, i + 2) := by
  unfold signP
  exact if_pos h
theorem signP_ne {s : ByteArray} {i : Nat} (h : bA s i = 33 ∧ bA s (i + 1) = 61) : signP s i = .ok (⟨5, ⟨#[60, 62]⟩, 0, i⟩, i + 2) := by
  unfold signP
  exact (if_neg (by omega)).trans (if_pos h)
theorem signP_one {s : ByteArray} {i : Nat} (h1 : ¬ ((bA s i = 60 ∧ (bA s (i + 1) = 62 ∨ bA s (i + 1) = 61)) ∨ (bA s i = 62 ∧ bA s (i + 1) = 61) ∨ (bA s i = 124 ∧ bA s (i + 1) = 124))) (h2 : ¬ (bA s i = 33 ∧ bA s (i + 1) = 61)) (h3 : bA s i = 40 ∨ bA s i = 41 ∨ bA s i = 44 ∨ bA s i = 59 ∨ bA s i = 42 ∨ bA s i = 43 ∨ bA s i = 45 ∨ bA s i = 47 ∨ bA s i = 37 ∨ bA s i = 61 ∨ bA s i = 60 ∨ bA s i = 62 ∨ bA s i = 64) : signP s i = .ok (⟨5, s.extract i (i + 1), 0, i⟩, i + 1) := by
  unfold signP
  exact (if_neg h1).trans ((if_neg h2).trans (if_pos h3))
theorem signP_bad {s : ByteArray} {i : Nat} (h1 : ¬ ((bA s i = 60 ∧ (bA s (i + 1) = 62 ∨ bA s (i + 1) = 61)) ∨ (bA s i = 62 ∧ bA s (i + 1) = 61) ∨ (bA s i = 124 ∧ bA s (i + 1) = 124))) (h2 : ¬ (bA s i = 33 ∧ bA s (i + 1) = 61)) (h3 : ¬ (bA s i = 40 ∨ bA s i = 41 ∨ bA s i = 44 ∨ bA s i = 59 ∨ bA s i = 42 ∨ bA s i = 43 ∨ bA s i = 45 ∨ bA s i = 47 ∨ bA s i = 37 ∨ bA s i = 61 ∨ bA s i = 60 ∨ bA s i = 62 ∨ bA s i = 64)) : signP s i = .error 150 := by
  unfold signP
  exact (if_neg h1).trans ((if_neg h2).trans (if_neg h3))
set_option maxHeartbeats 12800000 in
theorem refSign (s : ByteArray) (i : Nat) (w : World) (hs : s.size ≤ 65536) (hi : i < s.size) : Calls Tryz.prog 21 #[.string s, .int .i64 (i : Int)] w fun e w' => e = .returned (tokV (signP s i)) ∧ Below w.heap.size w w' := by
  have hb0 := bA_of hi
  have hii : (i : Int) < (s.size : Int) := by omega
  go_enter Tryz.func21, Tryz.ntmps21
  by_cases hi1 : i + 1 < s.size
  · have hii1 : (i : Int) + 1 < (s.size : Int) := by omega
    have hb1 := bA_of hi1
    by_cases w0 : s[i].toNat = 60 ∧ s[i + 1].toNat = 62
    · have t0 : ((s.extract i (i + 2)).toList == [60, 62]) = true := by rw [two_at hi1]; exact decide_eq_true (show (s[i].toNat = 60 ∧ s[i + 1].toNat = 62) from by omega)
      have HE : Hid (signP s i = .ok (⟨5, s.extract i (i + 2), 0, i⟩, i + 2)) := signP_two (by omega)
      go_wp2
      exact bodyPost_ret (results_rtt rfl _ _ w.heap.size _ _ (0, 0) _ (by rfl) (heap_alloc_new w _) Tryz.underlying30 rfl infoTk) rfl ⟨by rw [HE.out]; rfl, belTk w _⟩
    by_cases w1 : s[i].toNat = 60 ∧ s[i + 1].toNat = 61
    · have t0 : ((s.extract i (i + 2)).toList == [60, 62]) = false := by rw [two_at hi1]; exact decide_eq_false (show ¬ (s[i].toNat = 60 ∧ s[i + 1].toNat = 62) from by omega)
      have t1 : ((s.extract i (i + 2)).toList == [60, 61]) = true := by rw [two_at hi1]; exact decide_eq_true (show (s[i].toNat = 60 ∧ s[i + 1].toNat = 61) from by omega)
      have HE : Hid (signP s i = .ok (⟨5, s.extract i (i + 2), 0, i⟩, i + 2)) := signP_two (by omega)
      go_wp2
      exact bodyPost_ret (results_rtt rfl _ _ w.heap.size _ _ (0, 0) _ (by rfl) (heap_alloc_new w _) Tryz.underlying30 rfl infoTk) rfl ⟨by rw [HE.out]; rfl, belTk w _⟩
    by_cases w2 : s[i].toNat = 62 ∧ s[i + 1].toNat = 61
    · have t0 : ((s.extract i (i + 2)).toList == [60, 62]) = false := by rw [two_at hi1]; exact decide_eq_false (show ¬ (s[i].toNat = 60 ∧ s[i + 1].toNat = 62) from by omega)
      have t1 : ((s.extract i (i + 2)).toList == [60, 61]) = false := by rw [two_at hi1]; exact decide_eq_false (show ¬ (s[i].toNat = 60 ∧ s[i + 1].toNat = 61) from by omega)
      have t2 : ((s.extract i (i + 2)).toList == [62, 61]) = true := by rw [two_at hi1]; exact decide_eq_true (show (s[i].toNat = 62 ∧ s[i + 1].toNat = 61) from by omega)
      have HE : Hid (signP s i = .ok (⟨5, s.extract i (i + 2), 0, i⟩, i + 2)) := signP_two (by omega)
      go_wp2
      exact bodyPost_ret (results_rtt rfl _ _ w.heap.size _ _ (0, 0) _ (by rfl) (heap_alloc_new w _) Tryz.underlying30 rfl infoTk) rfl ⟨by rw [HE.out]; rfl, belTk w _⟩
    by_cases w3 : s[i].toNat = 124 ∧ s[i + 1].toNat = 124
    · have t0 : ((s.extract i (i + 2)).toList == [60, 62]) = false := by rw [two_at hi1]; exact decide_eq_false (show ¬ (s[i].toNat = 60 ∧ s[i + 1].toNat = 62) from by omega)
      have t1 : ((s.extract i (i + 2)).toList == [60, 61]) = false := by rw [two_at hi1]; exact decide_eq_false (show ¬ (s[i].toNat = 60 ∧ s[i + 1].toNat = 61) from by omega)
      have t2 : ((s.extract i (i + 2)).toList == [62, 61]) = false := by rw [two_at hi1]; exact decide_eq_false (show ¬ (s[i].toNat = 62 ∧ s[i + 1].toNat = 61) from by omega)
      have t3 : ((s.extract i (i + 2)).toList == [124, 124]) = true := by rw [two_at hi1]; exact decide_eq_true (show (s[i].toNat = 124 ∧ s[i + 1].toNat = 124) from by omega)
      have HE : Hid (signP s i = .ok (⟨5, s.extract i (i + 2), 0, i⟩, i + 2)) := signP_two (by omega)
      go_wp2
      exact bodyPost_ret (results_rtt rfl _ _ w.heap.size _ _ (0, 0) _ (by rfl) (heap_alloc_new w _) Tryz.underlying30 rfl infoTk) rfl ⟨by rw [HE.out]; rfl, belTk w _⟩
    by_cases w4 : s[i].toNat = 33 ∧ s[i + 1].toNat = 61
    · have t0 : ((s.extract i (i + 2)).toList == [60, 62]) = false := by rw [two_at hi1]; exact decide_eq_false (show ¬ (s[i].toNat = 60 ∧ s[i + 1].toNat = 62) from by omega)
      have t1 : ((s.extract i (i + 2)).toList == [60, 61]) = false := by rw [two_at hi1]; exact decide_eq_false (show ¬ (s[i].toNat = 60 ∧ s[i + 1].toNat = 61) from by omega)
      have t2 : ((s.extract i (i + 2)).toList == [62, 61]) = false := by rw [two_at hi1]; exact decide_eq_false (show ¬ (s[i].toNat = 62 ∧ s[i + 1].toNat = 61) from by omega)
      have t3 : ((s.extract i (i + 2)).toList == [124, 124]) = false := by rw [two_at hi1]; exact decide_eq_false (show ¬ (s[i].toNat = 124 ∧ s[i + 1].toNat = 124) from by omega)
      have t4 : ((s.extract i (i + 2)).toList == [33, 61]) = true := by rw [two_at hi1]; exact decide_eq_true (show (s[i].toNat = 33 ∧ s[i + 1].toNat = 61) from by omega)
      have HE : Hid (signP s i = .ok (⟨5, ⟨#[60, 62]⟩, 0, i⟩, i + 2)) := signP_ne (by omega)
      go_wp2
      exact bodyPost_ret (results_rtt rfl _ _ w.heap.size _ _ (0, 0) _ (by rfl) (heap_alloc_new w _) Tryz.underlying30 rfl infoTk) rfl ⟨by rw [HE.out]; rfl, belTk w _⟩
    have t0 : ((s.extract i (i + 2)).toList == [60, 62]) = false := by rw [two_at hi1]; exact decide_eq_false (show ¬ (s[i].toNat = 60 ∧ s[i + 1].toNat = 62) from by omega)
    have t1 : ((s.extract i (i + 2)).toList == [60, 61]) = false := by rw [two_at hi1]; exact decide_eq_false (show ¬ (s[i].toNat = 60 ∧ s[i + 1].toNat = 61) from by omega)
    have t2 : ((s.extract i (i + 2)).toList == [62, 61]) = false := by rw [two_at hi1]; exact decide_eq_false (show ¬ (s[i].toNat = 62 ∧ s[i + 1].toNat = 61) from by omega)
    have t3 : ((s.extract i (i + 2)).toList == [124, 124]) = false := by rw [two_at hi1]; exact decide_eq_false (show ¬ (s[i].toNat = 124 ∧ s[i + 1].toNat = 124) from by omega)
    have t4 : ((s.extract i (i + 2)).toList == [33, 61]) = false := by rw [two_at hi1]; exact decide_eq_false (show ¬ (s[i].toNat = 33 ∧ s[i + 1].toNat = 61) from by omega)
    by_cases o40 : s[i].toNat = 40
    · have e40a : ((s[i].toNat : Nat) : Int) = 40 := by omega
      have e40b : (((s[i].toNat : Nat) : Int) == 40) = true := by rw [beq_iff_eq]; omega
      have HE : Hid (signP s i = .ok (⟨5, s.extract i (i + 1), 0, i⟩, i + 1)) := signP_one (by omega) (by omega) (by omega)
      go_wp2
      exact bodyPost_ret (results_rtt rfl _ _ w.heap.size _ _ (0, 0) _ (by rfl) (heap_alloc_new w _) Tryz.underlying30 rfl infoTk) rfl ⟨by rw [HE.out]; rfl, belTk w _⟩
    by_cases o41 : s[i].toNat = 41
    · have n40a : ¬ ((s[i].toNat : Nat) : Int) = 40 := by omega
      have n40b : (((s[i].toNat : Nat) : Int) == 40) = false := by rw [beq_eq_false_iff_ne]; omega
      have e41a : ((s[i].toNat : Nat) : Int) = 41 := by omega
      have e41b : (((s[i].toNat : Nat) : Int) == 41) = true := by rw [beq_iff_eq]; omega
      have HE : Hid (signP s i = .ok (⟨5, s.extract i (i + 1), 0, i⟩, i + 1)) := signP_one (by omega) (by omega) (by omega)
      go_wp2
      exact bodyPost_ret (results_rtt rfl _ _ w.heap.size _ _ (0, 0) _ (by rfl) (heap_alloc_new w _) Tryz.underlying30 rfl infoTk) rfl ⟨by rw [HE.out]; rfl, belTk w _⟩
    by_cases o44 : s[i].toNat = 44
    · have n40a : ¬ ((s[i].toNat : Nat) : Int) = 40 := by omega
      have n40b : (((s[i].toNat : Nat) : Int) == 40) = false := by rw [beq_eq_false_iff_ne]; omega
      have n41a : ¬ ((s[i].toNat : Nat) : Int) = 41 := by omega
      have n41b : (((s[i].toNat : Nat) : Int) == 41) = false := by rw [beq_eq_false_iff_ne]; omega
      have e44a : ((s[i].toNat : Nat) : Int) = 44 := by omega
      have e44b : (((s[i].toNat : Nat) : Int) == 44) = true := by rw [beq_iff_eq]; omega
      have HE : Hid (signP s i = .ok (⟨5, s.extract i (i + 1), 0, i⟩, i + 1)) := signP_one (by omega) (by omega) (by omega)
      go_wp2
      exact bodyPost_ret (results_rtt rfl _ _ w.heap.size _ _ (0, 0) _ (by rfl) (heap_alloc_new w _) Tryz.underlying30 rfl infoTk) rfl ⟨by rw [HE.out]; rfl, belTk w _⟩
    by_cases o59 : s[i].toNat = 59
    · have n40a : ¬ ((s[i].toNat : Nat) : Int) = 40 := by omega
      have n40b : (((s[i].toNat : Nat) : Int) == 40) = false := by rw [beq_eq_false_iff_ne]; omega
      have n41a : ¬ ((s[i].toNat : Nat) : Int) = 41 := by omega
      have n41b : (((s[i].toNat : Nat) : Int) == 41) = false := by rw [beq_eq_false_iff_ne]; omega
      have n44a : ¬ ((s[i].toNat : Nat) : Int) = 44 := by omega
      have n44b : (((s[i].toNat : Nat) : Int) == 44) = false := by rw [beq_eq_false_iff_ne]; omega
      have e59a : ((s[i].toNat : Nat) : Int) = 59 := by omega
      have e59b : (((s[i].toNat : Nat) : Int) == 59) = true := by rw [beq_iff_eq]; omega
      have HE : Hid (signP s i = .ok (⟨5, s.extract i (i + 1), 0, i⟩, i + 1)) := signP_one (by omega) (by omega) (by omega)
      go_wp2
      exact bodyPost_ret (results_rtt rfl _ _ w.heap.size _ _ (0, 0) _ (by rfl) (heap_alloc_new w _) Tryz.underlying30 rfl infoTk) rfl ⟨by rw [HE.out]; rfl, belTk w _⟩
    by_cases o42 : s[i].toNat = 42
    · have n40a : ¬ ((s[i].toNat : Nat) : Int) = 40 := by omega
      have n40b : (((s[i].toNat : Nat) : Int) == 40) = false := by rw [beq_eq_false_iff_ne]; omega
      have n41a : ¬ ((s[i].toNat : Nat) : Int) = 41 := by omega
      have n41b : (((s[i].toNat : Nat) : Int) == 41) = false := by rw [beq_eq_false_iff_ne]; omega
      have n44a : ¬ ((s[i].toNat : Nat) : Int) = 44 := by omega
      have n44b : (((s[i].toNat : Nat) : Int) == 44) = false := by rw [beq_eq_false_iff_ne]; omega
      have n59a : ¬ ((s[i].toNat : Nat) : Int) = 59 := by omega
      have n59b : (((s[i].toNat : Nat) : Int) == 59) = false := by rw [beq_eq_false_iff_ne]; omega
      have e42a : ((s[i].toNat : Nat) : Int) = 42 := by omega
      have e42b : (((s[i].toNat : Nat) : Int) == 42) = true := by rw [beq_iff_eq]; omega
      have HE : Hid (signP s i = .ok (⟨5, s.extract i (i + 1), 0, i⟩, i + 1)) := signP_one (by omega) (by omega) (by omega)
      go_wp2
      exact bodyPost_ret (results_rtt rfl _ _ w.heap.size _ _ (0, 0) _ (by rfl) (heap_alloc_new w _) Tryz.underlying30 rfl infoTk) rfl ⟨by rw [HE.out]; rfl, belTk w _⟩
    by_cases o43 : s[i].toNat = 43
    · have n40a : ¬ ((s[i].toNat : Nat) : Int) = 40 := by omega
      have n40b : (((s[i].toNat : Nat) : Int) == 40) = false := by rw [beq_eq_false_iff_ne]; omega
      have n41a : ¬ ((s[i].toNat : Nat) : Int) = 41 := by omega
      have n41b : (((s[i].toNat : Nat) : Int) == 41) = false := by rw [beq_eq_false_iff_ne]; omega
      have n44a : ¬ ((s[i].toNat : Nat) : Int) = 44 := by omega
      have n44b : (((s[i].toNat : Nat) : Int) == 44) = false := by rw [beq_eq_false_iff_ne]; omega
      have n59a : ¬ ((s[i].toNat : Nat) : Int) = 59 := by omega
      have n59b : (((s[i].toNat : Nat) : Int) == 59) = false := by rw [beq_eq_false_iff_ne]; omega
      have n42a : ¬ ((s[i].toNat : Nat) : Int) = 42 := by omega
      have n42b : (((s[i].toNat : Nat) : Int) == 42) = false := by rw [beq_eq_false_iff_ne]; omega
      have e43a : ((s[i].toNat : Nat) : Int) = 43 := by omega
      have e43b : (((s[i].toNat : Nat) : Int) == 43) = true := by rw [beq_iff_eq]; omega
      have HE : Hid (signP s i = .ok (⟨5, s.extract i (i + 1), 0, i⟩, i + 1)) := signP_one (by omega) (by omega) (by omega)
      go_wp2
      exact bodyPost_ret (results_rtt rfl _ _ w.heap.size _ _ (0, 0) _ (by rfl) (heap_alloc_new w _) Tryz.underlying30 rfl infoTk) rfl ⟨by rw [HE.out]; rfl, belTk w _⟩
    by_cases o45 : s[i].toNat = 45
    · have n40a : ¬ ((s[i].toNat : Nat) : Int) = 40 := by omega
      have n40b : (((s[i].toNat : Nat) : Int) == 40) = false := by rw [beq_eq_false_iff_ne]; omega
      have n41a : ¬ ((s[i].toNat : Nat) : Int) = 41 := by omega
      have n41b : (((s[i].toNat : Nat) : Int) == 41) = false := by rw [beq_eq_false_iff_ne]; omega
      have n44a : ¬ ((s[i].toNat : Nat) : Int) = 44 := by omega
      have n44b : (((s[i].toNat : Nat) : Int) == 44) = false := by rw [beq_eq_false_iff_ne]; omega
      have n59a : ¬ ((s[i].toNat : Nat) : Int) = 59 := by omega
      have n59b : (((s[i].toNat : Nat) : Int) == 59) = false := by rw [beq_eq_false_iff_ne]; omega
      have n42a : ¬ ((s[i].toNat : Nat) : Int) = 42 := by omega
      have n42b : (((s[i].toNat : Nat) : Int) == 42) = false := by rw [beq_eq_false_iff_ne]; omega
      have n43a : ¬ ((s[i].toNat : Nat) : Int) = 43 := by omega
      have n43b : (((s[i].toNat : Nat) : Int) == 43) = false := by rw [beq_eq_false_iff_ne]; omega
      have e45a : ((s[i].toNat : Nat) : Int) = 45 := by omega
      have e45b : (((s[i].toNat : Nat) : Int) == 45) = true := by rw [beq_iff_eq]; omega
      have HE : Hid (signP s i = .ok (⟨5, s.extract i (i + 1), 0, i⟩, i + 1)) := signP_one (by omega) (by omega) (by omega)
      go_wp2
      exact bodyPost_ret (results_rtt rfl _ _ w.heap.size _ _ (0, 0) _ (by rfl) (heap_alloc_new w _) Tryz.underlying30 rfl infoTk) rfl ⟨by rw [HE.out]; rfl, belTk w _⟩
    by_cases o47 : s[i].toNat = 47
    · have n40a : ¬ ((s[i].toNat : Nat) : Int) = 40 := by omega
      have n40b : (((s[i].toNat : Nat) : Int) == 40) = false := by rw [beq_eq_false_iff_ne]; omega
      have n41a : ¬ ((s[i].toNat : Nat) : Int) = 41 := by omega
      have n41b : (((s[i].toNat : Nat) : Int) == 41) = false := by rw [beq_eq_false_iff_ne]; omega
      have n44a : ¬ ((s[i].toNat : Nat) : Int) = 44 := by omega
      have n44b : (((s[i].toNat : Nat) : Int) == 44) = false := by rw [beq_eq_false_iff_ne]; omega
      have n59a : ¬ ((s[i].toNat : Nat) : Int) = 59 := by omega
      have n59b : (((s[i].toNat : Nat) : Int) == 59) = false := by rw [beq_eq_false_iff_ne]; omega
      have n42a : ¬ ((s[i].toNat : Nat) : Int) = 42 := by omega
      have n42b : (((s[i].toNat : Nat) : Int) == 42) = false := by rw [beq_eq_false_iff_ne]; omega
      have n43a : ¬ ((s[i].toNat : Nat) : Int) = 43 := by omega
      have n43b : (((s[i].toNat : Nat) : Int) == 43) = false := by rw [beq_eq_false_iff_ne]; omega
      have n45a : ¬ ((s[i].toNat : Nat) : Int) = 45 := by omega
      have n45b : (((s[i].toNat : Nat) : Int) == 45) = false := by rw [beq_eq_false_iff_ne]; omega
      have e47a : ((s[i].toNat : Nat) : Int) = 47 := by omega
      have e47b : (((s[i].toNat : Nat) : Int) == 47) = true := by rw [beq_iff_eq]; omega
      have HE : Hid (signP s i = .ok (⟨5, s.extract i (i + 1), 0, i⟩, i + 1)) := signP_one (by omega) (by omega) (by omega)
      go_wp2
      exact bodyPost_ret (results_rtt rfl _ _ w.heap.size _ _ (0, 0) _ (by rfl) (heap_alloc_new w _) Tryz.underlying30 rfl infoTk) rfl ⟨by rw [HE.out]; rfl, belTk w _⟩
    by_cases o37 : s[i].toNat = 37
    · have n40a : ¬ ((s[i].toNat : Nat) : Int) = 40 := by omega
      have n40b : (((s[i].toNat : Nat) : Int) == 40) = false := by rw [beq_eq_false_iff_ne]; omega
      have n41a : ¬ ((s[i].toNat : Nat) : Int) = 41 := by omega
      have n41b : (((s[i].toNat : Nat) : Int) == 41) = false := by rw [beq_eq_false_iff_ne]; omega
      have n44a : ¬ ((s[i].toNat : Nat) : Int) = 44 := by omega
      have n44b : (((s[i].toNat : Nat) : Int) == 44) = false := by rw [beq_eq_false_iff_ne]; omega
      have n59a : ¬ ((s[i].toNat : Nat) : Int) = 59 := by omega
      have n59b : (((s[i].toNat : Nat) : Int) == 59) = false := by rw [beq_eq_false_iff_ne]; omega
      have n42a : ¬ ((s[i].toNat : Nat) : Int) = 42 := by omega
      have n42b : (((s[i].toNat : Nat) : Int) == 42) = false := by rw [beq_eq_false_iff_ne]; omega
      have n43a : ¬ ((s[i].toNat : Nat) : Int) = 43 := by omega
      have n43b : (((s[i].toNat : Nat) : Int) == 43) = false := by rw [beq_eq_false_iff_ne]; omega
      have n45a : ¬ ((s[i].toNat : Nat) : Int) = 45 := by omega
      have n45b : (((s[i].toNat : Nat) : Int) == 45) = false := by rw [beq_eq_false_iff_ne]; omega
      have n47a : ¬ ((s[i].toNat : Nat) : Int) = 47 := by omega
      have n47b : (((s[i].toNat : Nat) : Int) == 47) = false := by rw [beq_eq_false_iff_ne]; omega
      have e37a : ((s[i].toNat : Nat) : Int) = 37 := by omega
      have e37b : (((s[i].toNat : Nat) : Int) == 37) = true := by rw [beq_iff_eq]; omega
      have HE : Hid (signP s i = .ok (⟨5, s.extract i (i + 1), 0, i⟩, i + 1)) := signP_one (by omega) (by omega) (by omega)
      go_wp2
      exact bodyPost_ret (results_rtt rfl _ _ w.heap.size _ _ (0, 0) _ (by rfl) (heap_alloc_new w _) Tryz.underlying30 rfl infoTk) rfl ⟨by rw [HE.out]; rfl, belTk w _⟩
    by_cases o61 : s[i].toNat = 61
    · have n40a : ¬ ((s[i].toNat : Nat) : Int) = 40 := by omega
      have n40b : (((s[i].toNat : Nat) : Int) == 40) = false := by rw [beq_eq_false_iff_ne]; omega
      have n41a : ¬ ((s[i].toNat : Nat) : Int) = 41 := by omega
      have n41b : (((s[i].toNat : Nat) : Int) == 41) = false := by rw [beq_eq_false_iff_ne]; omega
      have n44a : ¬ ((s[i].toNat : Nat) : Int) = 44 := by omega
      have n44b : (((s[i].toNat : Nat) : Int) == 44) = false := by rw [beq_eq_false_iff_ne]; omega
      have n59a : ¬ ((s[i].toNat : Nat) : Int) = 59 := by omega
      have n59b : (((s[i].toNat : Nat) : Int) == 59) = false := by rw [beq_eq_false_iff_ne]; omega
      have n42a : ¬ ((s[i].toNat : Nat) : Int) = 42 := by omega
      have n42b : (((s[i].toNat : Nat) : Int) == 42) = false := by rw [beq_eq_false_iff_ne]; omega
      have n43a : ¬ ((s[i].toNat : Nat) : Int) = 43 := by omega
      have n43b : (((s[i].toNat : Nat) : Int) == 43) = false := by rw [beq_eq_false_iff_ne]; omega
      have n45a : ¬ ((s[i].toNat : Nat) : Int) = 45 := by omega
      have n45b : (((s[i].toNat : Nat) : Int) == 45) = false := by rw [beq_eq_false_iff_ne]; omega
      have n47a : ¬ ((s[i].toNat : Nat) : Int) = 47 := by omega
      have n47b : (((s[i].toNat : Nat) : Int) == 47) = false := by rw [beq_eq_false_iff_ne]; omega
      have n37a : ¬ ((s[i].toNat : Nat) : Int) = 37 := by omega
      have n37b : (((s[i].toNat : Nat) : Int) == 37) = false := by rw [beq_eq_false_iff_ne]; omega
      have e61a : ((s[i].toNat : Nat) : Int) = 61 := by omega
      have e61b : (((s[i].toNat : Nat) : Int) == 61) = true := by rw [beq_iff_eq]; omega
      have HE : Hid (signP s i = .ok (⟨5, s.extract i (i + 1), 0, i⟩, i + 1)) := signP_one (by omega) (by omega) (by omega)
      go_wp2
      exact bodyPost_ret (results_rtt rfl _ _ w.heap.size _ _ (0, 0) _ (by rfl) (heap_alloc_new w _) Tryz.underlying30 rfl infoTk) rfl ⟨by rw [HE.out]; rfl, belTk w _⟩
    by_cases o60 : s[i].toNat = 60
    · have n40a : ¬ ((s[i].toNat : Nat) : Int) = 40 := by omega
      have n40b : (((s[i].toNat : Nat) : Int) == 40) = false := by rw [beq_eq_false_iff_ne]; omega
      have n41a : ¬ ((s[i].toNat : Nat) : Int) = 41 := by omega
      have n41b : (((s[i].toNat : Nat) : Int) == 41) = false := by rw [beq_eq_false_iff_ne]; omega
      have n44a : ¬ ((s[i].toNat : Nat) : Int) = 44 := by omega
      have n44b : (((s[i].toNat : Nat) : Int) == 44) = false := by rw [beq_eq_false_iff_ne]; omega
      have n59a : ¬ ((s[i].toNat : Nat) : Int) = 59 := by omega
      have n59b : (((s[i].toNat : Nat) : Int) == 59) = false := by rw [beq_eq_false_iff_ne]; omega
      have n42a : ¬ ((s[i].toNat : Nat) : Int) = 42 := by omega
      have n42b : (((s[i].toNat : Nat) : Int) == 42) = false := by rw [beq_eq_false_iff_ne]; omega
      have n43a : ¬ ((s[i].toNat : Nat) : Int) = 43 := by omega
      have n43b : (((s[i].toNat : Nat) : Int) == 43) = false := by rw [beq_eq_false_iff_ne]; omega
      have n45a : ¬ ((s[i].toNat : Nat) : Int) = 45 := by omega
      have n45b : (((s[i].toNat : Nat) : Int) == 45) = false := by rw [beq_eq_false_iff_ne]; omega
      have n47a : ¬ ((s[i].toNat : Nat) : Int) = 47 := by omega
      have n47b : (((s[i].toNat : Nat) : Int) == 47) = false := by rw [beq_eq_false_iff_ne]; omega
      have n37a : ¬ ((s[i].toNat : Nat) : Int) = 37 := by omega
      have n37b : (((s[i].toNat : Nat) : Int) == 37) = false := by rw [beq_eq_false_iff_ne]; omega
      have n61a : ¬ ((s[i].toNat : Nat) : Int) = 61 := by omega
      have n61b : (((s[i].toNat : Nat) : Int) == 61) = false := by rw [beq_eq_false_iff_ne]; omega
      have e60a : ((s[i].toNat : Nat) : Int) = 60 := by omega
      have e60b : (((s[i].toNat : Nat) : Int) == 60) = true := by rw [beq_iff_eq]; omega
      have HE : Hid (signP s i = .ok (⟨5, s.extract i (i + 1), 0, i⟩, i + 1)) := signP_one (by omega) (by omega) (by omega)
      go_wp2
      exact bodyPost_ret (results_rtt rfl _ _ w.heap.size _ _ (0, 0) _ (by rfl) (heap_alloc_new w _) Tryz.underlying30 rfl infoTk) rfl ⟨by rw [HE.out]; rfl, belTk w _⟩
    by_cases o62 : s[i].toNat = 62
    · have n40a : ¬ ((s[i].toNat : Nat) : Int) = 40 := by omega
      have n40b : (((s[i].toNat : Nat) : Int) == 40) = false := by rw [beq_eq_false_iff_ne]; omega
      have n41a : ¬ ((s[i].toNat : Nat) : Int) = 41 := by omega
      have n41b : (((s[i].toNat : Nat) : Int) == 41) = false := by rw [beq_eq_false_iff_ne]; omega
      have n44a : ¬ ((s[i].toNat : Nat) : Int) = 44 := by omega
      have n44b : (((s[i].toNat : Nat) : Int) == 44) = false := by rw [beq_eq_false_iff_ne]; omega
      have n59a : ¬ ((s[i].toNat : Nat) : Int) = 59 := by omega
      have n59b : (((s[i].toNat : Nat) : Int) == 59) = false := by rw [beq_eq_false_iff_ne]; omega
      have n42a : ¬ ((s[i].toNat : Nat) : Int) = 42 := by omega
      have n42b : (((s[i].toNat : Nat) : Int) == 42) = false := by rw [beq_eq_false_iff_ne]; omega
      have n43a : ¬ ((s[i].toNat : Nat) : Int) = 43 := by omega
      have n43b : (((s[i].toNat : Nat) : Int) == 43) = false := by rw [beq_eq_false_iff_ne]; omega
      have n45a : ¬ ((s[i].toNat : Nat) : Int) = 45 := by omega
      have n45b : (((s[i].toNat : Nat) : Int) == 45) = false := by rw [beq_eq_false_iff_ne]; omega
      have n47a : ¬ ((s[i].toNat : Nat) : Int) = 47 := by omega
      have n47b : (((s[i].toNat : Nat) : Int) == 47) = false := by rw [beq_eq_false_iff_ne]; omega
      have n37a : ¬ ((s[i].toNat : Nat) : Int) = 37 := by omega
      have n37b : (((s[i].toNat : Nat) : Int) == 37) = false := by rw [beq_eq_false_iff_ne]; omega
      have n61a : ¬ ((s[i].toNat : Nat) : Int) = 61 := by omega
      have n61b : (((s[i].toNat : Nat) : Int) == 61) = false := by rw [beq_eq_false_iff_ne]; omega
      have n60a : ¬ ((s[i].toNat : Nat) : Int) = 60 := by omega
      have n60b : (((s[i].toNat : Nat) : Int) == 60) = false := by rw [beq_eq_false_iff_ne]; omega
      have e62a : ((s[i].toNat : Nat) : Int) = 62 := by omega
      have e62b : (((s[i].toNat : Nat) : Int) == 62) = true := by rw [beq_iff_eq]; omega
      have HE : Hid (signP s i = .ok (⟨5, s.extract i (i + 1), 0, i⟩, i + 1)) := signP_one (by omega) (by omega) (by omega)
      go_wp2
      exact bodyPost_ret (results_rtt rfl _ _ w.heap.size _ _ (0, 0) _ (by rfl) (heap_alloc_new w _) Tryz.underlying30 rfl infoTk) rfl ⟨by rw [HE.out]; rfl, belTk w _⟩
    by_cases o64 : s[i].toNat = 64
    · have n40a : ¬ ((s[i].toNat : Nat) : Int) = 40 := by omega
      have n40b : (((s[i].toNat : Nat) : Int) == 40) = false := by rw [beq_eq_false_iff_ne]; omega
      have n41a : ¬ ((s[i].toNat : Nat) : Int) = 41 := by omega
      have n41b : (((s[i].toNat : Nat) : Int) == 41) = false := by rw [beq_eq_false_iff_ne]; omega
      have n44a : ¬ ((s[i].toNat : Nat) : Int) = 44 := by omega
      have n44b : (((s[i].toNat : Nat) : Int) == 44) = false := by rw [beq_eq_false_iff_ne]; omega
      have n59a : ¬ ((s[i].toNat : Nat) : Int) = 59 := by omega
      have n59b : (((s[i].toNat : Nat) : Int) == 59) = false := by rw [beq_eq_false_iff_ne]; omega
      have n42a : ¬ ((s[i].toNat : Nat) : Int) = 42 := by omega
      have n42b : (((s[i].toNat : Nat) : Int) == 42) = false := by rw [beq_eq_false_iff_ne]; omega
      have n43a : ¬ ((s[i].toNat : Nat) : Int) = 43 := by omega
      have n43b : (((s[i].toNat : Nat) : Int) == 43) = false := by rw [beq_eq_false_iff_ne]; omega
      have n45a : ¬ ((s[i].toNat : Nat) : Int) = 45 := by omega
      have n45b : (((s[i].toNat : Nat) : Int) == 45) = false := by rw [beq_eq_false_iff_ne]; omega
      have n47a : ¬ ((s[i].toNat : Nat) : Int) = 47 := by omega
      have n47b : (((s[i].toNat : Nat) : Int) == 47) = false := by rw [beq_eq_false_iff_ne]; omega
      have n37a : ¬ ((s[i].toNat : Nat) : Int) = 37 := by omega
      have n37b : (((s[i].toNat : Nat) : Int) == 37) = false := by rw [beq_eq_false_iff_ne]; omega
      have n61a : ¬ ((s[i].toNat : Nat) : Int) = 61 := by omega
      have n61b : (((s[i].toNat : Nat) : Int) == 61) = false := by rw [beq_eq_false_iff_ne]; omega
      have n60a : ¬ ((s[i].toNat : Nat) : Int) = 60 := by omega
      have n60b : (((s[i].toNat : Nat) : Int) == 60) = false := by rw [beq_eq_false_iff_ne]; omega
      have n62a : ¬ ((s[i].toNat : Nat) : Int) = 62 := by omega
      have n62b : (((s[i].toNat : Nat) : Int) == 62) = false := by rw [beq_eq_false_iff_ne]; omega
      have e64a : ((s[i].toNat : Nat) : Int) = 64 := by omega
      have e64b : (((s[i].toNat : Nat) : Int) == 64) = true := by rw [beq_iff_eq]; omega
      have HE : Hid (signP s i = .ok (⟨5, s.extract i (i + 1), 0, i⟩, i + 1)) := signP_one (by omega) (by omega) (by omega)
      go_wp2
      exact bodyPost_ret (results_rtt rfl _ _ w.heap.size _ _ (0, 0) _ (by rfl) (heap_alloc_new w _) Tryz.underlying30 rfl infoTk) rfl ⟨by rw [HE.out]; rfl, belTk w _⟩
    have n40a : ¬ ((s[i].toNat : Nat) : Int) = 40 := by omega
    have n40b : (((s[i].toNat : Nat) : Int) == 40) = false := by rw [beq_eq_false_iff_ne]; omega
    have n41a : ¬ ((s[i].toNat : Nat) : Int) = 41 := by omega
    have n41b : (((s[i].toNat : Nat) : Int) == 41) = false := by rw [beq_eq_false_iff_ne]; omega
    have n44a : ¬ ((s[i].toNat : Nat) : Int) = 44 := by omega
    have n44b : (((s[i].toNat : Nat) : Int) == 44) = false := by rw [beq_eq_false_iff_ne]; omega
    have n59a : ¬ ((s[i].toNat : Nat) : Int) = 59 := by omega
    have n59b : (((s[i].toNat : Nat) : Int) == 59) = false := by rw [beq_eq_false_iff_ne]; omega
    have n42a : ¬ ((s[i].toNat : Nat) : Int) = 42 := by omega
    have n42b : (((s[i].toNat : Nat) : Int) == 42) = false := by rw [beq_eq_false_iff_ne]; omega
    have n43a : ¬ ((s[i].toNat : Nat) : Int) = 43 := by omega
    have n43b : (((s[i].toNat : Nat) : Int) == 43) = false := by rw [beq_eq_false_iff_ne]; omega
    have n45a : ¬ ((s[i].toNat : Nat) : Int) = 45 := by omega
    have n45b : (((s[i].toNat : Nat) : Int) == 45) = false := by rw [beq_eq_false_iff_ne]; omega
    have n47a : ¬ ((s[i].toNat : Nat) : Int) = 47 := by omega
    have n47b : (((s[i].toNat : Nat) : Int) == 47) = false := by rw [beq_eq_false_iff_ne]; omega
    have n37a : ¬ ((s[i].toNat : Nat) : Int) = 37 := by omega
    have n37b : (((s[i].toNat : Nat) : Int) == 37) = false := by rw [beq_eq_false_iff_ne]; omega
    have n61a : ¬ ((s[i].toNat : Nat) : Int) = 61 := by omega
    have n61b : (((s[i].toNat : Nat) : Int) == 61) = false := by rw [beq_eq_false_iff_ne]; omega
    have n60a : ¬ ((s[i].toNat : Nat) : Int) = 60 := by omega
    have n60b : (((s[i].toNat : Nat) : Int) == 60) = false := by rw [beq_eq_false_iff_ne]; omega
    have n62a : ¬ ((s[i].toNat : Nat) : Int) = 62 := by omega
    have n62b : (((s[i].toNat : Nat) : Int) == 62) = false := by rw [beq_eq_false_iff_ne]; omega
    have n64a : ¬ ((s[i].toNat : Nat) : Int) = 64 := by omega
    have n64b : (((s[i].toNat : Nat) : Int) == 64) = false := by rw [beq_eq_false_iff_ne]; omega
    have HE : Hid (signP s i = .error 150) := signP_bad (by omega) (by omega) (by omega)
    go_wp2
    exact bodyPost_ret (results_rtt rfl _ _ w.heap.size _ _ (0, 0) _ (by rfl) (heap_alloc_new w _) Tryz.underlying30 rfl infoTk) rfl ⟨by rw [HE.out]; rfl, belTk w _⟩
  · have hii1 : ¬ (i : Int) + 1 < (s.size : Int) := by omega
    have hb1 : bA s (i + 1) = 256 := bA_out (by omega)
    by_cases o40 : s[i].toNat = 40
    · have e40a : ((s[i].toNat : Nat) : Int) = 40 := by omega
      have e40b : (((s[i].toNat : Nat) : Int) == 40) = true := by rw [beq_iff_eq]; omega
      have HE : Hid (signP s i = .ok (⟨5, s.extract i (i + 1), 0, i⟩, i + 1)) := signP_one (by omega) (by omega) (by omega)
      go_wp2
      exact bodyPost_ret (results_rtt rfl _ _ w.heap.size _ _ (0, 0) _ (by rfl) (heap_alloc_new w _) Tryz.underlying30 rfl infoTk) rfl ⟨by rw [HE.out]; rfl, belTk w _⟩
    by_cases o41 : s[i].toNat = 41
    · have n40a : ¬ ((s[i].toNat : Nat) : Int) = 40 := by omega
      have n40b : (((s[i].toNat : Nat) : Int) == 40) = false := by rw [beq_eq_false_iff_ne]; omega
      have e41a : ((s[i].toNat : Nat) : Int) = 41 := by omega
      have e41b : (((s[i].toNat : Nat) : Int) == 41) = true := by rw [beq_iff_eq]; omega
      have HE : Hid (signP s i = .ok (⟨5, s.extract i (i + 1), 0, i⟩, i + 1)) := signP_one (by omega) (by omega) (by omega)
      go_wp2
      exact bodyPost_ret (results_rtt rfl _ _ w.heap.size _ _ (0, 0) _ (by rfl) (heap_alloc_new w _) Tryz.underlying30 rfl infoTk) rfl ⟨by rw [HE.out]; rfl, belTk w _⟩
    by_cases o44 : s[i].toNat = 44
    · have n40a : ¬ ((s[i].toNat : Nat) : Int) = 40 := by omega
      have n40b : (((s[i].toNat : Nat) : Int) == 40) = false := by rw [beq_eq_false_iff_ne]; omega
      have n41a : ¬ ((s[i].toNat : Nat) : Int) = 41 := by omega
      have n41b : (((s[i].toNat : Nat) : Int) == 41) = false := by rw [beq_eq_false_iff_ne]; omega
      have e44a : ((s[i].toNat : Nat) : Int) = 44 := by omega
      have e44b : (((s[i].toNat : Nat) : Int) == 44) = true := by rw [beq_iff_eq]; omega
      have HE : Hid (signP s i = .ok (⟨5, s.extract i (i + 1), 0, i⟩, i + 1)) := signP_one (by omega) (by omega) (by omega)
      go_wp2
      exact bodyPost_ret (results_rtt rfl _ _ w.heap.size _ _ (0, 0) _ (by rfl) (heap_alloc_new w _) Tryz.underlying30 rfl infoTk) rfl ⟨by rw [HE.out]; rfl, belTk w _⟩
    by_cases o59 : s[i].toNat = 59
    · have n40a : ¬ ((s[i].toNat : Nat) : Int) = 40 := by omega
      have n40b : (((s[i].toNat : Nat) : Int) == 40) = false := by rw [beq_eq_false_iff_ne]; omega
      have n41a : ¬ ((s[i].toNat : Nat) : Int) = 41 := by omega
      have n41b : (((s[i].toNat : Nat) : Int) == 41) = false := by rw [beq_eq_false_iff_ne]; omega
      have n44a : ¬ ((s[i].toNat : Nat) : Int) = 44 := by omega
      have n44b : (((s[i].toNat : Nat) : Int) == 44) = false := by rw [beq_eq_false_iff_ne]; omega
      have e59a : ((s[i].toNat : Nat) : Int) = 59 := by omega
      have e59b : (((s[i].toNat : Nat) : Int) == 59) = true := by rw [beq_iff_eq]; omega
      have HE : Hid (signP s i = .ok (⟨5, s.extract i (i + 1), 0, i⟩, i + 1)) := signP_one (by omega) (by omega) (by omega)
      go_wp2
      exact bodyPost_ret (results_rtt rfl _ _ w.heap.size _ _ (0, 0) _ (by rfl) (heap_alloc_new w _) Tryz.underlying30 rfl infoTk) rfl ⟨by rw [HE.out]; rfl, belTk w _⟩
    by_cases o42 : s[i].toNat = 42
    · have n40a : ¬ ((s[i].toNat : Nat) : Int) = 40 := by omega
      have n40b : (((s[i].toNat : Nat) : Int) == 40) = false := by rw [beq_eq_false_iff_ne]; omega
      have n41a : ¬ ((s[i].toNat : Nat) : Int) = 41 := by omega
      have n41b : (((s[i].toNat : Nat) : Int) == 41) = false := by rw [beq_eq_false_iff_ne]; omega
      have n44a : ¬ ((s[i].toNat : Nat) : Int) = 44 := by omega
      have n44b : (((s[i].toNat : Nat) : Int) == 44) = false := by rw [beq_eq_false_iff_ne]; omega
      have n59a : ¬ ((s[i].toNat : Nat) : Int) = 59 := by omega
      have n59b : (((s[i].toNat : Nat) : Int) == 59) = false := by rw [beq_eq_false_iff_ne]; omega
      have e42a : ((s[i].toNat : Nat) : Int) = 42 := by omega
      have e42b : (((s[i].toNat : Nat) : Int) == 42) = true := by rw [beq_iff_eq]; omega
      have HE : Hid (signP s i = .ok (⟨5, s.extract i (i + 1), 0, i⟩, i + 1)) := signP_one (by omega) (by omega) (by omega)
      go_wp2
      exact bodyPost_ret (results_rtt rfl _ _ w.heap.size _ _ (0, 0) _ (by rfl) (heap_alloc_new w _) Tryz.underlying30 rfl infoTk) rfl ⟨by rw [HE.out]; rfl, belTk w _⟩
    by_cases o43 : s[i].toNat = 43
    · have n40a : ¬ ((s[i].toNat : Nat) : Int) = 40 := by omega
      have n40b : (((s[i].toNat : Nat) : Int) == 40) = false := by rw [beq_eq_false_iff_ne]; omega
      have n41a : ¬ ((s[i].toNat : Nat) : Int) = 41 := by omega
      have n41b : (((s[i].toNat : Nat) : Int) == 41) = false := by rw [beq_eq_false_iff_ne]; omega
      have n44a : ¬ ((s[i].toNat : Nat) : Int) = 44 := by omega
      have n44b : (((s[i].toNat : Nat) : Int) == 44) = false := by rw [beq_eq_false_iff_ne]; omega
      have n59a : ¬ ((s[i].toNat : Nat) : Int) = 59 := by omega
      have n59b : (((s[i].toNat : Nat) : Int) == 59) = false := by rw [beq_eq_false_iff_ne]; omega
      have n42a : ¬ ((s[i].toNat : Nat) : Int) = 42 := by omega
      have n42b : (((s[i].toNat : Nat) : Int) == 42) = false := by rw [beq_eq_false_iff_ne]; omega
      have e43a : ((s[i].toNat : Nat) : Int) = 43 := by omega
      have e43b : (((s[i].toNat : Nat) : Int) == 43) = true := by rw [beq_iff_eq]; omega
      have HE : Hid (signP s i = .ok (⟨5, s.extract i (i + 1), 0, i⟩, i + 1)) := signP_one (by omega) (by omega) (by omega)
      go_wp2
      exact bodyPost_ret (results_rtt rfl _ _ w.heap.size _ _ (0, 0) _ (by rfl) (heap_alloc_new w _) Tryz.underlying30 rfl infoTk) rfl ⟨by rw [HE.out]; rfl, belTk w _⟩
    by_cases o45 : s[i].toNat = 45
    · have n40a : ¬ ((s[i].toNat : Nat) : Int) = 40 := by omega
      have n40b : (((s[i].toNat : Nat) : Int) == 40) = false := by rw [beq_eq_false_iff_ne]; omega
      have n41a : ¬ ((s[i].toNat : Nat) : Int) = 41 := by omega
      have n41b : (((s[i].toNat : Nat) : Int) == 41) = false := by rw [beq_eq_false_iff_ne]; omega
      have n44a : ¬ ((s[i].toNat : Nat) : Int) = 44 := by omega
      have n44b : (((s[i].toNat : Nat) : Int) == 44) = false := by rw [beq_eq_false_iff_ne]; omega
      have n59a : ¬ ((s[i].toNat : Nat) : Int) = 59 := by omega
      have n59b : (((s[i].toNat : Nat) : Int) == 59) = false := by rw [beq_eq_false_iff_ne]; omega
      have n42a : ¬ ((s[i].toNat : Nat) : Int) = 42 := by omega
      have n42b : (((s[i].toNat : Nat) : Int) == 42) = false := by rw [beq_eq_false_iff_ne]; omega
      have n43a : ¬ ((s[i].toNat : Nat) : Int) = 43 := by omega
      have n43b : (((s[i].toNat : Nat) : Int) == 43) = false := by rw [beq_eq_false_iff_ne]; omega
      have e45a : ((s[i].toNat : Nat) : Int) = 45 := by omega
      have e45b : (((s[i].toNat : Nat) : Int) == 45) = true := by rw [beq_iff_eq]; omega
      have HE : Hid (signP s i = .ok (⟨5, s.extract i (i + 1), 0, i⟩, i + 1)) := signP_one (by omega) (by omega) (by omega)
      go_wp2
      exact bodyPost_ret (results_rtt rfl _ _ w.heap.size _ _ (0, 0) _ (by rfl) (heap_alloc_new w _) Tryz.underlying30 rfl infoTk) rfl ⟨by rw [HE.out]; rfl, belTk w _⟩
    by_cases o47 : s[i].toNat = 47
    · have n40a : ¬ ((s[i].toNat : Nat) : Int) = 40 := by omega
      have n40b : (((s[i].toNat : Nat) : Int) == 40) = false := by rw [beq_eq_false_iff_ne]; omega
      have n41a : ¬ ((s[i].toNat : Nat) : Int) = 41 := by omega
      have n41b : (((s[i].toNat : Nat) : Int) == 41) = false := by rw [beq_eq_false_iff_ne]; omega
      have n44a : ¬ ((s[i].toNat : Nat) : Int) = 44 := by omega
      have n44b : (((s[i].toNat : Nat) : Int) == 44) = false := by rw [beq_eq_false_iff_ne]; omega
      have n59a : ¬ ((s[i].toNat : Nat) : Int) = 59 := by omega
      have n59b : (((s[i].toNat : Nat) : Int) == 59) = false := by rw [beq_eq_false_iff_ne]; omega
      have n42a : ¬ ((s[i].toNat : Nat) : Int) = 42 := by omega
      have n42b : (((s[i].toNat : Nat) : Int) == 42) = false := by rw [beq_eq_false_iff_ne]; omega
      have n43a : ¬ ((s[i].toNat : Nat) : Int) = 43 := by omega
      have n43b : (((s[i].toNat : Nat) : Int) == 43) = false := by rw [beq_eq_false_iff_ne]; omega
      have n45a : ¬ ((s[i].toNat : Nat) : Int) = 45 := by omega
      have n45b : (((s[i].toNat : Nat) : Int) == 45) = false := by rw [beq_eq_false_iff_ne]; omega
      have e47a : ((s[i].toNat : Nat) : Int) = 47 := by omega
      have e47b : (((s[i].toNat : Nat) : Int) == 47) = true := by rw [beq_iff_eq]; omega
      have HE : Hid (signP s i = .ok (⟨5, s.extract i (i + 1), 0, i⟩, i + 1)) := signP_one (by omega) (by omega) (by omega)
      go_wp2
      exact bodyPost_ret (results_rtt rfl _ _ w.heap.size _ _ (0, 0) _ (by rfl) (heap_alloc_new w _) Tryz.underlying30 rfl infoTk) rfl ⟨by rw [HE.out]; rfl, belTk w _⟩
    by_cases o37 : s[i].toNat = 37
    · have n40a : ¬ ((s[i].toNat : Nat) : Int) = 40 := by omega
      have n40b : (((s[i].toNat : Nat) : Int) == 40) = false := by rw [beq_eq_false_iff_ne]; omega
      have n41a : ¬ ((s[i].toNat : Nat) : Int) = 41 := by omega
      have n41b : (((s[i].toNat : Nat) : Int) == 41) = false := by rw [beq_eq_false_iff_ne]; omega
      have n44a : ¬ ((s[i].toNat : Nat) : Int) = 44 := by omega
      have n44b : (((s[i].toNat : Nat) : Int) == 44) = false := by rw [beq_eq_false_iff_ne]; omega
      have n59a : ¬ ((s[i].toNat : Nat) : Int) = 59 := by omega
      have n59b : (((s[i].toNat : Nat) : Int) == 59) = false := by rw [beq_eq_false_iff_ne]; omega
      have n42a : ¬ ((s[i].toNat : Nat) : Int) = 42 := by omega
      have n42b : (((s[i].toNat : Nat) : Int) == 42) = false := by rw [beq_eq_false_iff_ne]; omega
      have n43a : ¬ ((s[i].toNat : Nat) : Int) = 43 := by omega
      have n43b : (((s[i].toNat : Nat) : Int) == 43) = false := by rw [beq_eq_false_iff_ne]; omega
      have n45a : ¬ ((s[i].toNat : Nat) : Int) = 45 := by omega
      have n45b : (((s[i].toNat : Nat) : Int) == 45) = false := by rw [beq_eq_false_iff_ne]; omega
      have n47a : ¬ ((s[i].toNat : Nat) : Int) = 47 := by omega
      have n47b : (((s[i].toNat : Nat) : Int) == 47) = false := by rw [beq_eq_false_iff_ne]; omega
      have e37a : ((s[i].toNat : Nat) : Int) = 37 := by omega
      have e37b : (((s[i].toNat : Nat) : Int) == 37) = true := by rw [beq_iff_eq]; omega
      have HE : Hid (signP s i = .ok (⟨5, s.extract i (i + 1), 0, i⟩, i + 1)) := signP_one (by omega) (by omega) (by omega)
      go_wp2
      exact bodyPost_ret (results_rtt rfl _ _ w.heap.size _ _ (0, 0) _ (by rfl) (heap_alloc_new w _) Tryz.underlying30 rfl infoTk) rfl ⟨by rw [HE.out]; rfl, belTk w _⟩
    by_cases o61 : s[i].toNat = 61
    · have n40a : ¬ ((s[i].toNat : Nat) : Int) = 40 := by omega
      have n40b : (((s[i].toNat : Nat) : Int) == 40) = false := by rw [beq_eq_false_iff_ne]; omega
      have n41a : ¬ ((s[i].toNat : Nat) : Int) = 41 := by omega
      have n41b : (((s[i].toNat : Nat) : Int) == 41) = false := by rw [beq_eq_false_iff_ne]; omega
      have n44a : ¬ ((s[i].toNat : Nat) : Int) = 44 := by omega
      have n44b : (((s[i].toNat : Nat) : Int) == 44) = false := by rw [beq_eq_false_iff_ne]; omega
      have n59a : ¬ ((s[i].toNat : Nat) : Int) = 59 := by omega
      have n59b : (((s[i].toNat : Nat) : Int) == 59) = false := by rw [beq_eq_false_iff_ne]; omega
      have n42a : ¬ ((s[i].toNat : Nat) : Int) = 42 := by omega
      have n42b : (((s[i].toNat : Nat) : Int) == 42) = false := by rw [beq_eq_false_iff_ne]; omega
      have n43a : ¬ ((s[i].toNat : Nat) : Int) = 43 := by omega
      have n43b : (((s[i].toNat : Nat) : Int) == 43) = false := by rw [beq_eq_false_iff_ne]; omega
      have n45a : ¬ ((s[i].toNat : Nat) : Int) = 45 := by omega
      have n45b : (((s[i].toNat : Nat) : Int) == 45) = false := by rw [beq_eq_false_iff_ne]; omega
      have n47a : ¬ ((s[i].toNat : Nat) : Int) = 47 := by omega
      have n47b : (((s[i].toNat : Nat) : Int) == 47) = false := by rw [beq_eq_false_iff_ne]; omega
      have n37a : ¬ ((s[i].toNat : Nat) : Int) = 37 := by omega
      have n37b : (((s[i].toNat : Nat) : Int) == 37) = false := by rw [beq_eq_false_iff_ne]; omega
      have e61a : ((s[i].toNat : Nat) : Int) = 61 := by omega
      have e61b : (((s[i].toNat : Nat) : Int) == 61) = true := by rw [beq_iff_eq]; omega
      have HE : Hid (signP s i = .ok (⟨5, s.extract i (i + 1), 0, i⟩, i + 1)) := signP_one (by omega) (by omega) (by omega)
      go_wp2
      exact bodyPost_ret (results_rtt rfl _ _ w.heap.size _ _ (0, 0) _ (by rfl) (heap_alloc_new w _) Tryz.underlying30 rfl infoTk) rfl ⟨by rw [HE.out]; rfl, belTk w _⟩
    by_cases o60 : s[i].toNat = 60
    · have n40a : ¬ ((s[i].toNat : Nat) : Int) = 40 := by omega
      have n40b : (((s[i].toNat : Nat) : Int) == 40) = false := by rw [beq_eq_false_iff_ne]; omega
      have n41a : ¬ ((s[i].toNat : Nat) : Int) = 41 := by omega
      have n41b : (((s[i].toNat : Nat) : Int) == 41) = false := by rw [beq_eq_false_iff_ne]; omega
      have n44a : ¬ ((s[i].toNat : Nat) : Int) = 44 := by omega
      have n44b : (((s[i].toNat : Nat) : Int) == 44) = false := by rw [beq_eq_false_iff_ne]; omega
      have n59a : ¬ ((s[i].toNat : Nat) : Int) = 59 := by omega
      have n59b : (((s[i].toNat : Nat) : Int) == 59) = false := by rw [beq_eq_false_iff_ne]; omega
      have n42a : ¬ ((s[i].toNat : Nat) : Int) = 42 := by omega
      have n42b : (((s[i].toNat : Nat) : Int) == 42) = false := by rw [beq_eq_false_iff_ne]; omega
      have n43a : ¬ ((s[i].toNat : Nat) : Int) = 43 := by omega
      have n43b : (((s[i].toNat : Nat) : Int) == 43) = false := by rw [beq_eq_false_iff_ne]; omega
      have n45a : ¬ ((s[i].toNat : Nat) : Int) = 45 := by omega
      have n45b : (((s[i].toNat : Nat) : Int) == 45) = false := by rw [beq_eq_false_iff_ne]; omega
      have n47a : ¬ ((s[i].toNat : Nat) : Int) = 47 := by omega
      have n47b : (((s[i].toNat : Nat) : Int) == 47) = false := by rw [beq_eq_false_iff_ne]; omega
      have n37a : ¬ ((s[i].toNat : Nat) : Int) = 37 := by omega
      have n37b : (((s[i].toNat : Nat) : Int) == 37) = false := by rw [beq_eq_false_iff_ne]; omega
      have n61a : ¬ ((s[i].toNat : Nat) : Int) = 61 := by omega
      have n61b : (((s[i].toNat : Nat) : Int) == 61) = false := by rw [beq_eq_false_iff_ne]; omega
      have e60a : ((s[i].toNat : Nat) : Int) = 60 := by omega
      have e60b : (((s[i].toNat : Nat) : Int) == 60) = true := by rw [beq_iff_eq]; omega
      have HE : Hid (signP s i = .ok (⟨5, s.extract i (i + 1), 0, i⟩, i + 1)) := signP_one (by omega) (by omega) (by omega)
      go_wp2
      exact bodyPost_ret (results_rtt rfl _ _ w.heap.size _ _ (0, 0) _ (by rfl) (heap_alloc_new w _) Tryz.underlying30 rfl infoTk) rfl ⟨by rw [HE.out]; rfl, belTk w _⟩
    by_cases o62 : s[i].toNat = 62
    · have n40a : ¬ ((s[i].toNat : Nat) : Int) = 40 := by omega
      have n40b : (((s[i].toNat : Nat) : Int) == 40) = false := by rw [beq_eq_false_iff_ne]; omega
      have n41a : ¬ ((s[i].toNat : Nat) : Int) = 41 := by omega
      have n41b : (((s[i].toNat : Nat) : Int) == 41) = false := by rw [beq_eq_false_iff_ne]; omega
      have n44a : ¬ ((s[i].toNat : Nat) : Int) = 44 := by omega
      have n44b : (((s[i].toNat : Nat) : Int) == 44) = false := by rw [beq_eq_false_iff_ne]; omega
      have n59a : ¬ ((s[i].toNat : Nat) : Int) = 59 := by omega
      have n59b : (((s[i].toNat : Nat) : Int) == 59) = false := by rw [beq_eq_false_iff_ne]; omega
      have n42a : ¬ ((s[i].toNat : Nat) : Int) = 42 := by omega
      have n42b : (((s[i].toNat : Nat) : Int) == 42) = false := by rw [beq_eq_false_iff_ne]; omega
      have n43a : ¬ ((s[i].toNat : Nat) : Int) = 43 := by omega
      have n43b : (((s[i].toNat : Nat) : Int) == 43) = false := by rw [beq_eq_false_iff_ne]; omega
      have n45a : ¬ ((s[i].toNat : Nat) : Int) = 45 := by omega
      have n45b : (((s[i].toNat : Nat) : Int) == 45) = false := by rw [beq_eq_false_iff_ne]; omega
      have n47a : ¬ ((s[i].toNat : Nat) : Int) = 47 := by omega
      have n47b : (((s[i].toNat : Nat) : Int) == 47) = false := by rw [beq_eq_false_iff_ne]; omega
      have n37a : ¬ ((s[i].toNat : Nat) : Int) = 37 := by omega
      have n37b : (((s[i].toNat : Nat) : Int) == 37) = false := by rw [beq_eq_false_iff_ne]; omega
      have n61a : ¬ ((s[i].toNat : Nat) : Int) = 61 := by omega
      have n61b : (((s[i].toNat : Nat) : Int) == 61) = false := by rw [beq_eq_false_iff_ne]; omega
      have n60a : ¬ ((s[i].toNat : Nat) : Int) = 60 := by omega
      have n60b : (((s[i].toNat : Nat) : Int) == 60) = false := by rw [beq_eq_false_iff_ne]; omega
      have e62a : ((s[i].toNat : Nat) : Int) = 62 := by omega
      have e62b : (((s[i].toNat : Nat) : Int) == 62) = true := by rw [beq_iff_eq]; omega
      have HE : Hid (signP s i = .ok (⟨5, s.extract i (i + 1), 0, i⟩, i + 1)) := signP_one (by omega) (by omega) (by omega)
      go_wp2
      exact bodyPost_ret (results_rtt rfl _ _ w.heap.size _ _ (0, 0) _ (by rfl) (heap_alloc_new w _) Tryz.underlying30 rfl infoTk) rfl ⟨by rw [HE.out]; rfl, belTk w _⟩
    by_cases o64 : s[i].toNat = 64
    · have n40a : ¬ ((s[i].toNat : Nat) : Int) = 40 := by omega
      have n40b : (((s[i].toNat : Nat) : Int) == 40) = false := by rw [beq_eq_false_iff_ne]; omega
      have n41a : ¬ ((s[i].toNat : Nat) : Int) = 41 := by omega
      have n41b : (((s[i].toNat : Nat) : Int) == 41) = false := by rw [beq_eq_false_iff_ne]; omega
      have n44a : ¬ ((s[i].toNat : Nat) : Int) = 44 := by omega
      have n44b : (((s[i].toNat : Nat) : Int) == 44) = false := by rw [beq_eq_false_iff_ne]; omega
      have n59a : ¬ ((s[i].toNat : Nat) : Int) = 59 := by omega
      have n59b : (((s[i].toNat : Nat) : Int) == 59) = false := by rw [beq_eq_false_iff_ne]; omega
      have n42a : ¬ ((s[i].toNat : Nat) : Int) = 42 := by omega
      have n42b : (((s[i].toNat : Nat) : Int) == 42) = false := by rw [beq_eq_false_iff_ne]; omega
      have n43a : ¬ ((s[i].toNat : Nat) : Int) = 43 := by omega
      have n43b : (((s[i].toNat : Nat) : Int) == 43) = false := by rw [beq_eq_false_iff_ne]; omega
      have n45a : ¬ ((s[i].toNat : Nat) : Int) = 45 := by omega
      have n45b : (((s[i].toNat : Nat) : Int) == 45) = false := by rw [beq_eq_false_iff_ne]; omega
      have n47a : ¬ ((s[i].toNat : Nat) : Int) = 47 := by omega
      have n47b : (((s[i].toNat : Nat) : Int) == 47) = false := by rw [beq_eq_false_iff_ne]; omega
      have n37a : ¬ ((s[i].toNat : Nat) : Int) = 37 := by omega
      have n37b : (((s[i].toNat : Nat) : Int) == 37) = false := by rw [beq_eq_false_iff_ne]; omega
      have n61a : ¬ ((s[i].toNat : Nat) : Int) = 61 := by omega
      have n61b : (((s[i].toNat : Nat) : Int) == 61) = false := by rw [beq_eq_false_iff_ne]; omega
      have n60a : ¬ ((s[i].toNat : Nat) : Int) = 60 := by omega
      have n60b : (((s[i].toNat : Nat) : Int) == 60) = false := by rw [beq_eq_false_iff_ne]; omega
      have n62a : ¬ ((s[i].toNat : Nat) : Int) = 62 := by omega
      have n62b : (((s[i].toNat : Nat) : Int) == 62) = false := by rw [beq_eq_false_iff_ne]; omega
      have e64a : ((s[i].toNat : Nat) : Int) = 64 := by omega
      have e64b : (((s[i].toNat : Nat) : Int) == 64) = true := by rw [beq_iff_eq]; omega
      have HE : Hid (signP s i = .ok (⟨5, s.extract i (i + 1), 0, i⟩, i + 1)) := signP_one (by omega) (by omega) (by omega)
      go_wp2
      exact bodyPost_ret (results_rtt rfl _ _ w.heap.size _ _ (0, 0) _ (by rfl) (heap_alloc_new w _) Tryz.underlying30 rfl infoTk) rfl ⟨by rw [HE.out]; rfl, belTk w _⟩
    have n40a : ¬ ((s[i].toNat : Nat) : Int) = 40 := by omega
    have n40b : (((s[i].toNat : Nat) : Int) == 40) = false := by rw [beq_eq_false_iff_ne]; omega
    have n41a : ¬ ((s[i].toNat : Nat) : Int) = 41 := by omega
    have n41b : (((s[i].toNat : Nat) : Int) == 41) = false := by rw [beq_eq_false_iff_ne]; omega
    have n44a : ¬ ((s[i].toNat : Nat) : Int) = 44 := by omega
    have n44b : (((s[i].toNat : Nat) : Int) == 44) = false := by rw [beq_eq_false_iff_ne]; omega
    have n59a : ¬ ((s[i].toNat : Nat) : Int) = 59 := by omega
    have n59b : (((s[i].toNat : Nat) : Int) == 59) = false := by rw [beq_eq_false_iff_ne]; omega
    have n42a : ¬ ((s[i].toNat : Nat) : Int) = 42 := by omega
    have n42b : (((s[i].toNat : Nat) : Int) == 42) = false := by rw [beq_eq_false_iff_ne]; omega
    have n43a : ¬ ((s[i].toNat : Nat) : Int) = 43 := by omega
    have n43b : (((s[i].toNat : Nat) : Int) == 43) = false := by rw [beq_eq_false_iff_ne]; omega
    have n45a : ¬ ((s[i].toNat : Nat) : Int) = 45 := by omega
    have n45b : (((s[i].toNat : Nat) : Int) == 45) = false := by rw [beq_eq_false_iff_ne]; omega
    have n47a : ¬ ((s[i].toNat : Nat) : Int) = 47 := by omega
    have n47b : (((s[i].toNat : Nat) : Int) == 47) = false := by rw [beq_eq_false_iff_ne]; omega
    have n37a : ¬ ((s[i].toNat : Nat) : Int) = 37 := by omega
    have n37b : (((s[i].toNat : Nat) : Int) == 37) = false := by rw [beq_eq_false_iff_ne]; omega
    have n61a : ¬ ((s[i].toNat : Nat) : Int) = 61 := by omega
    have n61b : (((s[i].toNat : Nat) : Int) == 61) = false := by rw [beq_eq_false_iff_ne]; omega
    have n60a : ¬ ((s[i].toNat : Nat) : Int) = 60 := by omega
    have n60b : (((s[i].toNat : Nat) : Int) == 60) = false := by rw [beq_eq_false_iff_ne]; omega
    have n62a : ¬ ((s[i].toNat : Nat) : Int) = 62 := by omega
    have n62b : (((s[i].toNat : Nat) : Int) == 62) = false := by rw [beq_eq_false_iff_ne]; omega
    have n64a : ¬ ((s[i].toNat : Nat) : Int) = 64 := by omega
    have n64b : (((s[i].toNat : Nat) : Int) == 64) = false := by rw [beq_eq_false_iff_ne]; omega
    have HE : Hid (signP s i = .error 150) := signP_bad (by omega) (by omega) (by omega)
    go_wp2
    exact bodyPost_ret (results_rtt rfl _ _ w.heap.size _ _ (0, 0) _ (by rfl) (heap_alloc_new w _) Tryz.underlying30 rfl infoTk) rfl ⟨by rw [HE.out]; rfl, belTk w _⟩
end Go.Proofs.YtlidkdnfibfnfaaGreatDoor
