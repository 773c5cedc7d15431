import Derived.Test.YtbfjnidpjmhfiaaGreatDoorDlP
import Derived.Test.YtbfjnidpjmhfiaaGreatDoorMf1
import Derived.Test.YtbfjnidpjmhfiaaGreatDoorRegG
import Derived.Deep.QuietTactic
import Derived.BigQuiet
namespace Go.Proofs.YtbfjnidpjmhfiaaGreatDoor
open Go.ChangeShapes Go.WideShapes Go.ChangeAt Go.RowKit
set_option linter.unusedVariables false
set_option maxRecDepth 100000
theorem nanU (x : Int) (w : World) : Calls Tryz.prog 88 #[.int .u64 x] w fun e w' => e = .returned (.bool false) ∧ w' = w := by
  go_enter Tryz.func88, Tryz.ntmps88
  go_wp2
  go_ret
  exact ⟨rfl, rfl⟩
theorem nanS (x : ByteArray) (w : World) : Calls Tryz.prog 89 #[.string x] w fun e w' => e = .returned (.bool false) ∧ w' = w := by
  go_enter Tryz.func89, Tryz.ntmps89
  go_wp2
  go_ret
  exact ⟨rfl, rfl⟩
/-- How two numbers compare. -/
def cmI (x y : Int) : Int := if x < y then -1 else if y < x then 1 else 0
theorem cmpU (x y : Int) (w : World) : Calls Tryz.prog 71 #[.int .u64 x, .int .u64 y] w fun e w' => e = .returned (.int .i64 (cmI x y)) ∧ w' = w := by
  have HN : Hid (∀ x W, _) := fun x W => nanU x W
  by_cases h1 : x < y
  · have HE : Hid (cmI x y = -1) := by show _ = _; unfold cmI; rw [if_pos h1]
    go_enter Tryz.func71, Tryz.ntmps71
    go_wp2_with fail
    refine (HN.out x w).mono ?_
    rintro e w1 ⟨rfl, rfl⟩
    go_wp2_with fail
    refine (HN.out y w1).mono ?_
    rintro e w2 ⟨rfl, rfl⟩
    go_wp2
    go_ret
    exact ⟨by rw [HE.out]; rfl, rfl⟩
  · by_cases h2 : y < x
    · have HE : Hid (cmI x y = 1) := by show _ = _; unfold cmI; rw [if_neg h1, if_pos h2]
      go_enter Tryz.func71, Tryz.ntmps71
      go_wp2_with fail
      refine (HN.out x w).mono ?_
      rintro e w1 ⟨rfl, rfl⟩
      go_wp2_with fail
      refine (HN.out y w1).mono ?_
      rintro e w2 ⟨rfl, rfl⟩
      go_wp2
      go_ret
      exact ⟨by rw [HE.out]; rfl, rfl⟩
    · have HE : Hid (cmI x y = 0) := by show _ = _; unfold cmI; rw [if_neg h1, if_neg h2]
      go_enter Tryz.func71, Tryz.ntmps71
      go_wp2_with fail
      refine (HN.out x w).mono ?_
      rintro e w1 ⟨rfl, rfl⟩
      go_wp2_with fail
      refine (HN.out y w1).mono ?_
      rintro e w2 ⟨rfl, rfl⟩
      go_wp2
      go_ret
      exact ⟨by rw [HE.out]; rfl, rfl⟩
/-- How two texts compare. -/
def cmS (x y : ByteArray) : Int := if Op.bytesLess x.toList y.toList = true then -1 else if (x.toList == y.toList) = false then 1 else 0
theorem cmpS (x y : ByteArray) (w : World) : Calls Tryz.prog 72 #[.string x, .string y] w fun e w' => e = .returned (.int .i64 (cmS x y)) ∧ w' = w := by
  have HN : Hid (∀ x W, _) := fun x W => nanS x W
  cases h1 : Op.bytesLess x.toList y.toList
  · cases h2 : (x.toList == y.toList)
    · have HE : Hid (cmS x y = 1) := by show _ = _; unfold cmS; rw [h1, h2]; rfl
      go_enter Tryz.func72, Tryz.ntmps72
      go_wp2_with fail
      refine (HN.out x w).mono ?_
      rintro e w1 ⟨rfl, rfl⟩
      go_wp2_with fail
      refine (HN.out y w1).mono ?_
      rintro e w2 ⟨rfl, rfl⟩
      go_wp2
      go_ret
      exact ⟨by rw [HE.out]; rfl, rfl⟩
    · have HE : Hid (cmS x y = 0) := by show _ = _; unfold cmS; rw [h1, h2]; rfl
      go_enter Tryz.func72, Tryz.ntmps72
      go_wp2_with fail
      refine (HN.out x w).mono ?_
      rintro e w1 ⟨rfl, rfl⟩
      go_wp2_with fail
      refine (HN.out y w1).mono ?_
      rintro e w2 ⟨rfl, rfl⟩
      go_wp2
      go_ret
      exact ⟨by rw [HE.out]; rfl, rfl⟩
  · have HE : Hid (cmS x y = -1) := by show _ = _; unfold cmS; rw [h1]; rfl
    go_enter Tryz.func72, Tryz.ntmps72
    go_wp2_with fail
    refine (HN.out x w).mono ?_
    rintro e w1 ⟨rfl, rfl⟩
    go_wp2_with fail
    refine (HN.out y w1).mono ?_
    rintro e w2 ⟨rfl, rfl⟩
    go_wp2
    go_ret
    exact ⟨by rw [HE.out]; rfl, rfl⟩
/-- The first of two that is not nought. -/
def orI (x y : Int) : Int := if x = 0 then y else x
set_option maxHeartbeats 1600000 in
theorem or_two (x y : Int) (w : World) (g : Nat) (hg : g < w.heap.size) (c0 : w.cell? ⟨g, 0, none⟩ = some (.int .i64 x)) (c1 : w.cell? ⟨g, 1, none⟩ = some (.int .i64 y)) : Calls Tryz.prog 70 #[.slice (some ⟨g, 0, none⟩) 2 2] w fun e w' => e = .returned (.int .i64 (orI x y)) ∧ Below w.heap.size w w' := by
  go_enter Tryz.func70, Tryz.ntmps70
  go_wp2_with fail
  go_loopw [8] (fun i wr => ∃ k : Nat, k ≤ 2 ∧ i = .int .i64 k ∧ wr = w ∧ (1 ≤ k → x = 0) ∧ (2 ≤ k → y = 0)) (fun i _ => 2 - (intOf i).toNat)
  case atStart => exact ⟨0, by omega, rfl, rfl, fun h => absurd h (by omega), fun h => absurd h (by omega)⟩
  case round =>
    obtain ⟨k, hk, rfl, rfl, h1, h2⟩ := hrel
    match k, hk, h1, h2 with
    | 0, _, _, _ =>
      by_cases hx : x = 0
      · subst hx
        go_wp2
        go_roundw
        case rel => exact ⟨1, by omega, by go_num, (by first | rfl | trivial), fun _ => (by first | rfl | trivial), fun h => absurd h (by omega)⟩
        case measure => simp [intOf]
      · have HE : Hid (orI x y = x) := by show _ = _; unfold orI; rw [if_neg hx]
        have hxd : (x == 0) = false := by simpa using hx
        go_wp2
        go_ret
        exact ⟨by rw [HE.out]; rfl, Below.refl _ _⟩
    | 1, _, h1, _ =>
      obtain rfl := h1 (by omega)
      by_cases hy : y = 0
      · subst hy
        go_wp2
        go_roundw
        case rel => exact ⟨2, by omega, by go_num, (by first | rfl | trivial), fun _ => (by first | rfl | trivial), fun _ => (by first | rfl | trivial)⟩
        case measure => simp [intOf]
      · have HE : Hid (orI 0 y = y) := rfl
        have hyd : (y == 0) = false := by simpa using hy
        go_wp2
        go_ret
        exact ⟨by rw [HE.out]; rfl, Below.refl _ _⟩
    | 2, _, h1, h2 =>
      obtain rfl := h1 (by omega)
      obtain rfl := h2 (by omega)
      go_wp2
      go_ret
      exact ⟨rfl, Below.refl _ _⟩
theorem ord_iff (b : Int) (k : ByteArray) (c : Int) (l : ByteArray) : orI (cmI b c) (cmS k l) < 0 ↔ aheadP b k c l := by
  unfold orI cmI cmS aheadP
  by_cases h1 : b < c
  · simp [h1]
  · by_cases h2 : c < b
    · rw [if_neg h1, if_pos h2]
      constructor
      · intro h; simp at h
      · rintro (h | ⟨h, _⟩)
        · exact absurd h h1
        · omega
    · have e : b = c := by omega
      rw [if_neg h1, if_neg h2, if_pos rfl]
      constructor
      · intro h
        right
        refine ⟨e, ?_⟩
        split at h
        · assumption
        · split at h <;> omega
      · rintro (h | ⟨_, h⟩)
        · exact absurd h h1
        · rw [if_pos h]; decide
set_option maxHeartbeats 1600000 in
theorem order_any (b : Int) (k : ByteArray) (c : Int) (l : ByteArray) (w : World) : Calls Tryz.prog 49 #[.int .u64 b, .string k, .int .u64 c, .string l] w fun e w' => (∃ r, e = .returned (.int .i64 r) ∧ (r < 0 ↔ aheadP b k c l)) ∧ Below w.heap.size w w' := by
  have HI : Hid _ := ord_iff b k c l
  have HU : Hid (∀ W, _) := fun W => cmpU b c W
  have HSs : Hid (∀ W, _) := fun W => cmpS k l W
  generalize cmI b c = x at *
  generalize cmS k l = y at *
  go_enter Tryz.func49, Tryz.ntmps49
  go_wp2_with fail
  refine (HU.out w).mono ?_
  rintro e w1 ⟨rfl, rfl⟩
  go_wp2_with fail
  refine (HSs.out w1).mono ?_
  rintro e w2 ⟨rfl, rfl⟩
  go_wp2_with fail
  refine (or_two x y _ w2.heap.size (by simp) (by simp [go_sem]) (by simp [go_sem])).mono ?_
  rintro e w3 ⟨rfl, hb⟩
  have HB : Hid (Below w2.heap.size w2 w3) := ((Below.refl _ _).alloc (Nat.le_refl _) _).trans (hb.mono (by simp))
  clear hb
  go_wp2
  go_ret
  exact ⟨⟨_, rfl, HI.out⟩, HB.out⟩
theorem ahead_any (b : Int) (k : ByteArray) (c : Int) (l : ByteArray) (w : World) : Calls Tryz.prog 54 #[.int .u64 b, .string k, .int .u64 c, .string l] w (RetB (aheadP b k c l) w) := by
  have HB : Hid (Below w.heap.size w w) := Below.refl _ _
  by_cases h1 : b < c
  · go_enter Tryz.func54, Tryz.ntmps54
    go_wp2
    go_ret
    exact RetB.yes rfl (.inl h1) HB.out
  · by_cases h2 : b = c
    · subst h2
      cases h3 : Op.bytesLess k.toList l.toList
      · have HN : Hid (¬ aheadP b k b l) := by rintro (h | ⟨_, h⟩); omega; rw [h3] at h; cases h
        go_enter Tryz.func54, Tryz.ntmps54
        go_wp2
        go_ret
        exact RetB.no rfl HN.out HB.out
      · have HY : Hid (aheadP b k b l) := .inr ⟨rfl, h3⟩
        go_enter Tryz.func54, Tryz.ntmps54
        go_wp2
        go_ret
        exact RetB.yes rfl HY.out HB.out
    · have HN : Hid (¬ aheadP b k c l) := by rintro (h | ⟨h, _⟩); exact h1 h; exact h2 h
      have hd : (b == c) = false := by simpa using h2
      go_enter Tryz.func54, Tryz.ntmps54
      go_wp2
      go_ret
      exact RetB.no rfl HN.out HB.out
theorem key_any (s : ByteArray) (w : World) : Calls Tryz.prog 53 #[.string s] w fun e w' => e = .returned (.bool (decide (1 ≤ s.size ∧ s.size ≤ 160))) ∧ w' = w := by
  by_cases h1 : 1 ≤ s.size
  · by_cases h2 : s.size ≤ 160
    · have HE : Hid (decide (1 ≤ s.size ∧ s.size ≤ 160) = true) := decide_eq_true ⟨h1, h2⟩
      have d1 : decide ((1 : Int) ≤ (s.size : Int)) = true := decide_eq_true (by omega)
      have d2 : decide ((s.size : Int) ≤ 160) = true := decide_eq_true (by omega)
      go_enter Tryz.func53, Tryz.ntmps53
      go_wp2
      go_ret
      exact ⟨by rw [HE.out]; rfl, rfl⟩
    · have HE : Hid (decide (1 ≤ s.size ∧ s.size ≤ 160) = false) := decide_eq_false (fun h => h2 h.2)
      have d1 : decide ((1 : Int) ≤ (s.size : Int)) = true := decide_eq_true (by omega)
      have d2 : decide ((s.size : Int) ≤ 160) = false := decide_eq_false (by omega)
      go_enter Tryz.func53, Tryz.ntmps53
      go_wp2
      go_ret
      exact ⟨by rw [HE.out]; rfl, rfl⟩
  · have HE : Hid (decide (1 ≤ s.size ∧ s.size ≤ 160) = false) := decide_eq_false (fun h => h1 h.1)
    have d1 : decide ((1 : Int) ≤ (s.size : Int)) = false := decide_eq_false (by omega)
    go_enter Tryz.func53, Tryz.ntmps53
    go_wp2
    go_ret
    exact ⟨by rw [HE.out]; rfl, rfl⟩
theorem isKey_any (s : ByteArray) (w : World) : Calls Tryz.prog 48 #[.string s] w fun e w' => e = .returned (.bool (decide (1 ≤ s.size ∧ s.size ≤ 160))) ∧ w' = w := by
  by_cases h1 : 1 ≤ s.size
  · by_cases h2 : s.size ≤ 160
    · have HE : Hid (decide (1 ≤ s.size ∧ s.size ≤ 160) = true) := decide_eq_true ⟨h1, h2⟩
      have d1 : decide ((1 : Int) ≤ (s.size : Int)) = true := decide_eq_true (by omega)
      have d2 : decide ((s.size : Int) ≤ 160) = true := decide_eq_true (by omega)
      go_enter Tryz.func48, Tryz.ntmps48
      go_wp2
      go_ret
      exact ⟨by rw [HE.out]; rfl, rfl⟩
    · have HE : Hid (decide (1 ≤ s.size ∧ s.size ≤ 160) = false) := decide_eq_false (fun h => h2 h.2)
      have d1 : decide ((1 : Int) ≤ (s.size : Int)) = true := decide_eq_true (by omega)
      have d2 : decide ((s.size : Int) ≤ 160) = false := decide_eq_false (by omega)
      go_enter Tryz.func48, Tryz.ntmps48
      go_wp2
      go_ret
      exact ⟨by rw [HE.out]; rfl, rfl⟩
  · have HE : Hid (decide (1 ≤ s.size ∧ s.size ≤ 160) = false) := decide_eq_false (fun h => h1 h.1)
    have d1 : decide ((1 : Int) ≤ (s.size : Int)) = false := decide_eq_false (by omega)
    go_enter Tryz.func48, Tryz.ntmps48
    go_wp2
    go_ret
    exact ⟨by rw [HE.out]; rfl, rfl⟩
end Go.Proofs.YtbfjnidpjmhfiaaGreatDoor
