import Derived.Test.YtppfgcdfmdmffaaBothLaw
namespace Go.Proofs.Ytppfgcdfmdmffaa
open Go.ChangeShapes Go.WideShapes Go.ChangeAt Go.RowKit
set_option linter.unusedVariables false

/-- The reference's bytes of a pick. -/
def boL (p : Int × Int × Int) (last : Bool) : List Int :=
  if p.1 = 1 then (if 0 ≤ p.2.1 ∧ p.2.1 ≤ 31 ∧ p.2.2 = 1 then [p.2.1] else [])
  else if p.1 = 2 then (if 0 ≤ p.2.1 ∧ p.2.1 ≤ 31 ∧ 1 ≤ p.2.2 ∧ p.2.2 ≤ 256 then [32 + p.2.1, p.2.2 - 1] else [])
  else if p.1 = 3 then (if 0 ≤ p.2.1 ∧ p.2.1 ≤ 31 ∧ p.2.2 = 1 then [64 + p.2.1] else [])
  else if p.1 = 4 then (if p.2.1 = 0 ∧ 1 ≤ p.2.2 ∧ p.2.2 ≤ 32 then [96 + p.2.2 - 1] else [])
  else if p.1 = 5 then (if 0 ≤ p.2.1 ∧ p.2.1 ≤ 31 ∧ p.2.2 = 1 then [128 + p.2.1] else [])
  else if p.1 = 6 then (if p.2.1 = 0 ∧ p.2.2 = 0 then [160] else [])
  else if p.1 = 0 then (if p.2.1 = 0 ∧ 161 ≤ p.2.2 ∧ p.2.2 ≤ 255 then [p.2.2] else if p.2.1 = 0 ∧ 32 ≤ p.2.2 ∧ p.2.2 ≤ 63 ∧ last = true then [p.2.2] else [])
  else []
theorem ownB_one {w : World} {B g : Nat} {c c' : Int} (hg : g = w.heap.size) (hB : B ≤ w.heap.size) {l : List Int} (hl : l = [c]) (hc : c' = c) : ownB (w.alloc (.cells #[.int .u8 c'] 5)) B (.slice (some ⟨g, 0, none⟩) 1 1) l := by
  subst hg hl hc
  exact World.ownsRow_lit w #[.int .u8 c'] 1 hB (by unfold maxLen; omega) rfl
theorem ownB_two {w : World} {B g : Nat} {c d c' d' : Int} (hg : g = w.heap.size) (hB : B ≤ w.heap.size) {l : List Int} (hl : l = [c, d]) (hc : c' = c) (hd : d' = d) : ownB (w.alloc (.cells #[.int .u8 c', .int .u8 d'] 5)) B (.slice (some ⟨g, 0, none⟩) 2 2) l := by
  subst hg hl hc hd
  exact World.ownsRow_lit w #[.int .u8 c', .int .u8 d'] 2 hB (by unfold maxLen; omega) rfl
theorem ownB_none {w : World} {B : Nat} {l : List Int} (hl : l = []) : ownB w B (.slice none 0 0) l := by subst hl; exact ownB_nil _ _
set_option maxRecDepth 100000 in
set_option maxHeartbeats 12800000 in
theorem bytesOf_any (p : Int × Int × Int) (last : Bool) (w : World) (hp : wfP p) :
    Calls Try.prog 32 #[.agg #[.int .i64 p.1, .int .i64 p.2.1, .int .i64 p.2.2], .bool last] w fun e w' => ∃ v, e = .returned v ∧ ownB w' w.heap.size v (boL p last) ∧ Below w.heap.size w w' := by
  obtain ⟨k, i, n⟩ := p
  obtain ⟨⟨i0, i1⟩, ⟨n0, n1⟩⟩ := hp
  simp only at i0 i1 n0 n1 ⊢
  have HB : Hid (∀ o, Below w.heap.size w (w.alloc o)) := fun o => (Below.refl _ _).alloc (Nat.le_refl _) o
  have HB2 : Hid (∀ o o', Below w.heap.size w ((w.alloc o).alloc o')) := fun o o' => ((Below.refl _ _).alloc (Nat.le_refl _) o).alloc (by simp) o'
  by_cases k1 : k = 1
  · subst k1
    by_cases c : 0 ≤ i ∧ i ≤ 31 ∧ n = 1
    · have HE : Hid (boL (1, i, n) last = [i]) := by show (if 0 ≤ i ∧ i ≤ 31 ∧ n = 1 then [i] else []) = _; rw [if_pos c]
      generalize boL (1, i, n) last = L at *
      go_enter Try.func32, Try.ntmps32
      go_wp2
      go_ret
      exact ⟨_, rfl, ownB_one (by simp) (by simp) HE.out (by omega), HB2.out _ _⟩
    · have HE : Hid (boL (1, i, n) last = []) := by show (if 0 ≤ i ∧ i ≤ 31 ∧ n = 1 then [i] else []) = _; rw [if_neg c]
      generalize boL (1, i, n) last = L at *
      go_enter Try.func32, Try.ntmps32
      go_wp2
      all_goals first | (exfalso; omega) | (go_ret; exact ⟨_, rfl, ownB_none HE.out, HB.out _⟩)
  by_cases k2 : k = 2
  · subst k2
    by_cases c : 0 ≤ i ∧ i ≤ 31 ∧ 1 ≤ n ∧ n ≤ 256
    · have HE : Hid (boL (2, i, n) last = [32 + i, n - 1]) := by show (if 0 ≤ i ∧ i ≤ 31 ∧ 1 ≤ n ∧ n ≤ 256 then [32 + i, n - 1] else []) = _; rw [if_pos c]
      generalize boL (2, i, n) last = L at *
      go_enter Try.func32, Try.ntmps32
      go_wp2
      go_ret
      exact ⟨_, rfl, ownB_two (by simp) (by simp) HE.out (by omega) (by omega), HB2.out _ _⟩
    · have HE : Hid (boL (2, i, n) last = []) := by show (if 0 ≤ i ∧ i ≤ 31 ∧ 1 ≤ n ∧ n ≤ 256 then [32 + i, n - 1] else []) = _; rw [if_neg c]
      generalize boL (2, i, n) last = L at *
      go_enter Try.func32, Try.ntmps32
      go_wp2
      all_goals first | (exfalso; omega) | (go_ret; exact ⟨_, rfl, ownB_none HE.out, HB.out _⟩)
  by_cases k3 : k = 3
  · subst k3
    by_cases c : 0 ≤ i ∧ i ≤ 31 ∧ n = 1
    · have HE : Hid (boL (3, i, n) last = [64 + i]) := by show (if 0 ≤ i ∧ i ≤ 31 ∧ n = 1 then [64 + i] else []) = _; rw [if_pos c]
      generalize boL (3, i, n) last = L at *
      go_enter Try.func32, Try.ntmps32
      go_wp2
      go_ret
      exact ⟨_, rfl, ownB_one (by simp) (by simp) HE.out (by omega), HB2.out _ _⟩
    · have HE : Hid (boL (3, i, n) last = []) := by show (if 0 ≤ i ∧ i ≤ 31 ∧ n = 1 then [64 + i] else []) = _; rw [if_neg c]
      generalize boL (3, i, n) last = L at *
      go_enter Try.func32, Try.ntmps32
      go_wp2
      all_goals first | (exfalso; omega) | (go_ret; exact ⟨_, rfl, ownB_none HE.out, HB.out _⟩)
  by_cases k4 : k = 4
  · subst k4
    by_cases c : i = 0 ∧ 1 ≤ n ∧ n ≤ 32
    · have HE : Hid (boL (4, i, n) last = [96 + n - 1]) := by show (if i = 0 ∧ 1 ≤ n ∧ n ≤ 32 then [96 + n - 1] else []) = _; rw [if_pos c]
      generalize boL (4, i, n) last = L at *
      go_enter Try.func32, Try.ntmps32
      go_wp2
      go_ret
      exact ⟨_, rfl, ownB_one (by simp) (by simp) HE.out (by omega), HB2.out _ _⟩
    · have HE : Hid (boL (4, i, n) last = []) := by show (if i = 0 ∧ 1 ≤ n ∧ n ≤ 32 then [96 + n - 1] else []) = _; rw [if_neg c]
      generalize boL (4, i, n) last = L at *
      go_enter Try.func32, Try.ntmps32
      go_wp2
      all_goals first | (exfalso; omega) | (go_ret; exact ⟨_, rfl, ownB_none HE.out, HB.out _⟩)
  by_cases k5 : k = 5
  · subst k5
    by_cases c : 0 ≤ i ∧ i ≤ 31 ∧ n = 1
    · have HE : Hid (boL (5, i, n) last = [128 + i]) := by show (if 0 ≤ i ∧ i ≤ 31 ∧ n = 1 then [128 + i] else []) = _; rw [if_pos c]
      generalize boL (5, i, n) last = L at *
      go_enter Try.func32, Try.ntmps32
      go_wp2
      go_ret
      exact ⟨_, rfl, ownB_one (by simp) (by simp) HE.out (by omega), HB2.out _ _⟩
    · have HE : Hid (boL (5, i, n) last = []) := by show (if 0 ≤ i ∧ i ≤ 31 ∧ n = 1 then [128 + i] else []) = _; rw [if_neg c]
      generalize boL (5, i, n) last = L at *
      go_enter Try.func32, Try.ntmps32
      go_wp2
      all_goals first | (exfalso; omega) | (go_ret; exact ⟨_, rfl, ownB_none HE.out, HB.out _⟩)
  by_cases k6 : k = 6
  · subst k6
    by_cases c : i = 0 ∧ n = 0
    · have HE : Hid (boL (6, i, n) last = [160]) := by show (if i = 0 ∧ n = 0 then [160] else []) = _; rw [if_pos c]
      generalize boL (6, i, n) last = L at *
      go_enter Try.func32, Try.ntmps32
      go_wp2
      go_ret
      exact ⟨_, rfl, ownB_one (by simp) (by simp) HE.out (by omega), HB2.out _ _⟩
    · have HE : Hid (boL (6, i, n) last = []) := by show (if i = 0 ∧ n = 0 then [160] else []) = _; rw [if_neg c]
      generalize boL (6, i, n) last = L at *
      go_enter Try.func32, Try.ntmps32
      go_wp2
      all_goals first | (exfalso; omega) | (go_ret; exact ⟨_, rfl, ownB_none HE.out, HB.out _⟩)
  by_cases k0 : k = 0
  · subst k0
    by_cases c : i = 0 ∧ 161 ≤ n ∧ n ≤ 255
    · have HE : Hid (boL (0, i, n) last = [n]) := by show (if i = 0 ∧ 161 ≤ n ∧ n ≤ 255 then [n] else if i = 0 ∧ 32 ≤ n ∧ n ≤ 63 ∧ last = true then [n] else []) = _; rw [if_pos c]
      generalize boL (0, i, n) last = L at *
      go_enter Try.func32, Try.ntmps32
      go_wp2
      go_ret
      exact ⟨_, rfl, ownB_one (by simp) (by simp) HE.out (by omega), HB2.out _ _⟩
    · by_cases d : i = 0 ∧ 32 ≤ n ∧ n ≤ 63 ∧ last = true
      · have HE : Hid (boL (0, i, n) last = [n]) := by show (if i = 0 ∧ 161 ≤ n ∧ n ≤ 255 then [n] else if i = 0 ∧ 32 ≤ n ∧ n ≤ 63 ∧ last = true then [n] else []) = _; rw [if_neg c, if_pos d]
        generalize boL (0, i, n) last = L at *
        obtain ⟨d1, d2, d3, d4⟩ := d
        subst d4
        go_enter Try.func32, Try.ntmps32
        go_wp2
        go_ret
        exact ⟨_, rfl, ownB_one (by simp) (by simp) HE.out (by omega), HB2.out _ _⟩
      · have HE : Hid (boL (0, i, n) last = []) := by show (if i = 0 ∧ 161 ≤ n ∧ n ≤ 255 then [n] else if i = 0 ∧ 32 ≤ n ∧ n ≤ 63 ∧ last = true then [n] else []) = _; rw [if_neg c, if_neg d]
        generalize boL (0, i, n) last = L at *
        cases last
        all_goals
          simp only [Bool.false_eq_true, and_false, and_true] at d
          go_enter Try.func32, Try.ntmps32
          go_wp2
          all_goals first | (exfalso; omega) | (go_ret; exact ⟨_, rfl, ownB_none HE.out, HB.out _⟩)
  have HE : Hid (boL (k, i, n) last = []) := by
    show _ = _
    unfold boL
    simp only
    rw [if_neg k1, if_neg k2, if_neg k3, if_neg k4, if_neg k5, if_neg k6, if_neg k0]
  have q0 : (k == 0) = false := by simpa using k0
  have q1 : (k == 1) = false := by simpa using k1
  have q2 : (k == 2) = false := by simpa using k2
  have q3 : (k == 3) = false := by simpa using k3
  have q4 : (k == 4) = false := by simpa using k4
  have q5 : (k == 5) = false := by simpa using k5
  have q6 : (k == 6) = false := by simpa using k6
  go_enter Try.func32, Try.ntmps32
  go_wp2
  all_goals (go_ret; exact ⟨_, rfl, ownB_none HE.out, HB.out _⟩)
end Go.Proofs.Ytppfgcdfmdmffaa
