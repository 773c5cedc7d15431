import Derived.Test.YteekompojgbkhaaGreatKAtomsE
namespace Go.Proofs.YteekompojgbkhaaGreat
open Go.ChangeShapes Go.WideShapes Go.ChangeAt Go.RowKit
set_option linter.unusedVariables false
set_option maxRecDepth 100000
set_option maxHeartbeats 1600000
theorem has_any (L : Lay) (S : AS) (w : World) (x : Int) (h : Holds w L S) : Calls Tryz.prog 175 #[.pointer (some ⟨L.b, 0, none⟩), .int .i64 x] w fun e w' => e = .returned (.bool (decide (1 ≤ x ∧ x ≤ (S.n : Int)))) ∧ w' = w := by
  have c1 := h.c1
  clear h
  by_cases h1 : 1 ≤ x
  · by_cases h2 : x ≤ (S.n : Int)
    · have hd : decide (1 ≤ x ∧ x ≤ (S.n : Int)) = true := by simp [h1, h2]
      rw [hd]
      go_enter Tryz.func175, Tryz.ntmps175
      go_wp2
      go_ret
      exact ⟨rfl, rfl⟩
    · have hd : decide (1 ≤ x ∧ x ≤ (S.n : Int)) = false := by simp [h2]
      rw [hd]
      go_enter Tryz.func175, Tryz.ntmps175
      go_wp2
      go_ret
      exact ⟨rfl, rfl⟩
  · have hd : decide (1 ≤ x ∧ x ≤ (S.n : Int)) = false := by simp [h1]
    rw [hd]
    go_enter Tryz.func175, Tryz.ntmps175
    go_wp2
    go_ret
    exact ⟨rfl, rfl⟩
theorem inUse_no (L : Lay) (S : AS) (w : World) (x : Int) (h : Holds w L S) (hx : ¬ (1 ≤ x ∧ x ≤ (S.n : Int))) : Calls Tryz.prog 130 #[.pointer (some ⟨L.b, 0, none⟩), .int .i64 x] w fun e w' => e = .returned (.tuple #[.pointer none, .int .i64 22]) ∧ w' = w := by
  have c1 := h.c1
  go_enter Tryz.func130, Tryz.ntmps130
  go_wp2_with fail
  refine (has_any L S _ x h).mono ?_
  rintro e w' ⟨rfl, rfl⟩
  have hd : decide (1 ≤ x ∧ x ≤ (S.n : Int)) = false := by simpa using hx
  rw [hd]
  go_wp2
  go_ret2
  exact ⟨rfl, rfl⟩
theorem inUse_yes (L : Lay) (S : AS) (w : World) (k : Nat) (hk : k < S.n) (hu : S.use k = true) (h : Holds w L S) : Calls Tryz.prog 130 #[.pointer (some ⟨L.b, 0, none⟩), .int .i64 ((k : Int) + 1)] w fun e w' => e = .returned (.tuple #[.pointer (some ⟨L.s, k * 5, none⟩), .int .i64 0]) ∧ w' = w := by
  have c1 := h.c1
  have cu := h.us k hk
  have hz := h.hn.2
  rw [hu] at cu
  go_enter Tryz.func130, Tryz.ntmps130
  go_wp2_with fail
  refine (has_any L S _ _ h).mono ?_
  rintro e w' ⟨rfl, rfl⟩
  have hd : decide (1 ≤ (k : Int) + 1 ∧ (k : Int) + 1 ≤ (S.n : Int)) = true := by simp; omega
  rw [hd]
  clear h hd hu
  go_wp2_with fail
  refine (bool_load _ _ _ cu).mono ?_
  rintro e w'' ⟨rfl, rfl⟩
  go_wp2
  go_ret2
  exact ⟨rfl, rfl⟩
theorem inUse_not (L : Lay) (S : AS) (w : World) (k : Nat) (hk : k < S.n) (hu : S.use k = false) (h : Holds w L S) : Calls Tryz.prog 130 #[.pointer (some ⟨L.b, 0, none⟩), .int .i64 ((k : Int) + 1)] w fun e w' => e = .returned (.tuple #[.pointer none, .int .i64 22]) ∧ w' = w := by
  have c1 := h.c1
  have cu := h.us k hk
  have hz := h.hn.2
  rw [hu] at cu
  go_enter Tryz.func130, Tryz.ntmps130
  go_wp2_with fail
  refine (has_any L S _ _ h).mono ?_
  rintro e w' ⟨rfl, rfl⟩
  have hd : decide (1 ≤ (k : Int) + 1 ∧ (k : Int) + 1 ≤ (S.n : Int)) = true := by simp; omega
  rw [hd]
  clear h hd hu
  go_wp2_with fail
  refine (bool_load _ _ _ cu).mono ?_
  rintro e w'' ⟨rfl, rfl⟩
  go_wp2
  go_ret2
  exact ⟨rfl, rfl⟩
theorem reach_ok (L : Lay) (S : AS) (w : World) (k : Nat) (hk : k < S.n) (hu : S.use k = true) (h : Holds w L S) : Calls Tryz.prog 143 #[.pointer (some ⟨L.b, 0, none⟩), .int .i64 ((k : Int) + 1)] w fun e w' => e = .returned (.tuple #[.pointer (some ⟨L.s, k * 5, none⟩), .int .i64 0]) ∧ w' = w := by
  go_enter Tryz.func143, Tryz.ntmps143
  go_wp2_with fail
  refine (inUse_yes L S _ k hk hu h).mono ?_
  rintro e w' ⟨rfl, rfl⟩
  clear h
  go_wp2
  go_ret2
  exact ⟨rfl, rfl⟩
/-- Is x the number of a slot in use? -/
def AS.live (S : AS) (x : Int) : Prop := ∃ k, k < S.n ∧ x = (k : Int) + 1 ∧ S.use k = true
theorem AS.live_or (S : AS) (x : Int) : (¬ (1 ≤ x ∧ x ≤ (S.n : Int))) ∨ (∃ k, k < S.n ∧ x = (k : Int) + 1) := by
  by_cases h : 1 ≤ x ∧ x ≤ (S.n : Int)
  · exact Or.inr ⟨(x - 1).toNat, by omega, by omega⟩
  · exact Or.inl h
theorem reach_no (L : Lay) (S : AS) (w : World) (x : Int) (hx : ¬ S.live x) (h : Holds w L S) : Calls Tryz.prog 143 #[.pointer (some ⟨L.b, 0, none⟩), .int .i64 x] w fun e w' => e = .returned (.tuple #[.pointer none, .int .i64 22]) ∧ Holds w' L { S with miss := wrap64 (S.miss + 1) } ∧ Keeps L.has w w' := by
  have HI : Hid (Calls Tryz.prog 130 #[.pointer (some ⟨L.b, 0, none⟩), .int .i64 x] w fun e w' => e = .returned (.tuple #[.pointer none, .int .i64 22]) ∧ w' = w) := by
    rcases S.live_or x with h1 | ⟨k, hk, rfl⟩
    · exact inUse_no L S w x h h1
    · have hu : S.use k = false := by
        cases hu : S.use k
        · rfl
        · exact absurd ⟨k, hk, rfl, hu⟩ hx
      exact inUse_not L S w k hk hu h
  go_enter Tryz.func143, Tryz.ntmps143
  go_wp2_with fail
  refine HI.out.mono ?_
  rintro e w' ⟨rfl, rfl⟩
  clear HI
  have H : Hid (Holds w' L S) := h
  clear h
  go_wp2_with fail
  refine (i64_add ⟨L.b, 15, none⟩ S.miss 1 w' H.out.c15 (H.out.fz _ _ (Or.inl rfl))).mono ?_
  rintro e w'' ⟨rfl, rfl⟩
  go_wp2
  go_ret2
  exact ⟨rfl, H.out.setMiss _, (Keeps.refl _ _).setCell (Or.inl rfl) _⟩
theorem cellsOf_any (L : Lay) (S : AS) (w : World) (k : Nat) (hk : k < S.n) (h : Holds w L S) : Calls Tryz.prog 121 #[.pointer (some ⟨L.b, 0, none⟩), .int .i64 ((k : Int) + 1)] w fun e w' => e = .returned (.slice (some ⟨L.u, k * S.wd, none⟩) S.wd (S.n * S.wd - k * S.wd)) ∧ w' = w.drew := by
  have c0 := h.c0
  have c2 := h.c2
  have hz := h.hn.2
  have hwd := h.hw.2
  have hwl := h.hw.1
  clear h
  have f1 : k * S.wd + S.wd ≤ S.n * S.wd := by rw [← Nat.succ_mul]; exact Nat.mul_le_mul_right _ hk
  have f2 : S.n * S.wd ≤ 65536 := Nat.le_trans (Nat.mul_le_mul hz hwd) (by decide)
  have e2 : IntKind.i64.wrap ((k : Int) * (S.wd : Int)) = ((k * S.wd : Nat) : Int) := by rw [← Int.natCast_mul, IntKind.wrap_i64]; omega
  have e3 : IntKind.i64.wrap (((k : Int) + 1) * (S.wd : Int)) = ((k * S.wd + S.wd : Nat) : Int) := by
    have : ((k : Int) + 1) * (S.wd : Int) = ((k * S.wd + S.wd : Nat) : Int) := by rw [Int.add_mul]; simp
    rw [this, IntKind.wrap_i64]; omega
  have e1 : IntKind.i64.wrap ((k : Int) + 1 - 1) = (k : Int) := by rw [IntKind.wrap_i64]; omega
  have e0 : IntKind.i64.wrap (k : Int) = (k : Int) := by rw [IntKind.wrap_i64]; omega
  have e4 : (k : Int) + 1 - 1 = (k : Int) := by omega
  generalize k * S.wd = m at *
  generalize S.n * S.wd = N at *
  have b1 : (0 : Int) ≤ (m : Int) := by omega
  have b2 : (m : Int) ≤ ((m + S.wd : Nat) : Int) := by omega
  have b3 : ((m + S.wd : Nat) : Int) ≤ (N : Int) := by omega
  have b4 : IntKind.i64.wrap (m : Int) = (m : Int) := by rw [IntKind.wrap_i64]; omega
  have b5 : IntKind.i64.wrap ((m + S.wd : Nat) : Int) = ((m + S.wd : Nat) : Int) := by rw [IntKind.wrap_i64]; omega
  have b6 : m + S.wd - m = S.wd := by omega
  have b7 : ¬ N = m := by omega
  generalize hM : m + S.wd = M at *
  have s1 : w.drew.cell? ⟨L.b, 0, none⟩ = some (.int .i64 (S.wd : Int)) := c0
  have s2 : w.drew.cell? ⟨L.b, 2, none⟩ = some (.slice (some ⟨L.u, 0, none⟩) N N) := c2
  clear hM hk hz hwd hwl f2
  go_enter Tryz.func121, Tryz.ntmps121
  go_wp2
  go_region_held3 (fun w' => w'.cell? ⟨L.b, 0, none⟩ = some (.int .i64 (S.wd : Int)) ∧ w'.cell? ⟨L.b, 2, none⟩ = some (.slice (some ⟨L.u, 0, none⟩) N N)) (first | assumption | exact ⟨s1, s2⟩) (fail)
  go_wp2
  go_ret
  exact ⟨rfl, rfl⟩
end Go.Proofs.YteekompojgbkhaaGreat
