import Derived.Test.YtjkipbjphdfemaaRows8
namespace Go.Proofs.Ytjkipbjphdfemaa
open Go.ChangeShapes Go.WideShapes Go.ChangeAt Go.RowKit
set_option linter.unusedVariables false

theorem markV_len (vs : List (Int × Int × ByteArray)) : (vs ++ [markV]).length = vs.length + 1 := by simp
theorem take_front (vs : List (Int × Int × ByteArray)) : vs = (vs ++ [markV]).take vs.length := by simp
theorem num_any (e : Int) (w : World) : Calls Try.prog 9 #[.int .i64 e] w fun r w' => r = .returned (.int .i64 e) ∧ w' = w := by
  go_enter Try.func9, Try.ntmps9
  go_wp2
  go_ret
  exact ⟨rfl, rfl⟩
def wfV (vs : List (Int × Int × ByteArray)) : Prop := ∀ v ∈ vs, v.2.2.size ≤ 9223372036854775807 ∧ -9223372036854775808 ≤ v.2.1 ∧ v.2.1 ≤ 9223372036854775807
theorem wfV_of {vs : List (Int × Int × ByteArray)} (h : ∀ v ∈ vs, v.2.2.size ≤ maxLen ∧ (Lit.int .i64 v.1).wf = true ∧ (Lit.int .i64 v.2.1).wf = true) : wfV vs := by
  intro v hv
  obtain ⟨h1, _, h3⟩ := h v hv
  have h4 := bounds_i64 h3
  refine ⟨by unfold maxLen at h1; omega, ?_⟩
  exact ⟨by omega, by omega⟩
/-- A list's bytes, or the error, as the calls answer them. -/
def told (vs : List (Int × Int × ByteArray)) (l : List Int) : ByteArray × Int := if 16 < vs.length then (⟨#[]⟩, 18) else if faultL vs = 0 then (strOfNums l, 0) else (⟨#[]⟩, faultL vs)
theorem told_eq (vs : List (Int × Int × ByteArray)) (l : List Int) : (if 16 < vs.length then Value.tuple #[.string ⟨#[]⟩, .int .i64 18] else if faultL vs = 0 then .tuple #[.string (strOfNums l), .int .i64 0] else .tuple #[.string ⟨#[]⟩, .int .i64 (faultL vs)]) = .tuple #[.string (told vs l).1, .int .i64 (told vs l).2] := by
  unfold told
  split
  · rfl
  · split <;> rfl
def KeyS (w : World) (M : Nat) (a c c0 : Value) (vs : List (Int × Int × ByteArray)) (W : World) : Prop :=
  SeesV W M a vs ∧ SeesV W M c0 vs ∧ SeesV W M c (vs ++ [markV]) ∧ M ≤ W.heap.size ∧ w.heap.size ≤ M ∧ Below w.heap.size w W
section
variable {w : World} {M : Nat} {a c c0 : Value} {vs : List (Int × Int × ByteArray)}
theorem KeyS.later {W W' : World} (h : KeyS w M a c c0 vs W) (hb : Below M W W') : KeyS w M a c c0 vs W' := by
  obtain ⟨h1, h2, h3, h4, h5, h6⟩ := h
  exact ⟨h1.later hb, h2.later hb, h3.later hb, Nat.le_trans h4 hb.size, h5, h6.trans (hb.mono h5)⟩
theorem keyS_1 {W : World} (hv : wfV vs) (h : KeyS w M a c c0 vs W) : Calls Try.prog 7 #[c0] W fun e w' => e = .returned (.tuple #[.string (told vs (keyL vs)).1, .int .i64 (told vs (keyL vs)).2]) ∧ KeyS w M a c c0 vs w' :=
  (keyG c0 vs M W h.2.2.2.1 h.2.1 hv).mono fun e w' ⟨he, hb⟩ => ⟨by rw [he, told_eq], h.later hb⟩
theorem keyS_2 {W : World} (hv : wfV vs) (h : KeyS w M a c c0 vs W) : Calls Try.prog 15 #[a] W fun e w' => e = .returned (.tuple #[.string (told vs (keyL vs)).1, .int .i64 (told vs (keyL vs)).2]) ∧ KeyS w M a c c0 vs w' :=
  (ref_keyG a vs M W h.2.2.2.1 h.1 hv).mono fun e w' ⟨he, hb⟩ => ⟨by rw [he, told_eq], h.later hb⟩
theorem keyS_3 {W : World} (hv : wfV vs) (h : KeyS w M a c c0 vs W) : Calls Try.prog 10 #[c0] W fun e w' => e = .returned (.tuple #[.string (told vs (rowAll vs)).1, .int .i64 (told vs (rowAll vs)).2]) ∧ KeyS w M a c c0 vs w' :=
  (rowG c0 vs M W h.2.2.2.1 h.2.1 hv).mono fun e w' ⟨he, hb⟩ => ⟨by rw [he, told_eq], h.later hb⟩
theorem keyS_4 {W : World} (hv : wfV vs) (h : KeyS w M a c c0 vs W) : Calls Try.prog 16 #[a] W fun e w' => e = .returned (.tuple #[.string (told vs (rowAll vs)).1, .int .i64 (told vs (rowAll vs)).2]) ∧ KeyS w M a c c0 vs w' :=
  (ref_rowG a vs M W h.2.2.2.1 h.1 hv).mono fun e w' ⟨he, hb⟩ => ⟨by rw [he, told_eq], h.later hb⟩
theorem keyS_5 {W : World} (h : KeyS w M a c c0 vs W) : Calls Try.prog 17 #[c0, a] W fun e w' => e = .returned (.bool true) ∧ KeyS w M a c c0 vs w' :=
  (same_true c0 a vs M W h.2.2.2.1 h.2.1 h.1).mono fun e w' ⟨he, hb⟩ => ⟨he, h.later hb⟩
theorem keyS_6 {W : World} {g1 cap1 : Nat} (h : KeyS w M a (.slice (some ⟨g1, 0, none⟩) (vs.length + 1) cap1) c0 vs W) : Calls Try.prog 17 #[c0, a] W fun e w' => e = .returned (.bool true) ∧ Hid (Below w.heap.size w w') ∧ w'.cell? ⟨g1, vs.length * 3, none⟩ = some (.int .i64 77) ∧ w'.cell? ⟨g1, vs.length * 3 + 1, none⟩ = some (.int .i64 77) ∧ w'.cell? ⟨g1, vs.length * 3 + 2, none⟩ = some (.string ⟨#[109, 97, 114, 107]⟩) := by
  refine (keyS_5 h).mono fun e w' ⟨he, hs⟩ => ⟨he, hs.2.2.2.2.2, ?_⟩
  obtain ⟨_, _, ec, hlc, hcc, cc⟩ := hs.2.2.1
  obtain ⟨b1, o1, e1, hb1, y0, y1, y2⟩ := cc vs.length (by simp)
  subst e1
  simp only [Value.slice.injEq, Option.some.injEq, Addr.mk.injEq, and_true] at ec
  obtain ⟨⟨rfl, rfl⟩, _, rfl⟩ := ec
  simp only [List.getElem_concat_length, markV, Nat.zero_add] at y0 y1 y2
  exact ⟨y0, y1, y2⟩
end
set_option maxRecDepth 100000 in
set_option maxHeartbeats 3200000 in
theorem keys_walk (a : Value) (vs : List (Int × Int × ByteArray)) (w : World) (ha : SeesV w w.heap.size a vs) (hr1 : (vs.length + 1) * 32 ≤ 140737488355328) (hv : wfV vs) :
    Calls Try.prog 4 #[a] w fun e w' => e = .returned (.bool true) ∧ Below w.heap.size w w' := by
  have HA : Hid (SeesV w w.heap.size a vs) := ha
  obtain ⟨ao, capa, rfl, hla, hca, hsa⟩ := ha
  clear hsa
  go_enter Try.func4, Try.ntmps4
  go_wp2_with fail
  refine (room_any _ vs w.heap.size w (Nat.le_refl _) HA.out hr1).mono ?_
  rintro e w1 ⟨g1, cap1, rfl, ho1, hb1⟩
  have n1 : vs.length + 1 ≤ cap1 := by
    rcases ho1.2 with ⟨h', _⟩ | ⟨g', cap', cur, h', _, _, hnc, _⟩
    · simp at h'
    · simp only [Value.slice.injEq] at h'; rw [markV_len] at hnc; omega
  have S1 : Hid (KeyS w w1.heap.size (.slice ao vs.length capa) (.slice (some ⟨g1, 0, none⟩) (vs.length + 1) cap1) (.slice (some ⟨g1, 0, none⟩) vs.length cap1) vs w1) := by
    have c1 := ho1.sees (us := vs ++ [markV]) (by simp) (by rw [List.take_length]) (by simp) (by simp; omega)
    rw [markV_len] at c1
    have d1 := ho1.sees (us := vs) (by simp) (take_front vs) (by simp) (by omega)
    exact ⟨(HA.out.later hb1).mono hb1.size, d1, c1, Nat.le_refl _, hb1.size, hb1⟩
  clear hb1 ho1 HA
  generalize w1.heap.size = M at *
  have p1 : (vs.length : Int) ≤ (cap1 : Int) := by omega
  have p3 : vs.length ≤ cap1 := by omega
  have p5 : (0 : Int) ≤ (vs.length : Int) := by omega
  go_wp2_with fail
  refine (keyS_1 hv S1.out).mono ?_
  rintro e w2 ⟨rfl, hs2⟩
  have S2 : Hid (KeyS w M _ _ _ vs w2) := hs2
  clear hs2 S1
  go_wp2_with fail
  refine (keyS_2 hv S2.out).mono ?_
  rintro e w3 ⟨rfl, hs3⟩
  have S3 : Hid (KeyS w M _ _ _ vs w3) := hs3
  clear hs3 S2
  generalize told vs (keyL vs) = T at *
  obtain ⟨t1, t2⟩ := T
  simp only
  go_wp2_with (go_at_call 9; refine (num_any _ _).mono ?_; rintro e w' ⟨rfl, rfl⟩)
  refine (keyS_3 hv S3.out).mono ?_
  rintro e w4 ⟨rfl, hs4⟩
  have S4 : Hid (KeyS w M _ _ _ vs w4) := hs4
  clear hs4 S3
  go_wp2_with fail
  refine (keyS_4 hv S4.out).mono ?_
  rintro e w5 ⟨rfl, hs5⟩
  have S5 : Hid (KeyS w M _ _ _ vs w5) := hs5
  clear hs5 S4
  generalize told vs (rowAll vs) = T at *
  obtain ⟨t3, t4⟩ := T
  simp only
  go_wp2_with (go_at_call 9; refine (num_any _ _).mono ?_; rintro e w' ⟨rfl, rfl⟩)
  refine (keyS_6 S5.out).mono ?_
  rintro e w6 ⟨rfl, S6, y0, y1, y2⟩
  clear S5
  have p7 : (vs.length : Int) < (vs.length : Int) + 1 := by omega
  go_wp2
  go_ret
  exact ⟨rfl, S6.out⟩
end Go.Proofs.Ytjkipbjphdfemaa
