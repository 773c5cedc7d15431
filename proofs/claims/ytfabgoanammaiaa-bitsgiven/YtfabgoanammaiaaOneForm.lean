import Derived.Test.YtfabgoanammaiaaOrd4
import Derived.Test.YtfabgoanammaiaaRdPlain8
import Derived.Test.YtfabgoanammaiaaReads3
namespace Go.Proofs.Ytfabgoanammaiaa
open Go.ChangeShapes Go.WideShapes Go.ChangeAt Go.RowKit
set_option linter.unusedVariables false

theorem canV_wf {v : Int × Int × ByteArray} (h : canV v) : v.2.2.size ≤ 9223372036854775807 ∧ -9223372036854775808 ≤ v.2.1 ∧ v.2.1 ≤ 9223372036854775807 := by
  rcases h with rfl | ⟨i, rfl, h0, h1⟩ | ⟨i, rfl, h0, h1⟩ | ⟨t, rfl, h0⟩
  · exact ⟨by show (0 : Nat) ≤ _; omega, by show (-9223372036854775808 : Int) ≤ 0; omega, by show (0 : Int) ≤ _; omega⟩
  · exact ⟨by show (0 : Nat) ≤ _; omega, by show (-9223372036854775808 : Int) ≤ i; omega, by show i ≤ _; omega⟩
  · exact ⟨by show (0 : Nat) ≤ _; omega, h0, h1⟩
  · exact ⟨by show t.size ≤ _; omega, by show (-9223372036854775808 : Int) ≤ 0; omega, by show (0 : Int) ≤ _; omega⟩
theorem ownV.seesAll {w : World} {B : Nat} {v : Value} {vs : List (Int × Int × ByteArray)} (h : ownV w B v vs) (h47 : vs.length ≤ 140737488355328) : SeesV w w.heap.size v vs := by
  have h' := h
  rcases h.2 with ⟨e, e2⟩ | ⟨g, cap, cur, e, hb, hg, hnc, hm, hs, ht⟩
  · subst e
    have : vs = [] := List.length_eq_zero_iff.1 e2
    subst this
    exact ⟨none, 0, rfl, by simp, by simp, fun k hk => absurd hk (by simp)⟩
  · subst e
    exact ownV.sees h' rfl (by simp) (Nat.le_refl _) h47
theorem rowAll_fits (vs : List (Int × Int × ByteArray)) (h1 : ¬ 16 < vs.length) (h2 : ∀ v ∈ vs, canV v) : (strOfNums (rowAll vs)).size ≤ 1125899906842624 := by
  have hv : ∀ us : List (Int × Int × ByteArray), (∀ v ∈ us, canV v) → (rowL us).length ≤ us.length * 4106 := by
    intro us
    induction us with
    | nil => intro _; simp [rowL]
    | cons x r ih =>
      intro h
      have e : rowL (x :: r) = rowV x ++ rowL r := by unfold rowL; rw [List.flatMap_cons]
      have hx : (rowV x).length ≤ 4106 := by
        have l1 : ∀ z, (uvB z).length ≤ 10 := uvB_len
        rcases h x (by simp) with rfl | ⟨i, rfl, h0, h1⟩ | ⟨i, rfl, h0, h1⟩ | ⟨t, rfl, h0⟩
        · show (0 : Nat) ≤ _; omega
        · show (1 : Nat) ≤ _; omega
        · have := l1 (svV i); show (uvB (svV i)).length ≤ _; omega
        · have := l1 t.size
          show (uvB t.size ++ txt t).length ≤ _
          have e2 : (txt t).length = t.size := by unfold txt; simp
          rw [List.length_append]; omega
      have := ih fun v hv => h v (by simp [hv])
      rw [e, List.length_append, List.length_cons]; omega
  have := hv vs h2
  rw [strOfNums_size]
  unfold rowAll
  simp only [List.cons_append, List.length_cons, List.length_append, kbytes_len]
  omega
/-- A number that is read at a place is that number's bytes. -/
theorem rU_form (s : ByteArray) (at_ : Int) (h : (rU s at_).2.2 = 0) : 0 ≤ at_ ∧ ∃ p u m : Nat, at_ = p ∧ rU s at_ = ((u : Int), ((p + m : Nat) : Int), 0) ∧ 0 < m ∧ p + m ≤ s.size ∧ u < 18446744073709551616 ∧ s.extract p (p + m) = strOfNums (uvB u) := by
  by_cases hin : 0 ≤ at_ ∧ at_ ≤ s.size
  · obtain ⟨p, rfl⟩ := Int.eq_ofNat_of_zero_le hin.1
    have hp : p ≤ s.size := by omega
    by_cases hc : (tU s p).2.2 = 0
    · have e := rd3_ok s p (0 : Int) (tU s) hp hc
      have hb := ruV_bound s p
      have hc' : (ruV s p).2.2 = 0 := hc
      obtain ⟨f1, f2⟩ := ru_form0 s p (ruV s p).1 (ruV s p).2.1 (by rw [← hc'])
      have hl := (uvF_len 9 ((ruV s p).1 : Int)).2
      refine ⟨by omega, p, (ruV s p).1, (ruV s p).2.1, rfl, ?_, ?_, hb.2.2.2.2 hc', hb.1, ?_⟩
      · unfold rU
        rw [e]
        show (((ruV s p).1 : Int), _, _) = _
        simp [tU]
      · have : (uvB ((ruV s p).1 : Int)).length = (uvF 9 ((ruV s p).1 : Int)).length := rfl
        omega
      · have ex := lies_extract s (strOfNums (uvB ((ruV s p).1 : Int))) p hp ?_
        · rw [strOfNums_size, ← f2] at ex; exact ex
        · have hin := uvB_in ((ruV s p).1 : Int) (by omega) (by omega)
          have et : txt (strOfNums (uvB ((ruV s p).1 : Int))) = uvB ((ruV s p).1 : Int) := by
            unfold txt strOfNums
            simp only [List.map_map]
            conv => rhs; rw [← List.map_id (uvB ((ruV s p).1 : Int))]
            apply List.map_congr_left
            intro x hx
            have := hin x hx
            simp
            omega
          rw [et]; exact f1
    · exfalso
      have e := rd3_err s p (0 : Int) (tU s) hp hc
      unfold rU at h
      rw [e] at h
      exact hc h
  · exfalso
    have e := rd3_out s at_ (0 : Int) (tU s) hin
    unfold rU at h
    rw [e] at h
    simp at h
def BelS (w W : World) : Prop := Below w.heap.size w W
theorem BelS.drew {w W : World} (h : BelS w W) : BelS w W.drew := Below.drew h
set_option maxRecDepth 100000 in
set_option maxHeartbeats 6400000 in
theorem oneForm_walk (a : Value) (vs : List (Int × Int × ByteArray)) (s : ByteArray) (at_ : Int) (w : World) (ha : SeesV w w.heap.size a vs) (hv : wfV vs) (hs : s.size ≤ 140737488351232) (h0 : -9223372036854775808 ≤ at_) (h1 : at_ ≤ 9223372036854775807) :
    Calls Try.prog 3 #[a, .string s, .int .i64 at_] w fun e w' => e = .returned (.bool true) ∧ Below w.heap.size w w' := by
  have HA : Hid (SeesV w w.heap.size a vs) := ha
  obtain ⟨ao, capa, rfl, hla, hca, hsa⟩ := ha
  clear hsa
  have RK0 : Hid (∀ W, Below w.heap.size w W → (rkL s 0).2.2 = 0 → Calls Try.prog 8 #[.string s] W fun e w' => ∃ v, e = .returned (.tuple #[v, .int .i64 0]) ∧ Hid (SeesV w' w'.heap.size v (rkL s 0).1) ∧ Hid (Below w.heap.size w w')) := fun W h hc => (readKey_any s W (by omega)).mono fun e w' ⟨⟨k1, k2⟩, hb⟩ => by
    obtain ⟨v, rfl, ho⟩ := k1 hc
    have hl := (rkL_form s (rkL s 0).1 (rkL s 0).2.1 (by rw [← hc])).2.1
    exact ⟨v, rfl, ho.seesAll (by omega), h.trans (hb.mono h.size)⟩
  have RK1 : Hid (∀ W, Below w.heap.size w W → (rkL s 0).2.2 ≠ 0 → Calls Try.prog 8 #[.string s] W fun e w' => e = .returned (.tuple #[.slice none 0 0, .int .i64 (rkL s 0).2.2]) ∧ Hid (Below w.heap.size w w')) := fun W h hc => (readKey_any s W (by omega)).mono fun e w' ⟨⟨k1, k2⟩, hb⟩ => ⟨k2 hc, h.trans (hb.mono h.size)⟩
  have KY : Hid (∀ W v, Below w.heap.size w W → (rkL s 0).2.2 = 0 → SeesV W W.heap.size v (rkL s 0).1 → Calls Try.prog 7 #[v] W fun e w' => e = .returned (.tuple #[.string s, .int .i64 0]) ∧ Hid (Below w.heap.size w w')) := fun W v h hc hsv => by
    obtain ⟨f1, f2, f3⟩ := rkL_form s (rkL s 0).1 (rkL s 0).2.1 (by rw [← hc])
    refine (keyG v _ W.heap.size W (Nat.le_refl _) hsv (fun x hx => canV_wf (f3 x hx))).mono fun e w' ⟨he, hb⟩ => ?_
    rw [if_neg (by omega), if_pos (faults_can _ f3), ← f1] at he
    exact ⟨he, h.trans (hb.mono h.size)⟩
  have RR0 : Hid (∀ W, Below w.heap.size w W → (rrL s 0).2.2 = 0 → Calls Try.prog 11 #[.string s] W fun e w' => ∃ v, e = .returned (.tuple #[v, .int .i64 0]) ∧ Hid (SeesV w' w'.heap.size v (rrL s 0).1) ∧ Hid (Below w.heap.size w w')) := fun W h hc => (readRow_any s W (by omega)).mono fun e w' ⟨⟨k1, k2⟩, hb⟩ => by
    obtain ⟨v, rfl, ho⟩ := k1 hc
    have hl := (rrL_form s (rrL s 0).1 (rrL s 0).2.1 (by rw [← hc])).2.1
    exact ⟨v, rfl, ho.seesAll (by omega), h.trans (hb.mono h.size)⟩
  have RR1 : Hid (∀ W, Below w.heap.size w W → (rrL s 0).2.2 ≠ 0 → Calls Try.prog 11 #[.string s] W fun e w' => e = .returned (.tuple #[.slice none 0 0, .int .i64 (rrL s 0).2.2]) ∧ Hid (Below w.heap.size w w')) := fun W h hc => (readRow_any s W (by omega)).mono fun e w' ⟨⟨k1, k2⟩, hb⟩ => ⟨k2 hc, h.trans (hb.mono h.size)⟩
  have RY : Hid (∀ W v, Below w.heap.size w W → (rrL s 0).2.2 = 0 → SeesV W W.heap.size v (rrL s 0).1 → Calls Try.prog 10 #[v] W fun e w' => e = .returned (.tuple #[.string s, .int .i64 0]) ∧ Hid (Below w.heap.size w w')) := fun W v h hc hsv => by
    obtain ⟨f1, f2, f3⟩ := rrL_form s (rrL s 0).1 (rrL s 0).2.1 (by rw [← hc])
    refine (rowG v _ W.heap.size W (Nat.le_refl _) hsv (fun x hx => canV_wf (f3 x hx))).mono fun e w' ⟨he, hb⟩ => ?_
    rw [if_neg (by omega), if_pos (faults_can _ f3), ← f1] at he
    exact ⟨he, h.trans (hb.mono h.size)⟩
  have UR : Hid (∀ W, Below w.heap.size w W → Calls Try.prog 12 #[.string s, .int .i64 at_] W fun e w' => e = .returned (.tuple #[.int .u64 (rU s at_).1, .int .i64 (rU s at_).2.1, .int .i64 (rU s at_).2.2]) ∧ Hid (Below w.heap.size w w')) := fun W h => (ReadUvarint_any s at_ W h0 h1 (by omega)).mono fun e w' ⟨he, hb⟩ => ⟨he, h.trans (hb.mono h.size)⟩
  have UF : Hid _ := rU_form s at_
  have UV : Hid (∀ W (u : Nat), Below w.heap.size w W → u < 18446744073709551616 → Calls Try.prog 13 #[.int .u64 u] W fun e w' => e = .returned (.string (strOfNums (uvB u))) ∧ Hid (Below w.heap.size w w')) := fun W u h hu => (uvarint (u : Int) W (by omega) (by omega)).mono fun e w' ⟨he, hb⟩ => ⟨he, h.trans (hb.mono h.size)⟩
  have MY : Hid (mayB vs = true → ∀ W, Below w.heap.size w W → Calls Try.prog 7 #[.slice ao vs.length capa] W (fun e w' => e = .returned (.tuple #[.string (strOfNums (keyL vs)), .int .i64 0]) ∧ Hid (Below w.heap.size w w')) ∧ Calls Try.prog 10 #[.slice ao vs.length capa] W (fun e w' => e = .returned (.tuple #[.string (strOfNums (rowAll vs)), .int .i64 0]) ∧ Hid (Below w.heap.size w w')) ∧ Calls Try.prog 8 #[.string (strOfNums (keyL vs))] W (fun e w' => ∃ v, e = .returned (.tuple #[v, .int .i64 0]) ∧ Hid (Below w.heap.size w w')) ∧ Calls Try.prog 11 #[.string (strOfNums (rowAll vs))] W (fun e w' => ∃ v, e = .returned (.tuple #[v, .int .i64 0]) ∧ Hid (Below w.heap.size w w'))) := fun hm W h => by
    obtain ⟨f1, f2, f3⟩ := may_true vs hm
    have hc : ∀ v ∈ vs, canV v := fun v hx => canV_of v (f3 v hx) (hv v hx).2.1 (hv v hx).2.2
    refine ⟨?_, ?_, ?_, ?_⟩
    · refine (keyG _ vs w.heap.size W h.size (HA.out.later h) hv).mono fun e w' ⟨he, hb⟩ => ?_
      rw [if_neg f1, if_pos f2] at he
      exact ⟨he, h.trans hb⟩
    · refine (rowG _ vs w.heap.size W h.size (HA.out.later h) hv).mono fun e w' ⟨he, hb⟩ => ?_
      rw [if_neg f1, if_pos f2] at he
      exact ⟨he, h.trans hb⟩
    · have hz := key_fits vs f1 f2
      have hk := rkL_key vs f2 (by omega) (fun v hx => (hv v hx).2)
      refine (readKey_any _ W (by omega)).mono fun e w' ⟨⟨k1, k2⟩, hb⟩ => ?_
      obtain ⟨v, he, _⟩ := k1 (by rw [hk])
      exact ⟨v, he, h.trans (hb.mono h.size)⟩
    · have hz := rowAll_fits vs f1 hc
      have hk := rrL_row vs f2 (by omega) (fun v hx => (hv v hx).2)
      refine (readRow_any _ W (by omega)).mono fun e w' ⟨⟨k1, k2⟩, hb⟩ => ?_
      obtain ⟨v, he, _⟩ := k1 (by rw [hk])
      exact ⟨v, he, h.trans (hb.mono h.size)⟩
  have MA : Hid (Calls Try.prog 6 #[.slice ao vs.length capa] w fun e w' => e = .returned (.bool (mayB vs)) ∧ Below w.heap.size w w') := may_any _ vs w.heap.size w (Nat.le_refl _) HA.out (fun v h => (hv v h).1)
  clear HA hv
  generalize hrk : (rkL s 0).2.2 = ck at *
  generalize (rkL s 0).1 = vk at *
  generalize hrr : (rrL s 0).2.2 = cr at *
  generalize (rrL s 0).1 = vr at *
  generalize strOfNums (keyL vs) = sk at *
  generalize strOfNums (rowAll vs) = sr at *
  clear hrk hrr
  go_enter Try.func3, Try.ntmps3
  go_wp2_with fail
  refine MA.out.mono ?_
  clear MA
  rintro e w1 ⟨rfl, hb1⟩
  have B1 : Hid (Below w.heap.size w w1) := hb1
  clear hb1
  cases hm : mayB vs
  case' true =>
    have MZ : Hid _ := MY.out hm
    clear hm
    go_wp2_with fail
    refine (MZ.out _ B1.out).1.mono ?_
    rintro e w2 ⟨rfl, B2⟩
    go_wp2_with fail
    refine (MZ.out _ B2.out).2.2.1.mono ?_
    rintro e w3 ⟨v3, rfl, B3⟩
    clear B2
    go_wp2_with (go_at_call 9; refine (num_any _ _).mono ?_; rintro e w' ⟨rfl, rfl⟩)
    refine (MZ.out _ B3.out).2.1.mono ?_
    rintro e w4 ⟨rfl, B4⟩
    clear B3
    go_wp2_with fail
    refine (MZ.out _ B4.out).2.2.2.mono ?_
    rintro e w5 ⟨v5, rfl, B5⟩
    clear B4 MZ B1
    go_wp2_with (go_at_call 9; refine (num_any _ _).mono ?_; rintro e w' ⟨rfl, rfl⟩)
    have B1 : Hid _ := B5
    clear B5
  case' false =>
    clear hm
    go_wp2_with fail
  all_goals
    clear MY
    by_cases hk : ck = 0
    case' pos =>
      refine (RK0.out _ B1.out hk).mono ?_
      rintro e w2 ⟨v, rfl, S2, B2⟩
      clear RK0 RK1 B1
      have HK : Hid (ck = 0) := hk
      clear hk
      go_wp2_with (go_at_call 9; refine (num_any _ _).mono ?_; rintro e w' ⟨rfl, rfl⟩)
      refine (KY.out _ _ B2.out HK.out S2.out).mono ?_
      rintro e w3 ⟨rfl, B3⟩
      clear KY S2 HK B2
      go_wp2_with (go_at_call 9; refine (num_any _ _).mono ?_; rintro e w' ⟨rfl, rfl⟩)
    case' neg =>
      refine (RK1.out _ B1.out hk).mono ?_
      rintro e w2 ⟨rfl, B3⟩
      have hk2 : (ck == 0) = false := by simpa using hk
      clear RK0 RK1 KY B1 hk
      go_wp2_with (go_at_call 9; refine (num_any _ _).mono ?_; rintro e w' ⟨rfl, rfl⟩)
  all_goals
    by_cases hk : cr = 0
    case' pos =>
      refine (RR0.out _ B3.out hk).mono ?_
      rintro e w4 ⟨v, rfl, S2, B2⟩
      clear RR0 RR1 B3
      have HK : Hid (cr = 0) := hk
      clear hk
      go_wp2_with (go_at_call 9; refine (num_any _ _).mono ?_; rintro e w' ⟨rfl, rfl⟩)
      refine (RY.out _ _ B2.out HK.out S2.out).mono ?_
      rintro e w5 ⟨rfl, B5⟩
      clear RY S2 HK B2
      go_wp2_with (go_at_call 9; refine (num_any _ _).mono ?_; rintro e w' ⟨rfl, rfl⟩)
    case' neg =>
      refine (RR1.out _ B3.out hk).mono ?_
      rintro e w4 ⟨rfl, B5⟩
      have hk3 : (cr == 0) = false := by simpa using hk
      clear RR0 RR1 RY B3 hk
      go_wp2_with (go_at_call 9; refine (num_any _ _).mono ?_; rintro e w' ⟨rfl, rfl⟩)
  all_goals
    refine (UR.out _ B5.out).mono ?_
    rintro e w6 ⟨rfl, B6⟩
    clear UR B5
    by_cases hu : (rU s at_).2.2 = 0
    · obtain ⟨_, p, u, m, e1, e2, e3, e4, e5, e6⟩ := UF.out hu
      have UZ : Hid _ := UV.out
      rw [e2]
      clear UF hu e2
      subst e1
      have q1 : (p : Int) < ((p + m : Nat) : Int) := by omega
      have q2 : ((p + m : Nat) : Int) ≤ (s.size : Int) := by omega
      have q3 : (0 : Int) ≤ (p : Int) := by omega
      have q4 : (p : Int) ≤ ((p + m : Nat) : Int) := by omega
      have q5 : p ≤ p + m := by omega
      have q6 : (0 : Int) ≤ ((p + m : Nat) : Int) := by omega
      have EX : Hid (s.extract p (p + m) = strOfNums (uvB u)) := e6
      have EU : Hid (u < 18446744073709551616) := e5
      clear e3 e5 e6
      generalize p + m = q at *
      go_wp2_with (go_at_call 9; refine (num_any _ _).mono ?_; rintro e w' ⟨rfl, rfl⟩)
      have BS : BelS w w' := B6.out
      have UY : Hid (∀ W, BelS w W → Calls Try.prog 13 #[.int .u64 u] W fun e w' => e = .returned (.string (strOfNums (uvB u))) ∧ BelS w w') := fun W h => (UZ.out W u h EU.out).mono fun e w' ⟨he, hb⟩ => ⟨he, hb.out⟩
      have hq : ((s.extract p q).toList == (strOfNums (uvB u)).toList) = true := by rw [EX.out]; exact beq_self_eq_true _
      clear EX UZ B6 EU UV
      generalize strOfNums (uvB u) = t at *
      go_region_held3 (fun W => BelS w W) (first | assumption | exact BelS.drew (by assumption)) (first | (go_at_call 13; refine (UY.out _ (by first | assumption | exact BelS.drew (by assumption))).mono ?_; rintro e w7 ⟨rfl, BT⟩))
      go_wp2
      go_ret
      exact ⟨rfl, BT⟩
    · have hk4 : ((rU s at_).2.2 != 0) = true := by simpa using hu
      clear UF UV hu
      generalize (rU s at_).2.2 = cu at *
      go_wp2_with (go_at_call 9; refine (num_any _ _).mono ?_; rintro e w' ⟨rfl, rfl⟩)
      go_ret
      exact ⟨rfl, B6.out⟩
end Go.Proofs.Ytfabgoanammaiaa
