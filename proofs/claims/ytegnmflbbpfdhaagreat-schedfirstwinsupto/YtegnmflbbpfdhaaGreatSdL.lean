import Derived.Test.YtegnmflbbpfdhaaGreatSdK
namespace Go.Proofs.YtegnmflbbpfdhaaGreat
open Go.ChangeShapes Go.WideShapes Go.ChangeAt Go.RowKit Go.MuLone Go.RwLone
set_option linter.unusedVariables false
set_option maxRecDepth 100000
set_option maxHeartbeats 3200000
/-- Some of a bench was played. -/
def Went (A : Ad) (x0 : Int) (g : Nat) (dn : Nat → Bool) (w w' : World) : Prop := ∃ dn' lf', Pl w' A x0 g lf' dn' ∧ Fm A w w' ∧ ∀ k, dn k = true → dn' k = true
theorem Went.refl {A : Ad} {x0 : Int} {g lf : Nat} {dn : Nat → Bool} {w : World} (h : Pl w A x0 g lf dn) : Went A x0 g dn w w := ⟨dn, lf, h, Fm.refl _ _, fun _ h => h⟩
theorem run_out (w : World) (A : Ad) (x0 : Int) (g lf : Nat) (dn : Nat → Bool) (h : Pl w A x0 g lf dn) (x nn : Int) (hx : ¬ (0 ≤ x ∧ x < (A.n : Int))) :
    Calls Tryz.prog 88 #[.pointer (some ⟨g, 0, none⟩), .int .i64 x, .int .i64 nn] w fun e w' => e = .returned (.bool true) ∧ w' = w := by
  have HX : Hid (¬ (0 ≤ x ∧ x < (A.n : Int))) := hx
  have c0 := h.c0
  obtain ⟨st, ev, en, hh⟩ := h.bn.harness
  have HH : Hid (Hr w A.hb A.qb A.n A.pb (fun i => if dn i then 0 else 1) A.cp st ev en) := hh
  clear h hh hx
  go_enter Tryz.func88, Tryz.ntmps88
  go_wp2_with fail
  go_loopw [2] (fun c wr => wr = w ∧ ∃ y : Int, c = .int .i64 y) (fun c _ => 0)
  case atStart => exact ⟨rfl, nn, rfl⟩
  case round =>
    obtain ⟨rfl, y, rfl⟩ := hrel
    by_cases hy0 : 0 < y
    · go_wp2_with fail
      refine (pend_out wr A.hb A.qb A.n A.pb _ A.cp st ev en x HX.out HH.out).mono ?_
      rintro e w1 ⟨rfl, rfl⟩
      go_wp2
      go_ret
      exact ⟨rfl, rfl⟩
    · go_wp2
      go_ret
      exact ⟨rfl, rfl⟩
theorem run_any (w : World) (A : Ad) (x0 : Int) (g lf : Nat) (dn : Nat → Bool) (hA : Ly A) (h : Pl w A x0 g lf dn) (h0 : 0 ≤ x0) (h1 : x0 < 18446744073709551616) (x nn : Int) (hn : nn ≤ 9223372036854775807) :
    Calls Tryz.prog 88 #[.pointer (some ⟨g, 0, none⟩), .int .i64 x, .int .i64 nn] w fun e w' => e = .returned (.bool true) ∧ Went A x0 g dn w w' := by
  by_cases hx : 0 ≤ x ∧ x < (A.n : Int)
  · obtain ⟨i, rfl⟩ := Int.eq_ofNat_of_zero_le hx.1
    refine (run_in w A x0 g lf dn hA h h0 h1 i (by have := hx.2; omega) nn hn).mono ?_
    rintro e w' ⟨rfl, dn', lf', a, b, c, _⟩
    exact ⟨rfl, dn', lf', a, b, c⟩
  · refine (run_out w A x0 g lf dn h x nn hx).mono ?_
    rintro e w' ⟨rfl, rfl⟩
    exact ⟨rfl, Went.refl h⟩
theorem finish_any (w : World) (A : Ad) (x0 : Int) (g lf : Nat) (dn : Nat → Bool) (hA : Ly A) (h : Pl w A x0 g lf dn) (h0 : 0 ≤ x0) (h1 : x0 < 18446744073709551616) (x : Int) :
    Calls Tryz.prog 89 #[.pointer (some ⟨g, 0, none⟩), .int .i64 x] w fun e w' => e = .returned (.bool true) ∧ Went A x0 g dn w w' := by
  have c0 := h.c0
  obtain ⟨st, ev, en, hh⟩ := h.bn.harness
  have HH : Hid (Hr w A.hb A.qb A.n A.pb (fun i => if dn i then 0 else 1) A.cp st ev en) := hh
  have HA : Hid (Ly A) := hA
  have HP : Hid (Pl w A x0 g lf dn) := h
  clear h hh hA
  by_cases hx : 0 ≤ x ∧ x < (A.n : Int)
  · obtain ⟨i, rfl⟩ := Int.eq_ofNat_of_zero_le hx.1
    have hi : i < A.n := by have := hx.2; omega
    clear hx
    by_cases hd : dn i = true
    · go_enter Tryz.func89, Tryz.ntmps89
      go_wp2_with fail
      refine (pend_in w A.hb A.qb A.n A.pb _ A.cp st ev en i hi HH.out).mono ?_
      rintro e w1 ⟨rfl, rfl⟩
      simp only [hd, if_true]
      go_wp2
      go_ret
      exact ⟨rfl, Went.refl HP.out⟩
    · have hd' : dn i = false := by simpa using hd
      have hls := left_set hi hd'
      have hll := HP.out.l
      have hlm := HP.out.m
      go_enter Tryz.func89, Tryz.ntmps89
      go_wp2_with fail
      refine (pend_in w A.hb A.qb A.n A.pb _ A.cp st ev en i hi HH.out).mono ?_
      rintro e w1 ⟨rfl, rfl⟩
      simp only [hd', Bool.false_eq_true, if_false]
      go_wp2_with fail
      go_loopw [] (fun wr => wr = w1) (fun _ => 0)
      case atStart => rfl
      case round =>
        subst hrel
        go_wp2_with fail
        refine (spend_ok wr A x0 g lf dn HA.out HP.out (by omega)).mono ?_
        rintro e w2 ⟨rfl, b2, g2, f2⟩
        have H2 : Hid (Bn w2 A x0 dn ∧ w2.heap[g]? = some (.cells #[.pointer (some ⟨A.hb, 0, none⟩), .int .i64 ((lf - 1 : Nat) : Int)] 163) ∧ Fm A wr w2) := ⟨b2, g2, f2⟩
        have c2 : w2.cell? ⟨g, 0, none⟩ = some (.pointer (some ⟨A.hb, 0, none⟩)) := (cell?_heap g2 0).trans rfl
        clear b2 g2 f2
        go_wp2_with fail
        refine (pl_step w2 A x0 g (lf - 1) dn HA.out H2.out.1 H2.out.2.1 HP.out.b (by omega) (by omega) h0 h1 i hi hd').mono ?_
        rintro e w3 ⟨rfl, p3, f3⟩
        have H3 : Hid (Went A x0 g dn wr w3) := ⟨upd dn i true, lf - 1, p3, H2.out.2.2.trans f3, fun k hk => by
          by_cases e : k = i
          · subst e; exact upd_same _ _ _
          · rw [upd_other _ _ e]; exact hk⟩
        clear p3 f3 H2 c2
        go_wp2
        go_ret
        exact ⟨rfl, H3.out⟩
  · go_enter Tryz.func89, Tryz.ntmps89
    go_wp2_with fail
    refine (pend_out w A.hb A.qb A.n A.pb _ A.cp st ev en x hx HH.out).mono ?_
    rintro e w1 ⟨rfl, rfl⟩
    go_wp2
    go_ret
    exact ⟨rfl, Went.refl HP.out⟩
theorem idle_any (w : World) (A : Ad) (hn4 : A.n ≤ 4) (dn : Nat → Bool) (st : Int) (ev en : Value) (h : Hr w A.hb A.qb A.n A.pb (fun i => if dn i then 0 else 1) A.cp st ev en) :
    Calls Tryz.prog 44 #[.pointer (some ⟨A.hb, 0, none⟩)] w fun e w' => w' = w ∧ ∃ b, e = .returned (.bool b) ∧ (b = true → ∀ i, i < A.n → dn i = true) := by
  have HH : Hid (Hr w A.hb A.qb A.n A.pb (fun i => if dn i then 0 else 1) A.cp st ev en) := h
  have cq := h.q
  clear h
  go_enter Tryz.func44, Tryz.ntmps44
  go_wp2_with fail
  go_loopw [12] (fun c wr => wr = w ∧ ∃ t : Nat, c = .int .i64 t ∧ t ≤ A.n ∧ ∀ k, k < t → dn k = true) (fun c _ => A.n - (intOf c).toNat)
  case atStart => exact ⟨rfl, 0, rfl, by omega, fun k hk => by omega⟩
  case round =>
    obtain ⟨rfl, t, rfl, ht, hall⟩ := hrel
    have HD : Hid (∀ k, k < t → dn k = true) := hall
    clear hall cq
    by_cases h4 : t < A.n
    · have cr := HH.out.r t h4
      have t0 : (0 : Int) ≤ (t : Int) := Int.natCast_nonneg _
      have t1 : (t : Int) < (A.n : Int) := by omega
      by_cases hd : dn t = true
      · simp only [hd, if_true] at cr
        go_wp2
        go_roundw
        case rel =>
          refine ⟨trivial, t + 1, by go_num, by omega, fun k hk => ?_⟩
          by_cases e : k = t
          · subst e; exact hd
          · exact HD.out k (by omega)
        case measure => simp [intOf]; omega
      · have hd' : dn t = false := by simpa using hd
        simp only [hd', Bool.false_eq_true, if_false] at cr
        go_wp2
        go_ret
        exact ⟨rfl, false, rfl, fun h => by cases h⟩
    · go_wp2
      go_ret
      exact ⟨rfl, true, rfl, fun _ i hi => HD.out i (by omega)⟩
end Go.Proofs.YtegnmflbbpfdhaaGreat
