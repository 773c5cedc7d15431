import Derived.Test.YtegnmflbbpfdhaaGreatSdM
namespace Go.Proofs.YtegnmflbbpfdhaaGreat
open Go.ChangeShapes Go.WideShapes Go.ChangeAt Go.RowKit Go.MuLone Go.RwLone
set_option linter.unusedVariables false
set_option maxRecDepth 100000
set_option maxHeartbeats 3200000
/-- The world behind the box of a pick. -/
abbrev pkW (w : World) (k x n : Int) : World := w.alloc (.cells #[.int .i64 k, .int .i64 x, .int .i64 n] 113)
/-- What a pick leaves. -/
def Picked (A : Ad) (x0 : Int) (g : Nat) (dn : Nat → Bool) (k : Int) (w w' : World) : Prop := ∃ dn' lf', Pl w' A x0 g lf' dn' ∧ Fm A w w' ∧ (∀ i, dn i = true → dn' i = true) ∧ (k = 6 → ∀ i, i < A.n → dn' i = true)
theorem Went.picked {A : Ad} {x0 : Int} {g : Nat} {dn : Nat → Bool} {w w1 w' : World} {k : Int} (h : Went A x0 g dn w1 w') (f : Fm A w w1) (hk : k ≠ 6) : Picked A x0 g dn k w w' := by
  obtain ⟨d, l, p, f2, m⟩ := h
  exact ⟨d, l, p, f.trans f2, m, fun e => absurd e hk⟩
theorem pick_any (w : World) (A : Ad) (x0 : Int) (g lf : Nat) (dn : Nat → Bool) (hA : Ly A) (h : Pl w A x0 g lf dn) (h0 : 0 ≤ x0) (h1 : x0 < 18446744073709551616) (k x nn : Int) (hn : nn ≤ 9223372036854775807) :
    Calls Tryz.prog 64 #[.pointer (some ⟨g, 0, none⟩), .agg #[.int .i64 k, .int .i64 x, .int .i64 nn]] w fun e w' => e = .returned (.bool true) ∧ Picked A x0 g dn k w w' := by
  have HP : Hid (Pl (pkW w k x nn) A x0 g lf dn ∧ Fm A w (pkW w k x nn)) := ⟨h.still hA ((Keeps.refl _ _).alloc _), Fm.still ((Keeps.refl _ _).alloc _)⟩
  have HA : Hid (Ly A) := hA
  clear h hA
  by_cases k1 : k = 1
  · subst k1
    go_enter Tryz.func64, Tryz.ntmps64
    go_wp2_with fail
    refine (run_any _ A x0 g lf dn HA.out HP.out.1 h0 h1 x 1 (by omega)).mono ?_
    rintro e w1 ⟨rfl, hw⟩
    have HW : Hid (Picked A x0 g dn 1 w w1) := hw.picked HP.out.2 (by decide)
    clear hw HP
    go_wp2
    go_ret
    exact ⟨rfl, HW.out⟩
  by_cases k2 : k = 2
  · subst k2
    go_enter Tryz.func64, Tryz.ntmps64
    go_wp2_with fail
    refine (run_any _ A x0 g lf dn HA.out HP.out.1 h0 h1 x nn hn).mono ?_
    rintro e w1 ⟨rfl, hw⟩
    have HW : Hid (Picked A x0 g dn 2 w w1) := hw.picked HP.out.2 (by decide)
    clear hw HP
    go_wp2
    go_ret
    exact ⟨rfl, HW.out⟩
  by_cases k5 : k = 5
  · subst k5
    go_enter Tryz.func64, Tryz.ntmps64
    go_wp2_with fail
    refine (finish_any _ A x0 g lf dn HA.out HP.out.1 h0 h1 x).mono ?_
    rintro e w1 ⟨rfl, hw⟩
    have HW : Hid (Picked A x0 g dn 5 w w1) := hw.picked HP.out.2 (by decide)
    clear hw HP
    go_wp2
    go_ret
    exact ⟨rfl, HW.out⟩
  by_cases k4 : k = 4
  · subst k4
    go_enter Tryz.func64, Tryz.ntmps64
    go_wp2_with fail
    refine (rounds_any _ A x0 g lf dn HA.out HP.out.1 h0 h1 nn hn).mono ?_
    rintro e w1 ⟨rfl, d, l, p, f, m, a⟩
    have HW : Hid (Picked A x0 g dn 4 w w1) := ⟨d, l, p, HP.out.2.trans f, m, fun e => absurd e (by decide)⟩
    clear p f m a HP
    go_wp2
    go_ret
    exact ⟨rfl, HW.out⟩
  by_cases k6 : k = 6
  · subst k6
    go_enter Tryz.func64, Tryz.ntmps64
    go_wp2_with fail
    refine (rounds_any _ A x0 g lf dn HA.out HP.out.1 h0 h1 9223372036854775807 (by decide)).mono ?_
    rintro e w1 ⟨rfl, d, l, p, f, m, a⟩
    have HW : Hid (Picked A x0 g dn 6 w w1) := ⟨d, l, p, HP.out.2.trans f, m, fun _ => a (by decide)⟩
    clear p f m a HP
    go_wp2
    go_ret
    exact ⟨rfl, HW.out⟩
  go_enter Tryz.func64, Tryz.ntmps64
  go_wp2
  go_ret
  exact ⟨rfl, dn, lf, HP.out.1, HP.out.2, fun _ h => h, fun e => absurd e k6⟩
end Go.Proofs.YtegnmflbbpfdhaaGreat
