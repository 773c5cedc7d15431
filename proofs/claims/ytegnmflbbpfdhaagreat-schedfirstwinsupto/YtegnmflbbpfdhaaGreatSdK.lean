import Derived.Test.YtegnmflbbpfdhaaGreatSdJ
namespace Go.Proofs.YtegnmflbbpfdhaaGreat
open Go.ChangeShapes Go.WideShapes Go.ChangeAt Go.RowKit Go.MuLone Go.RwLone
set_option linter.unusedVariables false
set_option maxRecDepth 100000
set_option maxHeartbeats 3200000
theorem spend_ok (w : World) (A : Ad) (x0 : Int) (g lf : Nat) (dn : Nat → Bool) (hA : Ly A) (h : Pl w A x0 g lf dn) (h1 : 1 ≤ lf) :
    Calls Tryz.prog 109 #[.pointer (some ⟨g, 0, none⟩)] w fun e w' => e = .returned (.bool true) ∧ Bn w' A x0 dn ∧ w'.heap[g]? = some (.cells #[.pointer (some ⟨A.hb, 0, none⟩), .int .i64 ((lf - 1 : Nat) : Int)] 163) ∧ Fm A w w' := by
  have HS : Hid _ := h.spend hA (lf - 1)
  have c1 := h.c1
  have z1 : w.frozen? ⟨g, 1, none⟩ = false := frozen?_heap h.gb 1
  have hm := h.m
  have hx : ¬ (lf : Int) = 0 := by omega
  have hw : IntKind.i64.wrap ((lf : Int) - 1) = ((lf - 1 : Nat) : Int) := by rw [IntKind.wrap_i64]; omega
  clear h
  go_enter Tryz.func109, Tryz.ntmps109
  go_wp2
  go_ret
  exact ⟨rfl, HS.out⟩
theorem run_in (w : World) (A : Ad) (x0 : Int) (g lf : Nat) (dn : Nat → Bool) (hA : Ly A) (h : Pl w A x0 g lf dn) (h0 : 0 ≤ x0) (h1 : x0 < 18446744073709551616) (i : Nat) (hi : i < A.n) (nn : Int) (hn : nn ≤ 9223372036854775807) :
    Calls Tryz.prog 88 #[.pointer (some ⟨g, 0, none⟩), .int .i64 (i : Int), .int .i64 nn] w fun e w' => e = .returned (.bool true) ∧ ∃ dn' lf', Pl w' A x0 g lf' dn' ∧ Fm A w w' ∧ (∀ k, dn k = true → dn' k = true) ∧ (0 < nn → dn' i = true) := by
  have HA : Hid (Ly A) := hA
  have HP : Hid (Pl w A x0 g lf dn) := h
  clear h hA
  go_enter Tryz.func88, Tryz.ntmps88
  go_wp2_with fail
  go_loopw [2] (fun c wr => ∃ (y : Int) (dn' : Nat → Bool) (lf' : Nat), c = .int .i64 y ∧ y ≤ nn ∧ Pl wr A x0 g lf' dn' ∧ Fm A w wr ∧ (∀ k, dn k = true → dn' k = true) ∧ (y = nn ∨ dn' i = true)) (fun c _ => (intOf c).toNat)
  case atStart => exact ⟨nn, dn, lf, rfl, Int.le_refl _, HP.out, Fm.refl _ _, fun _ h => h, .inl rfl⟩
  case round =>
    obtain ⟨y, dn', lf', rfl, hy, hpl, hfm, hmo, hor⟩ := hrel
    have HR : Hid (Pl wr A x0 g lf' dn' ∧ Fm A w wr ∧ (∀ k, dn k = true → dn' k = true) ∧ (y = nn ∨ dn' i = true)) := ⟨hpl, hfm, hmo, hor⟩
    have c0 := hpl.c0
    clear hpl hfm hmo hor HP
    by_cases hy0 : 0 < y
    · obtain ⟨st, ev, en, hh⟩ := HR.out.1.bn.harness
      have HH : Hid (Hr wr A.hb A.qb A.n A.pb (fun i => if dn' i then 0 else 1) A.cp st ev en) := hh
      clear hh
      go_wp2_with fail
      refine (pend_in wr A.hb A.qb A.n A.pb _ A.cp st ev en i hi HH.out).mono ?_
      rintro e w1 ⟨rfl, rfl⟩
      clear HH
      by_cases hd : dn' i = true
      · simp only [hd, if_true]
        go_wp2
        go_ret
        exact ⟨rfl, dn', lf', HR.out.1, HR.out.2.1, HR.out.2.2.1, fun _ => hd⟩
      · have hd' : dn' i = false := by simpa using hd
        simp only [hd', Bool.false_eq_true, if_false]
        have hls := left_set hi hd'
        have hll := HR.out.1.l
        have hlm := HR.out.1.m
        go_wp2_with fail
        refine (spend_ok w1 A x0 g lf' dn' HA.out HR.out.1 (by omega)).mono ?_
        rintro e w2 ⟨rfl, b2, g2, f2⟩
        have H2 : Hid (Bn w2 A x0 dn' ∧ w2.heap[g]? = some (.cells #[.pointer (some ⟨A.hb, 0, none⟩), .int .i64 ((lf' - 1 : Nat) : Int)] 163) ∧ Fm A w w2) := ⟨b2, g2, HR.out.2.1.trans f2⟩
        have c2 : w2.cell? ⟨g, 0, none⟩ = some (.pointer (some ⟨A.hb, 0, none⟩)) := (cell?_heap g2 0).trans rfl
        clear b2 g2 f2
        go_wp2_with fail
        refine (pl_step w2 A x0 g (lf' - 1) dn' HA.out H2.out.1 H2.out.2.1 HR.out.1.b (by omega) (by omega) h0 h1 i hi hd').mono ?_
        rintro e w3 ⟨rfl, p3, f3⟩
        have H3 : Hid (Pl w3 A x0 g (lf' - 1) (upd dn' i true) ∧ Fm A w w3) := ⟨p3, H2.out.2.2.trans f3⟩
        clear p3 f3 H2 c2
        go_wp2
        go_roundw
        case rel =>
          refine ⟨y - 1, upd dn' i true, lf' - 1, by go_num, by omega, H3.out.1, H3.out.2, fun k hk => ?_, .inr (upd_same _ _ _)⟩
          by_cases e : k = i
          · subst e; exact upd_same _ _ _
          · rw [upd_other _ _ e]; exact HR.out.2.2.1 k hk
        case measure => simp [intOf]; omega
    · go_wp2
      go_ret
      exact ⟨rfl, dn', ⟨lf', HR.out.1⟩, HR.out.2.1, HR.out.2.2.1, fun hp => HR.out.2.2.2.elim (fun e => by omega) (fun e => e)⟩
end Go.Proofs.YtegnmflbbpfdhaaGreat
