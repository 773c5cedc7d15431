import Derived.Test.YtegnmflbbpfdhaaGreatSdL
namespace Go.Proofs.YtegnmflbbpfdhaaGreat
open Go.ChangeShapes Go.WideShapes Go.ChangeAt Go.RowKit Go.MuLone Go.RwLone
set_option linter.unusedVariables false
set_option maxRecDepth 100000
set_option maxHeartbeats 3200000
theorem rounds_any (w : World) (A : Ad) (x0 : Int) (g lf : Nat) (dn : Nat → Bool) (hA : Ly A) (h : Pl w A x0 g lf dn) (h0 : 0 ≤ x0) (h1 : x0 < 18446744073709551616) (nn : Int) (hn : nn ≤ 9223372036854775807) :
    Calls Tryz.prog 90 #[.pointer (some ⟨g, 0, none⟩), .int .i64 nn] w fun e w' => e = .returned (.bool true) ∧ ∃ dn' lf', Pl w' A x0 g lf' dn' ∧ Fm A w w' ∧ (∀ k, dn k = true → dn' k = true) ∧ (0 < nn → ∀ i, i < A.n → dn' i = true) := by
  have HA : Hid (Ly A) := hA
  have hn4 := hA.n4.2
  have HP : Hid (Pl w A x0 g lf dn) := h
  clear h hA
  go_enter Tryz.func90, Tryz.ntmps90
  go_wp2_with fail
  go_loopw [1] (fun c wr => ∃ (y : Int) (dn' : Nat → Bool) (lf' : Nat), c = .int .i64 y ∧ y ≤ nn ∧ Pl wr A x0 g lf' dn' ∧ Fm A w wr ∧ (∀ k, dn k = true → dn' k = true) ∧ (y = nn ∨ ∀ i, i < A.n → dn' i = true)) (fun c _ => (intOf c).toNat)
  case atStart => exact ⟨nn, dn, lf, rfl, Int.le_refl _, HP.out, Fm.refl _ _, fun _ h => h, .inl rfl⟩
  case round =>
    obtain ⟨y, dn', lf', rfl, hy, hpl, hfm, hmo, hor⟩ := hrel
    have HR : Hid (Pl wr A x0 g lf' dn' ∧ Fm A w wr ∧ (∀ k, dn k = true → dn' k = true) ∧ (y = nn ∨ ∀ i, i < A.n → dn' i = true)) := ⟨hpl, hfm, hmo, hor⟩
    have c0 := hpl.c0
    clear hpl hfm hmo hor HP
    by_cases hy0 : 0 < y
    · obtain ⟨st, ev, en, hh⟩ := HR.out.1.bn.harness
      have HH : Hid (Hr wr A.hb A.qb A.n A.pb (fun i => if dn' i then 0 else 1) A.cp st ev en) := hh
      have cq := hh.q
      clear hh
      go_wp2_with fail
      refine (idle_any wr A hn4 dn' st ev en HH.out).mono ?_
      rintro e w1 ⟨rfl, b, rfl, hb⟩
      have HB : Hid (b = true → ∀ i, i < A.n → dn' i = true) := hb
      clear HH hb
      cases b with
      | true =>
        go_wp2
        go_ret
        exact ⟨rfl, dn', lf', HR.out.1, HR.out.2.1, HR.out.2.2.1, fun _ => HB.out trivial⟩
      | false =>
        clear HB
        go_wp2_with fail
        go_loopw [26] (fun c wq => ∃ (t : Nat) (d2 : Nat → Bool) (l2 : Nat), c = .int .i64 t ∧ t ≤ A.n ∧ Pl wq A x0 g l2 d2 ∧ Fm A w wq ∧ (∀ k, dn k = true → d2 k = true) ∧ ∀ k, k < t → d2 k = true) (fun c _ => A.n - (intOf c).toNat)
        case atStart => exact ⟨0, dn', lf', rfl, by omega, HR.out.1, HR.out.2.1, HR.out.2.2.1, fun k hk => by omega⟩
        case round =>
          obtain ⟨t, d2, l2, rfl, ht, hpl, hfm, hmo, hall⟩ := hrel
          have HQ : Hid (Pl wr A x0 g l2 d2 ∧ Fm A w wr ∧ (∀ k, dn k = true → d2 k = true) ∧ ∀ k, k < t → d2 k = true) := ⟨hpl, hfm, hmo, hall⟩
          clear hpl hfm hmo hall HR c0 cq
          by_cases h4 : t < A.n
          · have t1 : (t : Int) < (A.n : Int) := by omega
            go_wp2_with fail
            refine (run_in wr A x0 g l2 d2 HA.out HQ.out.1 h0 h1 t h4 1 (by omega)).mono ?_
            rintro e w3 ⟨rfl, d3, l3, p3, f3, m3, r3⟩
            have H3 : Hid (Pl w3 A x0 g l3 d3 ∧ Fm A w w3 ∧ (∀ k, dn k = true → d3 k = true) ∧ ∀ k, k < t + 1 → d3 k = true) := ⟨p3, HQ.out.2.1.trans f3, fun k hk => m3 k (HQ.out.2.2.1 k hk), fun k hk => by
              by_cases e : k = t
              · subst e; exact r3 (by decide)
              · exact m3 k (HQ.out.2.2.2 k (by omega))⟩
            clear p3 f3 m3 r3 HQ
            go_wp2
            go_roundw
            case rel => exact ⟨t + 1, d3, l3, by go_num, by omega, H3.out.1, H3.out.2.1, H3.out.2.2.1, H3.out.2.2.2⟩
            case measure => simp [intOf]; omega
          · go_wp2
            go_roundw
            case rel => exact ⟨y - 1, d2, l2, by go_num, by omega, HQ.out.1, HQ.out.2.1, HQ.out.2.2.1, .inr (fun i hi => HQ.out.2.2.2 i (by omega))⟩
            case measure => simp [intOf]; omega
    · go_wp2
      go_ret
      exact ⟨rfl, dn', ⟨lf', HR.out.1⟩, HR.out.2.1, HR.out.2.2.1, fun hp => HR.out.2.2.2.elim (fun e => by omega) (fun e => e)⟩
end Go.Proofs.YtegnmflbbpfdhaaGreat
