import Derived.Test.YtmolfemcciljjaaLentC
namespace Go.Proofs.Ytmolfemcciljjaa
open Go.ChangeShapes Go.WideShapes Go.ChangeAt Go.RowKit
set_option linter.unusedVariables false
set_option maxRecDepth 100000
theorem wrapU (b i : Nat) (hb : b ≤ 9000) (hi : i ≤ 1000) : IntKind.u64.wrap ((b : Int) + (i : Int)) = (b : Int) + (i : Int) := by
  rw [IntKind.wrap_u64]; omega
set_option maxHeartbeats 6400000 in
theorem apartC (N ga cap B : Nat) (sp : Nat → Option Addr) (ns cp : Nat → Nat) (cont : Nat → List C2) (w : World) (hr : RC2 w B N ga sp ns cp) (hp : PC w w B N sp ns cp cont) (hc : N ≤ cap) (hB : B ≤ w.heap.size) :
    Calls Try.prog 12 #[.slice (some ⟨ga, 0, none⟩) N cap] w fun e w' => e = .returned (.bool true) ∧ Below B w w' := by
  have HR : Hid (RC2 w B N ga sp ns cp) := hr
  have HP : Hid (PC w w B N sp ns cp cont) := hp
  have hmany := hr.many
  have HBw : Hid (B ≤ w.heap.size) := hB
  have HA : Hid (∀ j a, j < N → sp j = some a → a = ⟨a.block, 0, none⟩) := fun j a hj hs => by
    have h1 := (hp.own j hj).2
    unfold rowC at h1
    rw [hs] at h1
    rcases h1 with ⟨hv, _⟩ | ⟨g, c, cur, hv, _⟩
    · cases hv
    · simp only [Value.slice.injEq, Option.some.injEq] at hv
      rw [hv.1]
  have HLt : Hid (∀ j g, j < N → sp j = some ⟨g, 0, none⟩ → g < w.heap.size) := fun j g hj hs => (World.ownsRow.lt (hp.own j hj) g (by unfold rowC; rw [hs]; rfl)).2
  clear hr hp hB
  go_enter Try.func12, Try.ntmps12
  go_wp2_with fail
  go_loopw [4] (fun x wr => ∃ i : Nat, i ≤ N ∧ x = .int .i64 i ∧ ∃ c : Nat → List C2, PC w wr B N sp ns cp c ∧ ∀ j, j < i → c j = List.replicate (ns j) (mkC 7000 j)) (fun x _ => N - (intOf x).toNat)
  case atStart => exact ⟨0, Nat.zero_le _, rfl, cont, HP.out, fun j hj => by omega⟩
  case round =>
    obtain ⟨i, hi, rfl, c, hP, hd⟩ := hrel
    have HPi : Hid (PC w wr B N sp ns cp c) := hP
    have HDi : Hid (∀ j, j < i → c j = List.replicate (ns j) (mkC 7000 j)) := hd
    clear hP hd HP
    by_cases hlt : i < N
    · have hsm := HR.out.small i hlt
      go_wp2_with fail
      go_loopw [5] (fun x wr => ∃ k : Nat, k ≤ ns i ∧ x = .int .i64 k ∧ ∃ c : Nat → List C2, PC w wr B N sp ns cp c ∧ (∀ j, j < i → c j = List.replicate (ns j) (mkC 7000 j)) ∧ (c i).take k = List.replicate k (mkC 7000 i)) (fun x _ => ns i - (intOf x).toNat)
      case atStart => exact ⟨0, Nat.zero_le _, rfl, c, HPi.out, HDi.out, rfl⟩
      case round =>
        obtain ⟨k, hk, rfl, c2, hP2, hd2, ht2⟩ := hrel
        have HP2 : Hid (PC w wr B N sp ns cp c2) := hP2
        have HD2 : Hid ((∀ j, j < i → c2 j = List.replicate (ns j) (mkC 7000 j)) ∧ (c2 i).take k = List.replicate k (mkC 7000 i)) := ⟨hd2, ht2⟩
        have ca := hP2.all HR.out i hlt
        clear hP2 hd2 ht2
        by_cases hkl : k < ns i
        · obtain ⟨g, hg, _, u0, u1⟩ := (show ownC wr B (.slice (sp i) (ns i) (cp i)) (c2 i) from HP2.out.own i hlt).at k (by rw [HP2.out.len i hlt]; exact hkl)
          obtain ⟨a0, w0⟩ : ∃ a, wr.cell? ⟨g, k * 2, none⟩ = some a := ⟨_, u0⟩
          obtain ⟨a1, w1⟩ : ∃ a, wr.cell? ⟨g, k * 2 + 1, none⟩ = some a := ⟨_, u1⟩
          clear u0 u1
          have hof : ownC wr B (.slice (some ⟨g, 0, none⟩) (ns i) (cp i)) (c2 i) := by rw [← hg]; exact HP2.out.own i hlt
          have f0 := hof.froz (k * 2)
          have f1 := hof.froz (k * 2 + 1)
          have HP3 : Hid _ := HP2.out.put HR.out i hlt g hg k hkl (mkC 7000 i)
          have HD3 : Hid ((∀ j, j < i → (fun j => if j = i then (c2 i).set k (mkC 7000 i) else c2 j) j = List.replicate (ns j) (mkC 7000 j)) ∧ ((fun j => if j = i then (c2 i).set k (mkC 7000 i) else c2 j) i).take (k + 1) = List.replicate (k + 1) (mkC 7000 i)) := by
            refine ⟨fun j hj => ?_, ?_⟩
            · simp only [if_neg (show j ≠ i by omega)]; exact HD2.out.1 j hj
            · simp only [if_true]; exact take_markC _ (by rw [HP2.out.len i hlt]; exact hkl) HD2.out.2
          rw [hg] at ca
          have hw7 : IntKind.i64.wrap ((7000 : Int) + (i : Int)) = (7000 : Int) + (i : Int) := by rw [IntKind.wrap_i64]; omega
          have hwu : IntKind.u64.wrap ((7000 : Int) + (i : Int)) = (7000 : Int) + (i : Int) := wrapU 7000 i (by omega) (by omega)
          clear hof HP2 HD2
          go_wp2
          go_roundw
          case rel => exact ⟨k + 1, by omega, by go_num, _, HP3.out, HD3.out.1, HD3.out.2⟩
          case measure => simp [intOf]; omega
        · have HD3 : Hid (∀ j, j < i + 1 → c2 j = List.replicate (ns j) (mkC 7000 j)) := by
            intro j hj
            by_cases e : j = i
            · subst e
              have h1 := HD2.out.2
              have e2 : k = ns j := by omega
              rw [e2, List.take_of_length_le (by rw [HP2.out.len j hlt]; exact Nat.le_refl _)] at h1
              exact h1
            · exact HD2.out.1 j (by omega)
          clear HD2
          go_wp2
          refine ⟨⟨i + 1, by omega, by go_num, c2, HP2.out, HD3.out⟩, ?_⟩
          simp [intOf]; omega
    · have HM : Hid (∀ j, j < N → ownC wr B (rowC sp ns cp j) (con9 ns j 0)) := fun j hj => by
        rw [con9_zero, ← HDi.out j (by omega)]; exact HPi.out.own j hj
      have HQ0 : Hid (QC wr wr B N sp ns cp (.slice none 0 0) []) := ⟨Below.refl _ _, ownRC_nil _ _, fun j _ hj => HM.out j hj, (fun j h => by cases h), (fun j h => by cases h), (fun j h => by cases h), fun k hk _ => rfl⟩
      clear HDi
      go_wp2_with fail
      generalize wr = W1 at *
      go_loopw [3, 6] (fun gv x wr => ∃ hl : List Value, hl.length ≤ N ∧ x = .int .i64 hl.length ∧ QC W1 wr B N sp ns cp gv hl) (fun _ x _ => N - (intOf x).toNat)
      case atStart => exact ⟨[], Nat.zero_le _, rfl, HQ0.out⟩
      case round =>
        obtain ⟨hl, hi2, rfl, hQ⟩ := hrel
        obtain ⟨go, gc, hgv, hgc, hgs⟩ := hQ.gown.form
        subst hgv
        have HQ : Hid (QC W1 wr B N sp ns cp (.slice go hl.length gc) hl) := hQ
        have hszw := HPi.out.bel.size
        have HCa : Hid (∀ j, j < N → wr.cell? ⟨ga, j, none⟩ = some (.slice (sp j) (ns j) (cp j))) := fun j hj => by
          have e := hQ.oth ga (Nat.lt_of_lt_of_le HR.out.lga hszw) (fun j hj g hg => HR.out.nga j g hj hg)
          have := HPi.out.all HR.out j hj
          simp only [World.cell?, e] at this ⊢
          exact this
        clear hQ HQ0
        by_cases hlt2 : hl.length < N
        · have ca := HCa.out hl.length hlt2
          have hsm := HR.out.small hl.length hlt2
          have HLi : Hid (∀ g, sp hl.length = some ⟨g, 0, none⟩ → g < wr.heap.size) := fun g hg => Nat.lt_of_lt_of_le (HLt.out _ g hlt2 hg) (Nat.le_trans hszw HQ.out.bel.size)
          have HL0 : Hid (LC wr wr B sp ns cp hl.length 0 (.slice (sp hl.length) (ns hl.length) (cp hl.length))) := by
            have hrs := HQ.out.rest hl.length (Nat.le_refl _) hlt2
            refine ⟨Below.refl _ _, hrs, fun k hk => ?_, .inl rfl, fun k hk _ => rfl⟩
            obtain ⟨g, hg, hgl, u0, _⟩ := (show ownC wr B (.slice (sp hl.length) (ns hl.length) (cp hl.length)) _ from hrs).at k (by rw [con9_len]; omega)
            have e0 : (con9 ns hl.length 0)[k]'(by rw [con9_len]; omega) = mkC 7000 hl.length := by
              simp only [con9]
              rw [List.getElem_append_left (by simp; exact hk), List.getElem_replicate]
            rw [e0] at u0
            exact ⟨g, hg, hgl, u0⟩
          go_wp2_with fail
          clear ca
          generalize wr = Wi at *
          go_loopw [7, 8] (fun l x wr => ∃ t : Nat, t ≤ 20 ∧ x = .int .i64 t ∧ LC Wi wr B sp ns cp hl.length t l) (fun _ x _ => 20 - (intOf x).toNat)
          case atStart => exact ⟨0, by omega, rfl, HL0.out⟩
          case round =>
            obtain ⟨t, ht, rfl, hL⟩ := hrel
            have hw9 : IntKind.i64.wrap ((9000 : Int) + (hl.length : Int)) = (9000 : Int) + (hl.length : Int) := by rw [IntKind.wrap_i64]; omega
            have hwu : IntKind.u64.wrap ((9000 : Int) + (hl.length : Int)) = (9000 : Int) + (hl.length : Int) := wrapU 9000 hl.length (by omega) (by omega)
            obtain ⟨s1, c1, rfl⟩ := hL.own.isSlice
            rw [con9_len] at hL ⊢
            have HL : Hid (LC Wi wr B sp ns cp hl.length t (.slice s1 (ns hl.length + t) c1)) := hL
            have HBr : Hid (B ≤ wr.heap.size) := Nat.le_trans HBw.out (Nat.le_trans hszw (Nat.le_trans HQ.out.bel.size hL.bel.size))
            clear hL HL0
            by_cases ht2 : t < 20
            · have HLn : Hid ((con9 ns hl.length t).length ≤ 4194304) := by show _ ≤ _; rw [con9_len]; omega
              go_wp2_with (at_builtin; refine app_sightC (by rfl) _ _ (by rfl) B _ _ (mkC 9000 hl.length) rfl HL.out.own (by rfl) _ rfl (by rfl) HLn.out HBr.out ?_; intro v' w' ho' hoth' hblk' hsee' hb'; have hL' := HL.out.next HLi.out ho' hoth' hblk' hsee' hb'; have HL' : Hid (LC Wi w' B sp ns cp hl.length (t + 1) v') := hL'; clear hL' ho' hoth' hblk' hsee' hb')
              exact ⟨⟨t + 1, by omega, by go_num, HL'.out⟩, by simp [intOf]; omega⟩
            · have e20 : t = 20 := by omega
              subst e20
              have HgW : Hid (ownRC wr W1.heap.size (.slice go hl.length gc) hl) := HQ.out.gown.keepB (fun b hb2 => HL.out.oth b (World.ownsRow.lt HQ.out.gown b hb2).2 (fun e => by
                have h1 := (World.ownsRow.lt HQ.out.gown b hb2).1
                have h2 := HLt.out _ b hlt2 (ownC.blk (HQ.out.rest _ (Nat.le_refl _) hlt2) e)
                omega))
              have HW1 : Hid (W1.heap.size ≤ wr.heap.size) := Nat.le_trans HQ.out.bel.size HL.out.bel.size
              go_wp2_with (at_builtin; refine app_rowC [.slice s1 (ns hl.length + 20) c1] (by intro u hu; simp at hu; subst hu; rfl) (by simp) rfl (by rfl) _ _ (by rfl) W1.heap.size _ hl HgW.out (by rfl) _ rfl (by rfl) (by omega) HW1.out ?_; intro v' w' ho' hb' hk'; have hQ3 := HQ.out.push hlt2 (fun j g hj hg => Nat.lt_of_lt_of_le (HLt.out j g hj hg) hszw) HA.out HR.out.dis (Nat.le_trans HBw.out hszw) HL.out HgW.out ho' hb' hk'; have HQ3 : Hid (QC W1 w' B N sp ns cp v' (hl ++ [.slice s1 (ns hl.length + 20) c1])) := hQ3; clear ho' hb' hk' hQ3)
              refine ⟨⟨hl ++ [.slice s1 (ns hl.length + 20) c1], by simp; omega, by simp, HQ3.out⟩, ?_⟩
              simp [intOf]; omega
        · have hN : hl.length = N := by omega
          have HN : Hid (∀ _ : Unit, hl.length = N) := fun _ => hN
          have HGs : Hid (∀ j (hj : j < hl.length), ∃ g, go = some ⟨g, 0, none⟩ ∧ wr.cell? ⟨g, j, none⟩ = some hl[j]) := hgs
          rw [hN] at hgc ⊢
          clear hN hgs hi2 hlt2
          go_wp2_with fail
          generalize wr = Wf at *
          go_loopw [9] (fun x wr => ∃ i : Nat, i ≤ N ∧ x = .int .i64 i ∧ wr = Wf) (fun x _ => N - (intOf x).toNat)
          case atStart => exact ⟨0, Nat.zero_le _, rfl, rfl⟩
          case round =>
            obtain ⟨i, hi, rfl, hwf⟩ := hrel
            subst hwf
            by_cases hlt3 : i < N
            · have ca := HCa.out i hlt3
              have HV : Hid (SgC wr (sp i) (ns i) i) := HQ.out.sig i (by rw [HN.out ()]; exact hlt3)
              obtain ⟨gg, hgo, cg⟩ := HGs.out i (by rw [HN.out ()]; exact hlt3)
              have hH := HQ.out.gro i (by rw [HN.out ()]; exact hlt3)
              obtain ⟨lp, lc, hsl⟩ := hH.isSlice
              rw [hsl] at hH cg
              rw [con9_len] at cg hH
              have HH : Hid (ownC wr B (.slice lp (ns i + 20) lc) (con9 ns i 20)) := hH
              have hsm := HR.out.small i hlt3
              have HGO : Hid (go = some ⟨gg, 0, none⟩) := hgo
              clear hH hsl hgo
              go_wp2_with fail
              go_loopw [11] (fun x w2 => ∃ k : Nat, k ≤ ns i + 20 ∧ x = .int .i64 k ∧ w2 = wr) (fun x _ => ns i + 20 - (intOf x).toNat)
              case atStart => exact ⟨0, Nat.zero_le _, rfl, rfl⟩
              case round =>
                obtain ⟨k, hk, rfl, hw2⟩ := hrel
                subst hw2
                by_cases hk1 : k < ns i
                · obtain ⟨g, hg, _, u0⟩ := HV.out k hk1
                  have hw7 : IntKind.i64.wrap ((7000 : Int) + (i : Int)) = (7000 : Int) + (i : Int) := by rw [IntKind.wrap_i64]; omega
                  have hwu : IntKind.u64.wrap ((7000 : Int) + (i : Int)) = (7000 : Int) + (i : Int) := wrapU 7000 i (by omega) (by omega)
                  rw [hg] at ca
                  clear hg
                  simp only [mkC] at u0
                  go_wp2
                  refine ⟨⟨k + 1, by omega, by go_num, trivial⟩, ?_⟩
                  simp [intOf]; omega
                · by_cases hk2 : k < ns i + 20
                  · obtain ⟨g, hg, _, u0, _⟩ := HH.out.at k (by rw [con9_len]; exact hk2)
                    have e9 : (con9 ns i 20)[k]'(by rw [con9_len]; exact hk2) = mkC 9000 i := by
                      simp only [con9]
                      rw [List.getElem_append_right (by simp; omega), List.getElem_replicate]
                    rw [e9] at u0
                    have hw9 : IntKind.i64.wrap ((9000 : Int) + (i : Int)) = (9000 : Int) + (i : Int) := by rw [IntKind.wrap_i64]; omega
                    have hwu : IntKind.u64.wrap ((9000 : Int) + (i : Int)) = (9000 : Int) + (i : Int) := wrapU 9000 i (by omega) (by omega)
                    have hgo := HGO.out
                    subst hg
                    subst hgo
                    simp only [mkC] at u0
                    clear e9
                    go_wp2
                    refine ⟨⟨k + 1, by omega, by go_num, trivial⟩, ?_⟩
                    simp [intOf]; omega
                  · go_wp2
                    refine ⟨⟨i + 1, by omega, by go_num, trivial⟩, ?_⟩
                    simp [intOf]; omega
            · go_wp2
              go_ret
              exact ⟨rfl, HPi.out.bel.trans HQ.out.bel⟩
end Go.Proofs.Ytmolfemcciljjaa
