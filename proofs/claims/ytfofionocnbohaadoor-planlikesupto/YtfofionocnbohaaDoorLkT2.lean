import Derived.Test.YtfofionocnbohaaDoorLkT1
namespace Go.Proofs.YtfofionocnbohaaDoor
open Go.ChangeShapes Go.WideShapes Go.ChangeAt Go.RowKit
set_option linter.unusedVariables false
set_option maxRecDepth 100000
theorem bgn_step (p t : List Int) (k : Nat) (h1 : k < p.length) (h2 : k < t.length) : bgn (p.drop k) (t.drop k) = ((p[k] == 95 || p[k] == t[k]) && bgn (p.drop (k + 1)) (t.drop (k + 1))) := by
  rw [List.drop_eq_getElem_cons h1, List.drop_eq_getElem_cons h2, bgn]
theorem bgn_long {p t : List Int} (h : t.length < p.length) : bgn p t = false := by
  rcases hb : bgn p t with _ | _
  · rfl
  · have := bgn_len _ _ hb; omega
set_option maxHeartbeats 4000000 in
theorem bgT (w : World) (B : Nat) (tv pv : Value) (ts ps : List Int) (ht : SeesG (Value.int .i32) w B tv ts) (hp : SeesG (Value.int .i32) w B pv ps) (hl : ts.length ≤ 1099511627776) (hl2 : ps.length ≤ 1099511627776) :
    Calls Tryd.prog 10 #[tv, pv] w fun e w' => e = .returned (.bool (bgn ps ts)) ∧ w' = w := by
  obtain ⟨ta, tc, rfl⟩ := ht.form
  obtain ⟨pa, pc, rfl⟩ := hp.form
  have HT : Hid (SeesG (Value.int .i32) w B (.slice ta ts.length tc) ts) := ht
  have HP : Hid (SeesG (Value.int .i32) w B (.slice pa ps.length pc) ps) := hp
  clear ht hp
  by_cases hlen : ts.length < ps.length
  · have h1 : (ts.length : Int) < (ps.length : Int) := by omega
    have HE : Hid (bgn ps ts = false) := bgn_long hlen
    go_enter Tryd.func10, Tryd.ntmps10
    go_wp2
    go_ret
    exact ⟨by rw [HE.out]; rfl, rfl⟩
  · have h1 : ¬ (ts.length : Int) < (ps.length : Int) := by omega
    go_enter Tryd.func10, Tryd.ntmps10
    go_wp2
    go_loopw [5, 6, 14] (fun _ _ i wr => ∃ k : Nat, k ≤ ps.length ∧ i = .int .i64 (k : Int) ∧ bgn ps ts = bgn (ps.drop k) (ts.drop k) ∧ wr = w) (fun _ _ i _ => ps.length - (intOf i).toNat)
    case atStart => exact ⟨0, by omega, rfl, rfl, rfl⟩
    case round =>
      obtain ⟨k, hk, rfl, he, rfl⟩ := hrel
      have HE : Hid (bgn ps ts = bgn (ps.drop k) (ts.drop k)) := he
      clear he
      by_cases hkl : k < ps.length
      · have hki : (k : Int) < (ps.length : Int) := by omega
        have hkt : k < ts.length := by omega
        obtain ⟨pb, po, rfl, hc1⟩ := HP.out.cell k hkl
        obtain ⟨tb, to, rfl, hc2⟩ := HT.out.cell k hkt
        have HS : Hid _ := bgn_step ps ts k hkl hkt
        generalize ps[k] = x at *
        generalize ts[k] = y at *
        by_cases hx : x = 95
        · have HF : Hid (bgn ps ts = bgn (ps.drop (k + 1)) (ts.drop (k + 1))) := by
            show bgn ps ts = _
            rw [HE.out, HS.out, hx]; rfl
          subst hx
          go_wp2
          go_roundw
          case rel => exact ⟨k + 1, by omega, by go_num, HF.out, trivial⟩
          case measure => simp [intOf]; omega
        · by_cases hxy : x = y
          · have HF : Hid (bgn ps ts = bgn (ps.drop (k + 1)) (ts.drop (k + 1))) := by
              show bgn ps ts = _
              rw [HE.out, HS.out, hxy]; simp
            subst hxy
            go_wp2
            go_roundw
            case rel => exact ⟨k + 1, by omega, by go_num, HF.out, trivial⟩
            case measure => simp [intOf]; omega
          · have HF : Hid (bgn ps ts = false) := by
              show bgn ps ts = _
              rw [HE.out, HS.out]; simp [hx, hxy]
            have e1 : (x != 95) = true := by simp [hx]
            have e2 : (x != y) = true := by simp [hxy]
            go_wp2
            go_ret
            exact ⟨by rw [HF.out]; rfl, rfl⟩
      · have hki : ¬ (k : Int) < (ps.length : Int) := by omega
        have HF : Hid (bgn ps ts = true) := by
          show bgn ps ts = _
          rw [HE.out, List.drop_eq_nil_of_le (by omega), bgn]
        go_wp2
        go_ret
        exact ⟨by rw [HF.out]; rfl, rfl⟩
theorem sizeR (w : World) : (sizeOf (Tryd.prog.elem 26)).run Tryd.prog w = .ok 1 w := by kernel_rfl
def fndV : Option Nat → Int
  | none => -1
  | some k => (k : Int)
set_option maxHeartbeats 4000000 in
theorem bhT (w : World) (B : Nat) (tv pv : Value) (ts ps : List Int) (ht : SeesG (Value.int .i32) w B tv ts) (hp : SeesG (Value.int .i32) w B pv ps) (hl : ts.length ≤ 1099511627776) (hl2 : ps.length ≤ 1099511627776) :
    Calls Tryd.prog 11 #[tv, pv] w fun e w' => e = .returned (.int .i64 (fndV (fnd ts ps))) ∧ w' = w := by
  obtain ⟨ta, tc, rfl⟩ := ht.form
  obtain ⟨pa, pc, rfl⟩ := hp.form
  have HT : Hid (SeesG (Value.int .i32) w B (.slice ta ts.length tc) ts) := ht
  have HP : Hid (SeesG (Value.int .i32) w B (.slice pa ps.length pc) ps) := hp
  clear ht hp
  obtain ⟨m, hm⟩ : ∃ m : Nat, m = ts.length + 1 - ps.length := ⟨_, rfl⟩
  have HM : Hid (fnd ts ps = fndF ts ps m 0) := by rw [hm]; rfl
  have HM2 : Hid (m = ts.length + 1 - ps.length) := hm
  clear hm
  go_enter Tryd.func11, Tryd.ntmps11
  go_wp2
  go_loopw [5, 12] (fun _ i wr => ∃ k : Nat, k ≤ m ∧ i = .int .i64 (k : Int) ∧ fnd ts ps = fndF ts ps (m - k) k ∧ wr = w) (fun _ i _ => m - (intOf i).toNat)
  case atStart => exact ⟨0, by omega, rfl, HM.out, rfl⟩
  case round =>
    obtain ⟨k, hk, rfl, he, rfl⟩ := hrel
    have HE : Hid (fnd ts ps = fndF ts ps (m - k) k) := he
    clear he HM
    by_cases hkm : k < m
    · have hki : (k : Int) < (ts.length : Int) - (ps.length : Int) + 1 := by have := HM2.out; omega
      have hkl : k ≤ ts.length := by have := HM2.out; omega
      obtain ⟨a', c', hrun, hsee⟩ := slice_sees 26 (by kernel_rfl) sizeR HT.out k (by omega)
      have hdl : (ts.drop k).length ≤ 1099511627776 := by rw [List.length_drop]; omega
      obtain ⟨us, hus⟩ : ∃ us, us = ts.drop k := ⟨_, rfl⟩
      rw [← hus] at hrun hsee hdl
      have HU : Hid (ts.drop k = us) := hus.symm
      have HS : Hid (SeesG (Value.int .i32) wr B (.slice a' us.length c') us) := hsee
      clear hsee hus
      go_wp2_with fail
      refine (bgT wr B _ _ us ps HS.out HP.out hdl hl2).mono ?_
      rintro e w1 ⟨rfl, rfl⟩
      rcases hb : bgn ps us with _ | _
      · have HF : Hid (fnd ts ps = fndF ts ps (m - (k + 1)) (k + 1)) := by
          show fnd ts ps = _
          rw [HE.out, show m - k = (m - (k + 1)) + 1 by omega, fndF, HU.out, hb, if_neg (by simp)]
        clear hb
        go_wp2
        go_roundw
        case rel => exact ⟨k + 1, by omega, by go_num, HF.out, trivial⟩
        case measure => simp [intOf]; omega
      · have HF : Hid (fndV (fnd ts ps) = (k : Int) + (ps.length : Int)) := by
          show fndV (fnd ts ps) = _
          rw [HE.out, show m - k = (m - (k + 1)) + 1 by omega, fndF, HU.out, hb, if_pos rfl]
          simp [fndV]
        clear hb
        go_wp2
        go_ret
        exact ⟨by rw [HF.out]; rfl, rfl⟩
    · have hki : ¬ (k : Int) < (ts.length : Int) - (ps.length : Int) + 1 := by have := HM2.out; omega
      have HF : Hid (fndV (fnd ts ps) = -1) := by
        show fndV (fnd ts ps) = _
        rw [HE.out, show m - k = 0 by omega, fndF]; rfl
      go_wp2
      go_ret
      exact ⟨by rw [HF.out]; rfl, rfl⟩
end Go.Proofs.YtfofionocnbohaaDoor
