import Derived.Test.YtmolfemcciljjaaCoR1
namespace Go.Proofs.Ytmolfemcciljjaa
open Go.ChangeShapes Go.WideShapes Go.ChangeAt Go.RowKit
set_option linter.unusedVariables false
set_option maxRecDepth 100000
theorem ret_commitT {fn : Func} {p u : Tmp} (h : fn.results = #[.cell p 25, .tmp u]) (tmps : Array Value) (w : World) (a b x : Value) (g : Nat) (hp : tmps.getD p undef = .pointer (some ⟨g, 0, none⟩)) (hu : tmps.getD u undef = x) (hg : Wc2 w g a b) :
    (results fn tmps).run Try.prog w = .ok (.tuple #[.agg #[a, b], x]) w := by
  subst hu
  have hp' : tmps[p]?.getD undef = .pointer (some ⟨g, 0, none⟩) := by simpa using hp
  unfold Wc2 at hg
  simp [results, h, hp', asAddr, run_loadVar_row w g 25 25 _ (0, 0) _ hg Try.underlying25 rfl infoCoD]
theorem DcC.no {w w' : World} {r : Option (Int × List W3)} (hb : Below w.heap.size w w') (h : r = none) : DcC w r (.returned (.tuple #[.agg #[.int .u64 0, .slice none 0 0], .int .i64 112])) w' := ⟨hb, by rw [h]⟩
theorem DcC.yes {w w' : World} {r : Option (Int × List W3)} {st : Int} {vs : List W3} {v : Value} (hb : Below w.heap.size w w') (h : r = some (st, vs)) (ho : ownW w' w.heap.size v vs) : DcC w r (.returned (.tuple #[.agg #[.int .u64 st, v], .int .i64 0])) w' := ⟨hb, by rw [h]; exact ⟨v, rfl, ho⟩⟩
theorem ownW.base {w : World} {B B' : Nat} {v : Value} {vs : List W3} (h : ownW w B v vs) (hb : B' ≤ B) : ownW w B' v vs := by
  rcases h with ⟨h1, h2 | ⟨g, cap, cur, rfl, hg, hc, hr⟩⟩
  · exact ⟨h1, .inl h2⟩
  · exact ⟨h1, .inr ⟨g, cap, cur, rfl, by omega, hc, hr⟩⟩
/-- What stands while the document reads the writes: the answer's block, the commit's, the writes so far. -/
structure RcS (w : World) (R : Nat) (st : Int) (W : World) (v : Value) (ms : List W3) : Prop where
  eR : R = w.heap.size
  bel : Below w.heap.size w W
  z : Wc2 W R (.int .u64 0) (.slice none 0 0)
  c : Wc2 W (R + 1) (.int .u64 st) v
  own : ownW W (R + 2) v ms
  sz : R + 2 ≤ W.heap.size
theorem RcS.step {w : World} {R : Nat} {st : Int} {W W' : World} {v : Value} {ms : List W3} (h : RcS w R st W v ms) (hb : Below W.heap.size W W') : RcS w R st W' v ms :=
  ⟨h.eR, h.bel.trans (hb.mono h.bel.size), h.z.later hb, h.c.later hb, h.own.same (fun k hk _ => hb.block k hk), Nat.le_trans h.sz hb.size⟩
/-- The writes are one more, and laid into the commit. -/
theorem RcS.put {w : World} {R : Nat} {st : Int} {W W' : World} {v v' : Value} {ms : List W3} {c : W3} (h : RcS w R st W v ms) (hb : Below (R + 2) W W') (ho : ownW W' (R + 2) v' (ms ++ [c])) : RcS w R st (W'.setCell ⟨R + 1, 1, none⟩ v') v' (ms ++ [c]) := by
  have hR := h.eR
  refine ⟨h.eR, ?_, ?_, ?_, ?_, ?_⟩
  · exact (h.bel.trans (hb.mono (by omega))).setCell (p := ⟨R + 1, 1, none⟩) (by simp only; omega) _
  · exact (show Wc2 W' R _ _ from (hb.block R (by omega)).trans h.z).other (p := ⟨R + 1, 1, none⟩) _ (by simp only; omega)
  · exact (show Wc2 W' (R + 1) _ _ from (hb.block (R + 1) (by omega)).trans h.c).set1 _
  · exact ho.same (fun k hk hB => Below.heap_setCell _ _ _ k (by simp only; omega))
  · have := hb.size
    have := h.sz
    have := ((Below.refl 0 W').setCell (p := ⟨R + 1, 1, none⟩) (Nat.zero_le _) v').size
    omega
set_option maxHeartbeats 3200000 in
theorem refDecode (s : ByteArray) (w : World) (hs : s.size ≤ 1125899906842624) : Calls Try.prog 6 #[.string s] w (DcC w (rdCo s)) := by
  have HB0 : Hid (Below w.heap.size w (w.alloc (.cells #[.int .u64 0, .slice none 0 0] 25))) := (Below.refl _ _).alloc (Nat.le_refl _) _
  have HZ0 : Hid (Wc2 (w.alloc (.cells #[.int .u64 0, .slice none 0 0] 25)) w.heap.size (.int .u64 0) (.slice none 0 0)) := heap_alloc_new w _
  have HD : Hid (rdCo s = if (ruV s 0).2.2 = 0 then
    if (ruV s (ruV s 0).2.1).2.2 = 0 ∧ (ruV s (ruV s 0).2.1).1 ≤ 128 then
      match rdWs s (ruV s (ruV s 0).2.1).1 ((ruV s 0).2.1 + (ruV s (ruV s 0).2.1).2.1) with
      | none => none
      | some (l, r) => if r = s.size ∧ mayC ((ruV s 0).1 : Nat) l = true then some ((((ruV s 0).1 : Nat) : Int), l) else none
    else none
  else none) := rfl
  have hT := ref_uv_in s 0 (w.alloc (.cells #[.int .u64 0, .slice none 0 0] 25)) (Nat.zero_le _) hs
  have hbn := ruV_bound s 0
  go_enter Try.func6, Try.ntmps6
  have HT0 : Hid (∀ _ : Unit, _) := fun _ => hT
  clear hT
  go_wp2_with fail
  have hT := HT0.out ()
  clear HT0
  have hz1 : (w.alloc (.cells #[.int .u64 0, .slice none 0 0] 25)).heap.size = w.heap.size + 1 := sizeAl _ _
  generalize w.alloc (.cells #[.int .u64 0, .slice none 0 0] 25) = W1 at *
  by_cases c1 : (ruV s 0).2.2 = 0
  · have he : rU s ((0 : Nat) : Int) = (((ruV s 0).1 : Int), ((0 : Nat) : Int) + (ruV s 0).2.1, 0) := rd3_ok s 0 (0 : Int) (tU s) (Nat.zero_le _) c1
    rw [if_pos c1] at HD
    have hin := hbn.2.2.2.2 c1
    rw [Nat.zero_add] at hin
    rw [he] at hT
    clear he hbn c1
    generalize (ruV s 0).1 = st at *
    generalize (ruV s 0).2.1 = p1 at *
    have e0 : ((0 : Nat) : Int) + (p1 : Int) = (p1 : Int) := by omega
    simp only [e0] at hT
    clear e0
    have hT2 := ref_uv_in s p1 W1 hin hs
    have hbn := ruV_bound s p1
    refine hT.mono ?_
    rintro e w2 ⟨rfl, rfl⟩
    clear hT
    have HT2 : Hid (∀ _ : Unit, _) := fun _ => hT2
    clear hT2
    go_wp2_with fail
    have hT2 := HT2.out ()
    clear HT2
    by_cases c2 : (ruV s p1).2.2 = 0
    · have he : rU s (p1 : Int) = (((ruV s p1).1 : Int), (p1 : Int) + (ruV s p1).2.1, 0) := rd3_ok s p1 (0 : Int) (tU s) hin c2
      have hin2 := hbn.2.2.2.2 c2
      rw [he] at hT2
      clear he
      by_cases c3 : (ruV s p1).1 ≤ 128
      · rw [if_pos ⟨c2, c3⟩] at HD
        clear c2 hbn
        generalize (ruV s p1).1 = n at *
        generalize (ruV s p1).2.1 = m at *
        have e0 : (p1 : Int) + (m : Int) = ((p1 + m : Nat) : Int) := by omega
        simp only [e0] at hT2
        clear e0
        refine hT2.mono ?_
        rintro e w3 ⟨rfl, rfl⟩
        clear hT2
        have HS : Hid (RcS w w.heap.size (st : Nat) (w3.alloc (.cells #[.int .u64 (st : Nat), .slice none 0 0] 25)) (.slice none 0 0) []) := by
          have hb := (Below.refl w3.heap.size w3).alloc (Nat.le_refl _) (.cells #[.int .u64 (st : Nat), .slice none 0 0] 25)
          refine ⟨rfl, HB0.out.trans (hb.mono (by omega)), HZ0.out.later hb, ?_, ownW_nil _ _, by rw [sizeAl]; omega⟩
          have := heap_alloc_new w3 (.cells #[.int .u64 (st : Nat), .slice none 0 0] 25)
          rw [hz1] at this
          exact this
        have hwn : IntKind.i64.wrap (n : Int) = (n : Int) := by rw [IntKind.wrap_i64]; omega
        go_wp2_with fail
        generalize w3.alloc (.cells #[.int .u64 (st : Nat), .slice none 0 0] 25) = WX at *
        clear HB0 HZ0 hz1
        generalize hR : w.heap.size = R at *
        go_loopw [5, 11] (fun a i wr => ∃ (k p : Nat) (ms : List W3) (v : Value), k ≤ n ∧ i = .int .i64 k ∧ a = .int .i64 p ∧ p ≤ s.size ∧ ms.length = k ∧ RcS w R (st : Nat) wr v ms ∧ restW s [] n (p1 + m) = restW s ms (n - k) p) (fun _ i _ => n - (intOf i).toNat)
        case atStart => exact ⟨0, p1 + m, [], _, by omega, rfl, rfl, hin2, rfl, HS.out, by simp⟩
        case round =>
          obtain ⟨k, p, ms, v, hk, rfl, rfl, hps, hml, hS, hrest⟩ := hrel
          have HSk : Hid (RcS w R (st : Nat) wr v ms) := hS
          have HRs : Hid (restW s [] n (p1 + m) = restW s ms (n - k) p) := hrest
          have HML : Hid (∀ _ : Unit, ms.length = k) := fun _ => hml
          clear hrest hS hml
          obtain ⟨sp, nn, cp, rfl⟩ := HSk.out.own.isSlice
          by_cases hlt : k < n
          · have HW : Hid (∀ _ : Unit, Calls Try.prog 16 #[.string s, .int .i64 p] wr (RwC wr s p)) := fun _ => refWrite s p wr hps hs
            cases hv : rdWr s p with
            | none =>
              have HN : Hid (rdCo s = none) := by
                show _ = _
                have h1 := HRs.out
                rw [show n - k = n - (k + 1) + 1 from by omega, restW_no hv] at h1
                unfold restW at h1
                rw [HD.out]
                cases hx : rdWs s n (p1 + m) with
                | none => rfl
                | some y => obtain ⟨l, r⟩ := y; rw [hx] at h1; cases h1
              go_wp2_with fail
              refine (HW.out ()).mono ?_
              rintro e w5 ⟨hb5, hm5⟩
              rw [hv] at hm5
              obtain rfl := hm5
              have H5 := (HSk.out.step hb5).step ((Below.refl _ _).alloc (Nat.le_refl _) (.cells #[.int .i64 0, .string ⟨#[]⟩, .string ⟨#[]⟩] 47))
              have z0 := H5.z.free 0
              have z1 := H5.z.free 1
              have y0 := H5.z.c0
              have y1 := H5.z.c1
              have HS5 : Hid _ := H5
              clear hb5 H5 HW HSk HRs
              go_wp2
              have hZ4 := HS5.out.z.set (.int .u64 0) (.slice none 0 0)
              have hB4 := (HS5.out.bel.setCell (p := ⟨R, 0, none⟩) (by simp only; omega) (.int .u64 0)).setCell (p := ⟨R, 1, none⟩) (by simp only; omega) (.slice none 0 0)
              exact bodyPost_ret (ret_commitT rfl _ _ _ _ (.int .i64 112) R (by rfl) (by rfl) hZ4) rfl (DcC.no hB4 HN.out)
            | some y =>
              obtain ⟨⟨kd, ky, dt⟩, q⟩ := y
              have hq := rdWr_form s p q _ hv
              have HQ : Hid (q ≤ s.size) := hq.2.2
              have HRs2 : Hid (restW s [] n (p1 + m) = restW s (ms ++ [(kd, ky, dt)]) (n - (k + 1)) q) := by
                show _ = _
                rw [HRs.out, show n - k = n - (k + 1) + 1 from by omega, restW_yes hv]
              have hqn : decide ((q : Int) < 0) = false := by simp
              clear hq HRs
              go_wp2_with fail
              refine (HW.out ()).mono ?_
              rintro e w5 ⟨hb5, hm5⟩
              rw [hv] at hm5
              simp only at hm5
              obtain rfl := hm5
              have H5 := HSk.out.step hb5
              have hal := (Below.refl w5.heap.size w5).alloc (Nat.le_refl _) (.cells #[.int .i64 kd, .string ky, .string dt] 47)
              have H6 := H5.step hal
              have k1 := H6.c.c1
              have f1 := H6.c.free 1
              have g0 := (Wr3.new w5 (.int .i64 kd) (.string ky) (.string dt)).c0
              have g1 := (Wr3.new w5 (.int .i64 kd) (.string ky) (.string dt)).c1
              have g2 := (Wr3.new w5 (.int .i64 kd) (.string ky) (.string dt)).c2
              have HS6 : Hid _ := H6
              have HLen : Hid ((ms.length + 1) * 40 ≤ 140737488355328) := by show _ ≤ _; have := HML.out (); omega
              clear hb5 hal H5 H6 HW HSk
              go_wp2_with (at_builtin; refine app_write (by rfl) _ _ (by rfl) (R + 2) _ ms (kd, ky, dt) HS6.out.own (by rfl) (w5.heap.size + 1) (by rw [sizeAl]) (by rfl) HLen.out HS6.out.sz ?_; intro v' w' hown' hbel'; obtain ⟨sp', nn', cp', rfl⟩ := hown'.isSlice; have HS7 : Hid _ := HS6.out.put hbel' hown'; have u1 := (show Wc2 w' (R + 1) _ _ from (hbel'.block (R + 1) (by omega)).trans HS6.out.c).c1; have u2 := (show Wc2 w' (R + 1) _ _ from (hbel'.block (R + 1) (by omega)).trans HS6.out.c).free 1; clear hown' hbel')
              refine ⟨⟨k + 1, q, ms ++ [(kd, ky, dt)], _, by omega, by go_num, rfl, HQ.out, by have := HML.out (); simp; omega, HS7.out, HRs2.out⟩, ?_⟩
              simp [intOf]; omega
          · have hkn : k = n := by omega
            have HM : Hid (rdCo s = if p = s.size ∧ mayC (st : Nat) ms = true then some (((st : Nat) : Int), ms) else none) := by
              show _ = _
              have h1 := HRs.out
              rw [hkn, Nat.sub_self, restW_zero] at h1
              unfold restW at h1
              rw [HD.out]
              cases hx : rdWs s n (p1 + m) with
              | none => rw [hx] at h1; cases h1
              | some y =>
                obtain ⟨l, r⟩ := y
                rw [hx] at h1
                simp only [List.nil_append, Option.some.injEq, Prod.mk.injEq] at h1
                obtain ⟨rfl, rfl⟩ := h1
                rfl
            have h47 : ms.length ≤ 140737488355328 := by have := HML.out (); omega
            have HMay : Hid (∀ _ : Unit, _) := fun _ => refMay_any (st : Nat) (.slice sp nn cp) ms wr.heap.size wr (Nat.le_refl _) (HSk.out.own.seesAll h47)
            have k0 := HSk.out.c.c0
            have k1 := HSk.out.c.c1
            clear HRs HD hkn HS h47
            go_wp2_with fail
            clear k0 k1
            refine (HMay.out ()).mono ?_
            rintro e w5 ⟨rfl, hb5⟩
            have H5 := HSk.out.step hb5
            have k0 := H5.c.c0
            have k1 := H5.c.c1
            have z0 := H5.z.free 0
            have z1 := H5.z.free 1
            have y0 := H5.z.c0
            have y1 := H5.z.c1
            have HS5 : Hid _ := H5
            clear hb5 H5 HMay HSk
            cases hm : mayC (st : Nat) ms with
            | false =>
              have HN : Hid (rdCo s = none) := HM.out.trans (if_neg (by rw [hm]; simp))
              clear HM hm
              go_wp2
              have hZ4 := HS5.out.z.set (.int .u64 0) (.slice none 0 0)
              have hB4 := (HS5.out.bel.setCell (p := ⟨R, 0, none⟩) (by simp only; omega) (.int .u64 0)).setCell (p := ⟨R, 1, none⟩) (by simp only; omega) (.slice none 0 0)
              exact bodyPost_ret (ret_commitT rfl _ _ _ _ (.int .i64 112) R (by rfl) (by rfl) hZ4) rfl (DcC.no hB4 HN.out)
            | true =>
              by_cases hpe : p = s.size
              · have HY : Hid (rdCo s = some (((st : Nat) : Int), ms)) := HM.out.trans (if_pos ⟨hpe, hm⟩)
                clear HM hm
                subst hpe
                go_wp2
                have hZ4 := HS5.out.z.set (.int .u64 (st : Nat)) (.slice sp nn cp)
                have hB4 := (HS5.out.bel.setCell (p := ⟨R, 0, none⟩) (by simp only; omega) (.int .u64 (st : Nat))).setCell (p := ⟨R, 1, none⟩) (by simp only; omega) (.slice sp nn cp)
                have hO4 : ownW ((w5.setCell ⟨R, 0, none⟩ (.int .u64 (st : Nat))).setCell ⟨R, 1, none⟩ (.slice sp nn cp)) (R + 2) (.slice sp nn cp) ms := HS5.out.own.same (fun j hj hB => (Below.heap_setCell _ _ _ j (by simp only; omega)).trans (Below.heap_setCell _ _ _ j (by simp only; omega)))
                exact bodyPost_ret (ret_commitT rfl _ _ _ _ (.int .i64 0) R (by rfl) (by rfl) hZ4) rfl (DcC.yes hB4 HY.out (hO4.base (by omega)))
              · have HN : Hid (rdCo s = none) := HM.out.trans (if_neg (fun h => hpe h.1))
                have hne : (((p : Int) != (s.size : Int))) = true := by simp; omega
                clear HM hm
                go_wp2
                have hZ4 := HS5.out.z.set (.int .u64 0) (.slice none 0 0)
                have hB4 := (HS5.out.bel.setCell (p := ⟨R, 0, none⟩) (by simp only; omega) (.int .u64 0)).setCell (p := ⟨R, 1, none⟩) (by simp only; omega) (.slice none 0 0)
                exact bodyPost_ret (ret_commitT rfl _ _ _ _ (.int .i64 112) R (by rfl) (by rfl) hZ4) rfl (DcC.no hB4 HN.out)
      · rw [if_neg (fun h => c3 h.2)] at HD
        clear c2 hbn
        generalize (ruV s p1).1 = n at *
        generalize (ruV s p1).2.1 = m at *
        refine hT2.mono ?_
        rintro e w3 ⟨rfl, rfl⟩
        clear hT2
        have z0 := HZ0.out.free 0
        have z1 := HZ0.out.free 1
        have y0 := HZ0.out.c0
        have y1 := HZ0.out.c1
        have hgt : decide ((128 : Int) < (n : Int)) = true := by simp; omega
        go_wp2
        have hZ4 := HZ0.out.set (.int .u64 0) (.slice none 0 0)
        have hB4 := (HB0.out.setCell (p := ⟨w.heap.size, 0, none⟩) (Nat.le_refl _) (.int .u64 0)).setCell (p := ⟨w.heap.size, 1, none⟩) (Nat.le_refl _) (.slice none 0 0)
        exact bodyPost_ret (ret_commitT rfl _ _ _ _ (.int .i64 112) w.heap.size (by rfl) (by rfl) hZ4) rfl (DcC.no hB4 HD.out)
    · have he : rU s (p1 : Int) = (0, (p1 : Int), (ruV s p1).2.2) := rd3_err s p1 (0 : Int) (tU s) hin c2
      rw [if_neg (fun h => c2 h.1)] at HD
      rw [he] at hT2
      simp only at hT2
      have hcc : ((ruV s p1).2.2 != 0) = true := by simpa using c2
      clear he c2 hbn
      generalize (ruV s p1).2.2 = c at *
      refine hT2.mono ?_
      rintro e w3 ⟨rfl, rfl⟩
      clear hT2
      have z0 := HZ0.out.free 0
      have z1 := HZ0.out.free 1
      have y0 := HZ0.out.c0
      have y1 := HZ0.out.c1
      go_wp2
      have hZ4 := HZ0.out.set (.int .u64 0) (.slice none 0 0)
      have hB4 := (HB0.out.setCell (p := ⟨w.heap.size, 0, none⟩) (Nat.le_refl _) (.int .u64 0)).setCell (p := ⟨w.heap.size, 1, none⟩) (Nat.le_refl _) (.slice none 0 0)
      exact bodyPost_ret (ret_commitT rfl _ _ _ _ (.int .i64 112) w.heap.size (by rfl) (by rfl) hZ4) rfl (DcC.no hB4 HD.out)
  · have he : rU s ((0 : Nat) : Int) = (0, ((0 : Nat) : Int), (ruV s 0).2.2) := rd3_err s 0 (0 : Int) (tU s) (Nat.zero_le _) c1
    rw [if_neg c1] at HD
    rw [he] at hT
    simp only at hT
    have hcc : ((ruV s 0).2.2 != 0) = true := by simpa using c1
    clear he c1 hbn
    generalize (ruV s 0).2.2 = c at *
    refine hT.mono ?_
    rintro e w2 ⟨rfl, rfl⟩
    clear hT
    have z0 := HZ0.out.free 0
    have z1 := HZ0.out.free 1
    have y0 := HZ0.out.c0
    have y1 := HZ0.out.c1
    go_wp2
    have hZ4 := HZ0.out.set (.int .u64 0) (.slice none 0 0)
    have hB4 := (HB0.out.setCell (p := ⟨w.heap.size, 0, none⟩) (Nat.le_refl _) (.int .u64 0)).setCell (p := ⟨w.heap.size, 1, none⟩) (Nat.le_refl _) (.slice none 0 0)
    exact bodyPost_ret (ret_commitT rfl _ _ _ _ (.int .i64 112) w.heap.size (by rfl) (by rfl) hZ4) rfl (DcC.no hB4 HD.out)
end Go.Proofs.Ytmolfemcciljjaa
