import Derived.Test.YtdpebhdjcgiboaaGreatJSrF
import Derived.Test.YtdpebhdjcgiboaaGreatJSh3
import Derived.Test.YtdpebhdjcgiboaaGreatJSdQ
namespace Go.Proofs.YtdpebhdjcgiboaaGreat
set_option linter.unusedSimpArgs false
open Go.ChangeShapes Go.WideShapes Go.ChangeAt Go.RowKit Go.MuLone Go.RwLone
set_option linter.unusedVariables false
set_option maxRecDepth 100000
set_option maxHeartbeats 3200000
theorem rwithin_any (n a b : Int) (w : World) : Calls Tryz.prog 50 #[.int .i64 n, .int .i64 a, .int .i64 b] w fun e w' => e = .returned (.bool (wiB n a b)) ∧ w' = w := by
  by_cases h1 : a ≤ n
  · by_cases h2 : n ≤ b
    · have hd : wiB n a b = true := by simp [wiB, h1, h2]
      rw [hd]
      go_enter Tryz.func50, Tryz.ntmps50
      go_wp2
      go_ret
      exact ⟨rfl, rfl⟩
    · have hd : wiB n a b = false := by simp [wiB, h2]
      rw [hd]
      go_enter Tryz.func50, Tryz.ntmps50
      go_wp2
      go_ret
      exact ⟨rfl, rfl⟩
  · have hd : wiB n a b = false := by simp [wiB, h1]
    rw [hd]
    go_enter Tryz.func50, Tryz.ntmps50
    go_wp2
    go_ret
    exact ⟨rfl, rfl⟩
/-- The document's sound, of one instruction. -/
theorem rsound_any (x : I8) (n : Nat) (w : World) (hn : n ≤ 140737488355328) :
    Calls Tryz.prog 51 #[.agg (iV x), .int .i64 (n : Int)] w fun e w' => e = .returned (.bool (sndB n x)) ∧ Keeps (fun _ => False) w w' := by
  obtain ⟨op, c, r, nr, ni, orr, oi, m⟩ := x
  obtain ⟨S, hS⟩ : ∃ S, sndB n ⟨op, c, r, nr, ni, orr, oi, m⟩ = S := ⟨_, rfl⟩
  have HS : Hid (sndB n ⟨op, c, r, nr, ni, orr, oi, m⟩ = S) := hS
  rw [hS]
  have hw : IntKind.i64.wrap ((n : Int) - 1) = (n : Int) - 1 := by rw [IntKind.wrap_i64]; omega
  have HK : Hid (Keeps (fun _ => False) w (w.alloc (.cells (iV ⟨op, c, r, nr, ni, orr, oi, m⟩) 106))) := (Keeps.refl _ _).alloc _
  clear hS
  go_enter Tryz.func51, Tryz.ntmps51
  go_wp2_with fail
  refine (rwithin_any c 0 ((n : Int) - 1) _).mono ?_
  rintro e w' ⟨rfl, rfl⟩
  obtain ⟨bc, hbc⟩ : ∃ bc, wiB c 0 ((n : Int) - 1) = bc := ⟨_, rfl⟩
  rw [hbc]
  go_wp2_with fail
  refine (rwithin_any r 0 3 _).mono ?_
  rintro e w' ⟨rfl, rfl⟩
  obtain ⟨br, hbr⟩ : ∃ br, wiB r 0 3 = br := ⟨_, rfl⟩
  rw [hbr]
  go_wp2_with fail
  refine (rwithin_any nr (-1) 3 _).mono ?_
  rintro e w' ⟨rfl, rfl⟩
  obtain ⟨bn, hbn⟩ : ∃ bn, wiB nr (-1) 3 = bn := ⟨_, rfl⟩
  rw [hbn]
  go_wp2_with fail
  refine (rwithin_any orr (-1) 3 _).mono ?_
  rintro e w' ⟨rfl, rfl⟩
  obtain ⟨bo, hbo⟩ : ∃ bo, wiB orr (-1) 3 = bo := ⟨_, rfl⟩
  rw [hbo]
  have HB : Hid (∀ b, (if op = 1 then bc && br else if op = 2 then bc && bn else if op = 3 then bc && br && bo && bn else if op = 4 then bc && br && bn else if op = 5 then br && bn && wiB m 1 10 else false) = b → S = b) := fun b e => by
    rw [← HS.out]
    unfold sndB
    dsimp only
    rw [hbc, hbr, hbn, hbo]
    exact e
  clear hbc hbr hbn hbo
  by_cases o1 : op = 1
  · subst o1
    cases bc <;> cases br
    all_goals
      have HE := HB.out _ rfl
      simp at HE
      subst HE
      go_wp2
      go_ret
      exact ⟨rfl, HK.out⟩
  · by_cases o2 : op = 2
    · subst o2
      cases bc <;> cases bn
      all_goals
        have HE := HB.out _ rfl
        simp at HE
        subst HE
        go_wp2
        go_ret
        exact ⟨rfl, HK.out⟩
    · by_cases o3 : op = 3
      · subst o3
        cases bc <;> cases br <;> cases bn <;> cases bo
        all_goals
          have HE := HB.out _ rfl
          simp at HE
          subst HE
          go_wp2
          go_ret
          exact ⟨rfl, HK.out⟩
      · by_cases o4 : op = 4
        · subst o4
          cases bc <;> cases br <;> cases bn
          all_goals
            have HE := HB.out _ rfl
            simp at HE
            subst HE
            go_wp2
            go_ret
            exact ⟨rfl, HK.out⟩
        · by_cases o5 : op = 5
          · subst o5
            cases br
            · have HE := HB.out _ rfl
              simp at HE
              subst HE
              go_wp2
              go_ret
              exact ⟨rfl, HK.out⟩
            · cases bn
              · have HE := HB.out _ rfl
                simp at HE
                subst HE
                go_wp2
                go_ret
                exact ⟨rfl, HK.out⟩
              · have HE := HB.out _ rfl
                simp at HE
                have HEE : Hid (S = wiB m 1 10) := HE
                clear HE
                go_wp2_with fail
                refine (rwithin_any m 1 10 _).mono ?_
                rintro e w' ⟨rfl, rfl⟩
                rw [← HEE.out]
                go_wp2
                go_ret
                exact ⟨rfl, HK.out⟩
          · have HE := HB.out _ rfl
            simp [o1, o2, o3, o4, o5] at HE
            subst HE
            go_wp2
            go_ret
            exact ⟨rfl, HK.out⟩
end Go.Proofs.YtdpebhdjcgiboaaGreat

namespace Go.Proofs.YtdpebhdjcgiboaaGreat
set_option linter.unusedSimpArgs false
open Go.ChangeShapes Go.WideShapes Go.ChangeAt Go.RowKit Go.MuLone Go.RwLone
set_option linter.unusedVariables false
set_option maxRecDepth 100000
set_option maxHeartbeats 3200000
/-- The document's Sound. -/
theorem rSound_any (w : World) (C : Nat) (ca : Option Addr) (cc : Nat) (ta : Option Addr) (tc : Nat) (tv : Nat → Value) (cs : List Int) (ts : List (List I8)) (h : LitG w C ca cc ta tc tv cs ts) (hC : C ≤ w.heap.size) :
    Calls Tryz.prog 24 #[.agg (litC ca cs.length cc ta ts.length tc)] w fun e w' => e = .returned (.bool (soundP cs ts)) ∧ Keeps (fun _ => False) w w' := by
  have HK0 : Hid (Keeps (fun _ => False) w (lgW w (litC ca cs.length cc ta ts.length tc))) := (Keeps.refl _ _).alloc _
  have H : Hid (∀ W, Keeps (fun _ => False) (lgW w (litC ca cs.length cc ta ts.length tc)) W → LitG W C ca cc ta tc tv cs ts) := fun W k => h.later ((HK0.out.trans k).below hC (fun _ _ e => e))
  have hlc := h.lc
  have hlt := h.lt
  clear h
  go_enter Tryz.func24, Tryz.ntmps24
  go_wp2_with fail
  refine (rwithin_any ts.length 1 4 _).mono ?_
  rintro e w' ⟨rfl, rfl⟩
  cases hb1 : wiB (ts.length : Int) 1 4 with
  | false =>
    have HS : Hid (soundP cs ts = false) := by show _ = _; unfold soundP; rw [hb1]; rfl
    go_wp2
    go_ret
    rw [HS.out]
    exact ⟨rfl, HK0.out⟩
  | true =>
    go_wp2_with fail
    refine (rwithin_any cs.length 1 4 _).mono ?_
    rintro e w' ⟨rfl, rfl⟩
    cases hb2 : wiB (cs.length : Int) 1 4 with
    | false =>
      have HS : Hid (soundP cs ts = false) := by show _ = _; unfold soundP; rw [hb1, hb2]; rfl
      go_wp2
      go_ret
      rw [HS.out]
      exact ⟨rfl, HK0.out⟩
    | true =>
      have HS : Hid (soundP cs ts = goT cs.length 10 ts) := by show _ = _; unfold soundP; rw [hb1, hb2]; rfl
      have ht4 := wiB_t hb1
      have hc4 := wiB_t hb2
      clear hb1 hb2
      obtain ⟨G, hG⟩ : ∃ G, goT cs.length 10 ts = G := ⟨_, rfl⟩
      have HG : Hid (soundP cs ts = G ∧ goT cs.length 10 ts = G) := ⟨HS.out.trans hG, hG⟩
      clear HS hG
      go_wp2_with fail
      go_loopw [3, 4] (fun c d wr => ∃ (t : Nat) (lf : Int), c = .int .i64 lf ∧ 0 ≤ lf ∧ lf ≤ 10 ∧ d = .int .i64 t ∧ t ≤ ts.length ∧ Keeps (fun _ => False) (lgW w (litC ca cs.length cc ta ts.length tc)) wr ∧ goT cs.length (10 - lf) (ts.drop t) = G) (fun _ d _ => ts.length - (intOf d).toNat)
      case atStart => exact ⟨0, 0, rfl, by omega, by omega, rfl, by omega, Keeps.refl _ _, HG.out.2⟩
      case round =>
        obtain ⟨t, lf, rfl, lf0, lf1, rfl, ht, hk, hgo⟩ := hrel
        have HK : Hid (Keeps (fun _ => False) (lgW w (litC ca cs.length cc ta ts.length tc)) wr ∧ goT cs.length (10 - lf) (ts.drop t) = G) := ⟨hk, hgo⟩
        clear hgo
        have cb := (lg_keep hk).2
        clear hk
        by_cases h5 : t < ts.length
        · obtain ⟨tb, off, rfl, _, ct⟩ := (H.out wr HK.out.1).t t h5
          obtain ⟨ia, icap, hiv⟩ := ((H.out wr HK.out.1).i t h5).form
          rw [hiv] at ct
          have hli := (H.out wr HK.out.1).li t h5
          have HE : Hid (goT cs.length (10 - lf) (ts.drop t) = if 10 - lf - ((ts[t]).length : Int) < 0 then false else (ts[t].all (sndB cs.length) && goT cs.length (10 - lf - ((ts[t]).length : Int)) (ts.drop (t + 1)))) := by
            show _ = _
            rw [List.drop_eq_getElem_cons h5]
            rfl
          have HIN : Hid (∀ W, Keeps (fun _ => False) (lgW w (litC ca cs.length cc (some ⟨tb, off, none⟩) ts.length tc)) W → InG iC W C (.slice ia ts[t].length icap) ts[t] ∧ W.cell? ⟨tb, off + t, none⟩ = some (.slice ia ts[t].length icap)) := fun W k => by
            have z := H.out W k
            obtain ⟨tb', off', e, _, c⟩ := z.t t h5
            injection e with e
            injection e with e e'
            subst e e'
            rw [← hiv]
            exact ⟨z.i t h5, c⟩
          have t0 : (0 : Int) ≤ (t : Int) := Int.natCast_nonneg _
          have t1 : (t : Int) < (ts.length : Int) := by omega
          clear hiv
          generalize ts[t] = l at *
          obtain ⟨m, hm⟩ : ∃ m, l.length = m := ⟨_, rfl⟩
          have HM : Hid (l.length = m) := hm
          rw [hm] at ct hli HE HIN
          obtain ⟨s3, hs3⟩ : ∃ s3, s3 = lf + (m : Int) := ⟨_, rfl⟩
          have hw3 : IntKind.i64.wrap (lf + (m : Int)) = s3 := by rw [IntKind.wrap_i64]; omega
          have HS3 : Hid (s3 = lf + (m : Int)) := hs3
          clear hm
          by_cases hneg : s3 > 10
          · have HF : Hid (G = false) := by show _ = _; rw [← HK.out.2, HE.out, if_pos (by omega)]
            clear hs3
            go_wp2
            go_ret
            rw [HG.out.1, HF.out]
            exact ⟨rfl, HK0.out.trans HK.out.1⟩
          · have HE2 : Hid (G = (l.all (sndB cs.length) && goT cs.length (10 - s3) (ts.drop (t + 1)))) := by show _ = _; rw [← HK.out.2, HE.out, if_neg (by omega), hs3, Int.sub_sub]
            have hs30 : 0 ≤ s3 := by omega
            clear HE hs3
            go_wp2_with fail
            clear ct cb
            go_loopw [5] (fun c wq => ∃ (u : Nat), c = .int .i64 u ∧ u ≤ m ∧ Keeps (fun _ => False) (lgW w (litC ca cs.length cc (some ⟨tb, off, none⟩) ts.length tc)) wq ∧ (l.drop u).all (sndB cs.length) = l.all (sndB cs.length)) (fun c _ => m - (intOf c).toNat)
            case atStart => exact ⟨0, rfl, by omega, HK.out.1, rfl⟩
            case round =>
              obtain ⟨u, rfl, hu, hk2, hall⟩ := hrel
              have HK2 : Hid (Keeps (fun _ => False) (lgW w (litC ca cs.length cc (some ⟨tb, off, none⟩) ts.length tc)) wr ∧ (l.drop u).all (sndB cs.length) = l.all (sndB cs.length)) := ⟨hk2, hall⟩
              obtain ⟨ca0, cb0⟩ := lg_keep hk2
              have ct := (HIN.out wr hk2).2
              clear hk2 hall
              by_cases h6 : u < m
              · have hul : u < l.length := by rw [HM.out]; exact h6
                have HI8 : Hid (∀ W, Keeps (fun _ => False) (lgW w (litC ca cs.length cc (some ⟨tb, off, none⟩) ts.length tc)) W → ∃ b off cap, Value.slice ia m icap = .slice (some ⟨b, off, none⟩) l.length cap ∧ W.cell? ⟨b, off + u * 8, none⟩ = some (.int .i64 l[u].op) ∧ W.cell? ⟨b, off + u * 8 + 1, none⟩ = some (.int .i64 l[u].c) ∧ W.cell? ⟨b, off + u * 8 + 2, none⟩ = some (.int .i64 l[u].r) ∧ W.cell? ⟨b, off + u * 8 + 3, none⟩ = some (.int .i64 l[u].nr) ∧ W.cell? ⟨b, off + u * 8 + 4, none⟩ = some (.int .u64 l[u].ni) ∧ W.cell? ⟨b, off + u * 8 + 5, none⟩ = some (.int .i64 l[u].orr) ∧ W.cell? ⟨b, off + u * 8 + 6, none⟩ = some (.int .u64 l[u].oi) ∧ W.cell? ⟨b, off + u * 8 + 7, none⟩ = some (.int .i64 l[u].n)) := fun W k => by
                  have hin := (HIN.out W k).1
                  exact hin.i8 u hul
                obtain ⟨b, o2, cp2, e2, -⟩ := HI8.out wr HK2.out.1
                injection e2 with e2 e2m e3
                clear e2m
                subst e2
                have HSS : Hid (∀ W, Keeps (fun _ => False) (lgW w (litC ca cs.length cc (some ⟨tb, off, none⟩) ts.length tc)) W → W.cell? ⟨w.heap.size, 0, none⟩ = some (.slice ca cs.length cc) ∧ W.cell? ⟨w.heap.size, 1, none⟩ = some (.slice (some ⟨tb, off, none⟩) ts.length tc) ∧ W.cell? ⟨tb, off + t, none⟩ = some (.slice (some ⟨b, o2, none⟩) m icap) ∧ W.cell? ⟨b, o2 + u * 8, none⟩ = some (.int .i64 l[u].op) ∧ W.cell? ⟨b, o2 + u * 8 + 1, none⟩ = some (.int .i64 l[u].c) ∧ W.cell? ⟨b, o2 + u * 8 + 2, none⟩ = some (.int .i64 l[u].r) ∧ W.cell? ⟨b, o2 + u * 8 + 3, none⟩ = some (.int .i64 l[u].nr) ∧ W.cell? ⟨b, o2 + u * 8 + 4, none⟩ = some (.int .u64 l[u].ni) ∧ W.cell? ⟨b, o2 + u * 8 + 5, none⟩ = some (.int .i64 l[u].orr) ∧ W.cell? ⟨b, o2 + u * 8 + 6, none⟩ = some (.int .u64 l[u].oi) ∧ W.cell? ⟨b, o2 + u * 8 + 7, none⟩ = some (.int .i64 l[u].n)) := fun W k => by
                  obtain ⟨b', o', cp', e', q⟩ := HI8.out W k
                  injection e' with e' _ _
                  injection e' with e'
                  injection e' with e1 e2
                  subst e1 e2
                  exact ⟨(lg_keep k).1, (lg_keep k).2, (HIN.out W k).2, q⟩
                have HA : Hid ((l.drop u).all (sndB cs.length) = (sndB cs.length l[u] && (l.drop (u + 1)).all (sndB cs.length))) := by show _ = _; rw [List.drop_eq_getElem_cons hul]; rfl
                have u0 : (0 : Int) ≤ (u : Int) := Int.natCast_nonneg _
                have u1 : (u : Int) < (m : Int) := by omega
                clear e3 HI8
                generalize l[u] = x at *
                obtain ⟨op, xc, xr, nr, ni, orr, oi, xn⟩ := x
                dsimp only at HSS
                have HSX := rsound_any ⟨op, xc, xr, nr, ni, orr, oi, xn⟩ cs.length wr.drew hlc
                have HSXX : Hid (∀ _ : Unit, _) := fun _ => HSX
                have HKD : Hid (Keeps (fun _ => False) (lgW w (litC ca cs.length cc (some ⟨tb, off, none⟩) ts.length tc)) wr.drew) := HK2.out.1.drew
                clear HSX
                go_wp2_with fail
                clear ca0 cb0 ct
                (refine wp_region_held_drew (S := (fun W => W.cell? ⟨w.heap.size, 0, none⟩ = some (.slice ca cs.length cc) ∧ W.cell? ⟨w.heap.size, 1, none⟩ = some (.slice (some ⟨tb, off, none⟩) ts.length tc) ∧ W.cell? ⟨tb, off + t, none⟩ = some (.slice (some ⟨b, o2, none⟩) m icap) ∧ W.cell? ⟨b, o2 + u * 8, none⟩ = some (.int .i64 op) ∧ W.cell? ⟨b, o2 + u * 8 + 1, none⟩ = some (.int .i64 xc) ∧ W.cell? ⟨b, o2 + u * 8 + 2, none⟩ = some (.int .i64 xr) ∧ W.cell? ⟨b, o2 + u * 8 + 3, none⟩ = some (.int .i64 nr) ∧ W.cell? ⟨b, o2 + u * 8 + 4, none⟩ = some (.int .u64 ni) ∧ W.cell? ⟨b, o2 + u * 8 + 5, none⟩ = some (.int .i64 orr) ∧ W.cell? ⟨b, o2 + u * 8 + 6, none⟩ = some (.int .u64 oi) ∧ W.cell? ⟨b, o2 + u * 8 + 7, none⟩ = some (.int .i64 xn))) (by kernel_rfl) (HSS.out _ HKD.out) (fun hHeld => ?_); simp only [List.size_toArray, List.length_cons, List.length_nil, Nat.reduceAdd, Array.replicate_succ, Array.replicate_zero, List.push_toArray, List.append_toArray, List.nil_append, List.cons_append])
                refine rgT 0 (h := ?_)
                refine rgT 1 (h := ?_)
                refine rgT 2 (h := ?_)
                refine rgT 3 (h := ?_)
                refine rgT 4 (h := ?_)
                refine rgT 5 (h := ?_)
                refine rgT 6 (h := ?_)
                refine rgT 7 (h := ?_)
                refine rgT 8 (h := ?_)
                refine rgT 9 (h := ?_)
                refine rgT 10 (h := ?_)
                (refine rgS 11 (h := fun K hK => ?_); go_simp)
                refine (HSXX.out ()).mono ?_
                rintro e w5 ⟨rfl, k5⟩
                have HK5 : Hid (Keeps (fun _ => False) (lgW w (litC ca cs.length cc (some ⟨tb, off, none⟩) ts.length tc)) w5) := HKD.out.trans k5
                clear k5
                (refine hK.out _ _ (HSS.out _ HK5.out) (fun hHeld => ?_); clear hK K; try simp only [Act.put, List.setIfInBounds_toArray, List.set_cons_zero, List.set_cons_succ])
                refine rgT 12 (h := ?_)
                refine wpAnyH_done (by kernel_rfl) ?_ _
                cases hx : sndB cs.length ⟨op, xc, xr, nr, ni, orr, oi, xn⟩ with
                | false =>
                  have HF : Hid (G = false) := by show _ = _; rw [HE2.out, ← HK2.out.2, HA.out, hx]; rfl
                  go_wp2
                  go_ret
                  rw [HG.out.1, HF.out]
                  exact ⟨rfl, HK0.out.trans HK5.out⟩
                | true =>
                  have HA2 : Hid ((l.drop (u + 1)).all (sndB cs.length) = l.all (sndB cs.length)) := by show _ = _; rw [← HK2.out.2, HA.out, hx]; rfl
                  clear hx HA HK2
                  go_wp2
                  go_roundw
                  case rel => exact ⟨u + 1, by go_num, by omega, HK5.out, HA2.out⟩
                  case measure => simp [intOf]; omega
              · have HA : Hid (l.all (sndB cs.length) = true) := by show _ = _; rw [← HK2.out.2, List.drop_of_length_le (by rw [HM.out]; omega)]; rfl
                have HE3 : Hid (goT cs.length (10 - s3) (ts.drop (t + 1)) = G) := by show _ = _; rw [HE2.out, HA.out]; rfl
                go_wp2
                go_roundw
                case rel => exact ⟨t + 1, s3, rfl, by omega, by omega, by go_num, by omega, HK2.out.1, HE3.out⟩
                case measure => simp [intOf]; omega
        · have HT : Hid (G = true) := by show _ = _; rw [← HK.out.2, List.drop_of_length_le (by omega)]; rfl
          go_wp2
          go_ret
          rw [HG.out.1, HT.out]
          exact ⟨rfl, HK0.out.trans HK.out.1⟩
end Go.Proofs.YtdpebhdjcgiboaaGreat

namespace Go.Proofs.YtdpebhdjcgiboaaGreat
set_option linter.unusedSimpArgs false
open Go.ChangeShapes Go.WideShapes Go.ChangeAt Go.RowKit Go.MuLone Go.RwLone
set_option linter.unusedVariables false
set_option maxRecDepth 100000
set_option maxHeartbeats 3200000
theorem rwords_any (w : World) (C : Nat) (hC : C ≤ w.heap.size) (a : Option Addr) (c : Nat) (xs : List Int) (h : InG wdC w C (.slice a xs.length c) xs) (hl : xs.length ≤ 1099511627776) :
    Calls Tryz.prog 96 #[.slice a xs.length c] w fun e w' => ∃ a' c', e = .returned (.slice a' xs.length c') ∧ OwW w' w.heap.size (.slice a' xs.length c') xs ∧ Below w.heap.size w w' := by
  have H : Hid (InG wdC w C (.slice a xs.length c) xs) := h
  clear h
  go_enter Tryz.func96, Tryz.ntmps96
  go_wp2_with (at_builtin; refine hideG ?_)
  change wpList _ _ _ _ _ _
  refine copy_list (cs := wdC) (w := w) (by rfl) _ _ 46 55 (by rfl) Tryz.underlying46 infoU64 rfl (by decide) (fun _ => rfl) w.heap.size rfl (by rfl) C _ xs (by rfl) H.out hC (fun y _ => wdC_one y) (by unfold maxLen; omega) (by omega) ?_
  intro v' w' ho hb
  obtain ⟨a', c', rfl⟩ := ho.form
  have HX : Hid (OwW w' w.heap.size (.slice a' xs.length c') xs ∧ Below w.heap.size w w') := ⟨ho, hb⟩
  clear ho hb
  go_wp2
  go_ret
  exact ⟨a', c', rfl, HX.out⟩
/-- A thread of the document's program at its begin: where its instructions lie, its registers' block. -/
abbrev Tn := Value × Nat × List I8
def tdC (q : Tn) : List Value := [q.1, .slice (some ⟨q.2.1, 0, none⟩) 4 4, .int .i64 0]
theorem tdC_one {a : Option Addr} {m c rb : Nat} {l : List I8} : ∀ u ∈ tdC (.slice a m c, rb, l), u.oneCell' = true := by
  intro u hu
  simp [tdC] at hu
  rcases hu with rfl | rfl | rfl <;> rfl
theorem infoTd : (Tryz.prog.info? 169).map (fun i => (i.zero, i.size, i.bytes)) = some (some (.agg #[.slice none 0 0, .slice none 0 0, .int .i64 0]), 3, 56) := by kernel_rfl
abbrev zr4 : Array Value := madeCells #[.int .u64 0] 4
/-- The lists of a program just made. -/
structure Pn (w : World) (B : Nat) (cv tvv : Value) (cs : List Int) (qs : List Tn) : Prop where
  oc : OwW w B cv cs
  ot : OwG tdC 169 3 w B tvv qs
  oi : ∀ q ∈ qs, OwG iC 106 8 w B q.1 q.2.2
  rr : ∀ q ∈ qs, w.heap[q.2.1]? = some (.cells zr4 55) ∧ B ≤ q.2.1 ∧ ∀ g, cv.ownBlock = some g → g < q.2.1
  inc : qs.Pairwise (fun a b => a.2.1 < b.2.1)
theorem Pn.later {w w' : World} {B : Nat} {cv tvv : Value} {cs : List Int} {qs : List Tn} (h : Pn w B cv tvv cs qs) (k : Below w.heap.size w w') : Pn w' B cv tvv cs qs :=
  ⟨h.oc.later k, h.ot.later k, fun q hq => (h.oi q hq).later k, fun q hq => ⟨(k.block _ (Array.getElem?_eq_some_iff.1 (h.rr q hq).1).1).trans (h.rr q hq).1, (h.rr q hq).2⟩, h.inc⟩
theorem Pn.keeps {w w' : World} {B : Nat} {cv tvv : Value} {cs : List Int} {qs : List Tn} {D : Nat → Prop} (h : Pn w B cv tvv cs qs) (k : Keeps D w w') (hD : ∀ x, D x → x < B ∨ ∃ c, w.heap[x]? = some (.cells c 85)) : Pn w' B cv tvv cs qs := by
  have ap : ∀ {α : Type} {f : α → List Value} {e : TypeId} {n : Nat} {v : Value} {xs : List α}, OwG f e n w B v xs → e ≠ 85 → OwG f e n w' B v xs := fun ho hne => owK ho k (fun g hg hd => by
    rcases hD g hd with e | ⟨c, e⟩
    · have := (World.ownsRow.lt ho g hg).1; omega
    · obtain ⟨cur, hcur⟩ := blk ho hg
      exact neT hcur e hne rfl)
  refine ⟨ap h.oc (by decide), ap h.ot (by decide), fun q hq => ap (h.oi q hq) (by decide), fun q hq => ⟨(k.block _ (Array.getElem?_eq_some_iff.1 (h.rr q hq).1).1 (fun hd => ?_)).trans (h.rr q hq).1, (h.rr q hq).2⟩, h.inc⟩
  rcases hD _ hd with e | ⟨c, e⟩
  · have := (h.rr q hq).2.1; omega
  · exact neT (h.rr q hq).1 e (by decide) rfl
abbrev npW (w : World) (c : Array Value) : World := (lgW w c).alloc (.cells #[.slice none 0 0, .slice none 0 0] 85)
theorem npW_size (w : World) (c : Array Value) : (npW w c).heap.size = w.heap.size + 2 := by rw [szAl, szAl]
/-- In the midst of making a program. -/
structure Np (w wr : World) (c : Array Value) (pb : Nat) (cv tvv : Value) (cs : List Int) (qs : List Tn) : Prop where
  pn : Pn wr (w.heap.size + 2) cv tvv cs qs
  lb : wr.heap[pb]? = some (.cells #[cv, tvv] 85)
  bl : Below (w.heap.size + 2) (npW w c) wr
  cl : w.heap.size + 2 ≤ pb
  cg : ∀ g, cv.ownBlock = some g → g < pb
theorem Np.lt {w wr : World} {c : Array Value} {pb : Nat} {cv tvv : Value} {cs : List Int} {qs : List Tn} (h : Np w wr c pb cv tvv cs qs) : pb < wr.heap.size := (Array.getElem?_eq_some_iff.1 h.lb).1
theorem Np.later {w wr w' : World} {c : Array Value} {pb : Nat} {cv tvv : Value} {cs : List Int} {qs : List Tn} (h : Np w wr c pb cv tvv cs qs) (k : Below wr.heap.size wr w') : Np w w' c pb cv tvv cs qs := by
  have := h.lt
  have := h.cl
  exact ⟨h.pn.later k, (k.block _ h.lt).trans h.lb, h.bl.trans (k.mono (by omega)), h.cl, h.cg⟩
theorem Np.step {w wr w3 : World} {c : Array Value} {pb : Nat} {cv tvv v8 v' : Value} {cs : List Int} {qs : List Tn} {l : List I8} (h : Np w wr c pb cv tvv cs qs) (h8 : OwG iC 106 8 wr (w.heap.size + 2) v8 l) (ho : OwG tdC 169 3 w3 (w.heap.size + 2) v' (qs ++ [(v8, wr.heap.size, l)])) (hb : Below (w.heap.size + 2) (wr.alloc (.cells zr4 55)) w3) (hk : KpT 169 (wr.alloc (.cells zr4 55)) w3) :
    Np w (w3.setCell ⟨pb, 1, none⟩ v') c pb cv v' cs (qs ++ [(v8, wr.heap.size, l)]) ∧ w3.cell? ⟨pb, 1, none⟩ = some tvv ∧ w3.frozen? ⟨pb, 1, none⟩ = false := by
  have b0 : Below wr.heap.size wr (wr.alloc (.cells zr4 55)) := (Below.refl _ _).alloc (Nat.le_refl _) _
  have h1 := h.later b0
  have e1 := h1.lb
  have e3 : w3.heap[pb]? = some (.cells #[cv, tvv] 85) := (hk _ _ _ _ e1 (by decide)).trans e1
  have ks : Keeps (fun x => x = pb) w3 (w3.setCell ⟨pb, 1, none⟩ v') := Keeps.setCell (B := fun x => x = pb) (Keeps.refl _ _) rfl _
  have hlt := h.lt
  have hcl := h.cl
  have hs3 := hb.size
  rw [szAl] at hs3
  have en : (wr.alloc (.cells zr4 55)).heap[wr.heap.size]? = some (.cells zr4 55) := heap_alloc_last _ _ _ rfl
  have pn3 : Pn w3 (w.heap.size + 2) cv v' cs (qs ++ [(v8, wr.heap.size, l)]) := by
    refine ⟨h1.pn.oc.kept hk (by decide), ho, fun q hq => ?_, fun q hq => ?_, ?_⟩
    · rcases List.mem_append.1 hq with hq | hq
      · exact (h1.pn.oi q hq).kept hk (by decide)
      · obtain rfl := List.mem_singleton.1 hq
        exact (h8.later b0).kept hk (by decide)
    · rcases List.mem_append.1 hq with hq | hq
      · exact ⟨(hk _ _ _ _ (h1.pn.rr q hq).1 (by decide)).trans (h1.pn.rr q hq).1, (h1.pn.rr q hq).2⟩
      · obtain rfl := List.mem_singleton.1 hq
        exact ⟨(hk _ _ _ _ en (by decide)).trans en, by show _ ≤ wr.heap.size; omega, fun g hg => by have := h.cg g hg; show g < wr.heap.size; omega⟩
    · refine List.pairwise_append.2 ⟨h.pn.inc, List.pairwise_singleton .., fun a ha b hb => ?_⟩
      obtain rfl := List.mem_singleton.1 hb
      exact (Array.getElem?_eq_some_iff.1 (h.pn.rr a ha).1).1
  refine ⟨⟨pn3.keeps ks (fun x e => .inr ⟨#[cv, tvv], by rw [e]; exact e3⟩), heapSet e3 _, ?_, h.cl, h.cg⟩, (cell?_heap e3 1).trans rfl, frozen?_heap e3 1⟩
  refine (h1.bl.trans hb).trans (ks.below (by omega) (fun k hk e => by omega))
theorem rnewp_any (w : World) (C : Nat) (ca : Option Addr) (cc : Nat) (ta : Option Addr) (tc : Nat) (tv : Nat → Value) (cs : List Int) (ts : List (List I8)) (h : LitG w C ca cc ta tc tv cs ts) (hC : C ≤ w.heap.size) (l1 : cs.length ≤ 1099511627776) (l2 : ts.length ≤ 1099511627776) (l3 : ∀ i (hi : i < ts.length), ts[i].length ≤ 1099511627776) :
    Calls Tryz.prog 56 #[.agg (litC ca cs.length cc ta ts.length tc)] w fun e w' => ∃ cv tvv qs, e = .returned (.agg #[cv, tvv]) ∧ Pn w' (w.heap.size + 2) cv tvv cs qs ∧ qs.map (fun q => q.2.2) = ts ∧ Below w.heap.size w w' := by
  have k0 : Below w.heap.size w (npW w (litC ca cs.length cc ta ts.length tc)) := ((Below.refl _ _).alloc (Nat.le_refl _) _).alloc (by rw [szAl]; omega) _
  have sz := npW_size w (litC ca cs.length cc ta ts.length tc)
  have H : Hid (∀ W, Below (w.heap.size + 2) (npW w (litC ca cs.length cc ta ts.length tc)) W → LitG W C ca cc ta tc tv cs ts) := fun W k => h.later ((k0.mono hC).trans (k.mono (by omega)))
  have HBox : Hid (∀ W, Below (w.heap.size + 2) (npW w (litC ca cs.length cc ta ts.length tc)) W → W.cell? ⟨w.heap.size, 1, none⟩ = some (.slice ta ts.length tc) ∧ W.heap[w.heap.size + 1]? = some (.cells #[.slice none 0 0, .slice none 0 0] 85)) := fun W k => by
    have e0 : W.heap[w.heap.size]? = some (.cells (litC ca cs.length cc ta ts.length tc) 49) := (k.block _ (by omega)).trans ((Below.heap_alloc _ _ _ (by rw [szAl]; omega)).trans (heap_alloc_last _ _ _ rfl))
    exact ⟨(cell?_heap e0 1).trans rfl, (k.block _ (by omega)).trans (heap_alloc_last _ _ _ (szAl _ _).symm)⟩
  have HW := rwords_any (npW w (litC ca cs.length cc ta ts.length tc)) C (by omega) ca cc cs (H.out _ (Below.refl _ _)).c l1
  rw [sz] at HW
  have HWW : Hid (∀ _ : Unit, _) := fun _ => HW
  have HK0 : Hid (Below w.heap.size w (npW w (litC ca cs.length cc ta ts.length tc))) := k0
  have HL3 : Hid (∀ i (hi : i < ts.length), ts[i].length ≤ 1099511627776) := l3
  clear h k0 l3 HW
  have hm : ∀ w : World, (Instr.makeSlice 46 (.int .i64 4) (.int .i64 4)).run Tryz.prog w = .ok (.slice (some ⟨w.heap.size, 0, none⟩) 4 4) (w.alloc (.cells zr4 55)) := fun w => run_make_any (P := Tryz.prog) 46 55 _ 1 8 Tryz.underlying46 infoU64 4 (by omega) (by omega) w
  go_enter Tryz.func56, Tryz.ntmps56
  go_wp2_with fail
  refine (HWW.out ()).mono ?_
  rintro e w' ⟨va, vc, rfl, ho, hb⟩
  have HS : Hid (Np w (w'.alloc (.cells #[.slice va cs.length vc, .slice none 0 0] 85)) (litC ca cs.length cc ta ts.length tc) w'.heap.size (.slice va cs.length vc) (.slice none 0 0) cs []) := ⟨⟨World.ownsRow.alloc ho _, OwG.nil _ _ _ _ _, (fun p hp => by cases hp), (fun p hp => by cases hp), List.Pairwise.nil⟩, heap_alloc_last _ _ _ rfl, hb.alloc (by have := hb.size; omega) _, by have := hb.size; omega, fun g hg => (World.ownsRow.lt ho g hg).2⟩
  clear ho hb HWW
  go_wp2_with fail
  generalize w'.alloc (.cells #[.slice va cs.length vc, .slice none 0 0] 85) = w1 at *
  generalize w'.heap.size = pb at *
  go_loopw [4] (fun c wr => ∃ (t : Nat) (tvv : Value) (qs : List Tn), c = .int .i64 t ∧ t ≤ ts.length ∧ qs.map (fun q => q.2.2) = ts.take t ∧ Np w wr (litC ca cs.length cc ta ts.length tc) pb (.slice va cs.length vc) tvv cs qs) (fun c _ => ts.length - (intOf c).toNat)
  case atStart => exact ⟨0, _, [], rfl, by omega, rfl, HS.out⟩
  case round =>
    rename World => wr0
    obtain ⟨t, tvv, qs, rfl, ht, hps, hcp⟩ := hrel
    have HQ : Hid (Np w wr0 (litC ca cs.length cc ta ts.length tc) pb (.slice va cs.length vc) tvv cs qs ∧ qs.map (fun q => q.2.2) = ts.take t) := ⟨hcp, hps⟩
    have HPL : Hid (qs.length = t) := by show _ = _; have := congrArg List.length hps; simpa [Nat.min_eq_left ht] using this
    have hpl : qs.length ≤ 1099511627776 := by have := HPL.out; omega
    clear hcp hps HS
    obtain ⟨c1, -⟩ := HBox.out wr0 HQ.out.1.bl
    by_cases h5 : t < ts.length
    · have t0 : (0 : Int) ≤ (t : Int) := Int.natCast_nonneg _
      have t1 : (t : Int) < (ts.length : Int) := by omega
      have lg := H.out wr0 HQ.out.1.bl
      obtain ⟨tb, off, rfl, htb, ct⟩ := lg.t t h5
      have hin := lg.i t h5
      obtain ⟨ia, icap, hiv⟩ := hin.form
      rw [hiv] at ct hin
      have hli := HL3.out t h5
      have HT : Hid (ts.take (t + 1) = ts.take t ++ [ts[t]]) := by show _ = _; rw [List.take_succ_eq_append_getElem h5]
      generalize ts[t] = l at *
      obtain ⟨va2, vc2, rfl⟩ := HQ.out.1.pn.ot.form
      have hsz : w.heap.size + 2 ≤ wr0.heap.size := by have := HQ.out.1.cl; have := HQ.out.1.lt; omega
      have HI : Hid (InG iC wr0 C (.slice ia l.length icap) l ∧ C ≤ wr0.heap.size) := ⟨hin, by omega⟩
      have eA : ∀ g j, g < wr0.heap.size → (wr0.alloc (.cells #[] 106)).cell? ⟨g, j, none⟩ = wr0.cell? ⟨g, j, none⟩ := fun g j hg => World.cell?_of_block (w := wr0) (Below.heap_alloc wr0 _ g hg)
      have c1a : (wr0.alloc (.cells #[] 106)).cell? ⟨w.heap.size, 1, none⟩ = some (.slice (some ⟨tb, off, none⟩) ts.length tc) := (eA _ _ (by omega)).trans c1
      have cta : (wr0.alloc (.cells #[] 106)).cell? ⟨tb, off + t, none⟩ = some (.slice ia l.length icap) := (eA _ _ (by omega)).trans ct
      clear hin hiv lg eA
      go_wp2_with (at_builtin; refine hideG ?_)
      change wpList _ _ _ _ _ _
      refine copy_list (cs := iC) (w := wr0) (by rfl) _ _ 102 106 (by rfl) Tryz.underlying102 infoIn rfl (by decide) (fun _ => rfl) wr0.heap.size rfl (by rfl) C _ l (by rfl) HI.out.1 HI.out.2 (fun y _ => iC_one y) (by unfold maxLen; omega) (by omega) ?_
      intro v8 w8 o8 b8
      obtain ⟨a8, c8, rfl⟩ := o8.form
      have n8 := HQ.out.1.later b8
      have h8z : w.heap.size + 2 ≤ w8.heap.size := by have := b8.size; omega
      have H8 : Hid (OwG iC 106 8 w8 (w.heap.size + 2) (.slice a8 l.length c8) l ∧ Np w w8 (litC ca cs.length cc (some ⟨tb, off, none⟩) ts.length tc) pb (.slice va cs.length vc) (.slice va2 qs.length vc2) cs qs) := ⟨o8.down hsz, n8⟩
      have cT : w8.drew.cell? ⟨pb, 1, none⟩ = some (.slice va2 qs.length vc2) := (cell?_heap n8.lb 1).trans rfl
      have cT2 : (w8.alloc (.cells zr4 55)).cell? ⟨pb, 1, none⟩ = some (.slice va2 qs.length vc2) := (World.cell?_of_block (w := w8) (Below.heap_alloc w8 _ pb n8.lt)).trans cT
      have cT3 : ((w8.alloc (.cells zr4 55)).alloc (.cells #[.slice a8 l.length c8, .slice (some ⟨w8.heap.size, 0, none⟩) 4 4, .int .i64 0] 169)).cell? ⟨pb, 1, none⟩ = some (.slice va2 qs.length vc2) := (World.cell?_of_block (w := w8.alloc (.cells zr4 55)) (Below.heap_alloc _ _ pb (by rw [szAl]; have := n8.lt; omega))).trans cT2
      clear o8 b8 n8 c1 ct c1a cta HI
      go_wp2_with fail
      (refine wp_region_held_drew (S := (fun _ => True)) (by kernel_rfl) trivial (fun hHeld => ?_); simp only [List.size_toArray, List.length_cons, List.length_nil, Nat.reduceAdd, Array.replicate_succ, Array.replicate_zero, List.push_toArray, List.append_toArray, List.nil_append, List.cons_append])
      refine rgT 0 (h := ?_)
      refine rgT 2 (h := ?_)
      (refine wpAnyH_ready (rs := [1, 3]) (by kernel_rfl) (by simp) ?_; refine rgA 1 (by rfl) (fun K hK => ?_) (rgA 3 (by rfl) (fun K hK => ?_) AllReadyH.nil) <;> go_simp)
      focus
        (refine hK.out _ _ trivial (fun hHeld => ?_); clear hK K; try simp only [Act.put, List.setIfInBounds_toArray, List.set_cons_zero, List.set_cons_succ])
        (refine rgS 3 (h := fun K hK => ?_); go_simp)
        (refine hK.out _ _ trivial (fun hHeld => ?_); clear hK K; try simp only [Act.put, List.setIfInBounds_toArray, List.set_cons_zero, List.set_cons_succ])
        refine rgT 4 (h := ?_)
        (refine rgS 5 (h := fun K hK => ?_); go_simp)
        (refine hK.out _ _ trivial (fun hHeld => ?_); clear hK K; try simp only [Act.put, List.setIfInBounds_toArray, List.set_cons_zero, List.set_cons_succ])
      rotate_left 1
      focus
        (refine hK.out _ _ trivial (fun hHeld => ?_); clear hK K; try simp only [Act.put, List.setIfInBounds_toArray, List.set_cons_zero, List.set_cons_succ])
        refine rgT 4 (h := ?_)
        (refine wpAnyH_ready (rs := [1, 5]) (by kernel_rfl) (by simp) ?_; refine rgA 1 (by rfl) (fun K hK => ?_) (rgA 5 (by rfl) (fun K hK => ?_) AllReadyH.nil) <;> go_simp)
        focus
          (refine hK.out _ _ trivial (fun hHeld => ?_); clear hK K; try simp only [Act.put, List.setIfInBounds_toArray, List.set_cons_zero, List.set_cons_succ])
          (refine rgS 5 (h := fun K hK => ?_); go_simp)
          (refine hK.out _ _ trivial (fun hHeld => ?_); clear hK K; try simp only [Act.put, List.setIfInBounds_toArray, List.set_cons_zero, List.set_cons_succ])
        rotate_left 1
        focus
          (refine hK.out _ _ trivial (fun hHeld => ?_); clear hK K; try simp only [Act.put, List.setIfInBounds_toArray, List.set_cons_zero, List.set_cons_succ])
          (refine rgS 1 (h := fun K hK => ?_); go_simp)
          (refine hK.out _ _ trivial (fun hHeld => ?_); clear hK K; try simp only [Act.put, List.setIfInBounds_toArray, List.set_cons_zero, List.set_cons_succ])
      all_goals
        clear cT cT2 cT3
        (refine rgS 6 (h := fun K hK => ?_); rw [if_pos (by rfl)])
        refine app_one_wp (cs := tdC) (wr := w8.drew.alloc (.cells zr4 55)) (.tmp 25) (.tmp 29) 83 169 (by rfl) Tryz.underlying83 infoTd rfl (by decide) (fun _ => rfl) (w.heap.size + 2) _ qs (.slice a8 l.length c8, w8.heap.size, l) (World.ownsRow.alloc (H8.out.2.pn.ot.later (Below.refl _ _).drew) _) (by rfl) (w8.heap.size + 1) (by rw [szAl]; rfl) (by rfl) tdC_one _ rfl (by unfold maxLen; omega) (by omega) (by rw [szAl]; show _ ≤ w8.heap.size + 1; omega) ?_
        intro v' w3 ho3 hb3 hk3
        obtain ⟨f3, c3, z3⟩ := (H8.out.2.later (w' := w8.drew) (Below.refl _ _).drew).step (w3 := w3) (H8.out.1.later (Below.refl _ _).drew) ho3 hb3 hk3
        obtain ⟨a3, k3, rfl⟩ := ho3.form
        generalize (qs ++ [((Value.slice a8 l.length c8, w8.heap.size, l) : Tn)]).length = mm at *
        have H3 : Hid (Np w (w3.setCell ⟨pb, 1, none⟩ (.slice a3 mm k3)) (litC ca cs.length cc (some ⟨tb, off, none⟩) ts.length tc) pb (.slice va cs.length vc) (.slice a3 mm k3) cs (qs ++ [((Value.slice a8 l.length c8, w8.heap.size, l) : Tn)]) ∧ (qs ++ [((Value.slice a8 l.length c8, w8.heap.size, l) : Tn)]).map (fun q => q.2.2) = ts.take (t + 1)) := ⟨f3, by rw [List.map_append, HQ.out.2, HT.out]; rfl⟩
        clear f3 ho3 hb3 hk3 HQ H8 HT
        (refine hK.out _ _ trivial (fun hHeld => ?_); clear hK K; try simp only [Act.put, List.setIfInBounds_toArray, List.set_cons_zero, List.set_cons_succ])
        refine rgT 7 (h := ?_)
        (refine rgS 8 (h := fun K hK => ?_); go_simp)
        (refine hK.out _ _ trivial (fun hHeld => ?_); clear hK K; try simp only [Act.put, List.setIfInBounds_toArray, List.set_cons_zero, List.set_cons_succ])
        refine wpAnyH_done (by kernel_rfl) ?_ _
        clear c3 z3
        go_wp2
        go_roundw
        case rel => exact ⟨t + 1, _, _, by go_num, by omega, H3.out.2, H3.out.1⟩
        case measure => simp [intOf]; omega
    · have htt : t = ts.length := by omega
      obtain ⟨va2, vc2, rfl⟩ := HQ.out.1.pn.ot.form
      obtain ⟨-, er⟩ := HBox.out wr0 HQ.out.1.bl
      have cA : wr0.cell? ⟨pb, 0, none⟩ = some (.slice va cs.length vc) := (cell?_heap HQ.out.1.lb 0).trans rfl
      have cB : wr0.cell? ⟨pb, 1, none⟩ = some (.slice va2 qs.length vc2) := (cell?_heap HQ.out.1.lb 1).trans rfl
      have r0 := (cell?_heap er 0).trans rfl
      have r1 := (cell?_heap er 1).trans rfl
      have q0 := frozen?_heap er 0
      have q1 := frozen?_heap er 1
      have hne : w.heap.size + 2 ≤ pb := HQ.out.1.cl
      have e1 : (wr0.setCell ⟨w.heap.size + 1, 0, none⟩ (.slice va cs.length vc)).heap[w.heap.size + 1]? = some (.cells #[.slice va cs.length vc, .slice none 0 0] 85) := heapSet er _
      have z1 : ((wr0.setCell ⟨w.heap.size + 1, 0, none⟩ (.slice va cs.length vc)).setCell ⟨w.heap.size + 1, 1, none⟩ (.slice va2 qs.length vc2)).heap[w.heap.size + 1]? = some (.cells #[.slice va cs.length vc, .slice va2 qs.length vc2] 85) := heapSet e1 _
      have ks : Keeps (fun x => x = w.heap.size + 1) wr0 ((wr0.setCell ⟨w.heap.size + 1, 0, none⟩ (.slice va cs.length vc)).setCell ⟨w.heap.size + 1, 1, none⟩ (.slice va2 qs.length vc2)) := Keeps.setCell (B := fun x => x = w.heap.size + 1) (Keeps.setCell (B := fun x => x = w.heap.size + 1) (Keeps.refl _ _) rfl _) rfl _
      have HX : Hid (Pn ((wr0.setCell ⟨w.heap.size + 1, 0, none⟩ (.slice va cs.length vc)).setCell ⟨w.heap.size + 1, 1, none⟩ (.slice va2 qs.length vc2)) (w.heap.size + 2) (.slice va cs.length vc) (.slice va2 qs.length vc2) cs qs ∧ qs.map (fun q => q.2.2) = ts ∧ Below w.heap.size w ((wr0.setCell ⟨w.heap.size + 1, 0, none⟩ (.slice va cs.length vc)).setCell ⟨w.heap.size + 1, 1, none⟩ (.slice va2 qs.length vc2))) := by
        refine ⟨HQ.out.1.pn.keeps ks (fun x e => .inl (by omega)), by rw [HQ.out.2, htt, List.take_length], ?_⟩
        exact (HK0.out.trans (HQ.out.1.bl.mono (by omega))).trans (ks.below (by have := HQ.out.1.bl.size; omega) (fun k hk e => by omega))
      clear e1 ks hpl htt
      go_wp2
      exact bodyPost_ret (results_cell_row rfl _ _ (w.heap.size + 1) _ _ (0, 0) _ (by rfl) z1 Tryz.underlying85 rfl (by kernel_rfl)) rfl ⟨_, _, qs, rfl, HX.out⟩
end Go.Proofs.YtdpebhdjcgiboaaGreat

namespace Go.Proofs.YtdpebhdjcgiboaaGreat
set_option linter.unusedSimpArgs false
open Go.ChangeShapes Go.WideShapes Go.ChangeAt Go.RowKit Go.MuLone Go.RwLone
set_option linter.unusedVariables false
set_option maxRecDepth 100000
set_option maxHeartbeats 3200000
def iaV (v : Value) : Option Addr := match v with | .slice a _ _ => a | _ => none
def icV (v : Value) : Nat := match v with | .slice _ _ c => c | _ => 0
end Go.Proofs.YtdpebhdjcgiboaaGreat

namespace Go.Proofs.YtdpebhdjcgiboaaGreat
set_option linter.unusedSimpArgs false
open Go.ChangeShapes Go.WideShapes Go.ChangeAt Go.RowKit
set_option linter.unusedVariables false

end Go.Proofs.YtdpebhdjcgiboaaGreat

namespace Go.Proofs.YtdpebhdjcgiboaaGreat
set_option linter.unusedSimpArgs false
open Go.ChangeShapes Go.WideShapes Go.ChangeAt Go.RowKit Go.MuLone Go.RwLone
set_option linter.unusedVariables false
set_option maxRecDepth 100000
set_option maxHeartbeats 3200000
/-- A harness whose first t workers have been handed their machine. -/
def hpT (n t : Nat) : Hp := ⟨(List.range n).map (fun j => if j < t then [(j, (j : Int), false)] else []), 0, [], []⟩
theorem hpT_len (n t : Nat) : (hpT n t).q.length = n := by simp [hpT]
/-- A bench of the document's, since w0. -/
structure Bs (w0 w : World) (R : Rd) (hb qb : Nat) (a : Hp × Ls) : Prop where
  m : ∃ F qv ev en, Rh w F R.bk hb qb qv ev en a.1 ∧ ∀ y, F y → w0.heap.size ≤ y ∧ ¬ fR R y
  o : RP R w a.2
  iv : Iv R.n a.1
  fr : ∀ y, fR R y → w0.heap.size ≤ y
  hp : w.cell? ⟨R.bk, 2, none⟩ = some (.pointer (some ⟨hb, 0, none⟩))
  bl : Below w0.heap.size w0 w
  cw : R.wd ≤ R.cc
theorem Bs.still {w0 w w' : World} {R : Rd} {hb qb : Nat} {a : Hp × Ls} (h : Bs w0 w R hb qb a) (k : Keeps (fun _ => False) w w') : Bs w0 w' R hb qb a := by
  obtain ⟨F, qv, ev, en, m, l⟩ := h.m
  exact ⟨⟨F, qv, ev, en, m.still k, l⟩, h.o.still k, h.iv, h.fr, (k.cell (p := ⟨R.bk, 2, none⟩) (h.o.lt _ (.inr (.inl rfl))) (fun e => e)).trans h.hp, h.bl.trans (k.below h.bl.size (fun _ _ e => e)), h.cw⟩
theorem Bs.next {w0 w w' : World} {R : Rd} (hR : RdOk R) {hb qb : Nat} {a a' : Hp × Ls} {F : Nat → Prop} (h : Bs w0 w R hb qb a) (l0 : ∀ y, F y → w0.heap.size ≤ y ∧ ¬ fR R y) (p : Pr R w w' F hb qb a') : Bs w0 w' R hb qb a' := by
  obtain ⟨F', qv, ev, en, m, f, d⟩ := p.mid
  have lb : R.bk < w.heap.size := h.o.lt _ (.inr (.inl rfl))
  have nb : ¬ (F R.bk ∨ fRw R R.bk) := fun e => e.elim (fun e => (l0 _ e).2 (.inr (.inl rfl))) (fun e => hR.bk e)
  refine ⟨⟨F', qv, ev, en, m, fun y hy => ⟨?_, d y hy⟩⟩, p.o, p.iv, h.fr, (p.k.cell (p := ⟨R.bk, 2, none⟩) lb nb).trans h.hp, h.bl.trans (p.k.below h.bl.size (fun k hk e => ?_)), h.cw⟩
  · rcases f y hy with e | e
    · exact (l0 y e).1
    · have := h.bl.size; omega
  · rcases e with e | e
    · have := (l0 _ e).1; omega
    · have := h.fr _ (.inl e); omega
end Go.Proofs.YtdpebhdjcgiboaaGreat

namespace Go.Proofs.YtdpebhdjcgiboaaGreat
set_option linter.unusedSimpArgs false
open Go.ChangeShapes Go.WideShapes Go.ChangeAt Go.RowKit Go.MuLone Go.RwLone
set_option linter.unusedVariables false
set_option maxRecDepth 100000
set_option maxHeartbeats 3200000
abbrev bxA (cv tvv : Value) : Array Value := #[cv, tvv, .pointer none]
/-- A harness just made. -/
theorem Rh.fresh {w w' : World} (n bk : Nat) (h2 : n ≤ 16) (k : Keeps (fun _ => False) ((w.alloc (.cells (madeCells #[.slice none 0 0] n) 217)).alloc (.cells (haR bk w.heap.size n 0 (.slice none 0 0) (.slice none 0 0)) 158)) w') :
    Rh w' (fun y => y = w.heap.size ∨ y = w.heap.size + 1) bk (w.heap.size + 1) w.heap.size (fun _ => .slice none 0 0) (.slice none 0 0) (.slice none 0 0) (hpT n 0) := by
  have s1 : ((w.alloc (.cells (madeCells #[.slice none 0 0] n) 217)).alloc (.cells (haR bk w.heap.size n 0 (.slice none 0 0) (.slice none 0 0)) 158)).heap.size = w.heap.size + 2 := by rw [szAl, szAl]
  have eq : w'.heap[w.heap.size]? = some (.cells (madeCells #[.slice none 0 0] n) 217) := (k.block _ (by omega) (fun e => e)).trans ((Below.heap_alloc _ _ _ (by rw [szAl]; omega)).trans (heap_alloc_last _ _ _ rfl))
  have eh : w'.heap[w.heap.size + 1]? = some (.cells (haR bk w.heap.size n 0 (.slice none 0 0) (.slice none 0 0)) 158) := (k.block _ (by omega) (fun e => e)).trans (heap_alloc_last _ _ _ (szAl _ _).symm)
  have hl := hpT_len n 0
  refine ⟨by rw [hl]; exact eh, ⟨_, eq⟩, fun i hi => ?_, fun i hi => ?_, (fun i j g _ _ _ e => by cases e), OwG.nil _ _ _ _ _, OwG.nil _ _ _ _ _, .inr rfl, .inl rfl, (fun i g _ e => by cases e), (fun g e => by cases e), (fun g e => by cases e), fun x hx => ?_, by rw [hl]; exact h2⟩
  · rw [hl] at hi
    rw [cell?_heap eq i, ← Array.getElem?_toList, toList_madeCells_one]
    simp [hi]
  · have : (hpT n 0).q[i] = [] := by simp [hpT]
    rw [this]
    exact OwG.nil _ _ _ _ _
  · have := k.size
    rw [s1] at this
    rcases hx with rfl | rfl <;> omega
end Go.Proofs.YtdpebhdjcgiboaaGreat
