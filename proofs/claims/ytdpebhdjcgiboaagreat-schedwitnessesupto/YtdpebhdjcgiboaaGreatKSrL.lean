import Derived.Test.YtdpebhdjcgiboaaGreatKSrF
import Derived.Test.YtdpebhdjcgiboaaGreatKSh3
import Derived.Test.YtdpebhdjcgiboaaGreatKSdQ
namespace Go.Proofs.YtdpebhdjcgiboaaGreat
set_option linter.unusedSimpArgs false
open Go.ChangeShapes Go.WideShapes Go.ChangeAt Go.RowKit Go.MuLone Go.RwLone
set_option linter.unusedVariables false
set_option maxRecDepth 100000
set_option maxHeartbeats 3200000
theorem rwithin_any (n a b : Int) (w : World) : Calls Tryz.prog 50 #[.int .i64 n, .int .i64 a, .int .i64 b] w fun e w' => e = .returned (.bool (wiB n a b)) ∧ w' = w := by
  by_cases h1 : a ≤ n
  · by_cases h2 : n ≤ b
    · have hd : wiB n a b = true := by simp [wiB, h1, h2]
      rw [hd]
      go_enter Tryz.func50, Tryz.ntmps50
      go_wp2
      go_ret
      exact ⟨rfl, rfl⟩
    · have hd : wiB n a b = false := by simp [wiB, h2]
      rw [hd]
      go_enter Tryz.func50, Tryz.ntmps50
      go_wp2
      go_ret
      exact ⟨rfl, rfl⟩
  · have hd : wiB n a b = false := by simp [wiB, h1]
    rw [hd]
    go_enter Tryz.func50, Tryz.ntmps50
    go_wp2
    go_ret
    exact ⟨rfl, rfl⟩
/-- The document's sound, of one instruction. -/
theorem rsound_any (x : I8) (n : Nat) (w : World) (hn : n ≤ 140737488355328) :
    Calls Tryz.prog 51 #[.agg (iV x), .int .i64 (n : Int)] w fun e w' => e = .returned (.bool (sndB n x)) ∧ Keeps (fun _ => False) w w' := by
  obtain ⟨op, c, r, nr, ni, orr, oi, m⟩ := x
  obtain ⟨S, hS⟩ : ∃ S, sndB n ⟨op, c, r, nr, ni, orr, oi, m⟩ = S := ⟨_, rfl⟩
  have HS : Hid (sndB n ⟨op, c, r, nr, ni, orr, oi, m⟩ = S) := hS
  rw [hS]
  have hw : IntKind.i64.wrap ((n : Int) - 1) = (n : Int) - 1 := by rw [IntKind.wrap_i64]; omega
  have HK : Hid (Keeps (fun _ => False) w (w.alloc (.cells (iV ⟨op, c, r, nr, ni, orr, oi, m⟩) 106))) := (Keeps.refl _ _).alloc _
  clear hS
  go_enter Tryz.func51, Tryz.ntmps51
  go_wp2_with fail
  refine (rwithin_any c 0 ((n : Int) - 1) _).mono ?_
  rintro e w' ⟨rfl, rfl⟩
  obtain ⟨bc, hbc⟩ : ∃ bc, wiB c 0 ((n : Int) - 1) = bc := ⟨_, rfl⟩
  rw [hbc]
  go_wp2_with fail
  refine (rwithin_any r 0 3 _).mono ?_
  rintro e w' ⟨rfl, rfl⟩
  obtain ⟨br, hbr⟩ : ∃ br, wiB r 0 3 = br := ⟨_, rfl⟩
  rw [hbr]
  go_wp2_with fail
  refine (rwithin_any nr (-1) 3 _).mono ?_
  rintro e w' ⟨rfl, rfl⟩
  obtain ⟨bn, hbn⟩ : ∃ bn, wiB nr (-1) 3 = bn := ⟨_, rfl⟩
  rw [hbn]
  go_wp2_with fail
  refine (rwithin_any orr (-1) 3 _).mono ?_
  rintro e w' ⟨rfl, rfl⟩
  obtain ⟨bo, hbo⟩ : ∃ bo, wiB orr (-1) 3 = bo := ⟨_, rfl⟩
  rw [hbo]
  have HB : Hid (∀ b, (if op = 1 then bc && br else if op = 2 then bc && bn else if op = 3 then bc && br && bo && bn else if op = 4 then bc && br && bn else if op = 5 then br && bn && wiB m 1 10 else false) = b → S = b) := fun b e => by
    rw [← HS.out]
    unfold sndB
    dsimp only
    rw [hbc, hbr, hbn, hbo]
    exact e
  clear hbc hbr hbn hbo
  by_cases o1 : op = 1
  · subst o1
    cases bc <;> cases br
    all_goals
      have HE := HB.out _ rfl
      simp at HE
      subst HE
      go_wp2
      go_ret
      exact ⟨rfl, HK.out⟩
  · by_cases o2 : op = 2
    · subst o2
      cases bc <;> cases bn
      all_goals
        have HE := HB.out _ rfl
        simp at HE
        subst HE
        go_wp2
        go_ret
        exact ⟨rfl, HK.out⟩
    · by_cases o3 : op = 3
      · subst o3
        cases bc <;> cases br <;> cases bn <;> cases bo
        all_goals
          have HE := HB.out _ rfl
          simp at HE
          subst HE
          go_wp2
          go_ret
          exact ⟨rfl, HK.out⟩
      · by_cases o4 : op = 4
        · subst o4
          cases bc <;> cases br <;> cases bn
          all_goals
            have HE := HB.out _ rfl
            simp at HE
            subst HE
            go_wp2
            go_ret
            exact ⟨rfl, HK.out⟩
        · by_cases o5 : op = 5
          · subst o5
            cases br
            · have HE := HB.out _ rfl
              simp at HE
              subst HE
              go_wp2
              go_ret
              exact ⟨rfl, HK.out⟩
            · cases bn
              · have HE := HB.out _ rfl
                simp at HE
                subst HE
                go_wp2
                go_ret
                exact ⟨rfl, HK.out⟩
              · have HE := HB.out _ rfl
                simp at HE
                have HEE : Hid (S = wiB m 1 10) := HE
                clear HE
                go_wp2_with fail
                refine (rwithin_any m 1 10 _).mono ?_
                rintro e w' ⟨rfl, rfl⟩
                rw [← HEE.out]
                go_wp2
                go_ret
                exact ⟨rfl, HK.out⟩
          · have HE := HB.out _ rfl
            simp [o1, o2, o3, o4, o5] at HE
            subst HE
            go_wp2
            go_ret
            exact ⟨rfl, HK.out⟩
end Go.Proofs.YtdpebhdjcgiboaaGreat

namespace Go.Proofs.YtdpebhdjcgiboaaGreat
set_option linter.unusedSimpArgs false
open Go.ChangeShapes Go.WideShapes Go.ChangeAt Go.RowKit Go.MuLone Go.RwLone
set_option linter.unusedVariables false
set_option maxRecDepth 100000
set_option maxHeartbeats 3200000
/-- The document's Sound. -/
theorem rSound_any (w : World) (C : Nat) (ca : Option Addr) (cc : Nat) (ta : Option Addr) (tc : Nat) (tv : Nat → Value) (cs : List Int) (ts : List (List I8)) (h : LitG w C ca cc ta tc tv cs ts) (hC : C ≤ w.heap.size) :
    Calls Tryz.prog 24 #[.agg (litC ca cs.length cc ta ts.length tc)] w fun e w' => e = .returned (.bool (soundP cs ts)) ∧ Keeps (fun _ => False) w w' := by
  have HK0 : Hid (Keeps (fun _ => False) w (lgW w (litC ca cs.length cc ta ts.length tc))) := (Keeps.refl _ _).alloc _
  have H : Hid (∀ W, Keeps (fun _ => False) (lgW w (litC ca cs.length cc ta ts.length tc)) W → LitG W C ca cc ta tc tv cs ts) := fun W k => h.later ((HK0.out.trans k).below hC (fun _ _ e => e))
  have hlc := h.lc
  have hlt := h.lt
  clear h
  go_enter Tryz.func24, Tryz.ntmps24
  go_wp2_with fail
  refine (rwithin_any ts.length 1 4 _).mono ?_
  rintro e w' ⟨rfl, rfl⟩
  cases hb1 : wiB (ts.length : Int) 1 4 with
  | false =>
    have HS : Hid (soundP cs ts = false) := by show _ = _; unfold soundP; rw [hb1]; rfl
    go_wp2
    go_ret
    rw [HS.out]
    exact ⟨rfl, HK0.out⟩
  | true =>
    go_wp2_with fail
    refine (rwithin_any cs.length 1 4 _).mono ?_
    rintro e w' ⟨rfl, rfl⟩
    cases hb2 : wiB (cs.length : Int) 1 4 with
    | false =>
      have HS : Hid (soundP cs ts = false) := by show _ = _; unfold soundP; rw [hb1, hb2]; rfl
      go_wp2
      go_ret
      rw [HS.out]
      exact ⟨rfl, HK0.out⟩
    | true =>
      have HS : Hid (soundP cs ts = goT cs.length 10 ts) := by show _ = _; unfold soundP; rw [hb1, hb2]; rfl
      have ht4 := wiB_t hb1
      have hc4 := wiB_t hb2
      clear hb1 hb2
      obtain ⟨G, hG⟩ : ∃ G, goT cs.length 10 ts = G := ⟨_, rfl⟩
      have HG : Hid (soundP cs ts = G ∧ goT cs.length 10 ts = G) := ⟨HS.out.trans hG, hG⟩
      clear HS hG
      go_wp2_with fail
      go_loopw [3, 4] (fun c d wr => ∃ (t : Nat) (lf : Int), c = .int .i64 lf ∧ 0 ≤ lf ∧ lf ≤ 10 ∧ d = .int .i64 t ∧ t ≤ ts.length ∧ Keeps (fun _ => False) (lgW w (litC ca cs.length cc ta ts.length tc)) wr ∧ goT cs.length (10 - lf) (ts.drop t) = G) (fun _ d _ => ts.length - (intOf d).toNat)
      case atStart => exact ⟨0, 0, rfl, by omega, by omega, rfl, by omega, Keeps.refl _ _, HG.out.2⟩
      case round =>
        obtain ⟨t, lf, rfl, lf0, lf1, rfl, ht, hk, hgo⟩ := hrel
        have HK : Hid (Keeps (fun _ => False) (lgW w (litC ca cs.length cc ta ts.length tc)) wr ∧ goT cs.length (10 - lf) (ts.drop t) = G) := ⟨hk, hgo⟩
        clear hgo
        have cb := (lg_keep hk).2
        clear hk
        by_cases h5 : t < ts.length
        · obtain ⟨tb, off, rfl, _, ct⟩ := (H.out wr HK.out.1).t t h5
          obtain ⟨ia, icap, hiv⟩ := ((H.out wr HK.out.1).i t h5).form
          rw [hiv] at ct
          have hli := (H.out wr HK.out.1).li t h5
          have HE : Hid (goT cs.length (10 - lf) (ts.drop t) = if 10 - lf - ((ts[t]).length : Int) < 0 then false else (ts[t].all (sndB cs.length) && goT cs.length (10 - lf - ((ts[t]).length : Int)) (ts.drop (t + 1)))) := by
            show _ = _
            rw [List.drop_eq_getElem_cons h5]
            rfl
          have HIN : Hid (∀ W, Keeps (fun _ => False) (lgW w (litC ca cs.length cc (some ⟨tb, off, none⟩) ts.length tc)) W → InG iC W C (.slice ia ts[t].length icap) ts[t] ∧ W.cell? ⟨tb, off + t, none⟩ = some (.slice ia ts[t].length icap)) := fun W k => by
            have z := H.out W k
            obtain ⟨tb', off', e, _, c⟩ := z.t t h5
            injection e with e
            injection e with e e'
            subst e e'
            rw [← hiv]
            exact ⟨z.i t h5, c⟩
          have t0 : (0 : Int) ≤ (t : Int) := Int.natCast_nonneg _
          have t1 : (t : Int) < (ts.length : Int) := by omega
          clear hiv
          generalize ts[t] = l at *
          obtain ⟨m, hm⟩ : ∃ m, l.length = m := ⟨_, rfl⟩
          have HM : Hid (l.length = m) := hm
          rw [hm] at ct hli HE HIN
          obtain ⟨s3, hs3⟩ : ∃ s3, s3 = lf + (m : Int) := ⟨_, rfl⟩
          have hw3 : IntKind.i64.wrap (lf + (m : Int)) = s3 := by rw [IntKind.wrap_i64]; omega
          have HS3 : Hid (s3 = lf + (m : Int)) := hs3
          clear hm
          by_cases hneg : s3 > 10
          · have HF : Hid (G = false) := by show _ = _; rw [← HK.out.2, HE.out, if_pos (by omega)]
            clear hs3
            go_wp2
            go_ret
            rw [HG.out.1, HF.out]
            exact ⟨rfl, HK0.out.trans HK.out.1⟩
          · have HE2 : Hid (G = (l.all (sndB cs.length) && goT cs.length (10 - s3) (ts.drop (t + 1)))) := by show _ = _; rw [← HK.out.2, HE.out, if_neg (by omega), hs3, Int.sub_sub]
            have hs30 : 0 ≤ s3 := by omega
            clear HE hs3
            go_wp2_with fail
            clear ct cb
            go_loopw [5] (fun c wq => ∃ (u : Nat), c = .int .i64 u ∧ u ≤ m ∧ Keeps (fun _ => False) (lgW w (litC ca cs.length cc (some ⟨tb, off, none⟩) ts.length tc)) wq ∧ (l.drop u).all (sndB cs.length) = l.all (sndB cs.length)) (fun c _ => m - (intOf c).toNat)
            case atStart => exact ⟨0, rfl, by omega, HK.out.1, rfl⟩
            case round =>
              obtain ⟨u, rfl, hu, hk2, hall⟩ := hrel
              have HK2 : Hid (Keeps (fun _ => False) (lgW w (litC ca cs.length cc (some ⟨tb, off, none⟩) ts.length tc)) wr ∧ (l.drop u).all (sndB cs.length) = l.all (sndB cs.length)) := ⟨hk2, hall⟩
              obtain ⟨ca0, cb0⟩ := lg_keep hk2
              have ct := (HIN.out wr hk2).2
              clear hk2 hall
              by_cases h6 : u < m
              · have hul : u < l.length := by rw [HM.out]; exact h6
                have HI8 : Hid (∀ W, Keeps (fun _ => False) (lgW w (litC ca cs.length cc (some ⟨tb, off, none⟩) ts.length tc)) W → ∃ b off cap, Value.slice ia m icap = .slice (some ⟨b, off, none⟩) l.length cap ∧ W.cell? ⟨b, off + u * 8, none⟩ = some (.int .i64 l[u].op) ∧ W.cell? ⟨b, off + u * 8 + 1, none⟩ = some (.int .i64 l[u].c) ∧ W.cell? ⟨b, off + u * 8 + 2, none⟩ = some (.int .i64 l[u].r) ∧ W.cell? ⟨b, off + u * 8 + 3, none⟩ = some (.int .i64 l[u].nr) ∧ W.cell? ⟨b, off + u * 8 + 4, none⟩ = some (.int .u64 l[u].ni) ∧ W.cell? ⟨b, off + u * 8 + 5, none⟩ = some (.int .i64 l[u].orr) ∧ W.cell? ⟨b, off + u * 8 + 6, none⟩ = some (.int .u64 l[u].oi) ∧ W.cell? ⟨b, off + u * 8 + 7, none⟩ = some (.int .i64 l[u].n)) := fun W k => by
                  have hin := (HIN.out W k).1
                  exact hin.i8 u hul
                obtain ⟨b, o2, cp2, e2, -⟩ := HI8.out wr HK2.out.1
                injection e2 with e2 e2m e3
                clear e2m
                subst e2
                have HSS : Hid (∀ W, Keeps (fun _ => False) (lgW w (litC ca cs.length cc (some ⟨tb, off, none⟩) ts.length tc)) W → W.cell? ⟨w.heap.size, 0, none⟩ = some (.slice ca cs.length cc) ∧ W.cell? ⟨w.heap.size, 1, none⟩ = some (.slice (some ⟨tb, off, none⟩) ts.length tc) ∧ W.cell? ⟨tb, off + t, none⟩ = some (.slice (some ⟨b, o2, none⟩) m icap) ∧ W.cell? ⟨b, o2 + u * 8, none⟩ = some (.int .i64 l[u].op) ∧ W.cell? ⟨b, o2 + u * 8 + 1, none⟩ = some (.int .i64 l[u].c) ∧ W.cell? ⟨b, o2 + u * 8 + 2, none⟩ = some (.int .i64 l[u].r) ∧ W.cell? ⟨b, o2 + u * 8 + 3, none⟩ = some (.int .i64 l[u].nr) ∧ W.cell? ⟨b, o2 + u * 8 + 4, none⟩ = some (.int .u64 l[u].ni) ∧ W.cell? ⟨b, o2 + u * 8 + 5, none⟩ = some (.int .i64 l[u].orr) ∧ W.cell? ⟨b, o2 + u * 8 + 6, none⟩ = some (.int .u64 l[u].oi) ∧ W.cell? ⟨b, o2 + u * 8 + 7, none⟩ = some (.int .i64 l[u].n)) := fun W k => by
                  obtain ⟨b', o', cp', e', q⟩ := HI8.out W k
                  injection e' with e' _ _
                  injection e' with e'
                  injection e' with e1 e2
                  subst e1 e2
                  exact ⟨(lg_keep k).1, (lg_keep k).2, (HIN.out W k).2, q⟩
                have HA : Hid ((l.drop u).all (sndB cs.length) = (sndB cs.length l[u] && (l.drop (u + 1)).all (sndB cs.length))) := by show _ = _; rw [List.drop_eq_getElem_cons hul]; rfl
                have u0 : (0 : Int) ≤ (u : Int) := Int.natCast_nonneg _
                have u1 : (u : Int) < (m : Int) := by omega
                clear e3 HI8
                generalize l[u] = x at *
                obtain ⟨op, xc, xr, nr, ni, orr, oi, xn⟩ := x
                dsimp only at HSS
                have HSX := rsound_any ⟨op, xc, xr, nr, ni, orr, oi, xn⟩ cs.length wr.drew hlc
                have HSXX : Hid (∀ _ : Unit, _) := fun _ => HSX
                have HKD : Hid (Keeps (fun _ => False) (lgW w (litC ca cs.length cc (some ⟨tb, off, none⟩) ts.length tc)) wr.drew) := HK2.out.1.drew
                clear HSX
                go_wp2_with fail
                clear ca0 cb0 ct
                (refine wp_region_held_drew (S := (fun W => W.cell? ⟨w.heap.size, 0, none⟩ = some (.slice ca cs.length cc) ∧ W.cell? ⟨w.heap.size, 1, none⟩ = some (.slice (some ⟨tb, off, none⟩) ts.length tc) ∧ W.cell? ⟨tb, off + t, none⟩ = some (.slice (some ⟨b, o2, none⟩) m icap) ∧ W.cell? ⟨b, o2 + u * 8, none⟩ = some (.int .i64 op) ∧ W.cell? ⟨b, o2 + u * 8 + 1, none⟩ = some (.int .i64 xc) ∧ W.cell? ⟨b, o2 + u * 8 + 2, none⟩ = some (.int .i64 xr) ∧ W.cell? ⟨b, o2 + u * 8 + 3, none⟩ = some (.int .i64 nr) ∧ W.cell? ⟨b, o2 + u * 8 + 4, none⟩ = some (.int .u64 ni) ∧ W.cell? ⟨b, o2 + u * 8 + 5, none⟩ = some (.int .i64 orr) ∧ W.cell? ⟨b, o2 + u * 8 + 6, none⟩ = some (.int .u64 oi) ∧ W.cell? ⟨b, o2 + u * 8 + 7, none⟩ = some (.int .i64 xn))) (by kernel_rfl) (HSS.out _ HKD.out) (fun hHeld => ?_); simp only [List.size_toArray, List.length_cons, List.length_nil, Nat.reduceAdd, Array.replicate_succ, Array.replicate_zero, List.push_toArray, List.append_toArray, List.nil_append, List.cons_append])
                refine rgT 0 (h := ?_)
                refine rgT 1 (h := ?_)
                refine rgT 2 (h := ?_)
                refine rgT 3 (h := ?_)
                refine rgT 4 (h := ?_)
                refine rgT 5 (h := ?_)
                refine rgT 6 (h := ?_)
                refine rgT 7 (h := ?_)
                refine rgT 8 (h := ?_)
                refine rgT 9 (h := ?_)
                refine rgT 10 (h := ?_)
                (refine rgS 11 (h := fun K hK => ?_); go_simp)
                refine (HSXX.out ()).mono ?_
                rintro e w5 ⟨rfl, k5⟩
                have HK5 : Hid (Keeps (fun _ => False) (lgW w (litC ca cs.length cc (some ⟨tb, off, none⟩) ts.length tc)) w5) := HKD.out.trans k5
                clear k5
                (refine hK.out _ _ (HSS.out _ HK5.out) (fun hHeld => ?_); clear hK K; try simp only [Act.put, List.setIfInBounds_toArray, List.set_cons_zero, List.set_cons_succ])
                refine rgT 12 (h := ?_)
                refine wpAnyH_done (by kernel_rfl) ?_ _
                cases hx : sndB cs.length ⟨op, xc, xr, nr, ni, orr, oi, xn⟩ with
                | false =>
                  have HF : Hid (G = false) := by show _ = _; rw [HE2.out, ← HK2.out.2, HA.out, hx]; rfl
                  go_wp2
                  go_ret
                  rw [HG.out.1, HF.out]
                  exact ⟨rfl, HK0.out.trans HK5.out⟩
                | true =>
                  have HA2 : Hid ((l.drop (u + 1)).all (sndB cs.length) = l.all (sndB cs.length)) := by show _ = _; rw [← HK2.out.2, HA.out, hx]; rfl
                  clear hx HA HK2
                  go_wp2
                  go_roundw
                  case rel => exact ⟨u + 1, by go_num, by omega, HK5.out, HA2.out⟩
                  case measure => simp [intOf]; omega
              · have HA : Hid (l.all (sndB cs.length) = true) := by show _ = _; rw [← HK2.out.2, List.drop_of_length_le (by rw [HM.out]; omega)]; rfl
                have HE3 : Hid (goT cs.length (10 - s3) (ts.drop (t + 1)) = G) := by show _ = _; rw [HE2.out, HA.out]; rfl
                go_wp2
                go_roundw
                case rel => exact ⟨t + 1, s3, rfl, by omega, by omega, by go_num, by omega, HK2.out.1, HE3.out⟩
                case measure => simp [intOf]; omega
        · have HT : Hid (G = true) := by show _ = _; rw [← HK.out.2, List.drop_of_length_le (by omega)]; rfl
          go_wp2
          go_ret
          rw [HG.out.1, HT.out]
          exact ⟨rfl, HK0.out.trans HK.out.1⟩
end Go.Proofs.YtdpebhdjcgiboaaGreat

namespace Go.Proofs.YtdpebhdjcgiboaaGreat
set_option linter.unusedSimpArgs false
open Go.ChangeShapes Go.WideShapes Go.ChangeAt Go.RowKit Go.MuLone Go.RwLone
set_option linter.unusedVariables false
set_option maxRecDepth 100000
set_option maxHeartbeats 3200000
theorem rwords_any (w : World) (C : Nat) (hC : C ≤ w.heap.size) (a : Option Addr) (c : Nat) (xs : List Int) (h : InG wdC w C (.slice a xs.length c) xs) (hl : xs.length ≤ 1099511627776) :
    Calls Tryz.prog 96 #[.slice a xs.length c] w fun e w' => ∃ a' c', e = .returned (.slice a' xs.length c') ∧ OwW w' w.heap.size (.slice a' xs.length c') xs ∧ Below w.heap.size w w' := by
  have H : Hid (InG wdC w C (.slice a xs.length c) xs) := h
  clear h
  go_enter Tryz.func96, Tryz.ntmps96
  go_wp2_with (at_builtin; refine hideG ?_)
  change wpList _ _ _ _ _ _
  refine copy_list (cs := wdC) (w := w) (by rfl) _ _ 46 55 (by rfl) Tryz.underlying46 infoU64 rfl (by decide) (fun _ => rfl) w.heap.size rfl (by rfl) C _ xs (by rfl) H.out hC (fun y _ => wdC_one y) (by unfold maxLen; omega) (by omega) ?_
  intro v' w' ho hb
  obtain ⟨a', c', rfl⟩ := ho.form
  have HX : Hid (OwW w' w.heap.size (.slice a' xs.length c') xs ∧ Below w.heap.size w w') := ⟨ho, hb⟩
  clear ho hb
  go_wp2
  go_ret
  exact ⟨a', c', rfl, HX.out⟩
/-- A thread of the document's program at its begin: where its instructions lie, its registers' block. -/
abbrev Tn := Value × Nat × List I8
def tdC (q : Tn) : List Value := [q.1, .slice (some ⟨q.2.1, 0, none⟩) 4 4, .int .i64 0]
theorem tdC_one {a : Option Addr} {m c rb : Nat} {l : List I8} : ∀ u ∈ tdC (.slice a m c, rb, l), u.oneCell' = true := by
  intro u hu
  simp [tdC] at hu
  rcases hu with rfl | rfl | rfl <;> rfl
theorem infoTd : (Tryz.prog.info? 169).map (fun i => (i.zero, i.size, i.bytes)) = some (some (.agg #[.slice none 0 0, .slice none 0 0, .int .i64 0]), 3, 56) := by kernel_rfl
abbrev zr4 : Array Value := madeCells #[.int .u64 0] 4
/-- The lists of a program just made. -/
structure Pn (w : World) (B : Nat) (cv tvv : Value) (cs : List Int) (qs : List Tn) : Prop where
  oc : OwW w B cv cs
  ot : OwG tdC 169 3 w B tvv qs
  oi : ∀ q ∈ qs, OwG iC 106 8 w B q.1 q.2.2
  rr : ∀ q ∈ qs, w.heap[q.2.1]? = some (.cells zr4 55) ∧ B ≤ q.2.1 ∧ ∀ g, cv.ownBlock = some g → g < q.2.1
  inc : qs.Pairwise (fun a b => a.2.1 < b.2.1)
theorem Pn.later {w w' : World} {B : Nat} {cv tvv : Value} {cs : List Int} {qs : List Tn} (h : Pn w B cv tvv cs qs) (k : Below w.heap.size w w') : Pn w' B cv tvv cs qs :=
  ⟨h.oc.later k, h.ot.later k, fun q hq => (h.oi q hq).later k, fun q hq => ⟨(k.block _ (Array.getElem?_eq_some_iff.1 (h.rr q hq).1).1).trans (h.rr q hq).1, (h.rr q hq).2⟩, h.inc⟩
theorem Pn.keeps {w w' : World} {B : Nat} {cv tvv : Value} {cs : List Int} {qs : List Tn} {D : Nat → Prop} (h : Pn w B cv tvv cs qs) (k : Keeps D w w') (hD : ∀ x, D x → x < B ∨ ∃ c, w.heap[x]? = some (.cells c 85)) : Pn w' B cv tvv cs qs := by
  have ap : ∀ {α : Type} {f : α → List Value} {e : TypeId} {n : Nat} {v : Value} {xs : List α}, OwG f e n w B v xs → e ≠ 85 → OwG f e n w' B v xs := fun ho hne => owK ho k (fun g hg hd => by
    rcases hD g hd with e | ⟨c, e⟩
    · have := (World.ownsRow.lt ho g hg).1; omega
    · obtain ⟨cur, hcur⟩ := blk ho hg
      exact neT hcur e hne rfl)
  refine ⟨ap h.oc (by decide), ap h.ot (by decide), fun q hq => ap (h.oi q hq) (by decide), fun q hq => ⟨(k.block _ (Array.getElem?_eq_some_iff.1 (h.rr q hq).1).1 (fun hd => ?_)).trans (h.rr q hq).1, (h.rr q hq).2⟩, h.inc⟩
  rcases hD _ hd with e | ⟨c, e⟩
  · have := (h.rr q hq).2.1; omega
  · exact neT (h.rr q hq).1 e (by decide) rfl
abbrev npW (w : World) (c : Array Value) : World := (lgW w c).alloc (.cells #[.slice none 0 0, .slice none 0 0] 85)
theorem npW_size (w : World) (c : Array Value) : (npW w c).heap.size = w.heap.size + 2 := by rw [szAl, szAl]
/-- In the midst of making a program. -/
structure Np (w wr : World) (c : Array Value) (pb : Nat) (cv tvv : Value) (cs : List Int) (qs : List Tn) : Prop where
  pn : Pn wr (w.heap.size + 2) cv tvv cs qs
  lb : wr.heap[pb]? = some (.cells #[cv, tvv] 85)
  bl : Below (w.heap.size + 2) (npW w c) wr
  cl : w.heap.size + 2 ≤ pb
  cg : ∀ g, cv.ownBlock = some g → g < pb
theorem Np.lt {w wr : World} {c : Array Value} {pb : Nat} {cv tvv : Value} {cs : List Int} {qs : List Tn} (h : Np w wr c pb cv tvv cs qs) : pb < wr.heap.size := (Array.getElem?_eq_some_iff.1 h.lb).1
theorem Np.later {w wr w' : World} {c : Array Value} {pb : Nat} {cv tvv : Value} {cs : List Int} {qs : List Tn} (h : Np w wr c pb cv tvv cs qs) (k : Below wr.heap.size wr w') : Np w w' c pb cv tvv cs qs := by
  have := h.lt
  have := h.cl
  exact ⟨h.pn.later k, (k.block _ h.lt).trans h.lb, h.bl.trans (k.mono (by omega)), h.cl, h.cg⟩
theorem Np.step {w wr w3 : World} {c : Array Value} {pb : Nat} {cv tvv v8 v' : Value} {cs : List Int} {qs : List Tn} {l : List I8} (h : Np w wr c pb cv tvv cs qs) (h8 : OwG iC 106 8 wr (w.heap.size + 2) v8 l) (ho : OwG tdC 169 3 w3 (w.heap.size + 2) v' (qs ++ [(v8, wr.heap.size, l)])) (hb : Below (w.heap.size + 2) (wr.alloc (.cells zr4 55)) w3) (hk : KpT 169 (wr.alloc (.cells zr4 55)) w3) :
    Np w (w3.setCell ⟨pb, 1, none⟩ v') c pb cv v' cs (qs ++ [(v8, wr.heap.size, l)]) ∧ w3.cell? ⟨pb, 1, none⟩ = some tvv ∧ w3.frozen? ⟨pb, 1, none⟩ = false := by
  have b0 : Below wr.heap.size wr (wr.alloc (.cells zr4 55)) := (Below.refl _ _).alloc (Nat.le_refl _) _
  have h1 := h.later b0
  have e1 := h1.lb
  have e3 : w3.heap[pb]? = some (.cells #[cv, tvv] 85) := (hk _ _ _ _ e1 (by decide)).trans e1
  have ks : Keeps (fun x => x = pb) w3 (w3.setCell ⟨pb, 1, none⟩ v') := Keeps.setCell (B := fun x => x = pb) (Keeps.refl _ _) rfl _
  have hlt := h.lt
  have hcl := h.cl
  have hs3 := hb.size
  rw [szAl] at hs3
  have en : (wr.alloc (.cells zr4 55)).heap[wr.heap.size]? = some (.cells zr4 55) := heap_alloc_last _ _ _ rfl
  have pn3 : Pn w3 (w.heap.size + 2) cv v' cs (qs ++ [(v8, wr.heap.size, l)]) := by
    refine ⟨h1.pn.oc.kept hk (by decide), ho, fun q hq => ?_, fun q hq => ?_, ?_⟩
    · rcases List.mem_append.1 hq with hq | hq
      · exact (h1.pn.oi q hq).kept hk (by decide)
      · obtain rfl := List.mem_singleton.1 hq
        exact (h8.later b0).kept hk (by decide)
    · rcases List.mem_append.1 hq with hq | hq
      · exact ⟨(hk _ _ _ _ (h1.pn.rr q hq).1 (by decide)).trans (h1.pn.rr q hq).1, (h1.pn.rr q hq).2⟩
      · obtain rfl := List.mem_singleton.1 hq
        exact ⟨(hk _ _ _ _ en (by decide)).trans en, by show _ ≤ wr.heap.size; omega, fun g hg => by have := h.cg g hg; show g < wr.heap.size; omega⟩
    · refine List.pairwise_append.2 ⟨h.pn.inc, List.pairwise_singleton .., fun a ha b hb => ?_⟩
      obtain rfl := List.mem_singleton.1 hb
      exact (Array.getElem?_eq_some_iff.1 (h.pn.rr a ha).1).1
  refine ⟨⟨pn3.keeps ks (fun x e => .inr ⟨#[cv, tvv], by rw [e]; exact e3⟩), heapSet e3 _, ?_, h.cl, h.cg⟩, (cell?_heap e3 1).trans rfl, frozen?_heap e3 1⟩
  refine (h1.bl.trans hb).trans (ks.below (by omega) (fun k hk e => by omega))
theorem rnewp_any (w : World) (C : Nat) (ca : Option Addr) (cc : Nat) (ta : Option Addr) (tc : Nat) (tv : Nat → Value) (cs : List Int) (ts : List (List I8)) (h : LitG w C ca cc ta tc tv cs ts) (hC : C ≤ w.heap.size) (l1 : cs.length ≤ 1099511627776) (l2 : ts.length ≤ 1099511627776) (l3 : ∀ i (hi : i < ts.length), ts[i].length ≤ 1099511627776) :
    Calls Tryz.prog 56 #[.agg (litC ca cs.length cc ta ts.length tc)] w fun e w' => ∃ cv tvv qs, e = .returned (.agg #[cv, tvv]) ∧ Pn w' (w.heap.size + 2) cv tvv cs qs ∧ qs.map (fun q => q.2.2) = ts ∧ Below w.heap.size w w' := by
  have k0 : Below w.heap.size w (npW w (litC ca cs.length cc ta ts.length tc)) := ((Below.refl _ _).alloc (Nat.le_refl _) _).alloc (by rw [szAl]; omega) _
  have sz := npW_size w (litC ca cs.length cc ta ts.length tc)
  have H : Hid (∀ W, Below (w.heap.size + 2) (npW w (litC ca cs.length cc ta ts.length tc)) W → LitG W C ca cc ta tc tv cs ts) := fun W k => h.later ((k0.mono hC).trans (k.mono (by omega)))
  have HBox : Hid (∀ W, Below (w.heap.size + 2) (npW w (litC ca cs.length cc ta ts.length tc)) W → W.cell? ⟨w.heap.size, 1, none⟩ = some (.slice ta ts.length tc) ∧ W.heap[w.heap.size + 1]? = some (.cells #[.slice none 0 0, .slice none 0 0] 85)) := fun W k => by
    have e0 : W.heap[w.heap.size]? = some (.cells (litC ca cs.length cc ta ts.length tc) 49) := (k.block _ (by omega)).trans ((Below.heap_alloc _ _ _ (by rw [szAl]; omega)).trans (heap_alloc_last _ _ _ rfl))
    exact ⟨(cell?_heap e0 1).trans rfl, (k.block _ (by omega)).trans (heap_alloc_last _ _ _ (szAl _ _).symm)⟩
  have HW := rwords_any (npW w (litC ca cs.length cc ta ts.length tc)) C (by omega) ca cc cs (H.out _ (Below.refl _ _)).c l1
  rw [sz] at HW
  have HWW : Hid (∀ _ : Unit, _) := fun _ => HW
  have HK0 : Hid (Below w.heap.size w (npW w (litC ca cs.length cc ta ts.length tc))) := k0
  have HL3 : Hid (∀ i (hi : i < ts.length), ts[i].length ≤ 1099511627776) := l3
  clear h k0 l3 HW
  have hm : ∀ w : World, (Instr.makeSlice 46 (.int .i64 4) (.int .i64 4)).run Tryz.prog w = .ok (.slice (some ⟨w.heap.size, 0, none⟩) 4 4) (w.alloc (.cells zr4 55)) := fun w => run_make_any (P := Tryz.prog) 46 55 _ 1 8 Tryz.underlying46 infoU64 4 (by omega) (by omega) w
  go_enter Tryz.func56, Tryz.ntmps56
  go_wp2_with fail
  refine (HWW.out ()).mono ?_
  rintro e w' ⟨va, vc, rfl, ho, hb⟩
  have HS : Hid (Np w (w'.alloc (.cells #[.slice va cs.length vc, .slice none 0 0] 85)) (litC ca cs.length cc ta ts.length tc) w'.heap.size (.slice va cs.length vc) (.slice none 0 0) cs []) := ⟨⟨World.ownsRow.alloc ho _, OwG.nil _ _ _ _ _, (fun p hp => by cases hp), (fun p hp => by cases hp), List.Pairwise.nil⟩, heap_alloc_last _ _ _ rfl, hb.alloc (by have := hb.size; omega) _, by have := hb.size; omega, fun g hg => (World.ownsRow.lt ho g hg).2⟩
  clear ho hb HWW
  go_wp2_with fail
  generalize w'.alloc (.cells #[.slice va cs.length vc, .slice none 0 0] 85) = w1 at *
  generalize w'.heap.size = pb at *
  go_loopw [4] (fun c wr => ∃ (t : Nat) (tvv : Value) (qs : List Tn), c = .int .i64 t ∧ t ≤ ts.length ∧ qs.map (fun q => q.2.2) = ts.take t ∧ Np w wr (litC ca cs.length cc ta ts.length tc) pb (.slice va cs.length vc) tvv cs qs) (fun c _ => ts.length - (intOf c).toNat)
  case atStart => exact ⟨0, _, [], rfl, by omega, rfl, HS.out⟩
  case round =>
    rename World => wr0
    obtain ⟨t, tvv, qs, rfl, ht, hps, hcp⟩ := hrel
    have HQ : Hid (Np w wr0 (litC ca cs.length cc ta ts.length tc) pb (.slice va cs.length vc) tvv cs qs ∧ qs.map (fun q => q.2.2) = ts.take t) := ⟨hcp, hps⟩
    have HPL : Hid (qs.length = t) := by show _ = _; have := congrArg List.length hps; simpa [Nat.min_eq_left ht] using this
    have hpl : qs.length ≤ 1099511627776 := by have := HPL.out; omega
    clear hcp hps HS
    obtain ⟨c1, -⟩ := HBox.out wr0 HQ.out.1.bl
    by_cases h5 : t < ts.length
    · have t0 : (0 : Int) ≤ (t : Int) := Int.natCast_nonneg _
      have t1 : (t : Int) < (ts.length : Int) := by omega
      have lg := H.out wr0 HQ.out.1.bl
      obtain ⟨tb, off, rfl, htb, ct⟩ := lg.t t h5
      have hin := lg.i t h5
      obtain ⟨ia, icap, hiv⟩ := hin.form
      rw [hiv] at ct hin
      have hli := HL3.out t h5
      have HT : Hid (ts.take (t + 1) = ts.take t ++ [ts[t]]) := by show _ = _; rw [List.take_succ_eq_append_getElem h5]
      generalize ts[t] = l at *
      obtain ⟨va2, vc2, rfl⟩ := HQ.out.1.pn.ot.form
      have hsz : w.heap.size + 2 ≤ wr0.heap.size := by have := HQ.out.1.cl; have := HQ.out.1.lt; omega
      have HI : Hid (InG iC wr0 C (.slice ia l.length icap) l ∧ C ≤ wr0.heap.size) := ⟨hin, by omega⟩
      have eA : ∀ g j, g < wr0.heap.size → (wr0.alloc (.cells #[] 106)).cell? ⟨g, j, none⟩ = wr0.cell? ⟨g, j, none⟩ := fun g j hg => World.cell?_of_block (w := wr0) (Below.heap_alloc wr0 _ g hg)
      have c1a : (wr0.alloc (.cells #[] 106)).cell? ⟨w.heap.size, 1, none⟩ = some (.slice (some ⟨tb, off, none⟩) ts.length tc) := (eA _ _ (by omega)).trans c1
      have cta : (wr0.alloc (.cells #[] 106)).cell? ⟨tb, off + t, none⟩ = some (.slice ia l.length icap) := (eA _ _ (by omega)).trans ct
      clear hin hiv lg eA
      go_wp2_with (at_builtin; refine hideG ?_)
      change wpList _ _ _ _ _ _
      refine copy_list (cs := iC) (w := wr0) (by rfl) _ _ 102 106 (by rfl) Tryz.underlying102 infoIn rfl (by decide) (fun _ => rfl) wr0.heap.size rfl (by rfl) C _ l (by rfl) HI.out.1 HI.out.2 (fun y _ => iC_one y) (by unfold maxLen; omega) (by omega) ?_
      intro v8 w8 o8 b8
      obtain ⟨a8, c8, rfl⟩ := o8.form
      have n8 := HQ.out.1.later b8
      have h8z : w.heap.size + 2 ≤ w8.heap.size := by have := b8.size; omega
      have H8 : Hid (OwG iC 106 8 w8 (w.heap.size + 2) (.slice a8 l.length c8) l ∧ Np w w8 (litC ca cs.length cc (some ⟨tb, off, none⟩) ts.length tc) pb (.slice va cs.length vc) (.slice va2 qs.length vc2) cs qs) := ⟨o8.down hsz, n8⟩
      have cT : w8.drew.cell? ⟨pb, 1, none⟩ = some (.slice va2 qs.length vc2) := (cell?_heap n8.lb 1).trans rfl
      have cT2 : (w8.alloc (.cells zr4 55)).cell? ⟨pb, 1, none⟩ = some (.slice va2 qs.length vc2) := (World.cell?_of_block (w := w8) (Below.heap_alloc w8 _ pb n8.lt)).trans cT
      have cT3 : ((w8.alloc (.cells zr4 55)).alloc (.cells #[.slice a8 l.length c8, .slice (some ⟨w8.heap.size, 0, none⟩) 4 4, .int .i64 0] 169)).cell? ⟨pb, 1, none⟩ = some (.slice va2 qs.length vc2) := (World.cell?_of_block (w := w8.alloc (.cells zr4 55)) (Below.heap_alloc _ _ pb (by rw [szAl]; have := n8.lt; omega))).trans cT2
      clear o8 b8 n8 c1 ct c1a cta HI
      go_wp2_with fail
      (refine wp_region_held_drew (S := (fun _ => True)) (by kernel_rfl) trivial (fun hHeld => ?_); simp only [List.size_toArray, List.length_cons, List.length_nil, Nat.reduceAdd, Array.replicate_succ, Array.replicate_zero, List.push_toArray, List.append_toArray, List.nil_append, List.cons_append])
      refine rgT 0 (h := ?_)
      refine rgT 2 (h := ?_)
      (refine wpAnyH_ready (rs := [1, 3]) (by kernel_rfl) (by simp) ?_; refine rgA 1 (by rfl) (fun K hK => ?_) (rgA 3 (by rfl) (fun K hK => ?_) AllReadyH.nil) <;> go_simp)
      focus
        (refine hK.out _ _ trivial (fun hHeld => ?_); clear hK K; try simp only [Act.put, List.setIfInBounds_toArray, List.set_cons_zero, List.set_cons_succ])
        (refine rgS 3 (h := fun K hK => ?_); go_simp)
        (refine hK.out _ _ trivial (fun hHeld => ?_); clear hK K; try simp only [Act.put, List.setIfInBounds_toArray, List.set_cons_zero, List.set_cons_succ])
        refine rgT 4 (h := ?_)
        (refine rgS 5 (h := fun K hK => ?_); go_simp)
        (refine hK.out _ _ trivial (fun hHeld => ?_); clear hK K; try simp only [Act.put, List.setIfInBounds_toArray, List.set_cons_zero, List.set_cons_succ])
      rotate_left 1
      focus
        (refine hK.out _ _ trivial (fun hHeld => ?_); clear hK K; try simp only [Act.put, List.setIfInBounds_toArray, List.set_cons_zero, List.set_cons_succ])
        refine rgT 4 (h := ?_)
        (refine wpAnyH_ready (rs := [1, 5]) (by kernel_rfl) (by simp) ?_; refine rgA 1 (by rfl) (fun K hK => ?_) (rgA 5 (by rfl) (fun K hK => ?_) AllReadyH.nil) <;> go_simp)
        focus
          (refine hK.out _ _ trivial (fun hHeld => ?_); clear hK K; try simp only [Act.put, List.setIfInBounds_toArray, List.set_cons_zero, List.set_cons_succ])
          (refine rgS 5 (h := fun K hK => ?_); go_simp)
          (refine hK.out _ _ trivial (fun hHeld => ?_); clear hK K; try simp only [Act.put, List.setIfInBounds_toArray, List.set_cons_zero, List.set_cons_succ])
        rotate_left 1
        focus
          (refine hK.out _ _ trivial (fun hHeld => ?_); clear hK K; try simp only [Act.put, List.setIfInBounds_toArray, List.set_cons_zero, List.set_cons_succ])
          (refine rgS 1 (h := fun K hK => ?_); go_simp)
          (refine hK.out _ _ trivial (fun hHeld => ?_); clear hK K; try simp only [Act.put, List.setIfInBounds_toArray, List.set_cons_zero, List.set_cons_succ])
      all_goals
        clear cT cT2 cT3
        (refine rgS 6 (h := fun K hK => ?_); rw [if_pos (by rfl)])
        refine app_one_wp (cs := tdC) (wr := w8.drew.alloc (.cells zr4 55)) (.tmp 25) (.tmp 29) 83 169 (by rfl) Tryz.underlying83 infoTd rfl (by decide) (fun _ => rfl) (w.heap.size + 2) _ qs (.slice a8 l.length c8, w8.heap.size, l) (World.ownsRow.alloc (H8.out.2.pn.ot.later (Below.refl _ _).drew) _) (by rfl) (w8.heap.size + 1) (by rw [szAl]; rfl) (by rfl) tdC_one _ rfl (by unfold maxLen; omega) (by omega) (by rw [szAl]; show _ ≤ w8.heap.size + 1; omega) ?_
        intro v' w3 ho3 hb3 hk3
        obtain ⟨f3, c3, z3⟩ := (H8.out.2.later (w' := w8.drew) (Below.refl _ _).drew).step (w3 := w3) (H8.out.1.later (Below.refl _ _).drew) ho3 hb3 hk3
        obtain ⟨a3, k3, rfl⟩ := ho3.form
        generalize (qs ++ [((Value.slice a8 l.length c8, w8.heap.size, l) : Tn)]).length = mm at *
        have H3 : Hid (Np w (w3.setCell ⟨pb, 1, none⟩ (.slice a3 mm k3)) (litC ca cs.length cc (some ⟨tb, off, none⟩) ts.length tc) pb (.slice va cs.length vc) (.slice a3 mm k3) cs (qs ++ [((Value.slice a8 l.length c8, w8.heap.size, l) : Tn)]) ∧ (qs ++ [((Value.slice a8 l.length c8, w8.heap.size, l) : Tn)]).map (fun q => q.2.2) = ts.take (t + 1)) := ⟨f3, by rw [List.map_append, HQ.out.2, HT.out]; rfl⟩
        clear f3 ho3 hb3 hk3 HQ H8 HT
        (refine hK.out _ _ trivial (fun hHeld => ?_); clear hK K; try simp only [Act.put, List.setIfInBounds_toArray, List.set_cons_zero, List.set_cons_succ])
        refine rgT 7 (h := ?_)
        (refine rgS 8 (h := fun K hK => ?_); go_simp)
        (refine hK.out _ _ trivial (fun hHeld => ?_); clear hK K; try simp only [Act.put, List.setIfInBounds_toArray, List.set_cons_zero, List.set_cons_succ])
        refine wpAnyH_done (by kernel_rfl) ?_ _
        clear c3 z3
        go_wp2
        go_roundw
        case rel => exact ⟨t + 1, _, _, by go_num, by omega, H3.out.2, H3.out.1⟩
        case measure => simp [intOf]; omega
    · have htt : t = ts.length := by omega
      obtain ⟨va2, vc2, rfl⟩ := HQ.out.1.pn.ot.form
      obtain ⟨-, er⟩ := HBox.out wr0 HQ.out.1.bl
      have cA : wr0.cell? ⟨pb, 0, none⟩ = some (.slice va cs.length vc) := (cell?_heap HQ.out.1.lb 0).trans rfl
      have cB : wr0.cell? ⟨pb, 1, none⟩ = some (.slice va2 qs.length vc2) := (cell?_heap HQ.out.1.lb 1).trans rfl
      have r0 := (cell?_heap er 0).trans rfl
      have r1 := (cell?_heap er 1).trans rfl
      have q0 := frozen?_heap er 0
      have q1 := frozen?_heap er 1
      have hne : w.heap.size + 2 ≤ pb := HQ.out.1.cl
      have e1 : (wr0.setCell ⟨w.heap.size + 1, 0, none⟩ (.slice va cs.length vc)).heap[w.heap.size + 1]? = some (.cells #[.slice va cs.length vc, .slice none 0 0] 85) := heapSet er _
      have z1 : ((wr0.setCell ⟨w.heap.size + 1, 0, none⟩ (.slice va cs.length vc)).setCell ⟨w.heap.size + 1, 1, none⟩ (.slice va2 qs.length vc2)).heap[w.heap.size + 1]? = some (.cells #[.slice va cs.length vc, .slice va2 qs.length vc2] 85) := heapSet e1 _
      have ks : Keeps (fun x => x = w.heap.size + 1) wr0 ((wr0.setCell ⟨w.heap.size + 1, 0, none⟩ (.slice va cs.length vc)).setCell ⟨w.heap.size + 1, 1, none⟩ (.slice va2 qs.length vc2)) := Keeps.setCell (B := fun x => x = w.heap.size + 1) (Keeps.setCell (B := fun x => x = w.heap.size + 1) (Keeps.refl _ _) rfl _) rfl _
      have HX : Hid (Pn ((wr0.setCell ⟨w.heap.size + 1, 0, none⟩ (.slice va cs.length vc)).setCell ⟨w.heap.size + 1, 1, none⟩ (.slice va2 qs.length vc2)) (w.heap.size + 2) (.slice va cs.length vc) (.slice va2 qs.length vc2) cs qs ∧ qs.map (fun q => q.2.2) = ts ∧ Below w.heap.size w ((wr0.setCell ⟨w.heap.size + 1, 0, none⟩ (.slice va cs.length vc)).setCell ⟨w.heap.size + 1, 1, none⟩ (.slice va2 qs.length vc2))) := by
        refine ⟨HQ.out.1.pn.keeps ks (fun x e => .inl (by omega)), by rw [HQ.out.2, htt, List.take_length], ?_⟩
        exact (HK0.out.trans (HQ.out.1.bl.mono (by omega))).trans (ks.below (by have := HQ.out.1.bl.size; omega) (fun k hk e => by omega))
      clear e1 ks hpl htt
      go_wp2
      exact bodyPost_ret (results_cell_row rfl _ _ (w.heap.size + 1) _ _ (0, 0) _ (by rfl) z1 Tryz.underlying85 rfl (by kernel_rfl)) rfl ⟨_, _, qs, rfl, HX.out⟩
end Go.Proofs.YtdpebhdjcgiboaaGreat

namespace Go.Proofs.YtdpebhdjcgiboaaGreat
set_option linter.unusedSimpArgs false
open Go.ChangeShapes Go.WideShapes Go.ChangeAt Go.RowKit Go.MuLone Go.RwLone
set_option linter.unusedVariables false
set_option maxRecDepth 100000
set_option maxHeartbeats 3200000
theorem infoPl2 : (Tryz.prog.info? 219).map (fun i => (i.zero, i.size, i.bytes)) = some (some (.agg #[.int .i64 0, .int .i64 0, .bool false]), 3, 24) := by kernel_rfl
/-- The document's Submit, of one machine, to a worker that has none. -/
theorem rsubmit_one (w : World) (F : Nat → Prop) (pt hb qb : Nat) (qv : Nat → Value) (ev en : Value) (h : Hp) (m : Rh w F pt hb qb qv ev en h) (i : Nat) (hi : i < h.q.length) (hv : qv i = .slice none 0 0) (g mach : Nat) (hg : w.cell? ⟨g, 0, none⟩ = some (.int .i64 (mach : Int))) (hF : ¬ F g) (hi64 : i ≤ 100) :
    Calls Tryz.prog 62 #[.pointer (some ⟨hb, 0, none⟩), .int .i64 (i : Int), .int .i64 (i : Int), .slice (some ⟨g, 0, none⟩) 1 1] w fun e w' => e = .returned (.int .i64 0) ∧ ∃ b c, Rh w' (fun x => F x ∨ x = b) pt hb qb (upd qv i (.slice (some ⟨b, 0, none⟩) 1 c)) ev en { h with q := h.q.set i [(mach, (i : Int), false)] } ∧ Keeps (fun x => x = qb) w w' ∧ w.heap.size ≤ b := by
  have HM : Hid (Rh w F pt hb qb qv ev en h) := m
  have ch : w.cell? ⟨hb, 1, none⟩ = some (.slice (some ⟨qb, 0, none⟩) h.q.length h.q.length) := (cell?_heap m.hc 1).trans rfl
  have cr : w.cell? ⟨qb, i, none⟩ = some (.slice none 0 0) := by rw [← hv]; exact m.qc i hi
  have lh := m.lt _ m.fh
  have lq := m.lt _ m.fq
  have lg : g < w.heap.size := cell_lt hg
  have hwk := rhas_any w hb h.q.length (some ⟨qb, 0, none⟩) h.q.length (i : Int) ch
  have hdec : decide (0 ≤ (i : Int) ∧ (i : Int) < (h.q.length : Int)) = true := by simp; omega
  rw [hdec] at hwk
  have HWK : Hid (∀ _ : Unit, _) := fun _ => hwk
  have i0 : (0 : Int) ≤ (i : Int) := Int.natCast_nonneg _
  have i1 : (i : Int) < (h.q.length : Int) := by omega
  obtain ⟨cq, hcq⟩ := m.qt
  have HQT : Hid (w.heap[qb]? = some (.cells cq 217) ∧ hb ≠ qb ∧ F hb ∧ F qb ∧ ¬ F g) := ⟨hcq, m.hq, m.fh, m.fq, hF⟩
  obtain ⟨n, hn⟩ : ∃ n, h.q.length = n := ⟨_, rfl⟩
  rw [hn] at ch i1
  clear m hwk hdec hv hcq hF
  go_enter Tryz.func62, Tryz.ntmps62
  go_wp2_with fail
  refine (HWK.out ()).mono ?_
  rintro e w' ⟨rfl, rfl⟩
  go_wp2_with fail
  have HC : Hid (w'.cell? ⟨hb, 1, none⟩ = some (.slice (some ⟨qb, 0, none⟩) n n) ∧ w'.cell? ⟨qb, i, none⟩ = some (.slice none 0 0) ∧ w'.cell? ⟨g, 0, none⟩ = some (.int .i64 (mach : Int))) := ⟨ch, cr, hg⟩
  clear ch cr hg
  go_loopw [9] (fun c wr => (c = .int .i64 0 ∧ w' = wr) ∨ (c = .int .i64 1 ∧ ∃ b c, Rh wr (fun x => F x ∨ x = b) pt hb qb (upd qv i (.slice (some ⟨b, 0, none⟩) 1 c)) ev en { h with q := h.q.set i [(mach, (i : Int), false)] } ∧ Keeps (fun x => x = qb) w' wr ∧ w'.heap.size ≤ b)) (fun c _ => 1 - (intOf c).toNat)
  case atStart => exact .inl ⟨rfl, rfl⟩
  case round =>
    rcases hrel with ⟨rfl, rfl⟩ | ⟨rfl, hP⟩
    · obtain ⟨ch, cr, hg⟩ := HC.out
      have HS : Hid (w'.drew.cell? ⟨hb, 1, none⟩ = some (.slice (some ⟨qb, 0, none⟩) n n) ∧ w'.drew.cell? ⟨g, 0, none⟩ = some (.int .i64 (mach : Int))) := ⟨ch, hg⟩
      have HA : Hid (∀ o : Obj, (w'.drew.alloc o).cell? ⟨hb, 1, none⟩ = some (.slice (some ⟨qb, 0, none⟩) n n) ∧ (w'.drew.alloc o).cell? ⟨g, 0, none⟩ = some (.int .i64 (mach : Int))) := fun o =>
        have e : ∀ g j, g < w'.heap.size → (w'.drew.alloc o).cell? ⟨g, j, none⟩ = w'.cell? ⟨g, j, none⟩ := fun g j hg => World.cell?_of_block (w := w') (Below.heap_alloc w'.drew o g hg)
        ⟨(e _ _ lh).trans ch, (e _ _ lg).trans hg⟩
      have cE : w'.drew.cell? ⟨qb, i, none⟩ = some (.slice none 0 0) := cr
      have cE2 : (w'.alloc (.cells #[.int .i64 (mach : Int), .int .i64 (i : Int), .bool false] 219)).cell? ⟨qb, i, none⟩ = some (.slice none 0 0) := (World.cell?_of_block (w := w') (Below.heap_alloc w' _ qb lq)).trans cr
      have hwi : IntKind.i64.wrap (i : Int) = (i : Int) := by rw [IntKind.wrap_i64]; omega
      clear ch cr hg
      go_wp2_with fail
      (refine wp_region_held_drew (S := (fun W => W.cell? ⟨hb, 1, none⟩ = some (.slice (some ⟨qb, 0, none⟩) n n) ∧ W.cell? ⟨g, 0, none⟩ = some (.int .i64 (mach : Int)))) (by kernel_rfl) HS.out (fun hHeld => ?_); simp only [List.size_toArray, List.length_cons, List.length_nil, Nat.reduceAdd, Array.replicate_succ, Array.replicate_zero, List.push_toArray, List.append_toArray, List.nil_append, List.cons_append])
      refine rgT 0 (h := ?_)
      refine rgT 1 (h := ?_)
      refine rgT 2 (h := ?_)
      refine rgT 3 (h := ?_)
      refine rgT 4 (h := ?_)
      refine rgT 5 (h := ?_)
      refine rgT 6 (h := ?_)
      refine rgT 7 (h := ?_)
      refine rgT 8 (h := ?_)
      refine rgT 9 (h := ?_)
      refine rgT 10 (h := ?_)
      refine rgT 12 (h := ?_)
      refine rgT 13 (h := ?_)
      refine rgT 14 (h := ?_)
      refine rgT 15 (h := ?_)
      refine rgT 16 (h := ?_)
      refine rgT 17 (h := ?_)
      refine rgT 18 (h := ?_)
      refine rgT 19 (h := ?_)
      (refine wpAnyH_ready (rs := [11, 20]) (by kernel_rfl) (by simp) ?_; refine rgA 11 (by rfl) (fun K hK => ?_) (rgA 20 (by rfl) (fun K hK => ?_) AllReadyH.nil) <;> go_simp)
      (refine hK.out _ _ HS.out (fun hHeld => ?_); clear hK K; try simp only [Act.put, List.setIfInBounds_toArray, List.set_cons_zero, List.set_cons_succ])
      (refine rgS 20 (h := fun K hK => ?_); go_simp)
      (refine hK.out _ _ (HA.out _) (fun hHeld => ?_); clear hK K; try simp only [Act.put, List.setIfInBounds_toArray, List.set_cons_zero, List.set_cons_succ])
      rotate_left 1
      (refine hK.out _ _ (HA.out _) (fun hHeld => ?_); clear hK K; try simp only [Act.put, List.setIfInBounds_toArray, List.set_cons_zero, List.set_cons_succ])
      (refine rgS 11 (h := fun K hK => ?_); go_simp)
      (refine hK.out _ _ (HA.out _) (fun hHeld => ?_); clear hK K; try simp only [Act.put, List.setIfInBounds_toArray, List.set_cons_zero, List.set_cons_succ])
      all_goals
        clear cE cE2
        (refine rgS 21 (h := fun K hK => ?_); rw [if_pos (by rfl)])
        refine app_lies_wp (cs := plR) (wr := w'.drew) (.tmp 43) (.tmp 52) 217 219 (by rfl) Tryz.underlying217 infoPl2 rfl (by decide) (fun _ => rfl) (.slice none 0 0) [] (mach, (i : Int), false) (OwG.nil _ _ _ _ _) (by rfl) w'.heap.size rfl (by rfl) (plR_one _) _ rfl (by unfold maxLen; simp) (by simp) ?_
        intro b c5 w5 ho k5 hb5 hl5
        simp only [List.length_nil, Nat.zero_add, List.nil_append] at ho ⊢
        have k6 : Keeps (fun _ => False) w' w5 := ((Keeps.refl _ _).drew.trans (k5.mono (fun x e => by cases e)))
        have hb6 : w'.heap.size ≤ b := hb5.elim (fun e => by cases e) (fun e => e)
        have m6 := HM.out.moved hi k6 ho rfl hb6 hl5
        have e5 : ∀ x j, x < w'.heap.size → w5.cell? ⟨x, j, none⟩ = w'.cell? ⟨x, j, none⟩ := fun x j hx => k6.cell (p := ⟨x, j, none⟩) hx (fun e => e)
        have s5 : w5.cell? ⟨hb, 1, none⟩ = some (.slice (some ⟨qb, 0, none⟩) n n) ∧ w5.cell? ⟨g, 0, none⟩ = some (.int .i64 (mach : Int)) := ⟨(e5 _ _ lh).trans HC.out.1, (e5 _ _ lg).trans HC.out.2.2⟩
        have cr5 : w5.cell? ⟨qb, i, none⟩ = some (.slice none 0 0) := (e5 _ _ lq).trans HC.out.2.1
        have fr5 : w5.frozen? ⟨qb, i, none⟩ = false := (k6.frozen (p := ⟨qb, i, none⟩) lq (fun e => e)).trans (frozen?_heap HQT.out.1 i)
        have s6 : (w5.setCell ⟨qb, i, none⟩ (.slice (some ⟨b, 0, none⟩) 1 c5)).cell? ⟨hb, 1, none⟩ = some (.slice (some ⟨qb, 0, none⟩) n n) ∧ (w5.setCell ⟨qb, i, none⟩ (.slice (some ⟨b, 0, none⟩) 1 c5)).cell? ⟨g, 0, none⟩ = some (.int .i64 (mach : Int)) :=
          have e2 : ∀ x j, x ≠ qb → (w5.setCell ⟨qb, i, none⟩ (.slice (some ⟨b, 0, none⟩) 1 c5)).cell? ⟨x, j, none⟩ = w5.cell? ⟨x, j, none⟩ := fun x j hn => World.cell?_setCell_other _ _ _ _ (fun e => hn (congrArg Addr.block e).symm)
          ⟨(e2 _ _ HQT.out.2.1).trans s5.1, (e2 g 0 (fun e => HQT.out.2.2.2.2 (by rw [e]; exact HQT.out.2.2.2.1))).trans s5.2⟩
        have HN : Hid (Rh (w5.setCell ⟨qb, i, none⟩ (.slice (some ⟨b, 0, none⟩) 1 c5)) (fun x => F x ∨ x = b) pt hb qb (upd qv i (.slice (some ⟨b, 0, none⟩) 1 c5)) ev en { h with q := h.q.set i [(mach, (i : Int), false)] } ∧ Keeps (fun x => x = qb) w' (w5.setCell ⟨qb, i, none⟩ (.slice (some ⟨b, 0, none⟩) 1 c5)) ∧ w'.heap.size ≤ b) := ⟨m6, Keeps.setCell (B := fun x => x = qb) (k6.mono (fun _ e => e.elim)) (p := ⟨qb, i, none⟩) rfl _, hb6⟩
        clear ho k5 hb5 hl5 m6 k6 e5 hb6
        (refine hK.out _ _ s5 (fun hHeld => ?_); clear hK K; try simp only [Act.put, List.setIfInBounds_toArray, List.set_cons_zero, List.set_cons_succ])
        refine rgT 22 (h := ?_)
        (refine rgS 23 (h := fun K hK => ?_); go_simp)
        (refine hK.out _ _ s6 (fun hHeld => ?_); clear hK K; try simp only [Act.put, List.setIfInBounds_toArray, List.set_cons_zero, List.set_cons_succ])
        refine wpAnyH_done (by kernel_rfl) ?_ _
        clear s5 s6 cr5 fr5
        go_wp2
        go_roundw
        case rel => exact .inr ⟨rfl, b, c5, HN.out⟩
        case measure => simp [intOf]
    · have HP : Hid (∃ b c, Rh wr (fun x => F x ∨ x = b) pt hb qb (upd qv i (.slice (some ⟨b, 0, none⟩) 1 c)) ev en { h with q := h.q.set i [(mach, (i : Int), false)] } ∧ Keeps (fun x => x = qb) w' wr ∧ w'.heap.size ≤ b) := hP
      clear hP
      go_wp2
      go_ret
      exact ⟨rfl, HP.out⟩
def iaV (v : Value) : Option Addr := match v with | .slice a _ _ => a | _ => none
def icV (v : Value) : Nat := match v with | .slice _ _ c => c | _ => 0
/-- A program just made, in its bench. -/
theorem mkR {w1 w4 : World} {B : Nat} {cv tvv hv : Value} {cs : List Int} {ts : List (List I8)} {qs : List Tn} (p : Pn w1 B cv tvv cs qs) (hB : B ≤ w1.heap.size) (k : Below w1.heap.size w1 w4) (hbk : w4.heap[w1.heap.size]? = some (.cells #[cv, tvv, hv] 87)) (hts : qs.map (fun q => q.2.2) = ts) (hsd : soundP cs ts = true) :
    ∃ R : Rd, R.bk = w1.heap.size ∧ R.n = ts.length ∧ R.wd = cs.length ∧ R.ins = insL ts ∧ RdOk R ∧ RP R w4 (begA cs ts).2 ∧ R.wd ≤ R.cc ∧ ∀ y, fR R y → B ≤ y ∧ y ≤ w1.heap.size := by
  obtain ⟨hc4, hn4, hall⟩ := sound_facts hsd
  have hql : qs.length = ts.length := by rw [← hts]; simp
  have p4 := p.later k
  obtain ⟨cb, cc, hcv, hcb1, hcb2⟩ := owG_some p.oc (by intro e; rw [e] at hc4; simp at hc4)
  obtain ⟨tb, tc, htv, htb1, htb2⟩ := owG_some p.ot (by intro e; rw [e] at hql; simp at hql; omega)
  subst hcv htv
  have hq : ∀ i (hi : i < ts.length), ∃ a c, qs[i].1 = .slice a (insL ts i).length c ∧ (qs[i]'(by omega)).2.2 = insL ts i := fun i hi => by
    have e : (qs[i]'(by omega)).2.2 = insL ts i := by
      have h1 : (qs.map (fun q => q.2.2))[i]? = some (qs[i]'(by omega)).2.2 := by
        rw [List.getElem?_map, List.getElem?_eq_getElem (show i < qs.length from by omega)]
        rfl
      rw [hts] at h1
      unfold insL
      rw [h1]
      rfl
    obtain ⟨a, c, e2⟩ := (p.oi qs[i] (List.getElem_mem (by omega))).form
    rw [e] at e2
    exact ⟨a, c, e2, e⟩
  obtain ⟨ccur, hct⟩ := blk p4.oc rfl
  obtain ⟨tcur, htt⟩ := blk p4.ot rfl
  let R : Rd := { bk := w1.heap.size, tb := tb, cb := cb, rb := fun i => ((qs[i]?).map (fun q => q.2.1)).getD 0, rk := fun _ => 0, ia := fun i => ((qs[i]?).map (fun q => iaV q.1)).getD none, icap := fun i => ((qs[i]?).map (fun q => icV q.1)).getD 0, wd := cs.length, n := ts.length, cc := cc, tc := tc, ins := insL ts }
  have rbE : ∀ i (hi : i < ts.length), R.rb i = (qs[i]'(by omega)).2.1 := fun i hi => by simp [R, show i < qs.length from by omega]
  have rbP : ∀ i (hi : i < ts.length), w1.heap[R.rb i]? = some (.cells zr4 55) ∧ w4.heap[R.rb i]? = some (.cells zr4 55) ∧ B ≤ R.rb i ∧ cb < R.rb i := fun i hi => by
    rw [rbE i hi]
    have h1 := p.rr qs[i] (List.getElem_mem (by omega))
    exact ⟨h1.1, (p4.rr qs[i] (List.getElem_mem (by omega))).1, h1.2.1, h1.2.2 cb rfl⟩
  have iaP : ∀ i (hi : i < ts.length), OwG iC 106 8 w4 B (.slice (R.ia i) (insL ts i).length (R.icap i)) (insL ts i) ∧ OwG iC 106 8 w1 B (.slice (R.ia i) (insL ts i).length (R.icap i)) (insL ts i) ∧ (qs[i]'(by omega)).1 = .slice (R.ia i) (insL ts i).length (R.icap i) := fun i hi => by
    obtain ⟨a, c, e1, e2⟩ := hq i hi
    have ea : R.ia i = a := by simp [R, show i < qs.length from by omega, e1, iaV]
    have ec : R.icap i = c := by simp [R, show i < qs.length from by omega, e1, icV]
    have h1 := p4.oi qs[i] (List.getElem_mem (by omega))
    have h2 := p.oi qs[i] (List.getElem_mem (by omega))
    rw [e1, e2] at h1 h2
    rw [ea, ec]
    exact ⟨h1, h2, e1⟩
  have fw : ∀ y, fRw R y → (∃ c t, w4.heap[y]? = some (.cells c t) ∧ (t = 169 ∨ t = 55)) ∧ B ≤ y ∧ y < w1.heap.size := fun y hy => by
    rcases hy with rfl | rfl | ⟨j, hj, rfl⟩
    · exact ⟨⟨_, _, htt, .inl rfl⟩, htb1, htb2⟩
    · exact ⟨⟨_, _, hct, .inr rfl⟩, hcb1, hcb2⟩
    · have := rbP j hj
      exact ⟨⟨_, _, this.2.1, .inr rfl⟩, this.2.2.1, (Array.getElem?_eq_some_iff.1 this.1).1⟩
  have ibP : ∀ j ib, j < ts.length → R.ia j = some ⟨ib, 0, none⟩ → (∃ c, w4.heap[ib]? = some (.cells c 106)) ∧ B ≤ ib ∧ ib < w1.heap.size := fun j ib hj e => by
    have h1 := iaP j hj
    rw [e] at h1
    obtain ⟨cur, hcur⟩ := blk h1.1 rfl
    have := World.ownsRow.lt h1.2.1 ib rfl
    exact ⟨⟨cur, hcur⟩, this⟩
  have fA : ∀ y, fR R y → B ≤ y ∧ y ≤ w1.heap.size := fun y hy => by
    rcases hy with hy | rfl | ⟨j, hj, e⟩
    · have := fw y hy; omega
    · exact ⟨hB, Nat.le_refl _⟩
    · have := ibP j y hj e; omega
  refine ⟨R, rfl, rfl, rfl, rfl, ⟨?_, ?_, fun j hj => ⟨?_, ?_⟩, fun i j hi hj hne => ?_, fun j ib hj e hf => ?_, fun i hi x hx => ?_, fun i hi => ?_, by show ts.length ≤ 4; omega⟩, ⟨?_, ?_, fun i hi => ?_, fun i hi => ?_, fun i hi => ?_, fun i j hi hj => ?_, fun c hc => ?_, fun i hi => ?_, fun g j hg => ?_, fun y hy => ?_⟩, (owG_cap p.oc).2.1, fA⟩
  · intro hf
    have := (fw _ hf).2.2
    exact Nat.lt_irrefl _ this
  · exact neT htt hct (by decide)
  · exact neT (rbP j hj).2.1 htt (by decide)
  · have := (rbP j hj).2.2.2
    intro e
    have e' : R.rb j = cb := e
    omega
  · rw [rbE i hi, rbE j hj]
    have hp := List.pairwise_iff_getElem.1 p.inc
    rcases Nat.lt_or_gt_of_ne hne with h | h
    · have := hp i j (by rw [hql]; exact hi) (by rw [hql]; exact hj) h
      omega
    · have := hp j i (by rw [hql]; exact hj) (by rw [hql]; exact hi) h
      omega
  · obtain ⟨⟨c, hc⟩, _⟩ := ibP j ib hj e
    obtain ⟨⟨c', t, hc', ht⟩, _⟩ := fw ib hf
    rw [hc] at hc'
    injection hc' with hc'
    injection hc' with _ e2 _
    rcases ht with e3 | e3
    · exact absurd (e2.trans e3) (by decide)
    · exact absurd (e2.trans e3) (by decide)
  · have hi' : i < ts.length := hi
    have : insL ts i = ts[i] := by simp [insL, hi']
    have hx' : x ∈ insL ts i := hx
    rw [this] at hx'
    exact (hall i hi').2 x hx'
  · have hi' : i < ts.length := hi
    have : insL ts i = ts[i] := by simp [insL, hi']
    show (insL ts i).length ≤ 1000
    rw [this]
    have := (hall i hi').1
    omega
  · exact (cell?_heap hbk 0).trans rfl
  · show w4.cell? ⟨w1.heap.size, 1, none⟩ = some (.slice (some ⟨tb, 0, none⟩) ts.length tc)
    rw [← hql]
    exact (cell?_heap hbk 1).trans rfl
  · have hi' : i < qs.length := by rw [hql]; exact hi
    have := World.ownsRow.cellAt p4.ot (i * 3 + 0) (by omega)
    rw [flat_get tdC 3 (fun _ => rfl) qs i hi' 0 (by decide)] at this
    rw [Nat.add_zero] at this
    show w4.cell? ⟨tb, i * 3, none⟩ = _
    rw [this]
    show some qs[i].1 = _
    rw [(iaP i hi).2.2]
  · have hi' : i < qs.length := by rw [hql]; exact hi
    have := World.ownsRow.cellAt p4.ot (i * 3 + 1) (by omega)
    rw [flat_get tdC 3 (fun _ => rfl) qs i hi' 1 (by decide)] at this
    show w4.cell? ⟨tb, i * 3 + 1, none⟩ = _
    rw [this, rbE i hi]
    rfl
  · have hi' : i < qs.length := by rw [hql]; exact hi
    have := World.ownsRow.cellAt p4.ot (i * 3 + 2) (by omega)
    rw [flat_get tdC 3 (fun _ => rfl) qs i hi' 2 (by decide)] at this
    show w4.cell? ⟨tb, i * 3 + 2, none⟩ = _
    rw [this]
    rfl
  · show _ = some (Value.int .u64 0)
    rw [cell?_heap (rbP i hi).2.1 j, ← Array.getElem?_toList, toList_madeCells_one]
    have : j = 0 ∨ j = 1 ∨ j = 2 ∨ j = 3 := by omega
    rcases this with rfl | rfl | rfl | rfl <;> rfl
  · have := World.ownsRow.cellAt p4.oc c (by have : c < cs.length := hc; omega)
    show w4.cell? ⟨cb, c, none⟩ = _
    rw [this, flat_wd, List.getElem?_map, List.getElem?_eq_getElem hc]
    show some (Value.int .u64 cs[c]) = some (Value.int .u64 (wds cs c))
    unfold wds
    rw [List.getElem?_eq_getElem hc]
    rfl
  · intro m hm
    have h1 := (iaP i hi).1
    have hne : insL ts i ≠ [] := by
      intro e
      have hm' : m < (insL ts i).length := hm
      rw [e] at hm'
      simp at hm'
    obtain ⟨ib, cp, e, _, hl⟩ := owG_some h1 hne
    injection e with e _ _
    rw [e] at h1
    refine ⟨ib, e, In8.of (x := (insL ts i)[m]) (k := m) (fun j hj => ?_) hl⟩
    rw [World.ownsRow.cellAt h1 (m * 8 + j) (by have : m < (insL ts i).length := hm; omega), flat_get iC 8 (fun _ => rfl) (insL ts i) m hm j hj]
  · obtain ⟨⟨c, t, hc, _⟩, _⟩ := fw g hg
    exact frozen?_heap hc j
  · have := fA y hy
    have := (Array.getElem?_eq_some_iff.1 hbk).1
    omega
end Go.Proofs.YtdpebhdjcgiboaaGreat

namespace Go.Proofs.YtdpebhdjcgiboaaGreat
set_option linter.unusedSimpArgs false
open Go.ChangeShapes Go.WideShapes Go.ChangeAt Go.RowKit
set_option linter.unusedVariables false

theorem drop_at (s : ByteArray) (k : Nat) (h : k < s.size) : s.data.toList.drop k = s[k] :: s.data.toList.drop (k + 1) := by
  have hl : k < s.data.toList.length := by rw [len_list]; exact h
  rw [List.drop_eq_getElem_cons hl]
  simp [ByteArray.getElem_eq_getElem_data]
theorem drop_all (s : ByteArray) (k : Nat) (h : s.size ≤ k) : s.data.toList.drop k = [] := List.drop_eq_nil_of_le (by rw [len_list]; exact h)
set_option maxRecDepth 100000 in
set_option maxHeartbeats 6400000 in
theorem refDecode (s : ByteArray) (w : World) (hs : s.size ≤ 1466015503360) :
    Calls Tryz.prog 95 #[.string s] w fun e w' => ∃ v, e = .returned v ∧ ownP w' w.heap.size v (dL s.data.toList) ∧ Below w.heap.size w w' := by
  go_enter Tryz.func95, Tryz.ntmps95
  go_wp2_with fail
  go_loopw [3, 4] (fun c i wr => ∃ (k : Nat) (acc : List (Int × Int × Int)), i = .int .i64 (k : Int) ∧ k ≤ s.size ∧ acc.length ≤ k ∧ ownP wr w.heap.size c acc ∧ Below w.heap.size w wr ∧ acc ++ dL (s.data.toList.drop k) = dL s.data.toList) (fun _ i _ => s.size - (intOf i).toNat)
  case atStart => exact ⟨0, [], rfl, by omega, by simp, ownP_nil _ _, Below.refl _ _, by simp⟩
  case round =>
    obtain ⟨k, acc, rfl, hk, hlen, hown, hbel, hv⟩ := hrel
    have HV : Hid (acc ++ dL (s.data.toList.drop k) = dL s.data.toList) := hv
    have HO : Hid (∀ o, ownP (wr.alloc o) w.heap.size _ acc) := fun o => hown.same (fun k hk _ => Below.heap_alloc wr o k hk)
    have HB : Hid (∀ o, Below w.heap.size w (wr.alloc o)) := fun o => hbel.alloc hbel.size o
    have HO0 : Hid (ownP wr w.heap.size _ acc) := hown
    have HB0 : Hid (Below w.heap.size w wr) := hbel
    clear hv hown hbel
    by_cases hl : k < s.size
    · have hl' : (k : Int) < (s.size : Int) := by omega
      have hb := s[k].toNat_lt
      have hal : (acc.length + 1) * 24 ≤ 140737488355328 := by omega
      have hd0 := drop_at s k hl
      obtain ⟨d1, d2, d3⟩ := dL_step (s.data.toList.drop k) (by rw [hd0]; simp)
      rw [List.drop_drop] at d1
      have HD : Hid _ := d1
      clear d1 d2 d3
      have he1 := ent_one (s.data.toList.drop k) s[k] _ hd0
      rcases (show (s[k].toNat / 32 = 1 ∧ k + 1 < s.size) ∨ (s[k].toNat / 32 = 1 ∧ ¬ k + 1 < s.size) ∨ s[k].toNat / 32 = 0 ∨ s[k].toNat / 32 = 2 ∨ s[k].toNat / 32 = 3 ∨ s[k].toNat / 32 = 4 ∨ (s[k].toNat / 32 = 5 ∧ s[k].toNat = 160) ∨ (s[k].toNat / 32 = 5 ∧ s[k].toNat ≠ 160) ∨ s[k].toNat / 32 = 6 ∨ s[k].toNat / 32 = 7 by omega) with ⟨o, c2⟩ | ⟨o, c2⟩ | o | o | o | o | ⟨o, ob⟩ | ⟨o, ob⟩ | o | o
      case' inl =>
        have hd1 := drop_at s (k + 1) c2
        rw [hd1] at hd0
        have he := ent_two _ s[k] s[k + 1] _ hd0 o
        have hc := s[k + 1].toNat_lt
        have HE : Hid (ent (s.data.toList.drop k) = (((2, (s[k].toNat : Int) % 32, (s[k + 1].toNat : Int) + 1) : Int × Int × Int), (2 : Nat))) := by show _ = _; rw [he]; simp
        have o' : ((s[k].toNat : Nat) : Int) / 32 = 1 := by omega
        have c2' : (k : Int) + 1 < (s.size : Int) := by omega
        clear hd1 he
        clear o
      case' inr.inl =>
        have HE : Hid (ent (s.data.toList.drop k) = (((0, 0, (s[k].toNat : Int)) : Int × Int × Int), (1 : Nat))) := by
          show _ = _
          rw [he1 (.inr (drop_all s (k + 1) (by omega)))]
          unfold one
          rw [if_neg (by omega), if_neg (by omega), if_neg (by omega), if_neg (by omega), if_neg (by omega)]
        have o' : ((s[k].toNat : Nat) : Int) / 32 = 1 := by omega
        have c2' : ¬ (k : Int) + 1 < (s.size : Int) := by omega
        clear o
      case' inr.inr.inl =>
        have HE : Hid (ent (s.data.toList.drop k) = (((1, (s[k].toNat : Int) % 32, 1) : Int × Int × Int), (1 : Nat))) := by show _ = _; rw [he1 (.inl (by omega))]; unfold one; rw [if_pos o]; simp
        have o' : ((s[k].toNat : Nat) : Int) / 32 = 0 := by omega
        clear o
      case' inr.inr.inr.inl =>
        have HE : Hid (ent (s.data.toList.drop k) = (((3, (s[k].toNat : Int) % 32, 1) : Int × Int × Int), (1 : Nat))) := by show _ = _; rw [he1 (.inl (by omega))]; unfold one; rw [if_neg (by omega), if_pos o]; simp
        have o' : ((s[k].toNat : Nat) : Int) / 32 = 2 := by omega
        clear o
      case' inr.inr.inr.inr.inl =>
        have HE : Hid (ent (s.data.toList.drop k) = (((4, 0, (s[k].toNat : Int) % 32 + 1) : Int × Int × Int), (1 : Nat))) := by show _ = _; rw [he1 (.inl (by omega))]; unfold one; rw [if_neg (by omega), if_neg (by omega), if_pos o]; simp
        have o' : ((s[k].toNat : Nat) : Int) / 32 = 3 := by omega
        clear o
      case' inr.inr.inr.inr.inr.inl =>
        have HE : Hid (ent (s.data.toList.drop k) = (((5, (s[k].toNat : Int) % 32, 1) : Int × Int × Int), (1 : Nat))) := by show _ = _; rw [he1 (.inl (by omega))]; unfold one; rw [if_neg (by omega), if_neg (by omega), if_neg (by omega), if_pos o]; simp
        have o' : ((s[k].toNat : Nat) : Int) / 32 = 4 := by omega
        clear o
      case' inr.inr.inr.inr.inr.inr.inl =>
        have HE : Hid (ent (s.data.toList.drop k) = (((6, 0, 0) : Int × Int × Int), (1 : Nat))) := by show _ = _; rw [he1 (.inl (by omega))]; unfold one; rw [if_neg (by omega), if_neg (by omega), if_neg (by omega), if_neg (by omega), if_pos ob]
        have o' : ((s[k].toNat : Nat) : Int) = 160 := by omega
        clear ob
        clear o
      case' inr.inr.inr.inr.inr.inr.inr.inl =>
        have HE : Hid (ent (s.data.toList.drop k) = (((0, 0, (s[k].toNat : Int)) : Int × Int × Int), (1 : Nat))) := by show _ = _; rw [he1 (.inl (by omega))]; unfold one; rw [if_neg (by omega), if_neg (by omega), if_neg (by omega), if_neg (by omega), if_neg ob]
        have o' : ((s[k].toNat : Nat) : Int) / 32 = 5 := by omega
        have ob' : (((s[k].toNat : Nat) : Int) == 160) = false := by simp; omega
        clear ob
        clear o
      case' inr.inr.inr.inr.inr.inr.inr.inr.inl =>
        have HE : Hid (ent (s.data.toList.drop k) = (((0, 0, (s[k].toNat : Int)) : Int × Int × Int), (1 : Nat))) := by show _ = _; rw [he1 (.inl (by omega))]; unfold one; rw [if_neg (by omega), if_neg (by omega), if_neg (by omega), if_neg (by omega), if_neg (by omega)]
        have o' : ((s[k].toNat : Nat) : Int) / 32 = 6 := by omega
        clear o
      case' inr.inr.inr.inr.inr.inr.inr.inr.inr =>
        have HE : Hid (ent (s.data.toList.drop k) = (((0, 0, (s[k].toNat : Int)) : Int × Int × Int), (1 : Nat))) := by show _ = _; rw [he1 (.inl (by omega))]; unfold one; rw [if_neg (by omega), if_neg (by omega), if_neg (by omega), if_neg (by omega), if_neg (by omega)]
        have o' : ((s[k].toNat : Nat) : Int) / 32 = 7 := by omega
        clear o
      all_goals
        clear he1 hd0
        rw [HE.out] at HD
        simp only at HD
        go_wp2_with (at_builtin; refine app_pick (by rfl) _ _ (by rfl) w.heap.size _ acc (_, _, _) (HO.out _) (by rfl) (wr.heap.size + 1) (by simp) (by rfl) hal (HB.out _).size ?_; intro v' w6 hown6 hbel6; have HO6 : Hid (ownP w6 w.heap.size v' _) := hown6; have HB6 : Hid (Below w.heap.size w w6) := (HB.out _).trans hbel6; clear hown6 hbel6)
        first
        | (refine ⟨⟨k + 1, _, by go_num, by omega, ?_, HO6.out, HB6.out, ?_⟩, ?_⟩
           · simp; omega
           · rw [List.append_assoc, List.singleton_append, ← HD.out]; exact HV.out
           · simp [intOf]; omega)
        | (refine ⟨⟨k + 2, _, by go_num, by omega, ?_, HO6.out, HB6.out, ?_⟩, ?_⟩
           · simp; omega
           · rw [List.append_assoc, List.singleton_append, ← HD.out]; exact HV.out
           · simp [intOf]; omega)
    · have HE : Hid (acc = dL s.data.toList) := by
        show _ = _
        have := HV.out
        rw [drop_all s k (by omega)] at this
        simpa [dL] using this
      have hl' : ¬ (k : Int) < (s.size : Int) := by omega
      clear HV HO HB
      go_wp2
      go_ret
      exact ⟨_, rfl, by rw [← HE.out]; exact HO0.out, HB0.out⟩
end Go.Proofs.YtdpebhdjcgiboaaGreat

namespace Go.Proofs.YtdpebhdjcgiboaaGreat
set_option linter.unusedSimpArgs false
open Go.ChangeShapes Go.WideShapes Go.ChangeAt Go.RowKit Go.MuLone Go.RwLone
set_option linter.unusedVariables false
set_option maxRecDepth 100000
set_option maxHeartbeats 3200000
theorem iv_hp0 (n : Nat) (h16 : n ≤ 4) : Iv n (hp0 n) := by
  refine ⟨fun i l hi => ?_, ?_, ?_⟩
  · obtain ⟨hlt, e⟩ := List.getElem?_eq_some_iff.1 hi
    have hin : i < n := by simpa [hp0] using hlt
    have e2 : l = [(i, (i : Int), false)] := by rw [← e]; simp [hp0]
    subst e2
    exact ⟨by simp, fun x hx => by simp at hx; subst hx; exact hin⟩
  · have e : ∀ n, (((List.range n).map (fun (j : Nat) => ([(j, (j : Int), false)] : List Pq))).map wtl).sum = 2 * n := fun n => by
      induction n with
      | zero => rfl
      | succ n ih => rw [List.range_succ, List.map_append, List.map_append, List.sum_append, ih]; simp [wtl, wtp]; omega
    show 0 + wtq _ ≤ _
    unfold wtq hp0
    dsimp only
    rw [e]; omega
  · have e : ∀ n, (((List.range n).map (fun (j : Nat) => ([(j, (j : Int), false)] : List Pq))).map List.length).sum = n := fun n => by
      induction n with
      | zero => rfl
      | succ n ih => rw [List.range_succ, List.map_append, List.map_append, List.sum_append, ih]; simp
    show 0 + szq _ ≤ _
    unfold szq hp0
    dsimp only
    rw [e]; omega
/-- A harness whose first t workers have been handed their machine. -/
def hpT (n t : Nat) : Hp := ⟨(List.range n).map (fun j => if j < t then [(j, (j : Int), false)] else []), 0, [], []⟩
theorem hpT_len (n t : Nat) : (hpT n t).q.length = n := by simp [hpT]
theorem hpT_all (n : Nat) : hpT n n = hp0 n := by
  unfold hpT hp0
  congr 1
  apply List.map_congr_left
  intro j hj
  rw [if_pos (List.mem_range.1 hj)]
theorem hpT_set (n t : Nat) (ht : t < n) : ({ hpT n t with q := (hpT n t).q.set t [(t, (t : Int), false)] } : Hp) = hpT n (t + 1) := by
  unfold hpT
  dsimp only
  congr 1
  apply List.ext_getElem
  · simp
  · intro i h1 h2
    have hi : i < n := by simpa using h2
    rw [List.getElem_set]
    by_cases e : t = i
    · subst e
      simp
    · rw [if_neg e]
      simp only [List.getElem_map, List.getElem_range]
      by_cases e2 : i < t
      · rw [if_pos e2, if_pos (by omega)]
      · rw [if_neg e2, if_neg (by omega)]
/-- A bench of the document's, since w0. -/
structure Bs (w0 w : World) (R : Rd) (hb qb : Nat) (a : Hp × Ls) : Prop where
  m : ∃ F qv ev en, Rh w F R.bk hb qb qv ev en a.1 ∧ ∀ y, F y → w0.heap.size ≤ y ∧ ¬ fR R y
  o : RP R w a.2
  iv : Iv R.n a.1
  fr : ∀ y, fR R y → w0.heap.size ≤ y
  hp : w.cell? ⟨R.bk, 2, none⟩ = some (.pointer (some ⟨hb, 0, none⟩))
  bl : Below w0.heap.size w0 w
  cw : R.wd ≤ R.cc
theorem Bs.still {w0 w w' : World} {R : Rd} {hb qb : Nat} {a : Hp × Ls} (h : Bs w0 w R hb qb a) (k : Keeps (fun _ => False) w w') : Bs w0 w' R hb qb a := by
  obtain ⟨F, qv, ev, en, m, l⟩ := h.m
  exact ⟨⟨F, qv, ev, en, m.still k, l⟩, h.o.still k, h.iv, h.fr, (k.cell (p := ⟨R.bk, 2, none⟩) (h.o.lt _ (.inr (.inl rfl))) (fun e => e)).trans h.hp, h.bl.trans (k.below h.bl.size (fun _ _ e => e)), h.cw⟩
theorem Bs.next {w0 w w' : World} {R : Rd} (hR : RdOk R) {hb qb : Nat} {a a' : Hp × Ls} {F : Nat → Prop} (h : Bs w0 w R hb qb a) (l0 : ∀ y, F y → w0.heap.size ≤ y ∧ ¬ fR R y) (p : Pr R w w' F hb qb a') : Bs w0 w' R hb qb a' := by
  obtain ⟨F', qv, ev, en, m, f, d⟩ := p.mid
  have lb : R.bk < w.heap.size := h.o.lt _ (.inr (.inl rfl))
  have nb : ¬ (F R.bk ∨ fRw R R.bk) := fun e => e.elim (fun e => (l0 _ e).2 (.inr (.inl rfl))) (fun e => hR.bk e)
  refine ⟨⟨F', qv, ev, en, m, fun y hy => ⟨?_, d y hy⟩⟩, p.o, p.iv, h.fr, (p.k.cell (p := ⟨R.bk, 2, none⟩) lb nb).trans h.hp, h.bl.trans (p.k.below h.bl.size (fun k hk e => ?_)), h.cw⟩
  · rcases f y hy with e | e
    · exact (l0 y e).1
    · have := h.bl.size; omega
  · rcases e with e | e
    · have := (l0 _ e).1; omega
    · have := h.fr _ (.inl e); omega
/-- The document's Bench.Play. -/
theorem rbplay (w0 w : World) (R : Rd) (hR : RdOk R) (hb qb : Nat) (a : Hp × Ls) (b : Bs w0 w R hb qb a) (s : ByteArray) (hs : s.size ≤ 1048576) :
    Calls Tryz.prog 53 #[.pointer (some ⟨R.bk, 0, none⟩), .string s] w fun e w' => ∃ d : Nat, d ≤ 1099511627776 ∧ (playP (PM R) (dL s.data.toList) 1099511627776 a).2.1 = 1099511627776 - d ∧ e = .returned (.int .i64 (d : Int)) ∧ Bs w0 w' R hb qb (playP (PM R) (dL s.data.toList) 1099511627776 a).2.2 := by
  have H : Hid (Bs w0 w.drew R hb qb a) := b.still (Keeps.refl _ _).drew
  have HD : Hid (∀ W, Calls Tryz.prog 95 #[.string s] W fun e w' => ∃ v, e = .returned v ∧ ownP w' W.heap.size v (dL s.data.toList) ∧ Below W.heap.size W w') := fun W => refDecode s W (by omega)
  have HL : Hid ((dL s.data.toList).length ≤ 1048576 ∧ ∀ p ∈ dL s.data.toList, p.2.2 ≤ 300) := ⟨by have := (dL_len _ s.data.toList (Nat.le_refl _)).1; rw [len_list] at this; omega, dL_small _ _ (Nat.le_refl _)⟩
  have HC : w.drew.cell? ⟨R.bk, 2, none⟩ = some (.pointer (some ⟨hb, 0, none⟩)) := H.out.hp
  clear b
  generalize dL s.data.toList = vs at *
  go_enter Tryz.func53, Tryz.ntmps53
  go_wp2_with fail
  (refine wp_region_held_drew (S := (fun W => W.cell? ⟨R.bk, 2, none⟩ = some (.pointer (some ⟨hb, 0, none⟩)))) (by kernel_rfl) HC (fun hHeld => ?_); simp only [List.size_toArray, List.length_cons, List.length_nil, Nat.reduceAdd, Array.replicate_succ, Array.replicate_zero, List.push_toArray, List.append_toArray, List.nil_append, List.cons_append])
  clear HC
  refine rgT 0 (h := ?_)
  refine rgT 1 (h := ?_)
  refine rgT 2 (h := ?_)
  refine rgT 3 (h := ?_)
  refine rgT 4 (h := ?_)
  (refine rgS 5 (h := fun K hK => ?_); go_simp)
  refine (HD.out w.drew).mono ?_
  rintro e w1 ⟨v, rfl, ho, hb1⟩
  have H1 : Hid (Bs w0 w1 R hb qb a) := H.out.still (Below.keeps hb1 _)
  obtain ⟨F, qv, ev, en, m, l⟩ := H.out.m
  have HPk : Hid (PkR w1 (fun x => F x ∨ fRw R x) v vs) := PkR.of ho (fun x e => e.elim (m.lt x) (fun e => H.out.o.lt x (.inl e))) (by have := HL.out.1; omega) HL.out.2
  have HP : Hid (Pr R w1 w1 F hb qb a ∧ ∀ y, F y → w0.heap.size ≤ y ∧ ¬ fR R y) := ⟨⟨⟨F, qv, ev, en, m.still (Below.keeps hb1 _), fun y hy => .inl hy, fun y hy => (l y hy).2⟩, H1.out.o, Keeps.refl _ _, H1.out.iv⟩, l⟩
  have HC1 := H1.out.hp
  clear ho hb1 H HD m l
  (refine hK.out _ _ HC1 (fun hHeld => ?_); clear hK K; try simp only [Act.put, List.setIfInBounds_toArray, List.set_cons_zero, List.set_cons_succ])
  clear HC1
  (refine rgS 6 (h := fun K hK => ?_); go_simp)
  refine (rplay_any hR HP.out.1 1099511627776 (by omega) v vs HPk.out).mono ?_
  rintro e w2 ⟨d, hd, hl, rfl, p2⟩
  have H2 : Hid (Bs w0 w2 R hb qb (playP (PM R) vs 1099511627776 a).2.2) := H1.out.next hR HP.out.2 p2
  have HL2 : Hid ((playP (PM R) vs 1099511627776 a).2.1 = 1099511627776 - d) := hl
  have HC2 := H2.out.hp
  generalize erC (playP (PM R) vs 1099511627776 a).1 = ee at *
  clear p2 H1 HL HP HPk hl
  (refine hK.out _ _ HC2 (fun hHeld => ?_); clear hK K; try simp only [Act.put, List.setIfInBounds_toArray, List.set_cons_zero, List.set_cons_succ])
  clear HC2
  refine rgT 7 (h := ?_)
  refine rgT 8 (h := ?_)
  refine rgT 9 (h := ?_)
  refine rgT 10 (h := ?_)
  refine rgT 11 (h := ?_)
  refine wpAnyH_done (by kernel_rfl) ?_ _
  go_wp2
  go_ret
  exact ⟨d, hd, HL2.out, rfl, H2.out⟩
end Go.Proofs.YtdpebhdjcgiboaaGreat

namespace Go.Proofs.YtdpebhdjcgiboaaGreat
set_option linter.unusedSimpArgs false
open Go.ChangeShapes Go.WideShapes Go.ChangeAt Go.RowKit Go.MuLone Go.RwLone
set_option linter.unusedVariables false
set_option maxRecDepth 100000
set_option maxHeartbeats 3200000
theorem rlay_no (w : World) (C : Nat) (ca : Option Addr) (cc : Nat) (ta : Option Addr) (tc : Nat) (tvf : Nat → Value) (cs : List Int) (tl : List (List I8)) (h : LitG w C ca cc ta tc tvf cs tl) (hC : C ≤ w.heap.size) (hsd : soundP cs tl = false) :
    Calls Tryz.prog 32 #[.agg (litC ca cs.length cc ta tl.length tc)] w fun e w' => e = .returned (.tuple #[.pointer none, .int .i64 35]) ∧ Keeps (fun _ => False) w w' := by
  have k0 : Keeps (fun _ => False) w (lgW w (litC ca cs.length cc ta tl.length tc)) := (Keeps.refl _ _).alloc _
  have HK0 : Hid (Keeps (fun _ => False) w (lgW w (litC ca cs.length cc ta tl.length tc))) := k0
  have HI := rSound_any (lgW w (litC ca cs.length cc ta tl.length tc)) C ca cc ta tc tvf cs tl (h.later (k0.below hC (fun _ _ e => e))) (by rw [szAl]; omega)
  rw [hsd] at HI
  have HII : Hid (∀ _ : Unit, _) := fun _ => HI
  clear h hsd HI k0
  go_enter Tryz.func32, Tryz.ntmps32
  go_wp2_with fail
  refine (HII.out ()).mono ?_
  rintro e w2 ⟨rfl, k2⟩
  go_wp2
  go_ret2
  exact ⟨rfl, HK0.out.trans k2⟩
abbrev bxA (cv tvv : Value) : Array Value := #[cv, tvv, .pointer none]
/-- A harness just made. -/
theorem Rh.fresh {w w' : World} (n bk : Nat) (h2 : n ≤ 16) (k : Keeps (fun _ => False) ((w.alloc (.cells (madeCells #[.slice none 0 0] n) 217)).alloc (.cells (haR bk w.heap.size n 0 (.slice none 0 0) (.slice none 0 0)) 158)) w') :
    Rh w' (fun y => y = w.heap.size ∨ y = w.heap.size + 1) bk (w.heap.size + 1) w.heap.size (fun _ => .slice none 0 0) (.slice none 0 0) (.slice none 0 0) (hpT n 0) := by
  have s1 : ((w.alloc (.cells (madeCells #[.slice none 0 0] n) 217)).alloc (.cells (haR bk w.heap.size n 0 (.slice none 0 0) (.slice none 0 0)) 158)).heap.size = w.heap.size + 2 := by rw [szAl, szAl]
  have eq : w'.heap[w.heap.size]? = some (.cells (madeCells #[.slice none 0 0] n) 217) := (k.block _ (by omega) (fun e => e)).trans ((Below.heap_alloc _ _ _ (by rw [szAl]; omega)).trans (heap_alloc_last _ _ _ rfl))
  have eh : w'.heap[w.heap.size + 1]? = some (.cells (haR bk w.heap.size n 0 (.slice none 0 0) (.slice none 0 0)) 158) := (k.block _ (by omega) (fun e => e)).trans (heap_alloc_last _ _ _ (szAl _ _).symm)
  have hl := hpT_len n 0
  refine ⟨by rw [hl]; exact eh, ⟨_, eq⟩, fun i hi => ?_, fun i hi => ?_, (fun i j g _ _ _ e => by cases e), OwG.nil _ _ _ _ _, OwG.nil _ _ _ _ _, .inr rfl, .inl rfl, (fun i g _ e => by cases e), (fun g e => by cases e), (fun g e => by cases e), fun x hx => ?_, by rw [hl]; exact h2⟩
  · rw [hl] at hi
    rw [cell?_heap eq i, ← Array.getElem?_toList, toList_madeCells_one]
    simp [hi]
  · have : (hpT n 0).q[i] = [] := by simp [hpT]
    rw [this]
    exact OwG.nil _ _ _ _ _
  · have := k.size
    rw [s1] at this
    rcases hx with rfl | rfl <;> omega
/-- The document's Lay. -/
theorem rlay_any (w : World) (C : Nat) (ca : Option Addr) (cc : Nat) (ta : Option Addr) (tc : Nat) (tvf : Nat → Value) (cs : List Int) (tl : List (List I8)) (h : LitG w C ca cc ta tc tvf cs tl) (hC : C ≤ w.heap.size) (hsd : soundP cs tl = true) :
    Calls Tryz.prog 32 #[.agg (litC ca cs.length cc ta tl.length tc)] w fun e w' => ∃ R hb qb, e = .returned (.tuple #[.pointer (some ⟨R.bk, 0, none⟩), .int .i64 0]) ∧ RdOk R ∧ R.n = tl.length ∧ R.wd = cs.length ∧ R.ins = insL tl ∧ Bs w w' R hb qb (begA cs tl) := by
  obtain ⟨hc4, hn4, hall⟩ := sound_facts hsd
  have k0 : Keeps (fun _ => False) w (lgW w (litC ca cs.length cc ta tl.length tc)) := (Keeps.refl _ _).alloc _
  have HK0 : Hid (Keeps (fun _ => False) w (lgW w (litC ca cs.length cc ta tl.length tc))) := k0
  have HLIT : Hid (∀ W, Keeps (fun _ => False) (lgW w (litC ca cs.length cc ta tl.length tc)) W → LitG W C ca cc ta tc tvf cs tl) := fun W k => h.later ((k0.trans k).below hC (fun _ _ e => e))
  have HI := rSound_any (lgW w (litC ca cs.length cc ta tl.length tc)) C ca cc ta tc tvf cs tl (HLIT.out _ (Keeps.refl _ _)) (by rw [szAl]; omega)
  rw [hsd] at HI
  have HII : Hid (∀ _ : Unit, _) := fun _ => HI
  have HSD : Hid (soundP cs tl = true) := hsd
  have HN10 : Hid (∀ i (hi : i < tl.length), tl[i].length ≤ 1099511627776) := fun i hi => by have := (hall i hi).1; omega
  clear h hsd HI k0 hall
  go_enter Tryz.func32, Tryz.ntmps32
  go_wp2_with fail
  refine (HII.out ()).mono ?_
  rintro e w2 ⟨rfl, k2⟩
  have cb := lg_keep k2
  have cb0 := cb.1
  have cb1 := cb.2
  have s2 := k2.size
  rw [szAl] at s2
  have HN := rnewp_any w2 C ca cc ta tc tvf cs tl (HLIT.out w2 k2) (by omega) (by omega) (by omega) HN10.out
  have HNN : Hid (∀ _ : Unit, _) := fun _ => HN
  have HK2 : Hid (Keeps (fun _ => False) w w2) := HK0.out.trans k2
  clear HN k2 HLIT HII HK0 cb
  go_wp2_with fail
  refine (HNN.out ()).mono ?_
  rintro e w3 ⟨cv, tvv, qs, rfl, pn, hqs, b3⟩
  obtain ⟨cva, cvc, hcv⟩ := pn.oc.form
  obtain ⟨tva, tvc, htv⟩ := pn.ot.form
  subst hcv htv
  have s3 := b3.size
  have H3 : Hid (Pn w3 (w2.heap.size + 2) (.slice cva cs.length cvc) (.slice tva qs.length tvc) cs qs ∧ qs.map (fun q => q.2.2) = tl ∧ Below w.heap.size w w3) := ⟨pn, hqs, (HK2.out.below (Nat.le_refl _) (fun _ _ e => e)).trans (b3.mono (by omega))⟩
  have c31 : w3.cell? ⟨w.heap.size, 1, none⟩ = some (.slice ta tl.length tc) := (b3.cell (p := ⟨w.heap.size, 1, none⟩) (by show w.heap.size < _; omega)).trans cb1
  clear pn hqs b3 HNN cb0 cb1
  have hlt3 : w.heap.size < w3.heap.size := by omega
  have B2 : w2.heap.size + 2 ≤ w3.heap.size := by
    obtain ⟨g, c, _, q1, q2⟩ := owG_some H3.out.1.oc (by intro e; rw [e] at hc4; simp at hc4)
    omega
  have HB2 : Hid (w2.heap.size + 2 ≤ w3.heap.size ∧ w.heap.size + 1 ≤ w2.heap.size) := ⟨B2, s2⟩
  have c41 : (w3.alloc (.cells (bxA (.slice cva cs.length cvc) (.slice tva qs.length tvc)) 87)).drew.cell? ⟨w.heap.size, 1, none⟩ = some (.slice ta tl.length tc) := (World.cell?_of_block (w := w3) (Below.heap_alloc w3 _ w.heap.size hlt3)).trans c31
  have HNW := rnew_any (w3.alloc (.cells (bxA (.slice cva cs.length cvc) (.slice tva qs.length tvc)) 87)).drew tl.length w3.heap.size (by omega) (by omega)
  have hsz4 : (w3.alloc (.cells (bxA (.slice cva cs.length cvc) (.slice tva qs.length tvc)) 87)).drew.heap.size = w3.heap.size + 1 := szAl _ _
  rw [hsz4] at HNW
  have HNWW : Hid (∀ _ : Unit, _) := fun _ => HNW
  have HF4 : Hid (∀ W, Keeps (fun _ => False) (((w3.alloc (.cells (bxA (.slice cva cs.length cvc) (.slice tva qs.length tvc)) 87)).drew.alloc (.cells (madeCells #[.slice none 0 0] tl.length) 217)).alloc (.cells (haR w3.heap.size (w3.heap.size + 1) tl.length 0 (.slice none 0 0) (.slice none 0 0)) 158)) W → Rh W (fun y => y = w3.heap.size + 1 ∨ y = w3.heap.size + 2) w3.heap.size (w3.heap.size + 2) (w3.heap.size + 1) (fun _ => .slice none 0 0) (.slice none 0 0) (.slice none 0 0) (hpT tl.length 0) ∧ Below w3.heap.size w3 W ∧ W.heap[w3.heap.size]? = some (.cells (bxA (.slice cva cs.length cvc) (.slice tva qs.length tvc)) 87)) := fun W k => by
    have hr := Rh.fresh (w := (w3.alloc (.cells (bxA (.slice cva cs.length cvc) (.slice tva qs.length tvc)) 87)).drew) (w' := W) tl.length w3.heap.size (by omega) (by rw [hsz4]; exact k)
    rw [hsz4] at hr
    have b4 : Below w3.heap.size w3 (w3.alloc (.cells (bxA (.slice cva cs.length cvc) (.slice tva qs.length tvc)) 87)).drew := ((Below.refl _ _).alloc (Nat.le_refl _) _).drew
    have k5 : Keeps (fun _ => False) (w3.alloc (.cells (bxA (.slice cva cs.length cvc) (.slice tva qs.length tvc)) 87)).drew W := (((Keeps.refl _ _).alloc _).alloc _).trans k
    refine ⟨hr, b4.trans (k5.below (by omega) (fun _ _ e => e)), (k5.block _ (by omega) (fun e => e)).trans ?_⟩
    exact heap_alloc_last _ _ _ rfl
  have HC31 : Hid (w3.cell? ⟨w.heap.size, 1, none⟩ = some (.slice ta tl.length tc)) := c31
  clear HNW c31 hsz4
  go_wp2_with fail
  (refine wp_region_held_drew (S := (fun W => W.cell? ⟨w.heap.size, 1, none⟩ = some (.slice ta tl.length tc))) (by kernel_rfl) c41 (fun hHeld => ?_); simp only [List.size_toArray, List.length_cons, List.length_nil, Nat.reduceAdd, Array.replicate_succ, Array.replicate_zero, List.push_toArray, List.append_toArray, List.nil_append, List.cons_append])
  refine rgT 0 (h := ?_)
  refine rgT 1 (h := ?_)
  refine rgT 2 (h := ?_)
  refine rgT 3 (h := ?_)
  refine rgT 4 (h := ?_)
  refine rgT 5 (h := ?_)
  (refine rgS 6 (h := fun K hK => ?_); go_simp)
  refine (HNWW.out ()).mono ?_
  rintro e w5 ⟨rfl, hw5⟩
  obtain ⟨r5, b5, eb5⟩ := HF4.out w5 (by rw [hw5]; exact Keeps.refl _ _)
  have H5 : Hid (Rh w5 (fun y => y = w3.heap.size + 1 ∨ y = w3.heap.size + 2) w3.heap.size (w3.heap.size + 2) (w3.heap.size + 1) (fun _ => .slice none 0 0) (.slice none 0 0) (.slice none 0 0) (hpT tl.length 0) ∧ Below w3.heap.size w3 w5 ∧ w5.heap[w3.heap.size]? = some (.cells (bxA (.slice cva cs.length cvc) (.slice tva qs.length tvc)) 87)) := ⟨r5, b5, eb5⟩
  have c51 : w5.cell? ⟨w.heap.size, 1, none⟩ = some (.slice ta tl.length tc) := (b5.cell (p := ⟨w.heap.size, 1, none⟩) hlt3).trans HC31.out
  clear r5 b5 hw5 HNWW HF4
  (refine hK.out _ _ c51 (fun hHeld => ?_); clear hK K; try simp only [Act.put, List.setIfInBounds_toArray, List.set_cons_zero, List.set_cons_succ])
  refine rgT 7 (h := ?_)
  refine rgT 8 (h := ?_)
  refine rgT 9 (h := ?_)
  refine rgT 10 (h := ?_)
  refine rgT 11 (h := ?_)
  refine wpAnyH_done (by kernel_rfl) ?_ _
  have c52 : w5.cell? ⟨w3.heap.size, 2, none⟩ = some (.pointer none) := (cell?_heap eb5 2).trans rfl
  have z52 := frozen?_heap eb5 2
  have ks : Keeps (fun x => x = w3.heap.size) w5 (w5.setCell ⟨w3.heap.size, 2, none⟩ (.pointer (some ⟨w3.heap.size + 2, 0, none⟩))) := Keeps.setCell (B := fun x => x = w3.heap.size) (Keeps.refl _ _) rfl _
  have s5 := H5.out.2.1.size
  have r6 := H5.out.1.keeps ks (fun x e hx => by rcases hx with hx | hx <;> omega)
  have b6 : Below w3.heap.size w3 (w5.setCell ⟨w3.heap.size, 2, none⟩ (.pointer (some ⟨w3.heap.size + 2, 0, none⟩))) := H5.out.2.1.trans (ks.below s5 (fun k hk e => by omega))
  have e6 : (w5.setCell ⟨w3.heap.size, 2, none⟩ (.pointer (some ⟨w3.heap.size + 2, 0, none⟩))).heap[w3.heap.size]? = some (.cells #[.slice cva cs.length cvc, .slice tva qs.length tvc, .pointer (some ⟨w3.heap.size + 2, 0, none⟩)] 87) := heapSet eb5 _
  have hmk := mkR H3.out.1 B2 b6 e6 H3.out.2.1 HSD.out
  obtain ⟨R, hRb, hRn, hRw, hRi, hRok, hRP, hRc, hRf⟩ := hmk
  have HRC : Hid (R.wd ≤ R.cc) := hRc
  have H6 : Hid (Rh (w5.setCell ⟨w3.heap.size, 2, none⟩ (.pointer (some ⟨w3.heap.size + 2, 0, none⟩))) (fun y => y = w3.heap.size + 1 ∨ y = w3.heap.size + 2) w3.heap.size (w3.heap.size + 2) (w3.heap.size + 1) (fun _ => .slice none 0 0) (.slice none 0 0) (.slice none 0 0) (hpT tl.length 0)) := r6
  have HRR : Hid (R.bk = w3.heap.size ∧ R.n = tl.length ∧ R.wd = cs.length ∧ R.ins = insL tl ∧ RdOk R ∧ ∀ y, fR R y → w2.heap.size + 2 ≤ y ∧ y ≤ w3.heap.size) := ⟨hRb, hRn, hRw, hRi, hRok, hRf⟩
  have HE : Hid (∀ W, Keeps (fun x => x = w3.heap.size + 1) (w5.setCell ⟨w3.heap.size, 2, none⟩ (.pointer (some ⟨w3.heap.size + 2, 0, none⟩))) W → RP R W (begA cs tl).2 ∧ W.cell? ⟨R.bk, 2, none⟩ = some (.pointer (some ⟨w3.heap.size + 2, 0, none⟩)) ∧ Below w.heap.size w W ∧ W.cell? ⟨w.heap.size, 1, none⟩ = some (.slice ta tl.length tc)) := fun W k => by
    have s6 := b6.size
    refine ⟨hRP.keeps k (fun y e hy => by have := (hRf y hy).2; omega), ?_, ?_, ?_⟩
    · rw [hRb]
      refine (k.cell (p := ⟨w3.heap.size, 2, none⟩) (Array.getElem?_eq_some_iff.1 e6).1 (by show ¬ w3.heap.size = _; omega)).trans ((cell?_heap e6 2).trans rfl)
    · exact (H3.out.2.2.trans (b6.mono (by omega))).trans (k.below (by omega) (fun x hx e => by omega))
    · exact (k.cell (p := ⟨w.heap.size, 1, none⟩) (by show w.heap.size < _; omega) (by show ¬ w.heap.size = _; omega)).trans ((b6.cell (p := ⟨w.heap.size, 1, none⟩) hlt3).trans HC31.out)
  clear hRc r6 b6 e6 ks hRb hRn hRw hRi hRok hRP hRf H5 c51 c41
  go_wp2_with fail
  clear c52 z52 eb5 s5
  generalize w5.setCell ⟨w3.heap.size, 2, none⟩ (.pointer (some ⟨w3.heap.size + 2, 0, none⟩)) = w6 at *
  go_loopw [8] (fun c wr => ∃ (t : Nat) (F : Nat → Prop) (qv : Nat → Value), c = .int .i64 t ∧ t ≤ tl.length ∧ Rh wr F w3.heap.size (w3.heap.size + 2) (w3.heap.size + 1) qv (.slice none 0 0) (.slice none 0 0) (hpT tl.length t) ∧ (∀ j, t ≤ j → qv j = .slice none 0 0) ∧ Keeps (fun x => x = w3.heap.size + 1) w6 wr ∧ ∀ y, F y → w3.heap.size + 1 ≤ y) (fun c _ => tl.length - (intOf c).toNat)
  case atStart => exact ⟨0, _, _, rfl, by omega, H6.out, fun _ _ => rfl, Keeps.refl _ _, fun y hy => by rcases hy with hy | hy <;> omega⟩
  case round =>
    obtain ⟨t, F, qv, rfl, ht, hrh, hqv, hk, hF⟩ := hrel
    have HQ : Hid (Rh wr F w3.heap.size (w3.heap.size + 2) (w3.heap.size + 1) qv (.slice none 0 0) (.slice none 0 0) (hpT tl.length t) ∧ (∀ j, t ≤ j → qv j = .slice none 0 0) ∧ Keeps (fun x => x = w3.heap.size + 1) w6 wr ∧ ∀ y, F y → w3.heap.size + 1 ≤ y) := ⟨hrh, hqv, hk, hF⟩
    have cB := (HE.out wr hk).2.2.2
    clear hrh hqv hk hF H6
    by_cases h5 : t < tl.length
    · have t0 : (0 : Int) ≤ (t : Int) := Int.natCast_nonneg _
      have t1 : (t : Int) < (tl.length : Int) := by omega
      have kA : Keeps (fun _ => False) wr (wr.alloc (.cells #[.int .i64 (t : Int)] 3)) := (Keeps.refl _ _).alloc _
      have HS := rsubmit_one (wr.alloc (.cells #[.int .i64 (t : Int)] 3)) F w3.heap.size (w3.heap.size + 2) (w3.heap.size + 1) qv (.slice none 0 0) (.slice none 0 0) (hpT tl.length t) (HQ.out.1.still kA) t (by rw [hpT_len]; exact h5) (HQ.out.2.1 t (Nat.le_refl _)) wr.heap.size t ((cell?_heap (heap_alloc_last _ _ _ rfl) 0).trans rfl) (fun e => by have := HQ.out.1.lt _ e; omega) (by omega)
      rw [hpT_set tl.length t h5] at HS
      have HSS : Hid (∀ _ : Unit, _) := fun _ => HS
      have HKA : Hid (Keeps (fun _ => False) wr (wr.alloc (.cells #[.int .i64 (t : Int)] 3))) := kA
      clear HS kA
      go_wp2_with fail
      refine (HSS.out ()).mono ?_
      rintro e w7 ⟨rfl, b, c, r7, k7, hb7⟩
      rw [szAl] at hb7
      have HN : Hid (Rh w7 (fun x => F x ∨ x = b) w3.heap.size (w3.heap.size + 2) (w3.heap.size + 1) (upd qv t (.slice (some ⟨b, 0, none⟩) 1 c)) (.slice none 0 0) (.slice none 0 0) (hpT tl.length (t + 1)) ∧ (∀ j, t + 1 ≤ j → (upd qv t (.slice (some ⟨b, 0, none⟩) 1 c)) j = .slice none 0 0) ∧ Keeps (fun x => x = w3.heap.size + 1) w6 w7 ∧ ∀ y, (F y ∨ y = b) → w3.heap.size + 1 ≤ y) := by
        refine ⟨r7, fun j hj => ?_, HQ.out.2.2.1.trans ((HKA.out.mono (fun _ e => e.elim)).trans k7), fun y hy => ?_⟩
        · rw [upd_other _ _ (by omega)]
          exact HQ.out.2.1 j (by omega)
        · rcases hy with hy | hy
          · exact HQ.out.2.2.2 y hy
          · have := HQ.out.1.lt _ HQ.out.1.fq
            omega
      clear r7 k7 HSS cB
      go_wp2
      go_roundw
      case rel => exact ⟨t + 1, _, _, by go_num, by omega, HN.out⟩
      case measure => simp [intOf]; omega
    · have htn : t = tl.length := by omega
      have HX : Hid (Bs w wr R (w3.heap.size + 2) (w3.heap.size + 1) (begA cs tl)) := by
        obtain ⟨p1, p2, p3, p4⟩ := HE.out wr HQ.out.2.2.1
        have hr := HQ.out.1
        rw [htn, hpT_all] at hr
        have hr2 : Rh wr F R.bk (w3.heap.size + 2) (w3.heap.size + 1) qv (.slice none 0 0) (.slice none 0 0) (hp0 tl.length) := by rw [HRR.out.1]; exact hr
        have hb2 := HB2.out
        refine ⟨⟨F, qv, _, _, hr2, fun y hy => ⟨by have := HQ.out.2.2.2 y hy; omega, fun e => by have := (HRR.out.2.2.2.2.2 y e).2; have := HQ.out.2.2.2 y hy; omega⟩⟩, p1, ?_, fun y hy => by have := (HRR.out.2.2.2.2.2 y hy).1; omega, p2, p3, HRC.out⟩
        rw [HRR.out.2.1]
        exact iv_hp0 tl.length (by omega)
      clear htn
      go_wp2
      go_ret2
      exact ⟨R, _, _, by rw [HRR.out.1]; rfl, HRR.out.2.2.2.2.1, HRR.out.2.1, HRR.out.2.2.1, HRR.out.2.2.2.1, HX.out⟩
end Go.Proofs.YtdpebhdjcgiboaaGreat
