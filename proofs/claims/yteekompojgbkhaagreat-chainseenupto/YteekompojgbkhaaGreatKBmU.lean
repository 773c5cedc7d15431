import Derived.Test.YteekompojgbkhaaGreatKBmS
namespace Go.Proofs.YteekompojgbkhaaGreat
open Go.ChangeShapes Go.WideShapes Go.ChangeAt Go.RowKit Go.MuLone Go.RwLone
set_option linter.unusedVariables false
set_option maxRecDepth 100000
set_option maxHeartbeats 6400000
/-- What holds between the moves of one machine. -/
def AlQ (w0 : World) (B bb : Nat) (l : BkL) (N n k bd t : Nat) (W : World) : Prop := ∃ s G q, BkM W B bb l s ∧ BkJ s G ∧ Below B w0 W ∧ s.N = N ∧ s.all.length = n ∧ s.all[k]? = some q ∧ (q.o.dn = false → oAl s.x G q.o + t ≤ bd)
theorem al_bound {s : BkS} {G : Gb} {q : OL} {k : Nat} (h : BkJ s G) (hq : s.all[k]? = some q) : ∃ bd : Nat, bd = (if q.o.kd = 0 then 5 else if q.o.kd = 2 then s.N + 1 else 4 * s.N + 12) ∧ oAl s.x G q.o ≤ bd := by
  refine ⟨_, rfl, ?_⟩
  exact oAl_most (h.ok hq) h.i.g (by have := h.i.ranks; omega)
theorem AlQ.next {w0 W W' : World} {B bb N n k bd t : Nat} {l : BkL} {s s' : BkS} {G G' : Gb} {q : OL} {o' : On} (h4 : Below B w0 W) (h5 : s.N = N) (h6 : s.all.length = n) (hq : s.all[k]? = some q) (hd : q.o.dn = false) (hb : oAl s.x G q.o + t ≤ bd) (b1 : BkM W' B bb l s') (b2 : Below B W W') (b3 : Mvd s G k q.o s' G' o') : AlQ w0 B bb l N n k bd (t + 1) W' := by
  obtain ⟨j1, j2, j3, j4, j5, j6⟩ := b3
  have hl := (List.getElem?_eq_some_iff.1 hq).1
  have e : (s'.all.map OL.o)[k]? = some o' := by
    rw [j3]
    exact List.getElem?_set_self (by rw [List.length_map]; exact hl)
  rw [List.getElem?_map] at e
  obtain ⟨q', e1, e2⟩ := Option.map_eq_some_iff.1 e
  refine ⟨s', G', q', b1, j1, h4.trans b2, j4.trans h5, j6.trans h6, e1, fun _ => ?_⟩
  have := (j2.2 hd).2.2.2
  rw [e2]
  omega
theorem chainAlone_walk (w : World) (pa pb : Int) (ao : Option Addr) (cap : Nat) (ms : List (Int × Int)) (hin : InG mvC w w.heap.size (.slice ao ms.length cap) ms) (hl : ms.length ≤ 524288) (hbd : ∀ o ∈ ms, i64ok o.1 ∧ i64ok o.2) (ha : i64ok pa) (hb : i64ok pb) (wh : Int) (hw : i64ok wh) : Calls Tryz.prog 5 #[.agg #[.int .i64 pa, .int .i64 pb, .slice ao ms.length cap], .int .i64 wh] w fun e w' => e = .returned (.bool true) ∧ Below w.heap.size w w' := by
  have g1 := heap_alloc_new w (.cells #[.int .i64 pa, .int .i64 pb, .slice ao ms.length cap] 24)
  obtain ⟨W1, hW1⟩ : ∃ W, w.alloc (.cells #[.int .i64 pa, .int .i64 pb, .slice ao ms.length cap] 24) = W := ⟨_, rfl⟩
  rw [hW1] at g1
  have hb1 : Below w.heap.size w W1 := by rw [← hW1]; exact (Below.refl _ _).alloc (Nat.le_refl _) _
  have hsz : W1.heap.size = w.heap.size + 1 := by rw [← hW1]; simp
  have o0 : W1.cell? ⟨w.heap.size, 0, none⟩ = some (.int .i64 pa) := (cell?_heap g1 0).trans rfl
  have o1 : W1.cell? ⟨w.heap.size, 0 + 1, none⟩ = some (.int .i64 pb) := (cell?_heap g1 1).trans rfl
  have o2 : W1.cell? ⟨w.heap.size, 0 + 1 + 1, none⟩ = some (.slice ao ms.length cap) := (cell?_heap g1 2).trans rfl
  have H1 : Hid (Below w.heap.size w W1 ∧ W1.heap[w.heap.size]? = some (.cells #[.int .i64 pa, .int .i64 pb, .slice ao ms.length cap] 24) ∧ InG mvC W1 W1.heap.size (.slice ao ms.length cap) ms ∧ W1.heap.size = w.heap.size + 1) := ⟨hb1, g1, (hin.later hb1).up hb1.size, hsz⟩
  have HBD : Hid (∀ o ∈ ms, i64ok o.1 ∧ i64ok o.2) := hbd
  have HL : Hid (ms.length ≤ 524288) := hl
  have HA : Hid (∀ _ : Unit, _) := fun _ => bk_begin W1 pa pb ao ms.length cap ha hb
  have HWH : Hid (i64ok wh) := hw
  clear hin g1 hb1 hsz hl hbd ha hb hw
  go_enter Tryz.func5, Tryz.ntmps5
  go_wp2_with fail
  clear hW1
  refine (HA.out ()).mono ?_
  rintro e w2 ⟨bb, rfl, l, N, nb, hP, hpk⟩
  have hb2 := hP.below
  have hlt : w.heap.size < W1.heap.size := by have := H1.out.2.2.2; omega
  have p0 : w2.cell? ⟨w.heap.size, 0, none⟩ = some (.int .i64 pa) := (hb2.cell (p := ⟨w.heap.size, 0, none⟩) hlt).trans o0
  have p1 : w2.cell? ⟨w.heap.size, 0 + 1, none⟩ = some (.int .i64 pb) := (hb2.cell (p := ⟨w.heap.size, 0 + 1, none⟩) hlt).trans o1
  have p2 : w2.cell? ⟨w.heap.size, 0 + 1 + 1, none⟩ = some (.slice ao ms.length cap) := (hb2.cell (p := ⟨w.heap.size, 0 + 1 + 1, none⟩) hlt).trans o2
  have H2 : Hid (Below w.heap.size w w2) := H1.out.1.trans (hb2.mono H1.out.1.size)
  have HP : Hid (∀ _ : Unit, _) := fun _ => bk_play w2 W1.heap.size bb l N nb 0 pa pb ao cap ms false false hP.base (H1.out.2.2.1.later hb2) HL.out (by have := HL.out; omega) HBD.out (fun x _ => by rw [hpk])
  clear hP hpk hb2 hlt o0 o1 o2 HA HBD
  go_wp2_with fail
  refine (HP.out ()).mono ?_
  rintro e w3 ⟨rfl, hP3⟩
  obtain ⟨s, G, h1, h2, h4, h5, h6, h7⟩ := hP3
  have hl := HL.out
  have HST : Hid (∀ _ : Unit, _) := fun _ => bk_start w3 W1.heap.size bb l s G 2 wh h1 h2 (by omega) (by omega) HWH.out.1 HWH.out.2
  have H3 : Hid (Below W1.heap.size w2 w3 ∧ s.N = N ∧ s.all.length ≤ 0 + ms.length) := ⟨h4, h5, h7⟩
  clear h1 h2 h4 h5 h6 h7 HP p0 p1 p2 hl
  go_wp2_with fail
  refine (HST.out ()).mono ?_
  rintro e w4 ⟨rfl, s1, G1, b1, b2, b3⟩
  obtain ⟨j1, j2, j3, j4, j5, j6, j7⟩ := b3
  obtain ⟨n, hn⟩ : ∃ n, s1.all.length = n := ⟨_, rfl⟩
  have hn1 : 1 ≤ n ∧ n ≤ 1048576 := by
    have := j7 rfl
    have := H3.out.2.2
    have := HL.out
    omega
  have q0 := Int.emod_nonneg wh (show (n : Int) ≠ 0 by omega)
  have q1 := Int.emod_lt_of_pos wh (show (0 : Int) < (n : Int) by omega)
  obtain ⟨k, hk⟩ : ∃ x : Nat, wh % (n : Int) = (x : Int) := ⟨(wh % (n : Int)).toNat, by omega⟩
  have HM : Hid (∀ W, Calls Tryz.prog 14 #[.int .i64 wh, .int .i64 (n : Int)] W fun e w' => e = .returned (.int .i64 (k : Int)) ∧ w' = W) := fun W => by
    have := bk_mod wh (n : Int) W HWH.out.1 HWH.out.2 (by omega) (by omega)
    rw [hk] at this
    exact this
  rw [hk] at q0 q1
  have hkn : k < n := by omega
  obtain ⟨q, hq⟩ : ∃ q, s1.all[k]? = some q := ⟨s1.all[k]'(by omega), List.getElem?_eq_getElem (by omega)⟩
  obtain ⟨g, cap2, hv, g0, g1, g2, g3⟩ := b1.ones k q hq
  rw [hn] at hv
  have b9 : w4.cell? ⟨bb, 9, none⟩ = some (.slice (some ⟨g, 0, none⟩) n cap2) := by rw [b1.c 9]; show some s1.av = _; rw [hv]
  have bN : w4.cell? ⟨bb, 2, none⟩ = some (.int .i64 (N : Int)) := by rw [← H3.out.2.1, ← j4]; exact (b1.c 2).trans rfl
  obtain ⟨kd, hkd⟩ : ∃ x, q.o.kd = x := ⟨_, rfl⟩
  have bk : w4.cell? ⟨g, k * 12, none⟩ = some (.int .i64 (kd : Int)) := by rw [← hkd]; exact (b1.cells hv k q hq (k * 12) rfl 0 (by decide)).trans rfl
  obtain ⟨bd, hbd, hal⟩ := al_bound j1 hq
  rw [hkd, j4, H3.out.2.1] at hbd
  have N24 : N ≤ 24 := by have := j1.n0; have := H3.out.2.1; omega
  have HQ : Hid (AlQ w2 W1.heap.size bb l N n k bd 0 w4) := ⟨s1, G1, q, b1, j1, H3.out.1.trans b2, j4.trans H3.out.2.1, hn, hq, fun _ => hal⟩
  have hbd2 : bd ≤ 108 := by
    rw [hbd]
    split
    · omega
    · split <;> omega
  obtain ⟨m4, hm4⟩ : ∃ x : Nat, 4 * N = x := ⟨_, rfl⟩
  obtain ⟨m12, hm12⟩ : ∃ x : Nat, m4 + 12 = x := ⟨_, rfl⟩
  obtain ⟨n1, hn1'⟩ : ∃ x : Nat, N + 1 = x := ⟨_, rfl⟩
  rw [hm4, hm12, hn1'] at hbd
  have x1 : IntKind.i64.wrap (4 * (N : Int)) = (m4 : Int) := by rw [IntKind.wrap_i64]; omega
  have x2 : IntKind.i64.wrap ((m4 : Int) + 12) = (m12 : Int) := by rw [IntKind.wrap_i64]; omega
  have x3 : IntKind.i64.wrap ((N : Int) + 1) = (n1 : Int) := by rw [IntKind.wrap_i64]; omega
  obtain ⟨t0, ht0⟩ : ∃ x, ((kd : Int) == 0) = x := ⟨_, rfl⟩
  obtain ⟨t2, ht2⟩ : ∃ x, ((kd : Int) == 2) = x := ⟨_, rfl⟩
  have HBD : Hid (bd = if t0 = true then 5 else if t2 = true then n1 else m12) := by
    show _ = _
    rw [hbd, ← ht0, ← ht2]
    by_cases e0 : kd = 0
    · subst e0; rfl
    · have : ((kd : Int) == 0) = false := beq_eq_false_iff_ne.2 (by omega)
      rw [if_neg e0, this]
      by_cases e2 : kd = 2
      · subst e2; rfl
      · have : ((kd : Int) == 2) = false := beq_eq_false_iff_ne.2 (by omega)
        rw [if_neg e2, this]
        rfl
  have H20 : Hid (t0 = true → t2 = false) := by
    intro e
    rw [← ht2]
    rw [← ht0] at e
    have : (kd : Int) = 0 := by simpa using e
    rw [this]
    rfl
  obtain ⟨y5, hy5⟩ : ∃ x : Int, (if t0 = true then 5 else (m12 : Int)) = x := ⟨_, rfl⟩
  have HY5 : Hid ((if t0 = true then 5 else (m12 : Int)) = y5) := hy5
  have hm : bd ≤ 108 ∧ n ≤ 1048576 := ⟨hbd2, hn1.2⟩
  clear b1 b2 j1 j2 j3 j4 j5 j6 j7 hn hn1 hk hq hv g0 g1 g2 g3 hkd hbd hal hm4 hm12 hn1' hy5 HST N24 hbd2
  obtain ⟨wq, hwq⟩ : ∃ x, w4 = x := ⟨_, rfl⟩
  have HWQ : Hid (w4 = wq) := hwq
  clear hwq
  go_wp2_with fail
  refine (HM.out _).mono ?_
  rintro e w9 ⟨rfl, hw9⟩
  rw [hw9]
  clear hw9 w9 HM
  go_upto_if 48 with fail
  go_cut [8] (fun v wx => v = .int .i64 y5 ∧ Hid (wx = wq))
  case first =>
    cases t0 with
    | true =>
      have e : y5 = 5 := by rw [← HY5.out]; rfl
      subst e
      go_wp2_with fail
      go_meet
      case rel => exact ⟨rfl, HWQ⟩
    | false =>
      have e : y5 = (m12 : Int) := by rw [← HY5.out]; rfl
      subst e
      go_wp2_with fail
      go_meet
      case rel => exact ⟨rfl, HWQ⟩
  case rest =>
    obtain ⟨rfl, hc⟩ := hcut
    have ew := hc.out
    rw [← HWQ.out] at ew
    subst ew
    clear hc x1 x2
    go_upto_if 57 with fail
    go_cut [8] (fun v wx => v = .int .i64 (bd : Int) ∧ Hid (wx = wq))
    case first =>
      cases t2 with
      | true =>
        have e0 : t0 = false := by
          cases t0 with
          | true => cases H20.out rfl
          | false => rfl
        have e : (n1 : Int) = (bd : Int) := by
          have := HBD.out
          rw [e0] at this
          rw [this]
          rfl
        clear ht0 HBD HY5 H20
        go_wp2_with fail
        go_meet
        case rel => exact ⟨by first | rfl | rw [e], HWQ⟩
      | false =>
        have e : y5 = (bd : Int) := by
          have h1 := HBD.out
          have h2 := HY5.out
          rw [← h2, h1]
          cases t0 <;> rfl
        clear ht0 HBD HY5 H20 x3
        go_wp2_with fail
        go_meet
        case rel => exact ⟨by first | rfl | rw [e], HWQ⟩
    case rest =>
      obtain ⟨rfl, hc⟩ := hcut
      have ew := hc.out
      rw [← HWQ.out] at ew
      subst ew
      clear hc x3 HWQ ht0 ht2 HBD HY5 H20 bN bk b9
      go_wp2_with fail
      go_loopw [9] (fun i wr => ∃ t : Nat, t ≤ bd ∧ i = .int .i64 (t : Int) ∧ Hid (AlQ w2 W1.heap.size bb l N n k bd t wr)) (fun i _ => bd - (intOf i).toNat)
      case atStart => exact ⟨0, by omega, rfl, HQ⟩
      case round =>
        clear HQ
        obtain ⟨t, ht, rfl, hI⟩ := hrel
        obtain ⟨s, G, q, h1, h2, h4, h5, h6, hq, hb⟩ := hI.out
        obtain ⟨g, cap2, hv, g0, g1, g2, g3⟩ := h1.ones k q hq
        rw [h6] at hv
        obtain ⟨dn, hdn⟩ : ∃ x, q.o.dn = x := ⟨_, rfl⟩
        have c9 : wr.cell? ⟨bb, 9, none⟩ = some (.slice (some ⟨g, 0, none⟩) n cap2) := by rw [h1.c 9]; show some s.av = _; rw [hv]
        have c5 : wr.cell? ⟨g, k * 12 + 5, none⟩ = some (.bool dn) := by rw [← hdn]; exact (h1.cells hv k q hq (k * 12) rfl 5 (by decide)).trans rfl
        have t0 : (0 : Int) ≤ (t : Int) := Int.natCast_nonneg _
        by_cases hc : t < bd ∧ dn = false
        · obtain ⟨hc1, rfl⟩ := hc
          have t1 : (t : Int) < (bd : Int) := by omega
          have HMV : Hid (∀ _ : Unit, _) := fun _ => bk_move wr W1.heap.size bb l s G k q h1 h2 hq (by omega)
          have HE : Hid (∀ W, (∃ s' G' o', BkM W W1.heap.size bb l s' ∧ Below W1.heap.size wr W ∧ Mvd s G k q.o s' G' o') → AlQ w2 W1.heap.size bb l N n k bd (t + 1) W) := by
            rintro W ⟨s', G', o', b1, b2, b3⟩
            exact AlQ.next h4 h5 h6 hq hdn (hb hdn) b1 b2 b3
          clear h1 h2 h4 h5 h6 hq hb hI hv g0 g1 g2 g3 hdn
          go_wp2_with fail
          refine (HMV.out ()).mono ?_
          rintro e w5 ⟨rfl, hx⟩
          have H5 : Hid (AlQ w2 W1.heap.size bb l N n k bd (t + 1) w5) := HE.out w5 hx
          clear hx HMV HE c9 c5
          go_wp2
          go_roundw
          case rel => exact ⟨t + 1, by omega, by go_num, H5⟩
          case measure => simp [intOf]; omega
        · have ed : dn = true := by
            cases hd : dn with
            | true => rfl
            | false =>
              rw [hd] at hdn
              have k1 := hb hdn
              have k2 := oAl_pos (x := s.x) (h2.ok hq) hdn
              exact absurd ⟨by omega, hd⟩ hc
          subst ed
          have HF : Hid (Below w.heap.size w wr) := H2.out.trans (h4.mono H1.out.1.size)
          clear h1 h2 h4 h5 h6 hq hb hI hv g0 g1 g2 g3 hdn hc
          by_cases hc1 : t < bd
          · have t1 : (t : Int) < (bd : Int) := by omega
            go_wp2
            go_ret
            exact ⟨rfl, HF.out⟩
          · have t1 : ¬ (t : Int) < (bd : Int) := by omega
            go_wp2
            go_ret
            exact ⟨rfl, HF.out⟩
section
variable {H : Type} {enc : TypeId × Value → H} {W : World}
theorem chainAlone_open {f0 : Nat} {c0 : Array Value} {x0 : DataW H × List MemPlace} (h0 : DataW.trod enc Tryz.prog W 0 (fun _ => true) true f0 24 c0.toList = some x0) (b0 : Rows.uptoBulk x0.1 ≤ 1048576) (wh : Int) (hw : (Lit.int .i64 wh).wf = true) :
    Calls Tryz.prog 5 #[.agg c0, .int .i64 wh] W fun e w' => e = .returned (.bool true) ∧ Below W.heap.size W w' := by
  obtain ⟨pa, pb, ao, cap, ms, e0, g0, l0, k0, wa, wb⟩ := open_pn h0 b0
  obtain rfl : c0 = #[.int .i64 pa, .int .i64 pb, .slice ao ms.length cap] := by cases c0; simp_all
  exact chainAlone_walk W pa pb ao cap ms g0 l0 k0 wa wb wh (bounds_i64 hw)
end
end Go.Proofs.YteekompojgbkhaaGreat
namespace Go.Proofs.YteekompojgbkhaaGreat
set_option linter.unusedSimpArgs false
open Go.ChangeShapes Go.WideShapes Go.ChangeAt Go.RowKit Go.MuLone Go.RwLone
set_option linter.unusedVariables false
set_option maxRecDepth 100000
set_option maxHeartbeats 6400000
abbrev mostN (N : Nat) : Nat := (3 * N + 2) * (3 * N + 8)
theorem bk_most (w : World) (bb N m : Nat) (b2 : w.cell? ⟨bb, 2, none⟩ = some (.int .i64 (N : Int))) (hN : N ≤ 24) (hm : mostN N = m) : Calls Tryz.prog 27 #[.pointer (some ⟨bb, 0, none⟩)] w fun e w' => e = .returned (.int .i64 (m : Int)) ∧ w' = w.drew := by
  obtain ⟨a, ha⟩ : ∃ x : Nat, 3 * N = x := ⟨_, rfl⟩
  obtain ⟨b, hb⟩ : ∃ x : Nat, a + 2 = x := ⟨_, rfl⟩
  obtain ⟨c, hc⟩ : ∃ x : Nat, a + 8 = x := ⟨_, rfl⟩
  have x1 : IntKind.i64.wrap (3 * (N : Int)) = (a : Int) := by rw [IntKind.wrap_i64]; omega
  have x2 : IntKind.i64.wrap ((a : Int) + 2) = (b : Int) := by rw [IntKind.wrap_i64]; omega
  have x3 : IntKind.i64.wrap ((a : Int) + 8) = (c : Int) := by rw [IntKind.wrap_i64]; omega
  have x4 : IntKind.i64.wrap ((b : Int) * (c : Int)) = (m : Int) := by
    have e : b * c = m := by rw [← hm, ← hb, ← hc, ← ha]
    have l : b * c ≤ 74 * 80 := Nat.mul_le_mul (by omega) (by omega)
    have e2 : (b : Int) * (c : Int) = (m : Int) := by rw [← e]; exact (Int.natCast_mul b c).symm
    rw [IntKind.wrap_i64, e2]
    omega
  have sx : w.drew.cell? ⟨bb, 2, none⟩ = some (.int .i64 (N : Int)) := b2
  clear ha hb hc hm b2
  go_enter Tryz.func27, Tryz.ntmps27
  go_wp2_with fail
  (refine wp_region_held_drew (S := (fun Z => Z.cell? ⟨bb, 2, none⟩ = some (.int .i64 (N : Int)))) (by kernel_rfl) sx (fun hHeld => ?_); simp only [List.size_toArray, List.length_cons, List.length_nil, Nat.reduceAdd, Array.replicate_succ, Array.replicate_zero, List.push_toArray, List.append_toArray, List.nil_append, List.cons_append])
  clear sx
  refine rgT 0 (h := ?_)
  refine rgT 1 (h := ?_)
  refine rgT 2 (h := ?_)
  refine rgT 3 (h := ?_)
  refine rgT 4 (h := ?_)
  refine rgT 5 (h := ?_)
  refine rgT 6 (h := ?_)
  refine rgT 7 (h := ?_)
  refine rgT 8 (h := ?_)
  refine rgT 9 (h := ?_)
  refine rgT 10 (h := ?_)
  refine rgT 11 (h := ?_)
  refine rgT 12 (h := ?_)
  refine rgT 13 (h := ?_)
  refine wpAnyH_done (by kernel_rfl) ?_ _
  clear hHeld
  go_wp2
  go_ret
  exact ⟨rfl, rfl⟩
/-- What is left of the machines, the first k of them moved in round t. -/
def InQ (w0 : World) (B bb : Nat) (l : BkL) (N n M t k c : Nat) (W : World) : Prop := ∃ s G, BkM W B bb l s ∧ BkJ s G ∧ Below B w0 W ∧ s.N = N ∧ s.all.length = n ∧ c ≤ k ∧ (t = M → c = 0) ∧ ∀ i q, s.all[i]? = some q → q.o.dn = false → (i < k → phi N (bkO s.nb) G q.o + (t + 1) ≤ M) ∧ phi N (bkO s.nb) G q.o + t ≤ M
theorem BkJ.phi1 {s : BkS} {G : Gb} {q : OL} {i : Nat} (h : BkJ s G) (hq : s.all[i]? = some q) (hd : q.o.dn = false) : 1 ≤ phi s.N (bkO s.nb) G q.o := phi_pos (h.ok hq) hd
theorem InQ.skip {w0 W : World} {B bb N n M t k c : Nat} {l : BkL} {s : BkS} {G : Gb} {q : OL} (h1 : BkM W B bb l s) (h2 : BkJ s G) (h3 : Below B w0 W) (h4 : s.N = N) (h5 : s.all.length = n) (h6 : c ≤ k) (h7 : t = M → c = 0) (h8 : ∀ i q, s.all[i]? = some q → q.o.dn = false → (i < k → phi N (bkO s.nb) G q.o + (t + 1) ≤ M) ∧ phi N (bkO s.nb) G q.o + t ≤ M) (hq : s.all[k]? = some q) (hd : q.o.dn = true) : InQ w0 B bb l N n M t (k + 1) c W := by
  refine ⟨s, G, h1, h2, h3, h4, h5, by omega, h7, fun i p hp hpd => ⟨fun hi => ?_, (h8 i p hp hpd).2⟩⟩
  by_cases e : i = k
  · rw [e, hq] at hp
    cases hp
    rw [hd] at hpd
    cases hpd
  · exact (h8 i p hp hpd).1 (by omega)
theorem InQ.next {w0 W W' : World} {B bb N n M t k c : Nat} {l : BkL} {s s' : BkS} {G G' : Gb} {q : OL} {o' : On} (h2 : BkJ s G) (h3 : Below B w0 W) (h4 : s.N = N) (h5 : s.all.length = n) (h6 : c ≤ k) (h7 : t = M → c = 0) (h8 : ∀ i q, s.all[i]? = some q → q.o.dn = false → (i < k → phi N (bkO s.nb) G q.o + (t + 1) ≤ M) ∧ phi N (bkO s.nb) G q.o + t ≤ M) (hq : s.all[k]? = some q) (hd : q.o.dn = false) (b1 : BkM W' B bb l s') (b2 : Below B W W') (b3 : Mvd s G k q.o s' G' o') : InQ w0 B bb l N n M t (k + 1) (c + 1) W' := by
  obtain ⟨j1, j2, j3, j4, j5, j6⟩ := b3
  have hl := (List.getElem?_eq_some_iff.1 hq).1
  have n0 := h2.n0
  have n1 := h2.n1
  have hb := bkO_in n1.1
  have r1 := j1.i.ranks
  obtain ⟨d1, d2, d3, d4⟩ := j2.2 hd
  have p1 := h2.phi1 hq hd
  have p2 := (h8 k q hq hd).2
  rw [h4] at p1
  have e : (s'.all.map OL.o)[k]? = some o' := by
    rw [j3]
    exact List.getElem?_set_self (by rw [List.length_map]; exact hl)
  rw [List.getElem?_map] at e
  obtain ⟨q', e1, e2⟩ := Option.map_eq_some_iff.1 e
  have own : o'.dn = false → phi N (bkO s.nb) G' o' + 1 ≤ phi N (bkO s.nb) G q.o := fun _ => by
    have a := h2.ok hq
    have b := j1.ok e1
    rw [j4, j5, e2] at b
    have gi := j1.i.g
    rw [j4, j5] at gi
    rw [← h4]
    exact phi_own d2 d3 a hd b h2.i.g gi (by omega) hb (by omega) n0.1
  have oth : ∀ i p, i ≠ k → s'.all[i]? = some p → ∃ p0, s.all[i]? = some p0 ∧ p0.o = p.o ∧ phi N (bkO s.nb) G' p.o ≤ phi N (bkO s.nb) G p.o := fun i p hi hp => by
    have f : (s'.all.map OL.o)[i]? = some p.o := by rw [List.getElem?_map, hp]; rfl
    rw [j3, List.getElem?_set_ne (fun e => hi e.symm), List.getElem?_map] at f
    obtain ⟨p0, f1, f2⟩ := Option.map_eq_some_iff.1 f
    refine ⟨p0, f1, f2, ?_⟩
    have a := h2.ok f1
    rw [f2] at a
    have b := j1.ok hp
    rw [j4, j5] at b
    have gi := j1.i.g
    rw [j4, j5] at gi
    rw [← h4]
    exact phi_oth d2 a b h2.i.g gi (by omega) hb (by omega) n0.1
  refine ⟨s', G', b1, j1, h3.trans b2, j4.trans h4, j6.trans h5, by omega, fun e => by omega, fun i p hp hpd => ?_⟩
  rw [j5]
  by_cases hi : i = k
  · subst hi
    rw [e1] at hp
    have hp : q' = p := Option.some.inj hp
    rw [← hp] at hpd ⊢
    rw [e2] at hpd ⊢
    have := own hpd
    exact ⟨fun _ => by omega, by omega⟩
  · obtain ⟨p0, f1, f2, f3⟩ := oth i p hi hp
    have g := h8 i p0 f1 (by rw [f2]; exact hpd)
    rw [f2] at g
    exact ⟨fun hlt => by have := g.1 (by omega); omega, by have := g.2; omega⟩
/-- What holds between the rounds. -/
def DrQ (w0 : World) (B bb : Nat) (l : BkL) (N n M t c : Nat) (W : World) : Prop := c ≤ n ∧ (t = M + 1 → c = 0) ∧ ∃ (s : BkS) (G : Gb), BkM W B bb l s ∧ BkJ s G ∧ Below B w0 W ∧ s.N = N ∧ s.all.length = n ∧ ∀ (i : Nat) (q : OL), s.all[i]? = some q → q.o.dn = false → phi N (bkO s.nb) G q.o + t ≤ M
theorem DrQ.go {w0 W : World} {B bb N n M t c : Nat} {l : BkL} (h : DrQ w0 B bb l N n M t c W) : InQ w0 B bb l N n M t 0 0 W := by
  obtain ⟨_, _, s, G, h1, h2, h3, h4, h5, h6⟩ := h
  exact ⟨s, G, h1, h2, h3, h4, h5, Nat.le_refl _, fun _ => rfl, fun i q hq hd => ⟨fun e => absurd e (Nat.not_lt_zero _), h6 i q hq hd⟩⟩
theorem InQ.done {w0 W : World} {B bb N n M t c : Nat} {l : BkL} (h : InQ w0 B bb l N n M t n c W) (ht : t ≤ M) : DrQ w0 B bb l N n M (t + 1) c W := by
  obtain ⟨s, G, h1, h2, h3, h4, h5, h6, h7, h8⟩ := h
  exact ⟨h6, fun e => h7 (by omega), s, G, h1, h2, h3, h4, h5, fun i q hq hd => (h8 i q hq hd).1 (by have := (List.getElem?_eq_some_iff.1 hq).1; omega)⟩
theorem BkJ.drain {s : BkS} {G : Gb} (h : BkJ s G) {w0 W : World} {B bb : Nat} {l : BkL} (b : BkM W B bb l s) (hb : Below B w0 W) : DrQ w0 B bb l s.N s.all.length (mostN s.N) 0 s.all.length W := ⟨Nat.le_refl _, fun e => by omega, s, G, b, h, hb, rfl, rfl, fun i q hq hd => phi_most (h.ok hq) h.i.g (by have := h.i.ranks; omega) h.n0.1⟩
theorem bk_drain (w : World) (B bb : Nat) (l : BkL) (s : BkS) (G : Gb) (h : BkM w B bb l s) (hJ : BkJ s G) (hl : s.all.length ≤ 1048576) : Calls Tryz.prog 16 #[.pointer (some ⟨bb, 0, none⟩)] w fun e w' => e = .returned (.bool true) ∧ Below B w w' ∧ ∃ t, DrQ w B bb l s.N s.all.length (mostN s.N) t 0 w' := by
  have n0 := hJ.n0
  obtain ⟨sp, cp, hv⟩ := h.a.form
  have b9 : w.cell? ⟨bb, 9, none⟩ = some (.slice sp s.all.length cp) := by rw [h.c 9]; show some s.av = _; rw [hv]
  have HD : Hid (DrQ w B bb l s.N s.all.length (mostN s.N) 0 s.all.length w) := hJ.drain h (Below.refl _ _)
  obtain ⟨n, hn⟩ : ∃ n, s.all.length = n := ⟨_, rfl⟩
  obtain ⟨N, hN⟩ : ∃ n, s.N = n := ⟨_, rfl⟩
  obtain ⟨M, hM⟩ : ∃ n, mostN N = n := ⟨_, rfl⟩
  rw [hn, hN] at HD ⊢
  rw [hn] at b9 hl
  rw [hN] at n0
  rw [hM] at HD ⊢
  have M1 : M ≤ 5920 := by
    rw [← hM]
    exact Nat.mul_le_mul (show 3 * N + 2 ≤ 74 by omega) (show 3 * N + 8 ≤ 80 by omega)
  have HMO : Hid (∀ _ : Unit, _) := fun _ => fun (W : World) (b2 : W.cell? ⟨bb, 2, none⟩ = some (.int .i64 (N : Int))) => bk_most W bb N M b2 n0.2 hM
  clear h hJ hv hn hN hM
  go_enter Tryz.func16, Tryz.ntmps16
  go_wp2_with fail
  clear b9
  go_loopw [3, 4] (fun cv tv wr => ∃ c t : Nat, t ≤ M + 1 ∧ tv = .int .i64 (t : Int) ∧ cv = .int .i64 (c : Int) ∧ Hid (DrQ w B bb l N n M t c wr)) (fun _ tv _ => M + 1 - (intOf tv).toNat)
  case atStart => exact ⟨n, 0, by omega, rfl, rfl, HD⟩
  case round =>
    clear HD
    obtain ⟨c, t, ht, rfl, rfl, hI⟩ := hrel
    obtain ⟨hc, hc0, s, G, h1, h2, h4, h5, h6, h7⟩ := hI.out
    have b2 : wr.cell? ⟨bb, 2, none⟩ = some (.int .i64 (N : Int)) := by rw [← h5]; exact (h1.c 2).trans rfl
    have HM : Hid (∀ _ : Unit, _) := fun _ => HMO.out () wr b2
    have HD : Hid (DrQ w B bb l N n M t c wr.drew) := ⟨hc, hc0, s, G, h1.drew, h2, h4.drew, h5, h6, h7⟩
    have t0 : (0 : Int) ≤ (t : Int) := Int.natCast_nonneg _
    have c0 : (0 : Int) ≤ (c : Int) := Int.natCast_nonneg _
    clear h1 h2 h4 h5 h6 h7 hI b2
    go_wp2_with fail
    refine (HM.out ()).mono ?_
    rintro e w2 ⟨rfl, hw2⟩
    rw [hw2]
    clear hw2 w2 HM
    generalize wr.drew = wd at *
    by_cases hg : t ≤ M ∧ 0 < c
    · have t1 : (t : Int) ≤ (M : Int) := by omega
      have c1 : (0 : Int) < (c : Int) := by omega
      have HI : Hid (InQ w B bb l N n M t 0 0 wd) := HD.out.go
      clear HD hc0
      go_wp2_with fail
      go_loopw [3, 5] (fun cv kv wr => ∃ c k : Nat, k ≤ n ∧ kv = .int .i64 (k : Int) ∧ cv = .int .i64 (c : Int) ∧ Hid (InQ w B bb l N n M t k c wr)) (fun _ kv _ => n - (intOf kv).toNat)
      case atStart => exact ⟨0, 0, by omega, rfl, rfl, HI⟩
      case round =>
        clear HI
        obtain ⟨c2, k, hk, rfl, rfl, hI⟩ := hrel
        obtain ⟨s, G, h1, h2, h3, h4, h5, h6, h7, h8⟩ := hI.out
        obtain ⟨sp, cp, hv⟩ := h1.a.form
        rw [h5] at hv
        have c9 : wr.cell? ⟨bb, 9, none⟩ = some (.slice sp n cp) := by rw [h1.c 9]; show some s.av = _; rw [hv]
        have k0 : (0 : Int) ≤ (k : Int) := Int.natCast_nonneg _
        by_cases hkn : k < n
        · have k1 : (k : Int) < (n : Int) := by omega
          obtain ⟨q, hq⟩ : ∃ q, s.all[k]? = some q := ⟨s.all[k]'(by omega), List.getElem?_eq_getElem (by omega)⟩
          obtain ⟨g, cap2, hv2, g0, g1, g2, g3⟩ := h1.ones k q hq
          rw [h5] at hv2
          have e9 : Value.slice sp n cp = .slice (some ⟨g, 0, none⟩) n cap2 := hv.symm.trans hv2
          rw [e9] at c9
          obtain ⟨dn, hdn⟩ : ∃ x, q.o.dn = x := ⟨_, rfl⟩
          have c5 : wr.cell? ⟨g, k * 12 + 5, none⟩ = some (.bool dn) := by rw [← hdn]; exact (h1.cells hv2 k q hq (k * 12) rfl 5 (by decide)).trans rfl
          cases dn with
          | true =>
            have H9 : Hid (InQ w B bb l N n M t (k + 1) c2 wr) := InQ.skip h1 h2 h3 h4 h5 h6 h7 h8 hq hdn
            clear h1 h2 h3 h4 h5 h6 h7 h8 hv hv2 e9 g0 g1 g2 g3 hq hdn hI
            go_wp2
            go_roundw
            case rel => exact ⟨c2, k + 1, by omega, by go_num, rfl, H9⟩
            case measure => simp [intOf]; omega
          | false =>
            have HMV : Hid (∀ _ : Unit, _) := fun _ => bk_move wr B bb l s G k q h1 h2 hq (by omega)
            have HE : Hid (∀ W, (∃ s' G' o', BkM W B bb l s' ∧ Below B wr W ∧ Mvd s G k q.o s' G' o') → InQ w B bb l N n M t (k + 1) (c2 + 1) W) := by
              rintro W ⟨s', G', o', b1, b2, b3⟩
              exact InQ.next h2 h3 h4 h5 h6 h7 h8 hq hdn b1 b2 b3
            have hck : c2 ≤ k := h6
            clear h1 h2 h3 h4 h5 h6 h7 h8 hv hv2 e9 g0 g1 g2 g3 hq hdn hI
            go_wp2_with fail
            refine (HMV.out ()).mono ?_
            rintro e w5 ⟨rfl, hx⟩
            have H9 : Hid (InQ w B bb l N n M t (k + 1) (c2 + 1) w5) := HE.out w5 hx
            clear hx HMV HE c9 c5
            go_wp2
            go_roundw
            case rel => exact ⟨c2 + 1, k + 1, by omega, by go_num, by go_num, H9⟩
            case measure => simp [intOf]; omega
        · have k1 : ¬ (k : Int) < (n : Int) := by omega
          have ek : k = n := by omega
          have H9 : Hid (DrQ w B bb l N n M (t + 1) c2 wr) := by
            have := hI.out
            rw [ek] at this
            exact this.done hg.1
          clear h1 h2 h3 h4 h5 h6 h7 h8 hv hI ek
          go_wp2
          go_roundw
          case rel => exact ⟨c2, t + 1, by omega, by go_num, rfl, H9⟩
          case measure => simp [intOf]; omega
    · have hz : c = 0 := by
        by_cases e : t ≤ M
        · omega
        · exact hc0 (by omega)
      subst hz
      have HF : Hid (Below B w wd ∧ ∃ t, DrQ w B bb l N n M t 0 wd) := by
        obtain ⟨_, _, s, G, _, _, h4, _⟩ := HD.out
        exact ⟨h4, t, HD.out⟩
      clear HD hc0
      by_cases e : t ≤ M
      · have t1 : (t : Int) ≤ (M : Int) := by omega
        go_wp2
        go_ret
        exact ⟨rfl, HF.out⟩
      · have t1 : ¬ (t : Int) ≤ (M : Int) := by omega
        go_wp2
        go_ret
        exact ⟨rfl, HF.out⟩
theorem chainSeen_walk (w : World) (pa pb : Int) (ao : Option Addr) (cap : Nat) (ms : List (Int × Int)) (hin : InG mvC w w.heap.size (.slice ao ms.length cap) ms) (hl : ms.length ≤ 524288) (hbd : ∀ o ∈ ms, i64ok o.1 ∧ i64ok o.2) (ha : i64ok pa) (hb : i64ok pb) : Calls Tryz.prog 6 #[.agg #[.int .i64 pa, .int .i64 pb, .slice ao ms.length cap]] w fun e w' => e = .returned (.bool true) ∧ Below w.heap.size w w' := by
  have g1 := heap_alloc_new w (.cells #[.int .i64 pa, .int .i64 pb, .slice ao ms.length cap] 24)
  obtain ⟨W1, hW1⟩ : ∃ W, w.alloc (.cells #[.int .i64 pa, .int .i64 pb, .slice ao ms.length cap] 24) = W := ⟨_, rfl⟩
  rw [hW1] at g1
  have hb1 : Below w.heap.size w W1 := by rw [← hW1]; exact (Below.refl _ _).alloc (Nat.le_refl _) _
  have hsz : W1.heap.size = w.heap.size + 1 := by rw [← hW1]; simp
  have o0 : W1.cell? ⟨w.heap.size, 0, none⟩ = some (.int .i64 pa) := (cell?_heap g1 0).trans rfl
  have o1 : W1.cell? ⟨w.heap.size, 0 + 1, none⟩ = some (.int .i64 pb) := (cell?_heap g1 1).trans rfl
  have o2 : W1.cell? ⟨w.heap.size, 0 + 1 + 1, none⟩ = some (.slice ao ms.length cap) := (cell?_heap g1 2).trans rfl
  have H1 : Hid (Below w.heap.size w W1 ∧ W1.heap[w.heap.size]? = some (.cells #[.int .i64 pa, .int .i64 pb, .slice ao ms.length cap] 24) ∧ InG mvC W1 W1.heap.size (.slice ao ms.length cap) ms ∧ W1.heap.size = w.heap.size + 1) := ⟨hb1, g1, (hin.later hb1).up hb1.size, hsz⟩
  have HBD : Hid (∀ o ∈ ms, i64ok o.1 ∧ i64ok o.2) := hbd
  have HL : Hid (ms.length ≤ 524288) := hl
  have HA : Hid (∀ _ : Unit, _) := fun _ => bk_begin W1 pa pb ao ms.length cap ha hb
  clear hin g1 hb1 hsz hl hbd ha hb
  go_enter Tryz.func6, Tryz.ntmps6
  go_wp2_with fail
  clear hW1
  refine (HA.out ()).mono ?_
  rintro e w2 ⟨bb, rfl, l, N, nb, hP, hpk⟩
  have hb2 := hP.below
  have hlt : w.heap.size < W1.heap.size := by have := H1.out.2.2.2; omega
  have p0 : w2.cell? ⟨w.heap.size, 0, none⟩ = some (.int .i64 pa) := (hb2.cell (p := ⟨w.heap.size, 0, none⟩) hlt).trans o0
  have p1 : w2.cell? ⟨w.heap.size, 0 + 1, none⟩ = some (.int .i64 pb) := (hb2.cell (p := ⟨w.heap.size, 0 + 1, none⟩) hlt).trans o1
  have p2 : w2.cell? ⟨w.heap.size, 0 + 1 + 1, none⟩ = some (.slice ao ms.length cap) := (hb2.cell (p := ⟨w.heap.size, 0 + 1 + 1, none⟩) hlt).trans o2
  have H2 : Hid (Below w.heap.size w w2) := H1.out.1.trans (hb2.mono H1.out.1.size)
  have HP : Hid (∀ _ : Unit, _) := fun _ => bk_play w2 W1.heap.size bb l N nb 0 pa pb ao cap ms false false hP.base (H1.out.2.2.1.later hb2) HL.out (by have := HL.out; omega) HBD.out (fun x _ => by rw [hpk])
  clear hP hpk hb2 hlt o0 o1 o2 HA HBD
  go_wp2_with fail
  refine (HP.out ()).mono ?_
  rintro e w3 ⟨rfl, s, G, h1, h2, h3, h4, h5, h6⟩
  have HDR : Hid (∀ _ : Unit, _) := fun _ => bk_drain w3 W1.heap.size bb l s G h1 h2 (by have := HL.out; omega)
  have H3 : Hid (Below w.heap.size w w3) := H2.out.trans (h3.mono H1.out.1.size)
  clear h1 h2 h3 h4 h5 h6 HP p0 p1 p2
  go_wp2_with fail
  refine (HDR.out ()).mono ?_
  rintro e w4 ⟨rfl, h4, -⟩
  have HF : Hid (Below w.heap.size w w4) := H3.out.trans (h4.mono H1.out.1.size)
  clear h4 HDR H3 H2 H1
  go_wp2
  go_ret
  exact ⟨rfl, HF.out⟩
section
variable {H : Type} {enc : TypeId × Value → H} {W : World}
theorem chainSeen_open {f0 : Nat} {c0 : Array Value} {x0 : DataW H × List MemPlace} (h0 : DataW.trod enc Tryz.prog W 0 (fun _ => true) true f0 24 c0.toList = some x0) (b0 : Rows.uptoBulk x0.1 ≤ 1048576) :
    Calls Tryz.prog 6 #[.agg c0] W fun e w' => e = .returned (.bool true) ∧ Below W.heap.size W w' := by
  obtain ⟨pa, pb, ao, cap, ms, e0, g0, l0, k0, wa, wb⟩ := open_pn h0 b0
  obtain rfl : c0 = #[.int .i64 pa, .int .i64 pb, .slice ao ms.length cap] := by cases c0; simp_all
  exact chainSeen_walk W pa pb ao cap ms g0 l0 k0 wa wb
end
end Go.Proofs.YteekompojgbkhaaGreat
