import Derived.Test.YtjkipbjphdfemaaDoorSums5
namespace Go.Proofs.YtjkipbjphdfemaaDoor
open Go.ChangeShapes Go.WideShapes Go.ChangeAt Go.RowKit Go.MuLone
set_option linter.unusedVariables false

theorem num_any (e : Int) (w : World) : Calls Tryd.prog 9 #[.int .i64 e] w fun r w' => r = .returned (.int .i64 e) ∧ w' = w := by
  go_enter Tryd.func9, Tryd.ntmps9
  go_wp2
  go_ret
  exact ⟨rfl, rfl⟩
def markT : ByteArray := ⟨#[109, 97, 114, 107]⟩
theorem SeesS.later {w w' : World} {B : Nat} {v : Value} {ps : List ByteArray} (h : SeesS w B v ps) (hb : Below B w w') : SeesS w' B v ps := by
  obtain ⟨a, cap, e, h1, h2, h3⟩ := h
  refine ⟨a, cap, e, h1, h2, fun i hi => ?_⟩
  obtain ⟨b, o, e1, e2, e3⟩ := h3 i hi
  exact ⟨b, o, e1, e2, (hb.cell (p := ⟨b, o + i, none⟩) e2).trans e3⟩
theorem SeesS.mono {w : World} {B B' : Nat} {v : Value} {ps : List ByteArray} (h : SeesS w B v ps) (hb : B ≤ B') : SeesS w B' v ps := by
  obtain ⟨a, cap, e, h1, h2, h3⟩ := h
  refine ⟨a, cap, e, h1, h2, fun i hi => ?_⟩
  obtain ⟨b, o, e1, e2, e3⟩ := h3 i hi
  exact ⟨b, o, e1, by omega, e3⟩
theorem HalfAt.later' {w w' : World} {M : Nat} (h : HalfAt w) (hb : Below M w w') (hg : 0 < M) : HalfAt w' := fun j hj => (hb.cell (p := ⟨0, j, none⟩) hg).trans (h j hj)
def SmS (w : World) (M : Nat) (a c c0 : Value) (ps : List ByteArray) (W : World) : Prop :=
  SeesS W M a ps ∧ SeesS W M c0 ps ∧ SeesS W M c (ps ++ [markT]) ∧ M ≤ W.heap.size ∧ w.heap.size ≤ M ∧ Below w.heap.size w W ∧ HalfAt W ∧ 0 < M
section
variable {w : World} {M : Nat} {a c c0 : Value} {ps : List ByteArray}
theorem SmS.later {W W' : World} (h : SmS w M a c c0 ps W) (hb : Below M W W') : SmS w M a c c0 ps W' := by
  obtain ⟨h1, h2, h3, h4, h5, h6, h7, h8⟩ := h
  exact ⟨h1.later hb, h2.later hb, h3.later hb, Nat.le_trans h4 hb.size, h5, h6.trans (hb.mono h5), h7.later' hb h8, h8⟩
theorem smS_1 {W : World} (hps : ∀ p ∈ ps, p.size ≤ 9223372036854775807) (h : SmS w M a c c0 ps W) : Calls Tryd.prog 6 #[c0] W fun e w' => e = .returned (.int .u32 (crN (joinS ps) : Nat)) ∧ Hid (SmS w M a c c0 ps w') :=
  (checksum_any c0 ps M W h.2.2.2.1 h.2.1 hps h.2.2.2.2.2.2.1 h.2.2.2.2.2.2.2).mono fun e w' ⟨he, hb⟩ => ⟨he, h.later hb⟩
theorem smS_2 {W : World} {s : ByteArray} {x : Nat} (hx : x < 4294967296) (hz : s.size ≤ 9223372036854775807) (h : SmS w M a c c0 ps W) : Calls Tryd.prog 7 #[.int .u32 (x : Int), .string s] W fun e w' => e = .returned (.int .u32 (4294967295 - ovN (4294967295 - x) s.data.toList : Nat)) ∧ Hid (SmS w M a c c0 ps w') :=
  (extend_any x s W hx hz h.2.2.2.2.2.2.1).mono fun e w' ⟨he, hb⟩ => ⟨he, h.later (hb.mono h.2.2.2.1)⟩
end
theorem SmS.at {w W : World} {M g cap capa : Nat} {ao : Option Addr} {c0 : Value} {ps : List ByteArray} (h : SmS w M (.slice ao ps.length capa) (.slice (some ⟨g, 0, none⟩) (ps.length + 1) cap) c0 ps W) (q : Nat) (hq : q < ps.length) :
    ∃ b o, ao = some ⟨b, o, none⟩ ∧ W.cell? ⟨b, o + q, none⟩ = some (.string ps[q]) ∧ W.cell? ⟨g, q, none⟩ = some (.string ps[q]) := by
  obtain ⟨_, _, ea, _, _, ca⟩ := h.1
  obtain ⟨_, _, ec, _, _, cc⟩ := h.2.2.1
  simp only [Value.slice.injEq] at ea ec
  obtain ⟨rfl, _, _⟩ := ea
  obtain ⟨rfl, _, _⟩ := ec
  obtain ⟨b1, o1, e1, _, y0⟩ := ca q hq
  obtain ⟨b2, o2, e2, _, z0⟩ := cc q (by simp; omega)
  simp only [Option.some.injEq, Addr.mk.injEq, and_true] at e2
  obtain ⟨rfl, rfl⟩ := e2
  rw [List.getElem_append_left hq, Nat.zero_add] at z0
  exact ⟨b1, o1, e1, y0, z0⟩
theorem SmS.mark {w W : World} {M g cap : Nat} {a c0 : Value} {ps : List ByteArray} (h : SmS w M a (.slice (some ⟨g, 0, none⟩) (ps.length + 1) cap) c0 ps W) : W.cell? ⟨g, ps.length, none⟩ = some (.string ⟨#[109, 97, 114, 107]⟩) := by
  obtain ⟨_, _, ec, _, _, cc⟩ := h.2.2.1
  simp only [Value.slice.injEq] at ec
  obtain ⟨rfl, _, _⟩ := ec
  obtain ⟨b2, o2, e2, _, z0⟩ := cc ps.length (by simp)
  simp only [Option.some.injEq, Addr.mk.injEq, and_true] at e2
  obtain ⟨rfl, rfl⟩ := e2
  simp only [List.getElem_concat_length, Nat.zero_add] at z0
  exact z0
theorem mine_form {W : World} {B : Nat} {v : Value} {ps : List ByteArray} (h : ownS W B v (ps ++ [markT])) (h47 : ps.length + 1 ≤ 140737488355328) : ∃ g cap, v = .slice (some ⟨g, 0, none⟩) (ps.length + 1) cap ∧ ps.length + 1 ≤ cap ∧ SeesS W W.heap.size (.slice (some ⟨g, 0, none⟩) ps.length cap) ps ∧ SeesS W W.heap.size (.slice (some ⟨g, 0, none⟩) (ps.length + 1) cap) (ps ++ [markT]) := by
  have hl : (ps ++ [markT]).length = ps.length + 1 := by simp
  rcases h.2 with ⟨_, h2⟩ | ⟨g, cap, cur, e, _⟩
  · rw [hl] at h2; omega
  · rw [hl] at e
    subst e
    have s1 := ownS.sees (us := ps) h hl (by simp) (by omega) (by omega)
    have s2 := ownS.sees (us := ps ++ [markT]) h hl (by rw [List.take_length]) (by omega) (by omega)
    rw [hl] at s2
    exact ⟨g, cap, rfl, s1.2, s1.1, s2.1⟩
theorem mine_start {w W : World} {M : Nat} {a c c0 : Value} {ps : List ByteArray} (h1 : SeesS w w.heap.size a ps) (hM : M = w.heap.size) (hT : HalfAt w) (hb : Below M w W) (hs : SeesS W W.heap.size c0 ps ∧ SeesS W W.heap.size c (ps ++ [markT])) : SmS w W.heap.size a c c0 ps W := by
  subst hM
  exact ⟨(h1.later hb).mono hb.size, hs.1, hs.2, Nat.le_refl _, hb.size, hb, hT.later hb, Nat.lt_of_lt_of_le (half_pos hT) hb.size⟩
set_option maxRecDepth 100000 in
set_option maxHeartbeats 3200000 in
theorem sums_walk (a : Value) (ps : List ByteArray) (su ot : Int) (s : ByteArray) (n : Int) (w : World) (ha : SeesS w w.heap.size a ps) (hr : (ps.length + 1) * 16 ≤ 140737488355328) (hps : ∀ p ∈ ps, p.size ≤ 9223372036854775807)
    (ws : (Lit.int .u32 su).wf = true) (wo : (Lit.int .u32 ot).wf = true) (hz : s.size ≤ 140737488351232) (wn : (Lit.int .i64 n).wf = true) (hT : HalfAt w) :
    Calls Tryd.prog 5 #[a, .int .u32 su, .int .u32 ot, .string s, .int .i64 n] w fun e w' => e = .returned (.bool true) ∧ Below w.heap.size w w' := by
  have bs := bounds_u32 ws
  have bo := bounds_u32 wo
  have bn := bounds_i64 wn
  clear ws wo wn
  obtain ⟨c, rfl⟩ : ∃ c : Nat, su = (c : Int) := ⟨su.toNat, by omega⟩
  obtain ⟨d, rfl⟩ : ∃ d : Nat, ot = (d : Int) := ⟨ot.toNat, by omega⟩
  have hc : c < 4294967296 := by omega
  have hd : d < 4294967296 := by omega
  have HA0 : Hid (SeesS w w.heap.size a ps) := ha
  obtain ⟨ao, capa, rfl, hla, hca, hsa⟩ := ha
  have HA : Hid _ := hsa
  have HT : Hid (HalfAt w) := hT
  clear hsa hT bs bo
  obtain ⟨M, hMe⟩ : ∃ M, M = w.heap.size := ⟨_, rfl⟩
  have HM : Hid (M = w.heap.size) := hMe
  have hMw : M ≤ w.heap.size := by omega
  clear hMe
  rw [← HM.out]
  go_enter Tryd.func5, Tryd.ntmps5
  go_wp2_with fail
  go_loopw [11, 12] (fun c i wr => ∃ k : Nat, k ≤ ps.length ∧ i = .int .i64 k ∧ ownS wr M c (ps.take k) ∧ Below M w wr) (fun _ i _ => ps.length - (intOf i).toNat)
  case atStart => exact ⟨0, by omega, rfl, ownS_nil _ _, Below.refl _ _⟩
  case round =>
    obtain ⟨k, hk1, rfl, hown, hbel⟩ := hrel
    have HBl : Hid (Below M w wr) := hbel
    have HO : Hid (ownS wr M _ (ps.take k)) := hown
    have hMr : M ≤ wr.heap.size := by have := hbel.size; omega
    clear hbel hown
    by_cases h1 : k < ps.length
    · obtain ⟨b1, o1, e1, hb1, x0⟩ := HA.out k h1
      have y0 := (HBl.out.cell (p := ⟨b1, o1 + k, none⟩) (by show b1 < M; rw [HM.out]; exact hb1)).trans x0
      clear x0
      subst e1
      have HTk : Hid (ps.take (k + 1) = ps.take k ++ [ps[k]]) := List.take_succ_eq_append_getElem h1
      go_wp2_with (at_builtin; refine app_str (by rfl) _ _ (by rfl) M _ (ps.take k) ps[k] HO.out (by rfl) (by rfl) (by rw [List.length_take]; omega) hMr ?_; intro v' w1 hown1 hbel1; have HO1 : Hid (ownS w1 M v' (_ ++ _)) := hown1; have HB1 : Hid (Below M _ w1) := hbel1; clear hown1 hbel1)
      go_roundw
      case rel => exact ⟨k + 1, by omega, by go_num, by rw [HTk.out]; exact HO1.out, HBl.out.trans HB1.out⟩
      case measure => simp [intOf]; omega
    · have hk' : ps.take k = ps := List.take_of_length_le (by omega)
      rw [hk'] at HO
      clear hk'
      go_wp2_with (at_builtin; refine app_str (by rfl) _ _ (by rfl) M _ ps markT HO.out (by rfl) (by rfl) hr hMr ?_; intro v' w1 hown1 hbel1; have HO1 : Hid (ownS w1 M v' (ps ++ [markT])) := hown1; have HB1 : Hid (Below M _ w1) := hbel1; clear hown1 hbel1)
      obtain ⟨g1, cap1, rfl, n1, hsee⟩ := mine_form HO1.out (by omega)
      have S1 : Hid (SmS w w1.heap.size (.slice ao ps.length capa) (.slice (some ⟨g1, 0, none⟩) (ps.length + 1) cap1) (.slice (some ⟨g1, 0, none⟩) ps.length cap1) ps w1) := mine_start HA0.out HM.out HT.out (HBl.out.trans HB1.out) hsee
      have p1 : (ps.length : Int) ≤ (cap1 : Int) := by omega
      have p3 : ps.length ≤ cap1 := by omega
      have p5 : (0 : Int) ≤ (ps.length : Int) := by omega
      clear hsee HO1 HB1 HO HBl HA
      generalize w1.heap.size = M2 at *
      go_simp
      go_wp2_with fail
      refine (smS_1 hps S1.out).mono ?_
      rintro e w2 ⟨rfl, S2⟩
      clear S1
      go_wp2_with fail
      refine (ref_checksum _ ps M2 w2 S2.out.1 hps).mono ?_
      rintro e w3 ⟨rfl, rfl⟩
      go_wp2_with fail
      refine (smS_2 (s := s) hc (by omega) S2.out).mono ?_
      rintro e w4 ⟨rfl, S4⟩
      clear S2
      go_wp2_with fail
      refine (ref_extend c s w4 hc (by omega)).mono ?_
      rintro e w5 ⟨rfl, rfl⟩
      go_wp2_with fail
      go_loopw [13] (fun i wr => ∃ q : Nat, q ≤ ps.length ∧ i = .int .i64 q ∧ SmS w M2 (.slice ao ps.length capa) (.slice (some ⟨g1, 0, none⟩) (ps.length + 1) cap1) (.slice (some ⟨g1, 0, none⟩) ps.length cap1) ps wr) (fun i _ => ps.length - (intOf i).toNat)
      case atStart => exact ⟨0, by omega, rfl, S4.out⟩
      case round =>
        obtain ⟨q, hq, rfl, hS⟩ := hrel
        have HS : Hid (SmS w M2 (.slice ao ps.length capa) (.slice (some ⟨g1, 0, none⟩) (ps.length + 1) cap1) (.slice (some ⟨g1, 0, none⟩) ps.length cap1) ps wr) := hS
        clear hS
        by_cases h5 : q < ps.length
        · obtain ⟨b1, o1, e1, y0, z0⟩ := HS.out.at q h5
          subst e1
          have hqn : (q : Int) < (ps.length : Int) + 1 := by omega
          go_wp2_with fail
          go_quiet (fail)
          go_wp2
          go_roundw
          case rel => exact ⟨q + 1, by omega, by go_num, HS.out.later (below_drewN _)⟩
          case measure => simp [intOf]; omega
        · have z0 := HS.out.mark
          have hqn : (ps.length : Int) < (ps.length : Int) + 1 := by omega
          by_cases hr2 : n < 0 ∨ 1048576 < n
          · go_wp2_with fail
            refine (combine_out c d n wr hr2).mono ?_
            rintro e w6 ⟨rfl, rfl⟩
            go_wp2_with fail
            refine (ref_combine_out c d n w6 hr2).mono ?_
            rintro e w7 ⟨rfl, rfl⟩
            go_wp2_with (go_at_call 9; refine (num_any _ _).mono ?_; rintro e w' ⟨rfl, rfl⟩)
            go_ret
            exact ⟨rfl, by rw [HM.out]; exact HS.out.2.2.2.2.2.1⟩
          · go_wp2_with fail
            refine (combine_any c d n wr hc hd (by omega) (by omega)).mono ?_
            rintro e w6 ⟨rfl, rfl⟩
            go_wp2_with fail
            refine (ref_combine c d n w6 hc hd (by omega) (by omega)).mono ?_
            rintro e w7 ⟨rfl, hb7⟩
            have HB7 : Hid (Below w.heap.size w w7) := HS.out.2.2.2.2.2.1.trans (hb7.mono HS.out.2.2.2.2.2.1.size)
            clear hb7
            go_wp2_with (go_at_call 9; refine (num_any _ _).mono ?_; rintro e w' ⟨rfl, rfl⟩)
            go_ret
            exact ⟨rfl, by rw [HM.out]; exact HB7.out⟩
end Go.Proofs.YtjkipbjphdfemaaDoor
