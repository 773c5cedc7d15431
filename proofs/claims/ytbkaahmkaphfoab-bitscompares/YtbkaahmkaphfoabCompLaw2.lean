import Derived.Test.YtbkaahmkaphfoabCompLaw
namespace Go.Proofs.Ytbkaahmkaphfoab
open Go.ChangeShapes Go.WideShapes Go.ChangeAt Go.RowKit
set_option linter.unusedVariables false

theorem markV_len (vs : List (Int × Int × ByteArray)) : (vs ++ [markV]).length = vs.length + 1 := by simp
theorem take_front (vs : List (Int × Int × ByteArray)) : vs = (vs ++ [markV]).take vs.length := by simp
theorem compS_keep {w W : World} {M b1 o1 b2 o2 capa capb k : Nat} {c d c0 d0 : Value} {vs us : List (Int × Int × ByteArray)} (h1 : k < vs.length) (h2 : k < us.length)
    (h : CompS w M (.slice (some ⟨b1, o1, none⟩) vs.length capa) (.slice (some ⟨b2, o2, none⟩) us.length capb) c d c0 d0 vs us W) :
    CompS w M (.slice (some ⟨b1, o1, none⟩) vs.length capa) (.slice (some ⟨b2, o2, none⟩) us.length capb) c d c0 d0 vs us W ∧ W.cell? ⟨b1, o1 + k * 3, none⟩ = some (.int .i64 vs[k].1) ∧ W.cell? ⟨b1, o1 + k * 3 + 1, none⟩ = some (.int .i64 vs[k].2.1) ∧ W.cell? ⟨b1, o1 + k * 3 + 2, none⟩ = some (.string vs[k].2.2) ∧ W.cell? ⟨b2, o2 + k * 3, none⟩ = some (.int .i64 us[k].1) ∧ W.cell? ⟨b2, o2 + k * 3 + 1, none⟩ = some (.int .i64 us[k].2.1) ∧ W.cell? ⟨b2, o2 + k * 3 + 2, none⟩ = some (.string us[k].2.2) := by
  refine ⟨h, ?_⟩
  obtain ⟨_, _, ea, _, _, ca⟩ := h.1
  obtain ⟨_, _, eb, _, _, cb⟩ := h.2.1
  simp only [Value.slice.injEq] at ea eb
  obtain ⟨rfl, _, rfl⟩ := ea
  obtain ⟨rfl, _, rfl⟩ := eb
  obtain ⟨x1, x2, e1, hb1, y0, y1, y2⟩ := ca k h1
  obtain ⟨x3, x4, e2, hb2, z0, z1, z2⟩ := cb k h2
  simp only [Option.some.injEq, Addr.mk.injEq, and_true] at e1 e2
  obtain ⟨rfl, rfl⟩ := e1
  obtain ⟨rfl, rfl⟩ := e2
  exact ⟨y0, y1, y2, z0, z1, z2⟩
set_option maxRecDepth 100000 in
set_option maxHeartbeats 3200000 in
theorem compares_walk (a b : Value) (vs us : List (Int × Int × ByteArray)) (s : ByteArray) (w : World) (ha : SeesV w w.heap.size a vs) (hb : SeesV w w.heap.size b us)
    (hr1 : (vs.length + 1) * 32 ≤ 140737488355328) (hr2 : (us.length + 1) * 32 ≤ 140737488355328) (zs : s.size ≤ 140737488351232) :
    Calls Try.prog 5 #[a, b, .string s] w fun e w' => e = .returned (.bool true) ∧ Below w.heap.size w w' := by
  have HA : Hid (SeesV w w.heap.size a vs) := ha
  have HBb : Hid (SeesV w w.heap.size b us) := hb
  obtain ⟨ao, capa, rfl, hla, hca, hsa⟩ := ha
  obtain ⟨bo, capb, rfl, hlb, hcb, hsb⟩ := hb
  have CA : Hid _ := hsa
  have CB : Hid _ := hsb
  clear hsa hsb
  go_enter Try.func5, Try.ntmps5
  go_wp2_with fail
  refine (room_any _ vs w.heap.size w (Nat.le_refl _) HA.out hr1).mono ?_
  rintro e w1 ⟨g1, cap1, rfl, ho1, hb1⟩
  have n1 : vs.length + 1 ≤ cap1 := by
    rcases ho1.2 with ⟨h', _⟩ | ⟨g', cap', cur, h', _, _, hnc, _⟩
    · simp at h'
    · simp only [Value.slice.injEq] at h'; rw [markV_len] at hnc; omega
  have B1 : Hid (Below w.heap.size w w1) := hb1
  have O1 : Hid (ownV w1 w.heap.size (.slice (some ⟨g1, 0, none⟩) (vs.length + 1) cap1) (vs ++ [markV])) := ho1
  clear hb1 ho1
  go_wp2_with fail
  refine (room_any _ us w.heap.size w1 B1.out.size (HBb.out.later B1.out) hr2).mono ?_
  rintro e w2 ⟨g2, cap2, rfl, ho2, hb2⟩
  have n2 : us.length + 1 ≤ cap2 := by
    rcases ho2.2 with ⟨h', _⟩ | ⟨g', cap', cur, h', _, _, hnc, _⟩
    · simp at h'
    · simp only [Value.slice.injEq] at h'; rw [markV_len] at hnc; omega
  have B2 : Below w.heap.size w w2 := B1.out.trans (hb2.mono B1.out.size)
  have hs : CompS w w2.heap.size (.slice ao vs.length capa) (.slice bo us.length capb) (.slice (some ⟨g1, 0, none⟩) (vs.length + 1) cap1) (.slice (some ⟨g2, 0, none⟩) (us.length + 1) cap2) (.slice (some ⟨g1, 0, none⟩) vs.length cap1) (.slice (some ⟨g2, 0, none⟩) us.length cap2) vs us w2 := by
    have c1 := O1.out.sees (us := vs ++ [markV]) (by simp) (by rw [List.take_length]) (by simp) (by simp; omega)
    have c2 := ho2.sees (us := us ++ [markV]) (by simp) (by rw [List.take_length]) (by simp) (by simp; omega)
    rw [markV_len] at c1 c2
    have d1 := O1.out.sees (us := vs) (by simp) (take_front vs) (by simp) (by omega)
    have d2 := ho2.sees (us := us) (by simp) (take_front us) (by simp) (by omega)
    have hz := hb2.size
    exact ⟨(HA.out.later B2).mono B2.size, (HBb.out.later B2).mono B2.size, (d1.later hb2).mono hz, d2, (c1.later hb2).mono hz, c2, Nat.le_refl _, B2.size, B2⟩
  clear ho2 hb2 B2 B1 O1 HA HBb
  generalize w2.heap.size = M at *
  have p1 : (vs.length : Int) ≤ (cap1 : Int) := by omega
  have p2 : (us.length : Int) ≤ (cap2 : Int) := by omega
  have p3 : vs.length ≤ cap1 := by omega
  have p4 : us.length ≤ cap2 := by omega
  have p5 : (0 : Int) ≤ (vs.length : Int) := by omega
  have p6 : (0 : Int) ≤ (us.length : Int) := by omega
  go_wp2_with fail
  go_region_held3 (fun W => CompS w M (.slice ao vs.length capa) (.slice bo us.length capb) (.slice (some ⟨g1, 0, none⟩) (vs.length + 1) cap1) (.slice (some ⟨g2, 0, none⟩) (us.length + 1) cap2) (.slice (some ⟨g1, 0, none⟩) vs.length cap1) (.slice (some ⟨g2, 0, none⟩) us.length cap2) vs us W) (first | assumption | exact CompS.drew (by assumption)) (first | (go_at_call_of 22 (Value.slice (some ⟨g1, 0, none⟩) vs.length cap1); refine (compS_x1 (by assumption)).mono ?_; rintro e w' ⟨rfl, hSx⟩) | (go_at_call_of 22 (Value.slice (some ⟨g2, 0, none⟩) us.length cap2); refine (compS_x3 (by assumption)).mono ?_; rintro e w' ⟨rfl, hSx⟩) | (go_at_call_of 23 (Value.slice ao vs.length capa); refine (compS_x2 (by assumption)).mono ?_; rintro e w' ⟨rfl, hSx⟩) | (go_at_call_of 23 (Value.slice bo us.length capb); refine (compS_x4 (by assumption)).mono ?_; rintro e w' ⟨rfl, hSx⟩))
  have S3 : Hid (CompS w M (.slice ao vs.length capa) (.slice bo us.length capb) (.slice (some ⟨g1, 0, none⟩) (vs.length + 1) cap1) (.slice (some ⟨g2, 0, none⟩) (us.length + 1) cap2) (.slice (some ⟨g1, 0, none⟩) vs.length cap1) (.slice (some ⟨g2, 0, none⟩) us.length cap2) vs us _) := hSx
  clear hs hSx
  go_wp2_with fail
  refine (compS_y1 S3.out hr1).mono ?_
  rintro e w4 ⟨r1, rfl, hr4, hS4⟩
  have R4 : Hid (SeesV w4 w4.heap.size r1 (vs ++ [markV])) := hr4
  have S4 : Hid (CompS w M (.slice ao vs.length capa) (.slice bo us.length capb) (.slice (some ⟨g1, 0, none⟩) (vs.length + 1) cap1) (.slice (some ⟨g2, 0, none⟩) (us.length + 1) cap2) (.slice (some ⟨g1, 0, none⟩) vs.length cap1) (.slice (some ⟨g2, 0, none⟩) us.length cap2) vs us w4) := hS4
  clear hr4 hS4 S3
  go_wp2_with fail
  refine (compS_z1 S4.out R4.out).mono ?_
  rintro e w5 ⟨rfl, hS5⟩
  have S5 : Hid (CompS w M (.slice ao vs.length capa) (.slice bo us.length capb) (.slice (some ⟨g1, 0, none⟩) (vs.length + 1) cap1) (.slice (some ⟨g2, 0, none⟩) (us.length + 1) cap2) (.slice (some ⟨g1, 0, none⟩) vs.length cap1) (.slice (some ⟨g2, 0, none⟩) us.length cap2) vs us w5) := hS5
  clear hS5 S4 R4
  go_wp2_with fail
  refine (compS_y2 S5.out hr2).mono ?_
  rintro e w6 ⟨r2, rfl, hr6, hS6⟩
  have R6 : Hid (SeesV w6 w6.heap.size r2 (us ++ [markV])) := hr6
  have S6 : Hid (CompS w M (.slice ao vs.length capa) (.slice bo us.length capb) (.slice (some ⟨g1, 0, none⟩) (vs.length + 1) cap1) (.slice (some ⟨g2, 0, none⟩) (us.length + 1) cap2) (.slice (some ⟨g1, 0, none⟩) vs.length cap1) (.slice (some ⟨g2, 0, none⟩) us.length cap2) vs us w6) := hS6
  clear hr6 hS6 S5
  go_wp2_with fail
  refine (compS_z2 S6.out R6.out).mono ?_
  rintro e w7 ⟨rfl, hS7⟩
  have S7 : Hid (CompS w M (.slice ao vs.length capa) (.slice bo us.length capb) (.slice (some ⟨g1, 0, none⟩) (vs.length + 1) cap1) (.slice (some ⟨g2, 0, none⟩) (us.length + 1) cap2) (.slice (some ⟨g1, 0, none⟩) vs.length cap1) (.slice (some ⟨g2, 0, none⟩) us.length cap2) vs us w7) := hS7
  clear hS7 S6 R6
  go_wp2_with fail
  go_loopw [9] (fun i wr => ∃ k : Nat, k ≤ vs.length ∧ k ≤ us.length ∧ i = .int .i64 k ∧ CompS w M (.slice ao vs.length capa) (.slice bo us.length capb) (.slice (some ⟨g1, 0, none⟩) (vs.length + 1) cap1) (.slice (some ⟨g2, 0, none⟩) (us.length + 1) cap2) (.slice (some ⟨g1, 0, none⟩) vs.length cap1) (.slice (some ⟨g2, 0, none⟩) us.length cap2) vs us wr) (fun i _ => vs.length - (intOf i).toNat)
  case atStart => exact ⟨0, by omega, by omega, rfl, S7.out⟩
  case round =>
    obtain ⟨k, hk1, hk2, rfl, hsr⟩ := hrel
    by_cases h1 : k < vs.length
    · by_cases h2 : k < us.length
      · obtain ⟨_, _, ea, _, _, ca⟩ := hsr.1
        obtain ⟨_, _, eb, _, _, cb⟩ := hsr.2.1
        simp only [Value.slice.injEq] at ea eb
        obtain ⟨rfl, _, rfl⟩ := ea
        obtain ⟨rfl, _, rfl⟩ := eb
        obtain ⟨b1, o1, e1, hb1, y0, y1, y2⟩ := ca k h1
        obtain ⟨b2, o2, e2, hb2, z0, z1, z2⟩ := cb k h2
        subst e1
        subst e2
        clear ca cb
        go_wp2_with fail
        go_region_held3 (fun W => CompS w M (.slice (some ⟨b1, o1, none⟩) vs.length capa) (.slice (some ⟨b2, o2, none⟩) us.length capb) (.slice (some ⟨g1, 0, none⟩) (vs.length + 1) cap1) (.slice (some ⟨g2, 0, none⟩) (us.length + 1) cap2) (.slice (some ⟨g1, 0, none⟩) vs.length cap1) (.slice (some ⟨g2, 0, none⟩) us.length cap2) vs us W ∧ W.cell? ⟨b1, o1 + k * 3, none⟩ = some (.int .i64 vs[k].1) ∧ W.cell? ⟨b1, o1 + k * 3 + 1, none⟩ = some (.int .i64 vs[k].2.1) ∧ W.cell? ⟨b1, o1 + k * 3 + 2, none⟩ = some (.string vs[k].2.2) ∧ W.cell? ⟨b2, o2 + k * 3, none⟩ = some (.int .i64 us[k].1) ∧ W.cell? ⟨b2, o2 + k * 3 + 1, none⟩ = some (.int .i64 us[k].2.1) ∧ W.cell? ⟨b2, o2 + k * 3 + 2, none⟩ = some (.string us[k].2.2)) (first | assumption | exact compS_keep h1 h2 (by assumption) | exact compS_keep h1 h2 (CompS.drew (by assumption)) | exact compS_keep h1 h2 (CompS.drew (And.left (by assumption)))) (first | (go_at_call 25; refine (compS_v1 (by first | assumption | exact And.left (by assumption)) vs[k] us[k]).mono ?_; rintro e w' ⟨rfl, hSx⟩) | (go_at_call 26; refine (compS_v2 (by first | assumption | exact And.left (by assumption)) vs[k] us[k]).mono ?_; rintro e w' ⟨rfl, hSx⟩))
        have S8 : Hid (CompS w M (.slice (some ⟨b1, o1, none⟩) vs.length capa) (.slice (some ⟨b2, o2, none⟩) us.length capb) (.slice (some ⟨g1, 0, none⟩) (vs.length + 1) cap1) (.slice (some ⟨g2, 0, none⟩) (us.length + 1) cap2) (.slice (some ⟨g1, 0, none⟩) vs.length cap1) (.slice (some ⟨g2, 0, none⟩) us.length cap2) vs us _) := hSx
        clear hSx hsr y0 y1 y2 z0 z1 z2
        go_wp2
        go_roundw
        case rel => exact ⟨k + 1, by omega, by omega, by go_num, S8.out⟩
        case measure => simp [intOf]; omega
      · have S8 : Hid (Below w.heap.size w wr) := hsr.2.2.2.2.2.2.2.2
        clear hsr S7
        go_wp2_with fail
        refine (after_any s wr zs).mono ?_
        rintro e w8 ⟨he, _, hb8⟩
        have S9 : Hid (Below w.heap.size w w8) := S8.out.trans (hb8.mono S8.out.size)
        obtain ⟨r, ok, rfl⟩ := after_form he
        have HE : Hid (AfterSays s (.returned (.tuple #[.string r, .bool ok]))) := he
        clear he hb8 S8
        go_wp2_with fail
        refine (after_ref s w8 zs).mono ?_
        rintro e w9 ⟨he, hb9⟩
        have S10 : Hid (Below w.heap.size w w9) := S9.out.trans (hb9.mono S9.out.size)
        obtain rfl := after_one he HE.out
        clear he hb9 S9 HE
        go_wp2
        go_ret
        exact ⟨rfl, S10.out⟩
    · have S8 : Hid (Below w.heap.size w wr) := hsr.2.2.2.2.2.2.2.2
      clear hsr S7
      go_wp2_with fail
      refine (after_any s wr zs).mono ?_
      rintro e w8 ⟨he, _, hb8⟩
      have S9 : Hid (Below w.heap.size w w8) := S8.out.trans (hb8.mono S8.out.size)
      obtain ⟨r, ok, rfl⟩ := after_form he
      have HE : Hid (AfterSays s (.returned (.tuple #[.string r, .bool ok]))) := he
      clear he hb8 S8
      go_wp2_with fail
      refine (after_ref s w8 zs).mono ?_
      rintro e w9 ⟨he, hb9⟩
      have S10 : Hid (Below w.heap.size w w9) := S9.out.trans (hb9.mono S9.out.size)
      obtain rfl := after_one he HE.out
      clear he hb9 S9 HE
      go_wp2
      go_ret
      exact ⟨rfl, S10.out⟩
end Go.Proofs.Ytbkaahmkaphfoab
