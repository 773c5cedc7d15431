import Derived.Test.YtjkipbjphdfemabVals1
namespace Go.Proofs.Ytjkipbjphdfemab
open Go.ChangeShapes Go.WideShapes Go.ChangeAt Go.RowKit
set_option linter.unusedVariables false

/-- The slice value v holds the values vs, in blocks below B. -/
def SeesV (w : World) (B : Nat) (v : Value) (vs : List (Int × Int × ByteArray)) : Prop :=
  ∃ ao cap, v = .slice ao vs.length cap ∧ vs.length ≤ cap ∧ vs.length ≤ 140737488355328 ∧ (∀ i (hi : i < vs.length), ∃ b off, ao = some ⟨b, off, none⟩ ∧ b < B ∧ w.cell? ⟨b, off + i * 3, none⟩ = some (.int .i64 vs[i].1) ∧ w.cell? ⟨b, off + i * 3 + 1, none⟩ = some (.int .i64 vs[i].2.1) ∧ w.cell? ⟨b, off + i * 3 + 2, none⟩ = some (.string vs[i].2.2))
theorem SeesV.later {w w' : World} {B : Nat} {v : Value} {vs : List (Int × Int × ByteArray)} (h : SeesV w B v vs) (hb : Below B w w') : SeesV w' B v vs := by
  obtain ⟨ao, cap, rfl, h1, h2, h3⟩ := h
  refine ⟨ao, cap, rfl, h1, h2, fun i hi => ?_⟩
  obtain ⟨b, off, e, hbB, c0, c1, c2⟩ := h3 i hi
  exact ⟨b, off, e, hbB, by rw [hb.cell hbB]; exact c0, by rw [hb.cell hbB]; exact c1, by rw [hb.cell hbB]; exact c2⟩
theorem SeesV.mono {w : World} {B B' : Nat} {v : Value} {vs : List (Int × Int × ByteArray)} (h : SeesV w B v vs) (hb : B ≤ B') : SeesV w B' v vs := by
  obtain ⟨ao, cap, rfl, h1, h2, h3⟩ := h
  refine ⟨ao, cap, rfl, h1, h2, fun i hi => ?_⟩
  obtain ⟨b, off, e, hbB, c0, c1, c2⟩ := h3 i hi
  exact ⟨b, off, e, by omega, c0, c1, c2⟩
def cmpL : List (Int × Int × ByteArray) → List (Int × Int × ByteArray) → Int
  | [], [] => 0
  | [], _ :: _ => -1
  | _ :: _, [] => 1
  | a :: x, b :: y => if cmpV a b ≠ 0 then cmpV a b else cmpL x y
theorem cmpL_step (vs us : List (Int × Int × ByteArray)) (k : Nat) (h1 : k < vs.length) (h2 : k < us.length) : cmpL (vs.drop k) (us.drop k) = if cmpV vs[k] us[k] ≠ 0 then cmpV vs[k] us[k] else cmpL (vs.drop (k + 1)) (us.drop (k + 1)) := by
  rw [List.drop_eq_getElem_cons h1, List.drop_eq_getElem_cons h2, cmpL]
theorem cmpL_more (vs us : List (Int × Int × ByteArray)) (k : Nat) (h1 : k < vs.length) (h2 : us.length ≤ k) : cmpL (vs.drop k) (us.drop k) = 1 := by
  rw [List.drop_eq_getElem_cons h1, List.drop_eq_nil_of_le h2, cmpL]
theorem cmpL_less (vs us : List (Int × Int × ByteArray)) (k : Nat) (h1 : vs.length ≤ k) (h2 : k < us.length) : cmpL (vs.drop k) (us.drop k) = -1 := by
  rw [List.drop_eq_getElem_cons h2, List.drop_eq_nil_of_le h1, cmpL]
theorem cmpL_same (vs us : List (Int × Int × ByteArray)) (k : Nat) (h1 : vs.length ≤ k) (h2 : us.length ≤ k) : cmpL (vs.drop k) (us.drop k) = 0 := by
  rw [List.drop_eq_nil_of_le h1, List.drop_eq_nil_of_le h2, cmpL]
theorem ret_eq {a b : Int} (h : a = b) : Ending.returned (.int .i64 a) = .returned (.int .i64 b) := by rw [h]
set_option maxRecDepth 100000 in
set_option maxHeartbeats 1600000 in
theorem cmpFunc (a b : Value) (vs us : List (Int × Int × ByteArray)) (B : Nat) (w : World) (hB : B ≤ w.heap.size) (ha : SeesV w B a vs) (hb : SeesV w B b us) :
    Calls Try.prog 19 #[a, b, .func (.func 20) #[] #[]] w fun e w' => e = .returned (.int .i64 (cmpL vs us)) ∧ Below B w w' := by
  obtain ⟨ao, cap, rfl, hl1, hc1, hs1⟩ := ha
  obtain ⟨bo, cap2, rfl, hl2, hc2, hs2⟩ := hb
  have HA : Hid _ := hs1
  have HBs : Hid _ := hs2
  clear hs1 hs2
  go_enter Try.func19, Try.ntmps19
  go_wp2
  go_loopw [13] (fun i wr => ∃ k : Nat, k ≤ vs.length ∧ k ≤ us.length ∧ i = .int .i64 k ∧ cmpL vs us = cmpL (vs.drop k) (us.drop k) ∧ Below B w wr) (fun i _ => vs.length - (intOf i).toNat)
  case atStart => exact ⟨0, by omega, by omega, rfl, rfl, Below.refl _ _⟩
  case round =>
    obtain ⟨k, hk1, hk2, rfl, hcmp, hbel⟩ := hrel
    have HC : Hid (cmpL vs us = cmpL (vs.drop k) (us.drop k)) := hcmp
    have HBl : Hid (Below B w wr) := hbel
    have hBr : B ≤ wr.heap.size := by have := hbel.size; omega
    clear hcmp hbel
    by_cases h1 : k < vs.length
    · obtain ⟨b1, o1, e1, hb1, x0, x1, x2⟩ := HA.out k h1
      have y0 := (HBl.out.cell (p := ⟨b1, o1 + k * 3, none⟩) hb1).trans x0
      have y1 := (HBl.out.cell (p := ⟨b1, o1 + k * 3 + 1, none⟩) hb1).trans x1
      have y2 := (HBl.out.cell (p := ⟨b1, o1 + k * 3 + 2, none⟩) hb1).trans x2
      clear x0 x1 x2
      subst e1
      by_cases h2 : k < us.length
      · obtain ⟨b2, o2, e2, hb2, x0, x1, x2⟩ := HBs.out k h2
        have z0 := (HBl.out.cell (p := ⟨b2, o2 + k * 3, none⟩) hb2).trans x0
        have z1 := (HBl.out.cell (p := ⟨b2, o2 + k * 3 + 1, none⟩) hb2).trans x1
        have z2 := (HBl.out.cell (p := ⟨b2, o2 + k * 3 + 2, none⟩) hb2).trans x2
        clear x0 x1 x2
        subst e2
        have HS : Hid _ := cmpL_step vs us k h1 h2
        have hn1 : b1 < wr.heap.size := by omega
        have hn2 : b2 < wr.heap.size := by omega
        go_wp2_with fail
        refine (cmpVal vs[k] us[k] _).mono ?_
        rintro e w1 ⟨rfl, hb3⟩
        have HB3 : Hid (Below B w w1) := HBl.out.trans (((((Below.refl B wr).alloc hBr _).alloc (by simp; omega) _)).trans (hb3.mono (by simp; omega)))
        clear hb3 HBl y0 y1 y2 z0 z1 z2
        generalize cmpV vs[k] us[k] = c at *
        cases hc : (c != 0)
        · have hc0 : c = 0 := by simpa using hc
          have HZ : Hid (c = 0) := hc0
          clear hc0
          go_wp2
          go_roundw
          case rel => exact ⟨k + 1, by omega, by omega, by go_num, by rw [HC.out, HS.out, if_neg (by simp [HZ.out])], HB3.out⟩
          case measure => simp [intOf]; omega
        · have HZ : Hid (c ≠ 0) := by show _ ≠ _; simpa using hc
          go_wp2
          go_ret
          exact ⟨by rw [HC.out, HS.out, if_pos HZ.out]; rfl, HB3.out⟩
      · have HM : Hid _ := cmpL_more vs us k h1 (by omega)
        go_wp2
        go_ret
        exact ⟨by rw [HC.out, HM.out]; rfl, HBl.out.alloc hBr _⟩
    · by_cases h2 : k < us.length
      · have HM : Hid _ := cmpL_less vs us k (by omega) h2
        go_wp2
        go_ret
        exact ⟨by rw [HC.out, HM.out]; rfl, HBl.out⟩
      · have HM : Hid _ := cmpL_same vs us k (by omega) (by omega)
        go_wp2
        go_ret
        exact ⟨by rw [HC.out, HM.out]; rfl, HBl.out⟩
end Go.Proofs.Ytjkipbjphdfemab
