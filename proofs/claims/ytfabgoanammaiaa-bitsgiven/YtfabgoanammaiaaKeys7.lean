import Derived.Test.YtfabgoanammaiaaKeys6
namespace Go.Proofs.Ytfabgoanammaiaa
open Go.ChangeShapes Go.WideShapes Go.ChangeAt Go.RowKit
set_option linter.unusedVariables false

/-- The bytes of a value in a key. -/
def keyV (v : Int × Int × ByteArray) : List Int := if v.1 = 0 then [16] else if v.1 = 1 then [32 + v.2.1] else if v.1 = 2 then keyI v.2.1 else 80 :: escL v.2.2.data.toList ++ [0, 1]
def keyL (vs : List (Int × Int × ByteArray)) : List Int := vs.flatMap keyV
def okV (v : Int × Int × ByteArray) : Prop := v.1 = 0 ∨ (v.1 = 1 ∧ 0 ≤ v.2.1 ∧ v.2.1 ≤ 1) ∨ v.1 = 2 ∨ (v.1 = 3 ∧ v.2.2.size ≤ 4096)
theorem okV_of (v : Int × Int × ByteArray) (h : faultV v = 0) : okV v := by
  obtain ⟨a, i, t⟩ := v
  unfold faultV at h
  simp only at h
  split at h
  · simp at h
  · split at h
    · exact .inl (by assumption)
    · split at h
      · refine .inr (.inl ⟨by assumption, ?_⟩)
        unfold fault1 at h
        simp only at h
        split at h
        · rename_i q
          simp at q
          constructor <;> (simp only; omega)
        · simp at h
      · split at h
        · exact .inr (.inr (.inl (by assumption)))
        · refine .inr (.inr (.inr ⟨by simp only; omega, ?_⟩))
          unfold fault3 at h
          simp only at h
          split at h
          · simp at h
          · rename_i q
            split at h
            · rename_i q2
              simp only [q2, Bool.true_and, decide_eq_true_eq] at q
              simp only
              omega
            · simp at h
theorem faultL_zero : ∀ (vs : List (Int × Int × ByteArray)), faultL vs = 0 → ∀ v ∈ vs, okV v
  | [], _, v, hv => by simp at hv
  | x :: r, h, v, hv => by
    unfold faultL at h
    split at h
    · rename_i q; exact absurd h q
    · rename_i q
      rcases List.mem_cons.1 hv with e | e
      · rw [e]; exact okV_of _ (by simpa using q)
      · exact faultL_zero r h v e
theorem keyI_len (i : Int) : (keyI i).length ≤ 9 := by
  unfold keyI
  have h1 := szB_le i.toNat
  have h2 := szB_le (-1 - i).toNat
  split <;> (rw [List.length_cons, hiB_len]; omega)
theorem keyV_len (v : Int × Int × ByteArray) (h : okV v) : (keyV v).length ≤ 9000 := by
  unfold keyV
  have h1 := keyI_len v.2.1
  have h2 := escL_len v.2.2.data.toList
  have h3 : v.2.2.data.toList.length = v.2.2.size := by rw [Array.length_toList]; rfl
  split
  · simp
  · split
    · simp
    · split
      · omega
      · rcases h with e | e | e | e
        · omega
        · omega
        · omega
        · rw [List.length_append, List.length_cons]; simp only [List.length_cons, List.length_nil]; omega
theorem keyL_len : ∀ (vs : List (Int × Int × ByteArray)), (∀ v ∈ vs, okV v) → (keyL vs).length ≤ 9000 * vs.length
  | [], _ => by simp [keyL]
  | x :: r, h => by
    have h1 := keyV_len x (h x (by simp))
    have h2 := keyL_len r (fun v hv => h v (by simp [hv]))
    unfold keyL at h2 ⊢
    rw [List.flatMap_cons, List.length_append, List.length_cons]
    omega
theorem keyL_take (vs : List (Int × Int × ByteArray)) (k : Nat) (h : k < vs.length) : keyL (vs.take (k + 1)) = keyL (vs.take k) ++ keyV vs[k] := by
  unfold keyL
  rw [List.take_succ_eq_append_getElem h, List.flatMap_append]
  simp
theorem ownB.later {w w' : World} {B : Nat} {v : Value} {xs : List Int} (h : ownB w B v xs) (hb : Below w.heap.size w w') : ownB w' B v xs := by
  obtain ⟨h1, h2⟩ := h
  refine ⟨h1, ?_⟩
  rcases h2 with h2 | ⟨g, cap, cur, e, hb1, hg, r⟩
  · exact .inl h2
  · refine .inr ⟨g, cap, cur, e, hb1, ?_, r⟩
    rw [hb.block g (Array.getElem?_eq_some_iff.1 hg).1]
    exact hg
theorem kyS_lay {w W : World} {B n : Nat} {kd i : Int} {t : ByteArray} {f : FuncId} {args : Array Value} {r : Ending} {c : Value} {xs : List Int} (h : CkS w B n kd i t W) (hO : ownB W B c xs) (hc : Calls Try.prog f args W fun e w' => e = r ∧ Below W.heap.size W w') : Calls Try.prog f args W fun e w' => e = r ∧ CkS w B n kd i t w' ∧ ownB w' B c xs :=
  hc.mono fun _ _ h2 => ⟨h2.1, h.later h2.2, hO.later h2.2⟩
theorem kyS_key {w W : World} {B n : Nat} {kd i : Int} {t : ByteArray} {f : FuncId} {args : Array Value} {c : Value} {ys : List Int} (h : CkS w B n kd i t W) (hne : some n ≠ c.ownBlock) (hc : Calls Try.prog f args W fun e w' => ∃ b', e = .returned b' ∧ ownB w' B b' ys ∧ Below B W w' ∧ Gr c W b' w') :
    Calls Try.prog f args W fun e w' => ∃ b', e = .returned b' ∧ CkS w B n kd i t w' ∧ ownB w' B b' ys := by
  refine hc.mono fun e w' h2 => ?_
  obtain ⟨b', he, ho, hb, hg⟩ := h2
  obtain ⟨⟨h1, h2, h3⟩, c0, c1, c2⟩ := h
  have hz := hb.size
  exact ⟨b', he, ⟨⟨h1.trans hb, by omega, by omega⟩, hg.cell c0 h3 hne, hg.cell c1 h3 hne, hg.cell c2 h3 hne⟩, ho⟩
theorem CkS.le {w W : World} {B n : Nat} {kd i : Int} {t : ByteArray} (h : CkS w B n kd i t W) : B ≤ W.heap.size := h.1.2.1
attribute [local go_sem ↓] Go.wp_at_zero Go.wp_at_succ
attribute [local go_sem] fld0_1 fld1_1 fld2_1 fld3_1
set_option maxRecDepth 100000 in
set_option maxHeartbeats 3200000 in
theorem keyG (a : Value) (vs : List (Int × Int × ByteArray)) (B : Nat) (w : World) (hB : B ≤ w.heap.size) (ha : SeesV w B a vs) (hv : ∀ v ∈ vs, v.2.2.size ≤ 9223372036854775807 ∧ -9223372036854775808 ≤ v.2.1 ∧ v.2.1 ≤ 9223372036854775807) :
    Calls Try.prog 7 #[a] w fun e w' => e = .returned (if 16 < vs.length then .tuple #[.string ⟨#[]⟩, .int .i64 18] else if faultL vs = 0 then .tuple #[.string (strOfNums (keyL vs)), .int .i64 0] else .tuple #[.string ⟨#[]⟩, .int .i64 (faultL vs)]) ∧ Below B w w' := by
  have hC := check_any a vs B w hB ha (fun v h => (hv v h).1)
  have HA0 : Hid (SeesV w B a vs) := ha
  obtain ⟨ao, cap, rfl, hl1, hc1, hs1⟩ := ha
  clear hs1
  by_cases hm : 16 < vs.length
  · rw [if_pos hm] at hC ⊢
    go_enter Try.func7, Try.ntmps7
    go_wp2_with fail
    refine hC.mono ?_
    rintro e w1 ⟨rfl, hb1⟩
    have HA := HA0.out.later hb1
    have HB1 : Hid (Below B w w1) := hb1
    have hB1 : B ≤ w1.heap.size := by have := hb1.size; omega
    clear hb1 HA0 hC
    go_wp2
    go_ret2
    exact ⟨rfl, HB1.out⟩
  rw [if_neg hm] at hC ⊢
  by_cases hf : faultL vs = 0
  · rw [if_pos hf]
    rw [hf] at hC
    go_enter Try.func7, Try.ntmps7
    go_wp2_with fail
    refine hC.mono ?_
    rintro e w1 ⟨rfl, hb1⟩
    have HA := HA0.out.later hb1
    have HB1 : Hid (Below B w w1) := hb1
    have hB1 : B ≤ w1.heap.size := by have := hb1.size; omega
    clear hb1 HA0 hC
    obtain ⟨ao', cap', e', hl1', hc1', hs1⟩ := HA
    simp only [Value.slice.injEq, true_and] at e'
    obtain ⟨rfl, rfl⟩ := e'
    have HA2 : Hid _ := hs1
    clear hs1
    have hok := faultL_zero vs hf
    go_wp2
    go_loopw [5, 15] (fun c i wr => ∃ k : Nat, k ≤ vs.length ∧ i = .int .i64 k ∧ ownB wr B c (keyL (vs.take k)) ∧ Below B w1 wr) (fun _ i _ => vs.length - (intOf i).toNat)
    case atStart => exact ⟨0, by omega, rfl, ownB_nil _ _, Below.refl _ _⟩
    case round =>
      obtain ⟨k, hk, rfl, hown, hbel⟩ := hrel
      have HO : Hid (ownB wr B _ (keyL (vs.take k))) := hown
      have HBl : Hid (Below B w1 wr) := hbel
      have hBr : B ≤ wr.heap.size := by have := hbel.size; omega
      have hx : (keyL (vs.take k)).length ≤ 140737488340000 := by
        have h3 := keyL_len (vs.take k) (fun v hv => hok v (List.mem_of_mem_take hv))
        have h4 : (vs.take k).length ≤ 16 := by rw [List.length_take]; omega
        omega
      have hne : some wr.heap.size ≠ Value.ownBlock _ := fun h => by have := World.ownsRow.lt hown _ h.symm; omega
      clear hown hbel
      by_cases h1 : k < vs.length
      · obtain ⟨b1, o1, e1, hb1, x0, x1, x2⟩ := HA2.out k h1
        have y0 := (HBl.out.cell (p := ⟨b1, o1 + k * 3, none⟩) hb1).trans x0
        have y1 := (HBl.out.cell (p := ⟨b1, o1 + k * 3 + 1, none⟩) hb1).trans x1
        have y2 := (HBl.out.cell (p := ⟨b1, o1 + k * 3 + 2, none⟩) hb1).trans x2
        clear x0 x1 x2
        subst e1
        have hK := keyL_take vs k h1
        have hvs := hv _ (List.getElem_mem h1)
        have hvo := hok _ (List.getElem_mem h1)
        have hn1 : b1 < wr.heap.size := by omega
        generalize hvk : vs[k] = v at *
        obtain ⟨kd, i, t⟩ := v
        have HK : Hid (keyL (vs.take (k + 1)) = keyL (vs.take k) ++ keyV (kd, i, t)) := hK
        clear hK hvk
        unfold okV at hvo
        simp only at y0 y1 y2 hvs hvo
        obtain ⟨hv1, hv2, hv3⟩ := hvs
        rcases hvo with rfl | ⟨rfl, hv4, hv5⟩ | rfl | ⟨rfl, hv4⟩
        · go_wp2_with fail
          have hs0 := CkS.new 0 i t HBl.out hBr
          have c0 := hs0.2.1
          have c1 := hs0.2.2.1
          have c2 := hs0.2.2.2
          have HO1 : Hid (ownB (wr.alloc (.cells #[.int .i64 0, .int .i64 i, .string t] 45)) B _ (keyL (vs.take k))) := HO.out.alloc _
          clear y0 y1 y2 hn1 HBl hBr HO
          generalize wr.alloc (.cells #[.int .i64 0, .int .i64 i, .string t] 45) = W at *
          generalize wr.heap.size = n at *
          generalize hxs : keyL (vs.take k) = xs at *
          go_region_held3 (fun W' => CkS w1 B n 0 i t W' ∧ W'.cell? ⟨n, 0, none⟩ = some (.int .i64 0) ∧ W'.cell? ⟨n, 1, none⟩ = some (.int .i64 i) ∧ W'.cell? ⟨n, 2, none⟩ = some (.string t)) (first | assumption | exact CkS.keep (by assumption) | exact CkS.keep (CkS.drew (by assumption)) | exact CkS.keep (CkS.drew (And.left (by assumption)))) (first | (go_at_call 21; refine (kyS_lay (by first | assumption | exact And.left (by assumption)) (by first | exact HO1.out | exact HO1.out.drew) (layE_0 _)).mono ?_; rintro e w' ⟨rfl, hSx, hOx⟩) | (go_at_call 44; refine (kyS_key (by first | assumption | exact And.left (by assumption)) hne (key0 _ xs (0, i, t) B _ (CkS.le (by first | assumption | exact And.left (by assumption))) (by first | exact hOx | exact hOx.drew) (Nat.le_trans hx (by omega)) )).mono ?_; rintro e w' ⟨b2, rfl, hSy, hOy⟩))
          have HB3 : Hid (Below B w1 _) := hSy.1.1
          have HO3 : Hid (ownB _ B b2 (xs ++ _)) := hOy
          clear hs0 c0 c1 c2 hSx hSy hOx hOy HO1
          go_wp2
          go_roundw
          case rel => exact ⟨k + 1, by omega, by go_num, by rw [HK.out]; exact HO3.out, HB3.out⟩
          case measure => simp [intOf]; omega
        · go_wp2_with fail
          have hs0 := CkS.new 1 i t HBl.out hBr
          have c0 := hs0.2.1
          have c1 := hs0.2.2.1
          have c2 := hs0.2.2.2
          have HO1 : Hid (ownB (wr.alloc (.cells #[.int .i64 1, .int .i64 i, .string t] 45)) B _ (keyL (vs.take k))) := HO.out.alloc _
          clear y0 y1 y2 hn1 HBl hBr HO
          generalize wr.alloc (.cells #[.int .i64 1, .int .i64 i, .string t] 45) = W at *
          generalize wr.heap.size = n at *
          generalize hxs : keyL (vs.take k) = xs at *
          go_region_held3 (fun W' => CkS w1 B n 1 i t W' ∧ W'.cell? ⟨n, 0, none⟩ = some (.int .i64 1) ∧ W'.cell? ⟨n, 1, none⟩ = some (.int .i64 i) ∧ W'.cell? ⟨n, 2, none⟩ = some (.string t)) (first | assumption | exact CkS.keep (by assumption) | exact CkS.keep (CkS.drew (by assumption)) | exact CkS.keep (CkS.drew (And.left (by assumption)))) (first | (go_at_call 21; refine (kyS_lay (by first | assumption | exact And.left (by assumption)) (by first | exact HO1.out | exact HO1.out.drew) (layE_1 _)).mono ?_; rintro e w' ⟨rfl, hSx, hOx⟩) | (go_at_call 49; refine (kyS_key (by first | assumption | exact And.left (by assumption)) hne (key1 _ xs (1, i, t) B _ (CkS.le (by first | assumption | exact And.left (by assumption))) (by first | exact hOx | exact hOx.drew) (Nat.le_trans hx (by omega)) hv4 hv5)).mono ?_; rintro e w' ⟨b2, rfl, hSy, hOy⟩))
          have HB3 : Hid (Below B w1 _) := hSy.1.1
          have HO3 : Hid (ownB _ B b2 (xs ++ _)) := hOy
          clear hs0 c0 c1 c2 hSx hSy hOx hOy HO1
          go_wp2
          go_roundw
          case rel => exact ⟨k + 1, by omega, by go_num, by rw [HK.out]; exact HO3.out, HB3.out⟩
          case measure => simp [intOf]; omega
        · go_wp2_with fail
          have hs0 := CkS.new 2 i t HBl.out hBr
          have c0 := hs0.2.1
          have c1 := hs0.2.2.1
          have c2 := hs0.2.2.2
          have HO1 : Hid (ownB (wr.alloc (.cells #[.int .i64 2, .int .i64 i, .string t] 45)) B _ (keyL (vs.take k))) := HO.out.alloc _
          clear y0 y1 y2 hn1 HBl hBr HO
          generalize wr.alloc (.cells #[.int .i64 2, .int .i64 i, .string t] 45) = W at *
          generalize wr.heap.size = n at *
          generalize hxs : keyL (vs.take k) = xs at *
          go_region_held3 (fun W' => CkS w1 B n 2 i t W' ∧ W'.cell? ⟨n, 0, none⟩ = some (.int .i64 2) ∧ W'.cell? ⟨n, 1, none⟩ = some (.int .i64 i) ∧ W'.cell? ⟨n, 2, none⟩ = some (.string t)) (first | assumption | exact CkS.keep (by assumption) | exact CkS.keep (CkS.drew (by assumption)) | exact CkS.keep (CkS.drew (And.left (by assumption)))) (first | (go_at_call 21; refine (kyS_lay (by first | assumption | exact And.left (by assumption)) (by first | exact HO1.out | exact HO1.out.drew) (layE_2 _)).mono ?_; rintro e w' ⟨rfl, hSx, hOx⟩) | (go_at_call 54; refine (kyS_key (by first | assumption | exact And.left (by assumption)) hne (key2 _ xs (2, i, t) B _ (CkS.le (by first | assumption | exact And.left (by assumption))) (by first | exact hOx | exact hOx.drew) (Nat.le_trans hx (by omega)) hv2 hv3)).mono ?_; rintro e w' ⟨b2, rfl, hSy, hOy⟩))
          have HB3 : Hid (Below B w1 _) := hSy.1.1
          have HO3 : Hid (ownB _ B b2 (xs ++ _)) := hOy
          clear hs0 c0 c1 c2 hSx hSy hOx hOy HO1
          go_wp2
          go_roundw
          case rel => exact ⟨k + 1, by omega, by go_num, by rw [HK.out]; exact HO3.out, HB3.out⟩
          case measure => simp [intOf]; omega
        · go_wp2_with fail
          have hs0 := CkS.new 3 i t HBl.out hBr
          have c0 := hs0.2.1
          have c1 := hs0.2.2.1
          have c2 := hs0.2.2.2
          have HO1 : Hid (ownB (wr.alloc (.cells #[.int .i64 3, .int .i64 i, .string t] 45)) B _ (keyL (vs.take k))) := HO.out.alloc _
          clear y0 y1 y2 hn1 HBl hBr HO
          generalize wr.alloc (.cells #[.int .i64 3, .int .i64 i, .string t] 45) = W at *
          generalize wr.heap.size = n at *
          generalize hxs : keyL (vs.take k) = xs at *
          go_region_held3 (fun W' => CkS w1 B n 3 i t W' ∧ W'.cell? ⟨n, 0, none⟩ = some (.int .i64 3) ∧ W'.cell? ⟨n, 1, none⟩ = some (.int .i64 i) ∧ W'.cell? ⟨n, 2, none⟩ = some (.string t)) (first | assumption | exact CkS.keep (by assumption) | exact CkS.keep (CkS.drew (by assumption)) | exact CkS.keep (CkS.drew (And.left (by assumption)))) (first | (go_at_call 21; refine (kyS_lay (by first | assumption | exact And.left (by assumption)) (by first | exact HO1.out | exact HO1.out.drew) (layE_3 _)).mono ?_; rintro e w' ⟨rfl, hSx, hOx⟩) | (go_at_call 59; refine (kyS_key (by first | assumption | exact And.left (by assumption)) hne (key3 _ xs (3, i, t) B _ (CkS.le (by first | assumption | exact And.left (by assumption))) (by first | exact hOx | exact hOx.drew) hx hv4)).mono ?_; rintro e w' ⟨b2, rfl, hSy, hOy⟩))
          have HB3 : Hid (Below B w1 _) := hSy.1.1
          have HO3 : Hid (ownB _ B b2 (xs ++ _)) := hOy
          clear hs0 c0 c1 c2 hSx hSy hOx hOy HO1
          go_wp2
          go_roundw
          case rel => exact ⟨k + 1, by omega, by go_num, by rw [HK.out]; exact HO3.out, HB3.out⟩
          case measure => simp [intOf]; omega
      · have hke : vs.take k = vs := List.take_of_length_le (by omega)
        rw [hke] at HO
        have hcv := HO.out.conv
        go_wp2
        go_ret2
        exact ⟨rfl, HB1.out.trans HBl.out⟩
  · rw [if_neg hf]
    generalize faultL vs = c at *
    have hcc : (c != 0) = true := by simpa using hf
    go_enter Try.func7, Try.ntmps7
    go_wp2_with fail
    refine hC.mono ?_
    rintro e w1 ⟨rfl, hb1⟩
    have HA := HA0.out.later hb1
    have HB1 : Hid (Below B w w1) := hb1
    have hB1 : B ≤ w1.heap.size := by have := hb1.size; omega
    clear hb1 HA0 hC
    go_wp2
    go_ret2
    exact ⟨rfl, HB1.out⟩
end Go.Proofs.Ytfabgoanammaiaa
