import Derived.Test.YtppfgcdfmdmffaaSchP6
namespace Go.Proofs.Ytppfgcdfmdmffaa
open Go.ChangeShapes Go.WideShapes Go.ChangeAt Go.RowKit
set_option linter.unusedVariables false

def encB (vs : List (Int × Int × Int)) : List Int := vs.flatMap drP
theorem drP_len (p : Int × Int × Int) : (drP p).length ≤ 2 := by
  unfold drP
  repeat (split <;> try simp)
theorem encB_len : ∀ vs : List (Int × Int × Int), (encB vs).length ≤ 2 * vs.length
  | [] => by simp [encB]
  | p :: r => by
    have h1 := drP_len p
    have h2 := encB_len r
    have e : encB (p :: r) = drP p ++ encB r := by unfold encB; rw [List.flatMap_cons]
    rw [e, List.length_append, List.length_cons]; omega
theorem encB_take (vs : List (Int × Int × Int)) (k : Nat) (h : k < vs.length) : encB (vs.take (k + 1)) = encB (vs.take k) ++ drP vs[k] := by
  unfold encB
  rw [List.take_add_one, List.flatMap_append, List.getElem?_eq_getElem h]
  simp
/-- What Encode answers. -/
def encA (vs : List (Int × Int × Int)) : Value :=
  if dL (strOfNums (encB vs)).data.toList = vs then .tuple #[.string (strOfNums (encB vs)), .int .i64 0] else .tuple #[.string ⟨#[]⟩, .int .i64 33]
set_option maxRecDepth 100000 in
set_option maxHeartbeats 3200000 in
theorem encode_any (a : Value) (vs : List (Int × Int × Int)) (B : Nat) (w : World) (hB : B ≤ w.heap.size) (ha : SeesP w B a vs) (hv : ∀ p ∈ vs, wfP p) (hl : vs.length ≤ 1048577) :
    Calls Try.prog 8 #[a] w fun e w' => e = .returned (encA vs) ∧ Below B w w' := by
  have HS0 : Hid (SeesP w B a vs) := ha
  obtain ⟨ao, cap, rfl, hl1, hc1, hs1⟩ := ha
  have HA : Hid _ := hs1
  clear hs1
  go_enter Try.func8, Try.ntmps8
  go_wp2_with fail
  go_loopw [4, 10] (fun c i wr => ∃ k : Nat, k ≤ vs.length ∧ i = .int .i64 (k : Int) ∧ ownB wr w.heap.size c (encB (vs.take k)) ∧ Below w.heap.size w wr) (fun _ i _ => vs.length - (intOf i).toNat)
  case atStart => exact ⟨0, by omega, rfl, ownB_nil _ _, Below.refl _ _⟩
  case round =>
    obtain ⟨k, hk, rfl, hown, hbel⟩ := hrel
    have HO : Hid (ownB wr w.heap.size _ (encB (vs.take k))) := hown
    have HB : Hid (Below w.heap.size w wr) := hbel
    clear hown hbel
    by_cases h1 : k < vs.length
    · obtain ⟨b1, o1, e1, hb1, x0, x1, x2⟩ := HA.out k h1
      have hbw : b1 < w.heap.size := by omega
      have y0 := (HB.out.cell (p := ⟨b1, o1 + k * 3, none⟩) hbw).trans x0
      have y1 := (HB.out.cell (p := ⟨b1, o1 + k * 3 + 1, none⟩) hbw).trans x1
      have y2 := (HB.out.cell (p := ⟨b1, o1 + k * 3 + 2, none⟩) hbw).trans x2
      clear x0 x1 x2
      subst e1
      have HT : Hid _ := encB_take vs k h1
      have hwf := hv _ (List.getElem_mem h1)
      have hel := encB_len (vs.take k)
      rw [List.length_take] at hel
      have h1' : (k : Int) < (vs.length : Int) := by omega
      have HD : Hid (∀ o, Calls Try.prog 30 #[_, .agg #[.int .i64 vs[k].1, .int .i64 vs[k].2.1, .int .i64 vs[k].2.2]] (wr.alloc o) fun e w' => ∃ b', e = .returned b' ∧ ownB w' w.heap.size b' (encB (vs.take k) ++ drP vs[k]) ∧ Below w.heap.size (wr.alloc o) w') := fun o => draft_any _ (encB (vs.take k)) vs[k] w.heap.size (wr.alloc o) (Nat.le_trans HB.out.size (Nat.le_of_lt (lt_alloc wr o))) hwf (HO.out.alloc o) (by omega)
      clear HA hel hwf
      go_wp2_with fail
      refine (HD.out _).mono ?_
      rintro e w1 ⟨b', rfl, ho, hb⟩
      have HO1 : Hid (ownB w1 w.heap.size b' _) := ho
      have HB1 : Hid (Below w.heap.size w w1) := (HB.out.alloc HB.out.size _).trans hb
      clear ho hb HD y0 y1 y2
      go_wp2
      go_roundw
      case rel => exact ⟨k + 1, by omega, by go_num, by rw [HT.out]; exact HO1.out, HB1.out⟩
      case measure => simp [intOf]; omega
    · have e : k = vs.length := by omega
      subst e
      have h2 := HO.out
      rw [List.take_length] at h2
      have HO2 : Hid (ownB wr w.heap.size _ (encB vs)) := h2
      clear h2
      have hcv := HO2.out.conv
      have hel := encB_len vs
      have hsz := strOfNums_size (encB vs)
      have hDc := decode_any (strOfNums (encB vs)) wr (by omega)
      have hdl := (dL_len _ (strOfNums (encB vs)).data.toList (Nat.le_refl _)).1
      rw [len_list] at hdl
      have HDc : Hid (∀ _ : Unit, _) := fun _ => hDc
      have HF : Hid (∀ b, decide (dL (strOfNums (encB vs)).data.toList = vs) = b → encA vs = if b then .tuple #[.string (strOfNums (encB vs)), .int .i64 0] else .tuple #[.string ⟨#[]⟩, .int .i64 33]) := fun b hb => by
        unfold encA
        cases b
        · rw [if_neg (by simpa using hb)]; rfl
        · rw [if_pos (by simpa using hb)]; rfl
      have HL : Hid ((dL (strOfNums (encB vs)).data.toList).length ≤ 140737488355328) := by show _ ≤ _; omega
      have hlt : ¬ ((vs.length : Nat) : Int) < ((vs.length : Nat) : Int) := by omega
      clear hDc hel hsz hdl HO HA hv
      generalize strOfNums (encB vs) = t at *
      go_wp2_with fail
      refine (HDc.out ()).mono ?_
      rintro e w1 ⟨v, rfl, ho, hb⟩
      have HB1 : Hid (Below w.heap.size w w1) := HB.out.trans (hb.mono HB.out.size)
      have HE : Hid (∀ _ : Unit, _) := fun _ => equal_any v _ _ vs w1.heap.size w1 (Nat.le_refl _) (ho.seesAll HL.out) ((HS0.out.later (HB1.out.mono hB)).mono (Nat.le_trans hB HB1.out.size))
      clear ho hb HB HDc HO2 hcv
      cases hb : decide (dL t.data.toList = vs)
      · rw [hb] at HE
        have HR := HF.out _ hb
        have HR2 : Hid _ := HR
        clear HF HR hb
        go_wp2_with fail
        refine (HE.out ()).mono ?_
        rintro e w2 ⟨rfl, h2⟩
        have HB2 : Hid (Below w.heap.size w w2) := HB1.out.trans (h2.mono HB1.out.size)
        clear h2 HB1 HE
        go_wp2
        go_ret2
        exact ⟨by rw [HR2.out]; rfl, HB2.out.mono hB⟩
      · rw [hb] at HE
        have HR := HF.out _ hb
        have HR2 : Hid _ := HR
        clear HF HR hb
        go_wp2_with fail
        refine (HE.out ()).mono ?_
        rintro e w2 ⟨rfl, h2⟩
        have HB2 : Hid (Below w.heap.size w w2) := HB1.out.trans (h2.mono HB1.out.size)
        clear h2 HB1 HE
        go_wp2
        go_ret2
        exact ⟨by rw [HR2.out]; rfl, HB2.out.mono hB⟩
end Go.Proofs.Ytppfgcdfmdmffaa
