import Derived.Test.YtlidkdnfibfnfaaGreatDoorLxR6
namespace Go.Proofs.YtlidkdnfibfnfaaGreatDoor
open Go.ChangeShapes Go.WideShapes Go.ChangeAt Go.RowKit
set_option linter.unusedVariables false
set_option maxRecDepth 100000
/-- Words with a blank before, between and behind. -/
def spc (ws : List (List UInt8)) : List UInt8 := 32 :: ws.flatMap (fun u => u ++ [32])
theorem sep_pre : ∀ (v u R : List UInt8), (32 : UInt8) ∉ v → (32 : UInt8) ∉ u → (v ++ [32] <+: u ++ 32 :: R ↔ v = u)
  | [], [], R, _, _ => by simp
  | [], c :: u, R, _, hu => by
    constructor
    · intro h
      have : (32 : UInt8) = c := by
        obtain ⟨t, ht⟩ := h
        simp at ht
        exact ht.1
      exact absurd (by rw [this]; exact List.mem_cons_self) hu
    · intro h; cases h
  | c :: v, [], R, hv, _ => by
    constructor
    · intro h
      have : c = 32 := by
        obtain ⟨t, ht⟩ := h
        simp at ht
        exact ht.1
      exact absurd (by rw [← this]; exact List.mem_cons_self) hv
    · intro h; cases h
  | c :: v, d :: u, R, hv, hu => by
    rw [List.cons_append, List.cons_append, List.cons_prefix_cons, sep_pre v u R (fun h => hv (List.mem_cons_of_mem _ h)) (fun h => hu (List.mem_cons_of_mem _ h))]
    constructor
    · rintro ⟨rfl, rfl⟩; rfl
    · intro h; injection h with h1 h2; exact ⟨h1, h2⟩
theorem inf_skip (X T : List UInt8) : ∀ (u : List UInt8), (32 : UInt8) ∉ u → ((32 :: X) <:+: u ++ T ↔ (32 :: X) <:+: T)
  | [], _ => Iff.rfl
  | c :: u, hu => by
    rw [List.cons_append, List.infix_cons_iff, inf_skip X T u (fun h => hu (List.mem_cons_of_mem _ h)), List.cons_prefix_cons]
    constructor
    · rintro (⟨rfl, _⟩ | h)
      · exact absurd List.mem_cons_self hu
      · exact h
    · exact Or.inr
theorem inf_words (v : List UInt8) (hv : (32 : UInt8) ∉ v) : ∀ (ws : List (List UInt8)), (∀ u ∈ ws, (32 : UInt8) ∉ u) → ((32 :: (v ++ [32])) <:+: spc ws ↔ v ∈ ws)
  | [], _ => by
    constructor
    · intro h
      have := h.length_le
      simp [spc] at this
    · intro h; cases h
  | u :: ws, hws => by
    have hu := hws u List.mem_cons_self
    have e : spc (u :: ws) = 32 :: (u ++ spc ws) := by simp [spc]
    rw [e, List.infix_cons_iff, inf_skip _ _ u hu, inf_words v hv ws (fun x hx => hws x (List.mem_cons_of_mem _ hx)), List.cons_prefix_cons, show spc ws = 32 :: ws.flatMap (fun u => u ++ [32]) from rfl, sep_pre v u _ hv hu, List.mem_cons]
    simp
theorem kws_sp : ∀ u ∈ kws, (32 : UInt8) ∉ u := by decide
theorem kws_n : (spc kws).length = 353 := by decide
theorem inf_at {X L : List UInt8} : X <:+: L ↔ ∃ i, i + X.length ≤ L.length ∧ (L.drop i).take X.length = X := by
  constructor
  · rintro ⟨a, b, rfl⟩
    refine ⟨a.length, by simp, ?_⟩
    rw [List.append_assoc, List.drop_left, List.take_left]
  · rintro ⟨i, _, h⟩
    refine ⟨L.take i, (L.drop i).drop X.length, ?_⟩
    conv => lhs; rw [List.append_assoc]; arg 2; arg 1; rw [← h]
    rw [List.take_append_drop, List.take_append_drop]
theorem str_beq (a b : ByteArray) : (a.toList == b.toList) = decide (a = b) := by
  by_cases h : a = b
  · rw [h, decide_eq_true rfl, beq_self_eq_true]
  · rw [decide_eq_false h, beq_eq_false_iff_ne]
    intro h2
    rw [ByteArray.toList_eq, ByteArray.toList_eq] at h2
    exact h (bytes_inj h2)
/-- What the search for a word, a blank on either side, finds in the list. -/
theorem kw_iff {K X v : ByteArray} (hK : K.data.toList = spc kws) (hX : X.data.toList = 32 :: (v.data.toList ++ [32])) (hv : (32 : UInt8) ∉ v.data.toList) : (∃ i, i + X.size ≤ 353 ∧ K.extract i (i + X.size) = X) ↔ isKw v = true := by
  have hXs : X.size = X.data.toList.length := rfl
  unfold isKw
  rw [List.contains_iff_mem, ← inf_words _ hv kws kws_sp, ← hX, inf_at, kws_n]
  refine exists_congr fun i => and_congr (by rw [hXs]) ?_
  rw [← hK]
  have e : (K.extract i (i + X.size)).data.toList = (K.data.toList.drop i).take X.data.toList.length := by
    rw [ByteArray.data_extract, Array.toList_extract, List.extract_eq_take_drop, Nat.add_sub_cancel_left, hXs]
  rw [← e]
  constructor
  · intro h; rw [h]
  · intro h; exact ByteArray.ext (Array.toList_inj.1 h)
set_option maxHeartbeats 6400000 in
theorem refKeyword (v : ByteArray) (w : World) (hvs : v.size ≤ 12) (hv : (32 : UInt8) ∉ v.data.toList) : Calls Tryz.prog 36 #[.string v] w fun e w' => e = .returned (.bool (isKw v)) ∧ w' = w := by
  go_enter Tryz.func36, Tryz.ntmps36
  go_wp2_with fail
  generalize hK : (ByteArray.mk (List.toArray (List.append _ _))) = K
  have HK : Hid (K.data.toList = spc kws) := by
    show K.data.toList = spc kws
    rw [← hK]
    rfl
  have hKs : K.size = 353 := by
    show K.data.toList.length = 353
    rw [HK.out]
    exact kws_n
  clear hK
  generalize hX : ((ByteArray.mk #[32]) ++ v ++ (ByteArray.mk #[32])) = X
  have HX : Hid (X.data.toList = 32 :: (v.data.toList ++ [32])) := by
    show X.data.toList = 32 :: (v.data.toList ++ [32])
    rw [← hX, ByteArray.data_append, ByteArray.data_append]
    simp
  have hXs : X.size = v.size + 2 := by
    show X.data.toList.length = v.data.toList.length + 2
    rw [HX.out]
    simp
  clear hX
  have HI : Hid _ := kw_iff HK.out HX.out hv
  go_loopw [4] (fun x wr => ∃ i : Nat, i ≤ 353 ∧ x = .int .i64 (i : Int) ∧ (∀ k < i, ¬ (k + X.size ≤ 353 ∧ K.extract k (k + X.size) = X)) ∧ wr = w) (fun x _ => 353 - (intOf x).toNat)
  case atStart => exact ⟨0, by omega, rfl, fun k hk => by omega, rfl⟩
  case round =>
    obtain ⟨i, hi, rfl, hno, hw⟩ := hrel
    subst hw
    have HNo : Hid (∀ k < i, ¬ (k + X.size ≤ 353 ∧ K.extract k (k + X.size) = X)) := hno
    clear hno
    by_cases hle : i + X.size ≤ 353
    · have hle' : (i : Int) + (X.size : Int) ≤ 353 := by omega
      have hle2 : (i : Int) + ((v.size : Int) + 2) ≤ 353 := by omega
      by_cases he : K.extract i (i + X.size) = X
      · have HE : Hid (isKw v = true) := HI.out.1 ⟨i, hle, he⟩
        have hbq : ((K.extract i (i + (v.size + 2))).toList == X.toList) = true := by rw [str_beq]; exact decide_eq_true (by rw [← hXs]; exact he)
        clear he
        go_wp2
        go_ret
        exact ⟨by rw [HE.out]; rfl, rfl⟩
      · have hbq : ((K.extract i (i + (v.size + 2))).toList == X.toList) = false := by rw [str_beq]; exact decide_eq_false (by rw [← hXs]; exact he)
        have HE : Hid (∀ k < i + 1, ¬ (k + X.size ≤ 353 ∧ K.extract k (k + X.size) = X)) := fun k hk => by
          rcases Nat.lt_or_ge k i with h | h
          · exact HNo.out k h
          · rw [show k = i from by omega]
            exact fun h => he h.2
        clear he
        go_wp2
        go_roundw
        case rel => exact ⟨i + 1, by omega, by go_num, HE.out, trivial⟩
        case measure => simp [intOf]; omega
    · have hle' : ¬ (i : Int) + (X.size : Int) ≤ 353 := by omega
      have hle2 : ¬ (i : Int) + ((v.size : Int) + 2) ≤ 353 := by omega
      have HE : Hid (isKw v = false) := by
        show isKw v = false
        rw [← Bool.not_eq_true, ← HI.out]
        rintro ⟨k, h1, h2⟩
        rcases Nat.lt_or_ge k i with h | h
        · exact HNo.out k h ⟨h1, h2⟩
        · omega
      go_wp2
      go_ret
      exact ⟨by rw [HE.out]; rfl, rfl⟩
end Go.Proofs.YtlidkdnfibfnfaaGreatDoor
