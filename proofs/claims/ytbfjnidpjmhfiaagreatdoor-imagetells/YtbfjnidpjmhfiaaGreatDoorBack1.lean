import Derived.Test.YtbfjnidpjmhfiaaGreatDoorReads7
import Derived.Test.YtbfjnidpjmhfiaaGreatDoorNumbers2
import Derived.Lib.Strings
namespace Go.Proofs.YtbfjnidpjmhfiaaGreatDoor
open Go.ChangeShapes Go.WideShapes Go.ChangeAt Go.RowKit
set_option linter.unusedVariables false

/-- From p on s holds the bytes xs. -/
def HasAt (s : ByteArray) (p : Nat) (xs : List Int) : Prop := ∀ i (hi : i < xs.length), ∃ h : p + i < s.size, (s[p + i].toNat : Int) = xs[i]
theorem HasAt.tail {s : ByteArray} {p : Nat} {x : Int} {xs : List Int} (h : HasAt s p (x :: xs)) : HasAt s (p + 1) xs := by
  intro i hi
  obtain ⟨h1, h2⟩ := h (i + 1) (by simp; omega)
  refine ⟨by omega, ?_⟩
  simp only [List.getElem_cons_succ] at h2
  rw [← h2]; congr 3; omega
theorem HasAt.head {s : ByteArray} {p : Nat} {x : Int} {xs : List Int} (h : HasAt s p (x :: xs)) : ∃ h : p < s.size, (s[p].toNat : Int) = x := h 0 (by simp)
theorem ru_back_end (s : ByteArray) (p acc v : Nat) (h : HasAt s (p + 9) (uvF 0 v)) (hv : v * 128 ^ 9 < 18446744073709551616) (h0 : 0 < v) : ruF s p 1 9 acc = (acc + v * 128 ^ 9, 9 + (uvF 0 v).length, 0) := by
  obtain ⟨hl, hb⟩ := HasAt.head (x := (v : Int)) (xs := []) h
  have hv1 : v ≤ 1 := by omega
  have hb' : s[p + 9].toNat = v := by omega
  rw [ruF_done s p 0 9 acc hl (fun _ => by omega) (by omega) (.inl (by omega)), hb']
  simp only [uvF, List.length_singleton]
theorem ru_back_small (s : ByteArray) (p f n acc v : Nat) (h : HasAt s (p + n) (uvF f v)) (hn : n ≤ 8) (h0 : 0 < v ∨ n = 0) (hlt : v < 128) : ruF s p (f + 1) n acc = (acc + v * 128 ^ n, n + (uvF f v).length, 0) := by
  rw [uvF_small f v (by omega)] at h ⊢
  obtain ⟨hl, hb⟩ := h.head
  have hb' : s[p + n].toNat = v := by omega
  rw [ruF_done s p f n acc hl (by omega) (by omega) (by omega), hb']
  simp only [List.length_singleton]
theorem ru_back_worth (v n : Nat) : v % 128 * 128 ^ n + v / 128 * 128 ^ (n + 1) = v * 128 ^ n := by
  rw [Nat.pow_succ, Nat.mul_comm (128 ^ n) 128, ← Nat.mul_assoc, ← Nat.add_mul]
  congr 1; omega
theorem ru_back (s : ByteArray) (p : Nat) (f : Nat) : ∀ (n acc v : Nat), f + n = 9 → HasAt s (p + n) (uvF f v) → v * 128 ^ n < 18446744073709551616 → (0 < v ∨ n = 0) → ruF s p (f + 1) n acc = (acc + v * 128 ^ n, n + (uvF f v).length, 0) := by
  induction f with
  | zero =>
    intro n acc v hf h hv h0
    have hn : n = 9 := by omega
    subst hn
    exact ru_back_end s p acc v h hv (by omega)
  | succ f ih =>
    intro n acc v hf h hv h0
    by_cases hlt : v < 128
    · exact ru_back_small s p (f + 1) n acc v h (by omega) h0 hlt
    · rw [uvF_great f v (by omega)] at h ⊢
      obtain ⟨hl, hb⟩ := h.head
      have hb' : s[p + n].toNat = v % 128 + 128 := by omega
      have hq := ru_back_worth v n
      have e : ((v : Int) / 128) = ((v / 128 : Nat) : Int) := by omega
      rw [ruF_more s p (f + 1) n acc hl (by omega) (by omega), e]
      have ht := h.tail
      rw [e] at ht
      rw [ih (n + 1) _ (v / 128) (by omega) ht (by omega) (by omega), show s[p + n].toNat % 128 = v % 128 from by omega]
      simp only [List.length_cons, Prod.mk.injEq, and_true]
      constructor
      · omega
      · omega
theorem ru_back0 (s : ByteArray) (p v : Nat) (h : HasAt s p (uvB v)) (hv : v < 18446744073709551616) : ruV s p = (v, (uvB v).length, 0) := by
  have := ru_back s p 9 0 0 v rfl (by rw [Nat.add_zero]; exact h) (by simpa using hv) (by omega)
  unfold ruV uvB
  rw [this]; simp
theorem uvF_high : ∀ (f : Nat) (v : Int) (i : Nat) (hi : i + 1 < (uvF f v).length), 0 ≤ v → 128 ≤ (uvF f v)[i]'(by omega)
  | 0, v, i, hi, _ => by simp [uvF] at hi
  | f + 1, v, i, hi, hv => by
    by_cases hlt : v < 128
    · rw [uvF_small (f + 1) v hlt] at hi; simp at hi
    · have e := uvF_great f v (by omega)
      cases i with
      | zero => simp only [e, List.getElem_cons_zero]; omega
      | succ i =>
        simp only [e, List.length_cons] at hi
        have := uvF_high f (v / 128) i (by omega) (by omega)
        simp only [e, List.getElem_cons_succ]; exact this
theorem app_has (h a t : ByteArray) (xs : List Int) (ha : ∀ i (hi : i < xs.length), ∃ hh : i < a.size, (a[i].toNat : Int) = xs[i]) : HasAt (h ++ a ++ t) h.size xs := by
  intro i hi
  obtain ⟨h1, h2⟩ := ha i hi
  refine ⟨by simp; omega, ?_⟩
  rw [← h2]
  have : (h ++ a ++ t)[h.size + i]'(by simp; omega) = a[i] := by
    simp only [ByteArray.getElem_eq_getElem_data, ByteArray.data_append]
    rw [Array.getElem_append_left (by simp; exact h1), Array.getElem_append_right (by simp)]
    simp
  rw [this]
theorem nums_get (xs : List Int) (hx : ∀ x ∈ xs, 0 ≤ x ∧ x < 256) (i : Nat) (hi : i < xs.length) : ∃ hh : i < (strOfNums xs).size, ((strOfNums xs)[i].toNat : Int) = xs[i] := by
  refine ⟨by rw [strOfNums_size]; exact hi, ?_⟩
  have := hx xs[i] (List.getElem_mem hi)
  simp only [ByteArray.getElem_eq_getElem_data, strOfNums, List.getElem_toArray, List.getElem_map]
  rw [UInt8.toNat_ofNat']
  omega
theorem uvF_bytes : ∀ (f : Nat) (v : Int), 0 ≤ v → v < 128 ^ (f + 1) → ∀ x ∈ uvF f v, 0 ≤ x ∧ x < 256
  | 0, v, h0, h1, x, hx => by
    simp [uvF] at hx; subst hx; simp at h1; omega
  | f + 1, v, h0, h1, x, hx => by
    by_cases hlt : v < 128
    · rw [uvF_small (f + 1) v hlt] at hx; simp at hx; omega
    · rw [uvF_great f v (by omega)] at hx
      simp only [List.mem_cons] at hx
      rcases hx with rfl | hx
      · omega
      · refine uvF_bytes f (v / 128) (by omega) ?_ x hx
        rw [Int.pow_succ] at h1; omega
theorem uvB_bytes (v : Int) (h0 : 0 ≤ v) (h1 : v ≤ 18446744073709551615) : ∀ x ∈ uvB v, 0 ≤ x ∧ x < 256 := uvF_bytes 9 v h0 (by omega)
theorem fxB_bytes : ∀ (n : Nat) (v : Int), ∀ x ∈ fxB n v, 0 ≤ x ∧ x < 256
  | 0, v, x, hx => by simp [fxB] at hx
  | n + 1, v, x, hx => by
    simp only [fxB, List.mem_cons] at hx
    rcases hx with rfl | hx
    · omega
    · exact fxB_bytes n _ x hx
/-- What was laid down is read back. -/
theorem back_u (h t : ByteArray) (v : Nat) (hv : v < 18446744073709551616) : rU (h ++ strOfNums (uvB v) ++ t) h.size = ((v : Int), (h.size : Int) + ((uvB v).length : Nat), 0) := by
  have hh := app_has h (strOfNums (uvB v)) t (uvB v) (fun i hi => nums_get (uvB v) (uvB_bytes v (by omega) (by omega)) i hi)
  exact rU_ok (by simp; omega) (ru_back0 _ _ v hh hv)
theorem sdec_sv (i : Int) : sdec (svV i).toNat = i := by
  unfold svV sdec
  split
  · rw [if_pos (by omega)]; omega
  · rw [if_neg (by omega)]; omega
theorem back_s (h t : ByteArray) (i : Int) (h0 : -9223372036854775808 ≤ i) (h1 : i ≤ 9223372036854775807) : rS (h ++ strOfNums (uvB (svV i)) ++ t) h.size = (i, (h.size : Int) + ((uvB (svV i)).length : Nat), 0) := by
  have hb := svV_bounds i h0 h1
  obtain ⟨u, hu⟩ := Int.eq_ofNat_of_zero_le hb.1
  have := back_u h t u (by omega)
  rw [rS_of, hu, this]
  simp only [if_true, Int.toNat_natCast]
  rw [show sdec u = i from by rw [← sdec_sv i, hu, Int.toNat_natCast]]
theorem fx_back (s : ByteArray) (p : Nat) : ∀ (n : Nat) (v : Nat), HasAt s p (fxB n v) → fxV s p n = v % 256 ^ n
  | 0, v, _ => by simp [fxV, Nat.mod_one]
  | n + 1, v, h => by
    have hi : n < (fxB (n + 1) v).length := by rw [fxB_len]; omega
    obtain ⟨hl, hb⟩ := h n hi
    have hg := fxB_get (n + 1) n v (by omega)
    rw [List.getElem?_eq_getElem hi] at hg
    have hg' := Option.some.inj hg
    rw [hg'] at hb
    have hpre : HasAt s p (fxB n v) := by
      intro i hi2
      rw [fxB_len] at hi2
      obtain ⟨a, b⟩ := h i (by rw [fxB_len]; omega)
      refine ⟨a, ?_⟩
      rw [b]
      have h1 := fxB_get (n + 1) i v (by omega)
      have h2 := fxB_get n i v hi2
      rw [List.getElem?_eq_getElem (by rw [fxB_len]; omega)] at h1 h2
      rw [Option.some.inj h1, Option.some.inj h2]
    rw [fxV_succ s p n hl, fx_back s p n v hpre]
    have e : (v : Int) / 256 ^ n % 256 = ((v / 256 ^ n % 256 : Nat) : Int) := by
      have : ((256 : Int) ^ n) = ((256 ^ n : Nat) : Int) := by simp
      rw [this]; omega
    rw [e] at hb
    rw [show s[p + n].toNat = v / 256 ^ n % 256 from by omega, Nat.pow_succ, Nat.mod_mul, Nat.mul_comm (v / 256 ^ n % 256)]
theorem back_n (h t : ByteArray) (n v : Nat) (hv : v < 256 ^ n) : rN (h ++ strOfNums (fxB n v) ++ t) h.size n = ((v : Int), (h.size : Int) + n, 0) := by
  have hh := app_has h (strOfNums (fxB n v)) t (fxB n v) (fun i hi => nums_get (fxB n v) (fxB_bytes n v) i hi)
  have hf := fx_back _ _ n v hh
  rw [Nat.mod_eq_of_lt hv] at hf
  have hle : h.size + n ≤ (h ++ strOfNums (fxB n v) ++ t).size := by simp [strOfNums_size, fxB_len]
  unfold rN
  rw [rd3_ok _ h.size (0 : Int) _ (by omega) (by show fxE _ _ _ = 0; unfold fxE; rw [if_pos hle])]
  simp only [hf]

theorem back_short (h : ByteArray) (v : Int) (h0 : 0 ≤ v) (h1 : v ≤ 18446744073709551615) : rU (h ++ (strOfNums (uvB v)).extract 0 ((strOfNums (uvB v)).size - 1)) h.size = (0, (h.size : Int), 11) := by
  have hlen := uvB_len v
  have hsz : (strOfNums (uvB v)).size = (uvB v).length := strOfNums_size _
  have hes : ((strOfNums (uvB v)).extract 0 ((strOfNums (uvB v)).size - 1)).size = (uvB v).length - 1 := by rw [ByteArray.size_extract]; omega
  have hall : allHi (h ++ (strOfNums (uvB v)).extract 0 ((strOfNums (uvB v)).size - 1)) h.size ((uvB v).length - 1) := by
    intro i hi
    refine ⟨by rw [ByteArray.size_append, hes]; omega, ?_⟩
    obtain ⟨hh, he⟩ := nums_get (uvB v) (uvB_bytes v h0 h1) i (by omega)
    have hu := uvF_high 9 v i (by have : (uvB v).length = (uvF 9 v).length := rfl; omega) h0
    have e2 : (h ++ (strOfNums (uvB v)).extract 0 ((strOfNums (uvB v)).size - 1))[h.size + i]'(by rw [ByteArray.size_append, hes]; omega) = (strOfNums (uvB v))[i] := by
      rw [ByteArray.getElem_append_right (by omega)]
      simp only [Nat.add_sub_cancel_left]
      rw [ByteArray.getElem_extract]
      simp only [Nat.zero_add]
    rw [e2]
    have hu' : 128 ≤ (uvB v)[i] := hu
    omega
  have := ru_short _ h.size ((uvB v).length - 1) (by omega) hall (by rw [ByteArray.size_append, hes]; omega)
  exact rU_err (by rw [ByteArray.size_append]; omega) this (by decide)
theorem back_b (h t : ByteArray) (ht : t.size ≤ 1048576) : rB (h ++ (strOfNums (uvB t.size) ++ t) ++ t) h.size = (t, (h.size : Int) + (((strOfNums (uvB t.size)) ++ t).size : Nat), 0) := by
  have hs1 : (strOfNums (uvB t.size)).size = (uvB (t.size : Int)).length := strOfNums_size _
  have hh : HasAt (h ++ (strOfNums (uvB t.size) ++ t) ++ t) h.size (uvB t.size) := by
    have := app_has h (strOfNums (uvB t.size)) (t ++ t) (uvB t.size) (fun i hi => nums_get (uvB t.size) (uvB_bytes t.size (by omega) (by omega)) i hi)
    have e : h ++ strOfNums (uvB t.size) ++ (t ++ t) = h ++ (strOfNums (uvB t.size) ++ t) ++ t := by simp only [ByteArray.append_assoc]
    rwa [e] at this
  have hv := ru_back0 _ _ t.size hh (by omega)
  have hsz : (h ++ (strOfNums (uvB t.size) ++ t) ++ t).size = h.size + (uvB (t.size : Int)).length + t.size + t.size := by simp only [ByteArray.size_append, hs1]; omega
  have hex : (h ++ (strOfNums (uvB t.size) ++ t) ++ t).extract (h.size + (uvB (t.size : Int)).length) (h.size + (uvB (t.size : Int)).length + t.size) = t := by
    apply ByteArray.ext
    apply Array.ext'
    rw [Lib.extract_data]
    simp only [ByteArray.data_append, Array.toList_append]
    have l1 : h.data.toList.length = h.size := by simp
    have l2 : (strOfNums (uvB t.size)).data.toList.length = (uvB (t.size : Int)).length := by simp [← hs1]
    have l3 : t.data.toList.length = t.size := by simp
    rw [List.append_assoc, List.append_assoc, ← List.append_assoc, List.drop_append_of_le_length (by simp [l1, l2] <;> omega), List.drop_eq_nil_of_le (by simp [l1, l2] <;> omega), List.nil_append, Nat.add_sub_cancel_left, List.take_append_of_le_length (by omega), List.take_of_length_le (by omega)]
  have hrb : rbV (h ++ (strOfNums (uvB t.size) ++ t) ++ t) h.size 1048576 = (t, (uvB (t.size : Int)).length + t.size, 0) := by
    unfold rbV
    rw [hv]
    simp only [if_true]
    rw [if_neg (by omega), if_pos (by rw [hsz]; omega), hex]
  have := rd3_ok (h ++ (strOfNums (uvB t.size) ++ t) ++ t) h.size ByteArray.empty (tB _) (by rw [hsz]; omega) (by unfold tB; rw [hrb])
  unfold rB
  rw [this]
  unfold tB
  rw [hrb, ByteArray.size_append, hs1]
end Go.Proofs.YtbfjnidpjmhfiaaGreatDoor
