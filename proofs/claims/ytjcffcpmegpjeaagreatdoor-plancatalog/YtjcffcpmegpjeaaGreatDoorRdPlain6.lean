import Derived.Test.YtjcffcpmegpjeaaGreatDoorRdPlain4
import Derived.Test.YtjcffcpmegpjeaaGreatDoorOrd1
namespace Go.Proofs.YtjcffcpmegpjeaaGreatDoor
set_option linter.unusedVariables false
set_option maxRecDepth 100000

theorem canV_of (v : Int × Int × ByteArray) (h : faultV v = 0) (h0 : -9223372036854775808 ≤ v.2.1) (h1 : v.2.1 ≤ 9223372036854775807) : canV v := by
  have hf := fit_of v h
  obtain ⟨a, i, t⟩ := v
  simp only at hf h0 h1
  have em : t.data.toList = [] → t = ⟨#[]⟩ := fun e => bytes_ext e
  rcases hf with ⟨f1, f2, f3⟩ | ⟨f1, f2, f3, f4⟩ | ⟨f1, f2⟩ | ⟨f1, f2, f3⟩
  · exact .inl (by rw [f1, f2, em f3])
  · exact .inr (.inl ⟨i, by rw [f1, em f4], f2, f3⟩)
  · exact .inr (.inr (.inl ⟨i, by rw [f1, em f2], h0, h1⟩))
  · exact .inr (.inr (.inr ⟨t, by rw [f1, f2], f3⟩))
theorem fault_each : ∀ (vs : List (Int × Int × ByteArray)), faultL vs = 0 → ∀ v ∈ vs, faultV v = 0
  | [], _, v, hv => by simp at hv
  | x :: r, h, v, hv => by
    unfold faultL at h
    split at h
    · rename_i q; exact absurd h q
    · rename_i q
      rcases List.mem_cons.1 hv with e | e
      · rw [e]; simpa using q
      · exact fault_each r h v e
theorem lies_self (L : List Int) (h : ∀ c ∈ L, 0 ≤ c ∧ c < 256) : Lies (strOfNums L) 0 L := by
  intro j hj
  have hz := strOfNums_size L
  refine ⟨by omega, ?_⟩
  have hb := h L[j] (List.getElem_mem hj)
  have e : (strOfNums L)[0 + j]'(by omega) = UInt8.ofNat (L[j]).toNat := by
    simp [strOfNums, ByteArray.getElem_eq_getElem_data]
  rw [e]
  simp
  omega
/-- The key of values that may be is read as these values. -/
theorem rkL_key (vs : List (Int × Int × ByteArray)) (hf : faultL vs = 0) (hl : vs.length ≤ 16) (hr : ∀ v ∈ vs, -9223372036854775808 ≤ v.2.1 ∧ v.2.1 ≤ 9223372036854775807) : rkL (strOfNums (keyL vs)) 0 = (vs, (keyL vs).length, 0) := by
  have hin : ∀ c ∈ keyL vs, 0 ≤ c ∧ c < 256 := by
    intro c hc
    unfold keyL at hc
    obtain ⟨v, hv, hcv⟩ := List.mem_flatMap.1 hc
    exact keyV_in v (fault_each vs hf v hv) c hcv
  have hz := strOfNums_size (keyL vs)
  have hvl : vs.length ≤ (keyL vs).length := by
    have : ∀ us : List (Int × Int × ByteArray), us.length ≤ (keyL us).length := by
      intro us
      induction us with
      | nil => simp
      | cons x r ih =>
        have hp := keyV_pos x
        have e : keyL (x :: r) = keyV x ++ keyL r := by unfold keyL; rw [List.flatMap_cons]
        rw [e, List.length_append, List.length_cons]
        omega
    exact this vs
  unfold rkL
  rw [rkF_key (strOfNums (keyL vs)) 0 vs _ 0 [] (fun v hv => canV_of v (fault_each vs hf v hv) (hr v hv).1 (hr v hv).2) (by simpa using lies_self _ hin) (by omega) (by simpa using hl) (by omega)]
  simp
end Go.Proofs.YtjcffcpmegpjeaaGreatDoor

namespace Go.Proofs.YtjcffcpmegpjeaaGreatDoor
set_option linter.unusedVariables false
set_option maxRecDepth 100000

/-! Numbers, laid down and read again. -/
theorem ul_end (s : ByteArray) (p acc v : Nat) (h : Lies s (p + 9) (uvF 0 v)) (hv : v * 128 ^ 9 < 18446744073709551616) (h0 : 0 < v) : ruF s p 1 9 acc = (acc + v * 128 ^ 9, 9 + (uvF 0 v).length, 0) := by
  obtain ⟨hl, hb⟩ := Lies.head (x := (v : Int)) (L := []) h
  have hv1 : v ≤ 1 := by omega
  have hb' : s[p + 9].toNat = v := by omega
  rw [ruF_done s p 0 9 acc hl (fun _ => by omega) (by omega) (.inl (by omega)), hb']
  simp only [uvF, List.length_singleton]
theorem ul_small (s : ByteArray) (p f n acc v : Nat) (h : Lies s (p + n) (uvF f v)) (hn : n ≤ 8) (h0 : 0 < v ∨ n = 0) (hlt : v < 128) : ruF s p (f + 1) n acc = (acc + v * 128 ^ n, n + (uvF f v).length, 0) := by
  rw [uvF_small f v (by omega)] at h ⊢
  obtain ⟨hl, hb⟩ := h.head
  have hb' : s[p + n].toNat = v := by omega
  rw [ruF_done s p f n acc hl (by omega) (by omega) (by omega), hb']
  simp only [List.length_singleton]
theorem ul_worth (v n : Nat) : v % 128 * 128 ^ n + v / 128 * 128 ^ (n + 1) = v * 128 ^ n := by
  rw [Nat.pow_succ, Nat.mul_comm (128 ^ n) 128, ← Nat.mul_assoc, ← Nat.add_mul]
  congr 1; omega
theorem ul_back (s : ByteArray) (p : Nat) (f : Nat) : ∀ (n acc v : Nat), f + n = 9 → Lies s (p + n) (uvF f v) → v * 128 ^ n < 18446744073709551616 → (0 < v ∨ n = 0) → ruF s p (f + 1) n acc = (acc + v * 128 ^ n, n + (uvF f v).length, 0) := by
  induction f with
  | zero =>
    intro n acc v hf h hv h0
    have hn : n = 9 := by omega
    subst hn
    exact ul_end s p acc v h hv (by omega)
  | succ f ih =>
    intro n acc v hf h hv h0
    by_cases hlt : v < 128
    · exact ul_small s p (f + 1) n acc v h (by omega) h0 hlt
    · rw [uvF_great f v (by omega)] at h ⊢
      obtain ⟨hl, hb⟩ := h.head
      have hb' : s[p + n].toNat = v % 128 + 128 := by omega
      have hq := ul_worth v n
      have e : ((v : Int) / 128) = ((v / 128 : Nat) : Int) := by omega
      rw [ruF_more s p (f + 1) n acc hl (by omega) (by omega), e]
      have ht := h.tail
      rw [e] at ht
      rw [ih (n + 1) _ (v / 128) (by omega) ht (by omega) (by omega), show s[p + n].toNat % 128 = v % 128 from by omega]
      simp only [List.length_cons, Prod.mk.injEq, and_true]
      constructor
      · omega
      · omega
theorem ul_back0 (s : ByteArray) (p v : Nat) (h : Lies s p (uvB v)) (hv : v < 18446744073709551616) : ruV s p = (v, (uvB v).length, 0) := by
  have := ul_back s p 9 0 0 v rfl (by rw [Nat.add_zero]; exact h) (by simpa using hv) (by omega)
  unfold ruV uvB
  rw [this]; simp
theorem sdec_svV (i : Int) : sdec (svV i).toNat = i := by
  unfold svV sdec
  split
  · rw [if_pos (by omega)]; omega
  · rw [if_neg (by omega)]; omega
theorem svV_bnd (i : Int) (h0 : -9223372036854775808 ≤ i) (h1 : i ≤ 9223372036854775807) : 0 ≤ svV i ∧ svV i < 18446744073709551616 := by
  unfold svV; split <;> omega
/-- A text that lies there is taken. -/
theorem lies_extract (s t : ByteArray) (p : Nat) (hp : p ≤ s.size) (h : Lies s p (txt t)) : s.extract p (p + t.size) = t := by
  have hl : (txt t).length = t.size := by unfold txt; simp
  have hin := h.in hp
  rw [hl] at hin
  apply ByteArray.ext
  apply Array.ext
  · simp only [ByteArray.data_extract, Array.size_extract]
    have : s.data.size = s.size := rfl
    have : t.data.size = t.size := rfl
    omega
  · intro i h1 h2
    have hi : i < t.size := h2
    obtain ⟨g1, g2⟩ := h i (by omega)
    have e : (txt t)[i]'(by omega) = (t.data[i].toNat : Int) := by unfold txt; simp
    rw [e] at g2
    have e2 : (s.extract p (p + t.size)).data[i] = s[p + i] := by
      simp only [ByteArray.data_extract, Array.getElem_extract]; rfl
    rw [e2]
    apply UInt8.toNat_inj.1
    omega
theorem rrV_row (s : ByteArray) (p : Nat) (hp : p ≤ s.size) (v : Int × Int × ByteArray) (hc : canV v) (h : Lies s p (rowV v)) : rrV s p v.1.toNat = (v, (rowV v).length, 0) := by
  rcases hc with rfl | ⟨i, rfl, h0, h1⟩ | ⟨i, rfl, h0, h1⟩ | ⟨t, rfl, h0⟩
  · rfl
  · have h : Lies s p [i] := h
    obtain ⟨g1, g2⟩ := h.head
    have e1 : rbW s p = i := by unfold rbW; rw [dif_pos g1, g2]
    have e2 : rbE s p = 0 := by unfold rbE; rw [dif_pos g1, if_neg (by omega)]
    show rrV s p 1 = ((1, i, ⟨#[]⟩), [i].length, 0)
    unfold rrV
    rw [if_neg (by decide), if_pos rfl, e1, e2]
    rfl
  · have hb := svV_bnd i h0 h1
    obtain ⟨u, hu⟩ := Int.eq_ofNat_of_zero_le hb.1
    have e : rowV (2, i, ⟨#[]⟩) = uvB (svV i) := rfl
    rw [e, hu] at h ⊢
    have hr := ul_back0 s p u h (by omega)
    have hs : sdec u = i := by have := sdec_svV i; rw [hu] at this; simpa using this
    show rrV s p 2 = _
    unfold rrV
    rw [if_neg (by decide), if_neg (by decide), if_pos rfl, hr]
    simp only
    rw [hs]
  · have e : rowV (3, 0, t) = uvB t.size ++ txt t := rfl
    rw [e] at h ⊢
    have hr := ul_back0 s p t.size h.left (by omega)
    have hpu := h.left.in hp
    have hl : (txt t).length = t.size := by unfold txt; simp
    have hin := h.right.in hpu
    rw [hl] at hin
    have hx := lies_extract s t (p + (uvB (t.size : Int)).length) hpu h.right
    show rrV s p 3 = _
    unfold rrV
    rw [if_neg (by decide), if_neg (by decide), if_neg (by decide)]
    unfold rbV
    rw [hr]
    simp only [if_true]
    rw [if_neg (by omega), if_pos hin, hx, List.length_append, hl]
/-- The kinds, read again. -/
theorem knd_kb (s : ByteArray) (p n nb : Nat) (vs : List (Int × Int × ByteArray)) (hk : ∀ m, 0 ≤ kind4 (vs.take n) m ∧ kind4 (vs.take n) m ≤ 3) (h : Lies s p (kbytes vs n nb)) (i : Nat) (hi : i < 4 * nb) : (knd s p i : Int) = kind4 (vs.take n) i := by
  obtain ⟨g1, g2⟩ := h (i / 4) (by rw [kbytes_len]; omega)
  have e : (kbytes vs n nb)[i / 4]'(by rw [kbytes_len]; omega) = kbyte vs n (i / 4) := by simp [kbytes]
  rw [e] at g2
  unfold kbyte at g2
  unfold knd
  rw [dif_pos g1]
  have a0 := hk (4 * (i / 4)); have a1 := hk (4 * (i / 4) + 1); have a2 := hk (4 * (i / 4) + 2); have a3 := hk (4 * (i / 4) + 3)
  have hm : i % 4 = 0 ∨ i % 4 = 1 ∨ i % 4 = 2 ∨ i % 4 = 3 := by omega
  rcases hm with m | m | m | m
  · have hx : i = 4 * (i / 4) := by omega
    rw [m, show kind4 (vs.take n) i = kind4 (vs.take n) (4 * (i / 4)) from by rw [← hx]]
    generalize s[p + i / 4].toNat = b at *
    simp only [Nat.pow_zero, Nat.div_one]
    omega
  · have hx : i = 4 * (i / 4) + 1 := by omega
    rw [m, show kind4 (vs.take n) i = kind4 (vs.take n) (4 * (i / 4) + 1) from by rw [← hx]]
    generalize s[p + i / 4].toNat = b at *
    simp only [Nat.pow_one]
    omega
  · have hx : i = 4 * (i / 4) + 2 := by omega
    rw [m, show kind4 (vs.take n) i = kind4 (vs.take n) (4 * (i / 4) + 2) from by rw [← hx]]
    generalize s[p + i / 4].toNat = b at *
    rw [show (4 : Nat) ^ 2 = 16 by decide]
    omega
  · have hx : i = 4 * (i / 4) + 3 := by omega
    rw [m, show kind4 (vs.take n) i = kind4 (vs.take n) (4 * (i / 4) + 3) from by rw [← hx]]
    generalize s[p + i / 4].toNat = b at *
    rw [show (4 : Nat) ^ 3 = 64 by decide]
    omega
theorem canV_kind {v : Int × Int × ByteArray} (h : canV v) : 0 ≤ v.1 ∧ v.1 ≤ 3 := by
  rcases h with rfl | ⟨i, rfl, h0, h1⟩ | ⟨i, rfl, h0, h1⟩ | ⟨t, rfl, h0⟩ <;> simp
theorem kind4_bd (vs : List (Int × Int × ByteArray)) (h : ∀ v ∈ vs, canV v) (n m : Nat) : 0 ≤ kind4 (vs.take n) m ∧ kind4 (vs.take n) m ≤ 3 := by
  rw [kind4_take]
  split
  · unfold kind4
    rcases hv : vs[m]? with _ | v
    · simp
    · have := canV_kind (h v (List.mem_of_getElem? hv))
      simpa using this
  · simp
theorem rrF_row (s : ByteArray) (p : Nat) (all : List (Int × Int × ByteArray)) (hk : ∀ i, i < all.length → (knd s (p + 1) i : Int) = kind4 all i) (hc : ∀ v ∈ all, canV v) : ∀ (vs acc : List (Int × Int × ByteArray)) (n : Nat), acc ++ vs = all → p + n ≤ s.size → Lies s (p + n) (rowL vs) → p + n + (rowL vs).length = s.size → rrF s p vs.length n acc = (all, n + (rowL vs).length, 0)
  | [], acc, n, ha, hp, h, he => by
    have e : (rowL ([] : List (Int × Int × ByteArray))).length = 0 := rfl
    rw [show ([] : List (Int × Int × ByteArray)).length = 0 from rfl, rrF_end s p n acc (by omega), e, ← ha]
    simp
  | v :: r, acc, n, ha, hp, h, he => by
    have e : rowL (v :: r) = rowV v ++ rowL r := by unfold rowL; rw [List.flatMap_cons]
    rw [e] at h he ⊢
    rw [List.length_append] at he
    have hv : canV v := hc v (by rw [← ha]; simp)
    have hkv : knd s (p + 1) acc.length = v.1.toNat := by
      have h1 := hk acc.length (by rw [← ha]; simp)
      have h2 : kind4 all acc.length = v.1 := by unfold kind4; rw [← ha]; simp
      have := canV_kind hv
      omega
    have hr := rrV_row s (p + n) hp v hv h.left
    have hin := h.left.in hp
    rw [List.length_cons, rrF_ok s p r.length n acc (by rw [hkv, hr]), hkv, hr]
    simp only
    rw [rrF_row s p all hk hc r (acc ++ [v]) (n + (rowV v).length) (by rw [← ha]; simp) (by omega) (by have := h.right; rw [show p + n + (rowV v).length = p + (n + (rowV v).length) by omega] at this; exact this) (by omega)]
    rw [List.length_append, Nat.add_assoc]
theorem uvF_in : ∀ (f : Nat) (v : Int), 0 ≤ v → v < 128 ^ (f + 1) → ∀ x ∈ uvF f v, 0 ≤ x ∧ x < 256
  | 0, v, h0, h1, x, hx => by
    simp [uvF] at hx; subst hx; simp at h1; omega
  | f + 1, v, h0, h1, x, hx => by
    by_cases hlt : v < 128
    · rw [uvF_small (f + 1) v hlt] at hx; simp at hx; omega
    · rw [uvF_great f v (by omega)] at hx
      simp only [List.mem_cons] at hx
      rcases hx with rfl | hx
      · omega
      · refine uvF_in f (v / 128) (by omega) ?_ x hx
        rw [Int.pow_succ] at h1; omega
theorem uvB_in (v : Int) (h0 : 0 ≤ v) (h1 : v ≤ 18446744073709551615) : ∀ x ∈ uvB v, 0 ≤ x ∧ x < 256 := uvF_in 9 v h0 (by omega)
theorem txt_in (t : ByteArray) : ∀ c ∈ txt t, 0 ≤ c ∧ c < 256 := by
  intro c hc
  unfold txt at hc
  obtain ⟨x, hx, rfl⟩ := List.mem_map.1 hc
  have := x.toNat_lt
  omega
theorem rowV_in {v : Int × Int × ByteArray} (hc : canV v) : ∀ c ∈ rowV v, 0 ≤ c ∧ c < 256 := by
  rcases hc with rfl | ⟨i, rfl, h0, h1⟩ | ⟨i, rfl, h0, h1⟩ | ⟨t, rfl, h0⟩
  · intro c hc; exact absurd hc (by simp [rowV])
  · intro c hc
    have hc : c ∈ [i] := hc
    simp at hc; omega
  · have := svV_bnd i h0 h1
    exact uvB_in (svV i) this.1 (by omega)
  · intro c hc
    have hc : c ∈ uvB t.size ++ txt t := hc
    rcases List.mem_append.1 hc with h | h
    · exact uvB_in _ (by omega) (by omega) c h
    · exact txt_in t c h
theorem rowAll_in (vs : List (Int × Int × ByteArray)) (hc : ∀ v ∈ vs, canV v) (hl : vs.length ≤ 16) : ∀ c ∈ rowAll vs, 0 ≤ c ∧ c < 256 := by
  intro c h
  unfold rowAll at h
  rcases List.mem_append.1 h with h | h
  · rcases List.mem_cons.1 h with h | h
    · omega
    · unfold kbytes at h
      obtain ⟨j, _, rfl⟩ := List.mem_map.1 h
      unfold kbyte
      have a0 := kind4_bd vs hc vs.length (4 * j); have a1 := kind4_bd vs hc vs.length (4 * j + 1); have a2 := kind4_bd vs hc vs.length (4 * j + 2); have a3 := kind4_bd vs hc vs.length (4 * j + 3)
      omega
  · unfold rowL at h
    obtain ⟨v, hv, hcv⟩ := List.mem_flatMap.1 h
    exact rowV_in (hc v hv) c hcv
/-- The row of values that may be is read as these values. -/
theorem rrL_can (vs : List (Int × Int × ByteArray)) (hc : ∀ v ∈ vs, canV v) (hl : vs.length ≤ 16) : rrL (strOfNums (rowAll vs)) 0 = (vs, (rowAll vs).length, 0) := by
  have hin := rowAll_in vs hc hl
  have hz := strOfNums_size (rowAll vs)
  have hself := lies_self _ hin
  have hall : Lies (strOfNums (rowAll vs)) 0 ((vs.length : Int) :: (kbytes vs vs.length ((vs.length + 3) / 4) ++ rowL vs)) := hself
  have hlen : (rowAll vs).length = 1 + (vs.length + 3) / 4 + (rowL vs).length := by
    unfold rowAll; simp only [List.cons_append, List.length_cons, List.length_append, kbytes_len]; omega
  generalize strOfNums (rowAll vs) = s at *
  obtain ⟨g1, g2⟩ := hall.head
  have hN : kdN s 0 = vs.length := by unfold kdN; rw [dif_pos g1]; omega
  have hkl : Lies s 1 (kbytes vs vs.length ((vs.length + 3) / 4)) := by simpa using hall.tail.left
  have hrl : Lies s (1 + (vs.length + 3) / 4) (rowL vs) := by have := hall.tail.right; rw [kbytes_len] at this; simpa using this
  have hkn := fun i hi => knd_kb s 1 vs.length ((vs.length + 3) / 4) vs (kind4_bd vs hc vs.length) hkl i hi
  have hE : kdE s 0 = 0 := by
    unfold kdE
    rw [if_pos g1, hN, if_neg (by omega), if_neg (by omega), if_pos]
    refine kdZ_yes fun i h1 h2 => ?_
    have := hkn i h2
    rw [kind4_take, if_neg (by omega)] at this
    have e : knd s (0 + 1) i = knd s 1 i := rfl
    omega
  unfold rrL
  rw [if_pos hE, hN]
  rw [rrF_row s 0 vs (fun i hi => by have := hkn i (by omega); rw [kind4_take, if_pos hi] at this; exact this) hc vs [] (1 + (vs.length + 3) / 4) rfl (by omega) (by simpa using hrl) (by omega), hlen]
theorem rrL_row (vs : List (Int × Int × ByteArray)) (hf : faultL vs = 0) (hl : vs.length ≤ 16) (hr : ∀ v ∈ vs, -9223372036854775808 ≤ v.2.1 ∧ v.2.1 ≤ 9223372036854775807) : rrL (strOfNums (rowAll vs)) 0 = (vs, (rowAll vs).length, 0) :=
  rrL_can vs (fun v hv => canV_of v (fault_each vs hf v hv) (hr v hv).1 (hr v hv).2) hl
end Go.Proofs.YtjcffcpmegpjeaaGreatDoor
