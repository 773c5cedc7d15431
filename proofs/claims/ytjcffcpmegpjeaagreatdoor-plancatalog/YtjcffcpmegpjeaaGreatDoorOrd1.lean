import Derived.Test.YtjcffcpmegpjeaaGreatDoorKeys7
namespace Go.Proofs.YtjcffcpmegpjeaaGreatDoor
open Go.ChangeShapes Go.WideShapes Go.ChangeAt Go.RowKit
set_option linter.unusedVariables false
set_option maxRecDepth 100000

/-- The first list is below the second at a place that both have. -/
def Ap : List Int → List Int → Prop
  | x :: r, y :: s => x < y ∨ (x = y ∧ Ap r s)
  | _, _ => False
theorem Ap.more : ∀ {a b : List Int} (p q : List Int), Ap a b → Ap (a ++ p) (b ++ q)
  | [], _, _, _, h => by cases h
  | _ :: _, [], _, _, h => by cases h
  | x :: r, y :: s, p, q, h => by
    rcases h with h | ⟨h, k⟩
    · exact .inl h
    · exact .inr ⟨h, k.more p q⟩
theorem Ap.front (c : List Int) {a b : List Int} (h : Ap a b) : Ap (c ++ a) (c ++ b) := by
  induction c with
  | nil => exact h
  | cons x r ih => exact .inr ⟨rfl, ih⟩
theorem hi_ap : ∀ (n : Nat) (u v : Int), u / 2 ^ (8 * n) = v / 2 ^ (8 * n) → u < v → Ap (hiB n u) (hiB n v)
  | 0, u, v, h, hl => by simp at h; omega
  | n + 1, u, v, h, hl => by
    have e : (2 : Int) ^ (8 * (n + 1)) = 2 ^ (8 * n) * 256 := by rw [show 8 * (n + 1) = 8 * n + 8 from by omega, Int.pow_add]; rfl
    have hp : (0 : Int) < 2 ^ (8 * n) := Int.pow_pos (by decide)
    rw [e, ← Int.ediv_ediv_of_nonneg (by omega), ← Int.ediv_ediv_of_nonneg (by omega)] at h
    have hm : u / 2 ^ (8 * n) ≤ v / 2 ^ (8 * n) := Int.ediv_le_ediv hp (by omega)
    rcases Int.lt_or_eq_of_le hm with h1 | h1
    · exact .inl (by omega)
    · exact .inr ⟨by rw [h1], hi_ap n u v h1 hl⟩
theorem szF_up : ∀ (f u : Nat), u < 256 ^ f → u < 256 ^ (szF f u)
  | 0, u, h => by simpa [szF] using h
  | f + 1, u, h => by
    unfold szF
    split
    · simp; omega
    · have := szF_up f (u / 256) (by rw [Nat.pow_succ] at h; omega)
      rw [Nat.pow_succ]; omega
theorem szF_mono : ∀ (f u v : Nat), u ≤ v → szF f u ≤ szF f v
  | 0, u, v, h => by simp [szF]
  | f + 1, u, v, h => by
    have := szF_mono f (u / 256) (v / 256) (by omega)
    unfold szF
    split
    · omega
    · split <;> omega
theorem szB_up (u : Nat) (h : u < 18446744073709551616) : u < 256 ^ (szB u) := szF_up 8 u (by simpa using h)
theorem keyI_ap (i j : Int) (h0 : -9223372036854775808 ≤ i) (h1 : j ≤ 9223372036854775807) (h : i < j) : Ap (keyI i) (keyI j) := by
  unfold keyI
  by_cases p : 0 ≤ i
  · have q : 0 ≤ j := by omega
    rw [if_pos p, if_pos q]
    have hm := szF_mono 8 i.toNat j.toNat (by omega)
    change szB i.toNat ≤ szB j.toNat at hm
    rcases Nat.lt_or_eq_of_le hm with h2 | h2
    · exact .inl (by omega)
    · rw [h2]
      refine .inr ⟨rfl, hi_ap _ _ _ ?_ ?_⟩
      · have a1 := szB_up i.toNat (by omega)
        have a2 := szB_up j.toNat (by omega)
        rw [h2] at a1
        have e : ((2 : Int) ^ (8 * szB j.toNat)) = ((256 ^ szB j.toNat : Nat) : Int) := by rw [Int.pow_mul]; simp
        have w1 : IntKind.u64.wrap i = i := by show _ % (18446744073709551616 : Int) = _; omega
        have w2 : IntKind.u64.wrap j = j := by show _ % (18446744073709551616 : Int) = _; omega
        rw [e, w1, w2, Int.ediv_eq_zero_of_lt p (by omega), Int.ediv_eq_zero_of_lt q (by omega)]
      · show i % (18446744073709551616 : Int) < j % 18446744073709551616; omega
  · rw [if_neg p]
    by_cases q : 0 ≤ j
    · rw [if_pos q]
      exact .inl (by omega)
    · rw [if_neg q]
      have hm := szF_mono 8 (-1 - j).toNat (-1 - i).toNat (by omega)
      change szB (-1 - j).toNat ≤ szB (-1 - i).toNat at hm
      rcases Nat.lt_or_eq_of_le hm with h2 | h2
      · exact .inl (by omega)
      · rw [← h2]
        refine .inr ⟨rfl, hi_ap _ _ _ ?_ ?_⟩
        · have a1 := szB_up (-1 - i).toNat (by omega)
          have a2 := szB_up (-1 - j).toNat (by omega)
          rw [← h2] at a1
          have a3 := szB_le (-1 - j).toNat
          generalize szB (-1 - j).toNat = n at *
          have w1 : IntKind.u64.wrap i = i % 18446744073709551616 := rfl
          have w2 : IntKind.u64.wrap j = j % 18446744073709551616 := rfl
          rw [w1, w2]
          match n, a3 with
          | 0, _ | 1, _ | 2, _ | 3, _ | 4, _ | 5, _ | 6, _ | 7, _ | 8, _ => simp at a1 a2 ⊢ <;> omega
          | n + 9, h => omega
        · show i % (18446744073709551616 : Int) < j % 18446744073709551616; omega
/-- The order of texts, byte by byte. -/
def Tl : List UInt8 → List UInt8 → Prop
  | [], [] => False
  | [], _ :: _ => True
  | _ :: _, [] => False
  | x :: r, y :: s => x < y ∨ (x = y ∧ Tl r s)
theorem esc_ap : ∀ (l m : List UInt8), Tl l m → Ap (escL l ++ [0, 1]) (escL m ++ [0, 1])
  | [], [], h => by cases h
  | [], y :: s, _ => by
    unfold escL
    split
    · exact .inr ⟨rfl, .inl (by decide)⟩
    · rename_i q
      refine .inl ?_
      have : y.toNat ≠ 0 := fun e => q (UInt8.toNat_inj.1 (by simpa using e))
      omega
  | _ :: _, [], h => by cases h
  | x :: r, y :: s, h => by
    rcases h with h | ⟨rfl, k⟩
    · rw [UInt8.lt_iff_toNat_lt] at h
      have hy : y ≠ 0 := by intro e; subst e; simp at h
      rw [escL, escL, if_neg hy]
      split
      · rename_i q
        subst q
        exact .inl (by simp at h ⊢; omega)
      · exact .inl (by omega)
    · have ih := esc_ap r s k
      rw [escL, escL]
      split
      · exact .inr ⟨rfl, .inr ⟨rfl, ih⟩⟩
      · exact .inr ⟨rfl, ih⟩

theorem tl_less : ∀ (l m : List UInt8), Op.bytesLess l m = true → Tl l m
  | [], [], h => by simp [Op.bytesLess] at h
  | [], _ :: _, _ => trivial
  | _ :: _, [], h => by simp [Op.bytesLess] at h
  | x :: r, y :: s, h => by
    simp only [Op.bytesLess] at h
    by_cases h1 : x < y
    · exact .inl h1
    · simp [h1] at h
      exact .inr ⟨h.1, tl_less r s h.2⟩
theorem cmpT_neg (a b : ByteArray) (h : cmpT a b < 0) : Tl a.data.toList b.data.toList := by
  apply tl_less
  have e : cmpT a b = _ := compareBytes_less a.data.toList b.data.toList
  cases q : Op.bytesLess a.data.toList b.data.toList
  · rw [e, q] at h
    unfold ordB at h
    simp only [Bool.false_eq_true, if_false] at h
    split at h <;> omega
  · rfl
theorem cmpI_neg (a b : Int) : cmpI a b < 0 ↔ a < b := by unfold cmpI; split <;> (try split) <;> omega
theorem cmpI_zero (a b : Int) : cmpI a b = 0 ↔ a = b := by unfold cmpI; split <;> (try split) <;> omega
theorem cmpI_flip (a b : Int) : cmpI b a = - cmpI a b := by unfold cmpI; split <;> (try split) <;> (try split) <;> omega
theorem cmpB_flip : ∀ (x y : List UInt8), Lib.compareBytes y x = - Lib.compareBytes x y
  | [], [] => by simp [Lib.compareBytes]
  | [], _ :: _ => by simp [Lib.compareBytes]
  | _ :: _, [] => by simp [Lib.compareBytes]
  | x :: r, y :: s => by
    have ih := cmpB_flip r s
    simp only [Lib.compareBytes]
    by_cases h1 : x < y
    · have h2 : ¬ y < x := by rw [UInt8.lt_iff_toNat_lt] at *; omega
      simp [h1, h2]
    · by_cases h2 : y < x
      · simp [h1, h2]
      · simp [h1, h2, ih]
theorem cmpB_zero : ∀ (x y : List UInt8), Lib.compareBytes x y = 0 → x = y
  | [], [], _ => rfl
  | [], _ :: _, h => by simp [Lib.compareBytes] at h
  | _ :: _, [], h => by simp [Lib.compareBytes] at h
  | x :: r, y :: s, h => by
    simp only [Lib.compareBytes] at h
    by_cases h1 : x < y
    · simp [h1] at h
    · by_cases h2 : y < x
      · simp [h1, h2] at h
      · simp [h1, h2] at h
        have e : x = y := by
          apply UInt8.toNat_inj.1
          rw [UInt8.lt_iff_toNat_lt] at h1 h2
          omega
        rw [e, cmpB_zero r s h]
theorem cmpB_self : ∀ (x : List UInt8), Lib.compareBytes x x = 0
  | [] => by simp [Lib.compareBytes]
  | x :: r => by have := cmpB_self r; simp [Lib.compareBytes, this]
theorem bytes_ext {a b : ByteArray} (h : a.data.toList = b.data.toList) : a = b := by
  cases a; cases b
  simp only [ByteArray.mk.injEq]
  exact Array.toList_inj.1 h
theorem cmpV_flip (x y : Int × Int × ByteArray) : cmpV y x = - cmpV x y := by
  unfold cmpV or3
  rw [cmpI_flip x.1 y.1, cmpI_flip x.2.1 y.2.1, show cmpT y.2.2 x.2.2 = - cmpT x.2.2 y.2.2 from cmpB_flip _ _]
  split <;> (try split) <;> (try split) <;> (try split) <;> omega
theorem cmpV_zero (x y : Int × Int × ByteArray) (h : cmpV x y = 0) : x = y := by
  unfold cmpV or3 at h
  split at h
  · omega
  · split at h
    · omega
    · rename_i h1 h2
      have e1 := (cmpI_zero x.1 y.1).1 (by omega)
      have e2 := (cmpI_zero x.2.1 y.2.1).1 (by omega)
      have e3 := bytes_ext (cmpB_zero _ _ h)
      obtain ⟨a, b, c⟩ := x
      obtain ⟨a', b', c'⟩ := y
      simp only at e1 e2 e3
      rw [e1, e2, e3]
theorem cmpV_self (x : Int × Int × ByteArray) : cmpV x x = 0 := by
  unfold cmpV or3
  rw [cmpI_self, cmpI_self, show cmpT x.2.2 x.2.2 = 0 from cmpB_self _]
  simp
/-- What a valid value is. -/
theorem fit_of (v : Int × Int × ByteArray) (h : faultV v = 0) : (v.1 = 0 ∧ v.2.1 = 0 ∧ v.2.2.data.toList = []) ∨ (v.1 = 1 ∧ 0 ≤ v.2.1 ∧ v.2.1 ≤ 1 ∧ v.2.2.data.toList = []) ∨ (v.1 = 2 ∧ v.2.2.data.toList = []) ∨ (v.1 = 3 ∧ v.2.1 = 0 ∧ v.2.2.size ≤ 4096) := by
  obtain ⟨a, i, t⟩ := v
  unfold faultV fault0 fault1 fault2 fault3 at h
  simp only [Lib.toList_data, List.isEmpty_iff, Bool.and_eq_true, Bool.or_eq_true, beq_iff_eq, decide_eq_true_eq] at h
  simp only
  split at h
  · omega
  · split at h
    · split at h
      · rename_i q; exact .inl ⟨by assumption, q.1, q.2⟩
      · omega
    · split at h
      · split at h
        · rename_i q; exact .inr (.inl ⟨by assumption, by omega, by omega, q.2⟩)
        · omega
      · split at h
        · split at h
          · rename_i q; exact .inr (.inr (.inl ⟨by assumption, q⟩))
          · omega
        · split at h
          · omega
          · split at h
            · rename_i q q2
              exact .inr (.inr (.inr ⟨by omega, q2, by omega⟩))
            · omega
theorem keyV_ap (x y : Int × Int × ByteArray) (hx : faultV x = 0) (hy : faultV y = 0) (h0 : -9223372036854775808 ≤ x.2.1) (h1 : y.2.1 ≤ 9223372036854775807) (h : cmpV x y < 0) : Ap (keyV x) (keyV y) := by
  have fx := fit_of x hx
  have fy := fit_of y hy
  obtain ⟨a, i, t⟩ := x
  obtain ⟨b, j, u⟩ := y
  unfold cmpV or3 at h
  simp only at fx fy h h0 h1
  have s1 := szB_le i.toNat
  have s2 := szB_le (-1 - i).toNat
  have s3 := szB_le j.toNat
  have s4 := szB_le (-1 - j).toNat
  by_cases hk : a = b
  · subst hk
    rw [if_neg (by rw [cmpI_self]; simp)] at h
    by_cases hi : i = j
    · subst hi
      rw [if_neg (by rw [cmpI_self]; simp)] at h
      have ht := cmpT_neg t u h
      rcases fx with ⟨f1, f2, f3⟩ | ⟨f1, f2, f3, f4⟩ | ⟨f1, f2⟩ | ⟨f1, f2, f3⟩
      · rcases fy with g | g | g | g <;> first | omega | (rw [f3, g.2.2] at ht; cases ht)
      · rcases fy with g | g | g | g <;> first | omega | (rw [f4, g.2.2.2] at ht; cases ht)
      · rcases fy with g | g | g | g <;> first | omega | (rw [f2, g.2] at ht; cases ht)
      · subst f1
        simp only [keyV]
        exact .inr ⟨rfl, esc_ap _ _ ht⟩
    · have hij : i < j := by
        rw [if_pos (fun e => hi ((cmpI_zero i j).1 e))] at h
        exact (cmpI_neg i j).1 h
      rcases fx with ⟨f1, f2, f3⟩ | ⟨f1, f2, f3, f4⟩ | ⟨f1, f2⟩ | ⟨f1, f2, f3⟩
      · omega
      · subst f1
        simp only [keyV]
        exact .inl (by omega)
      · subst f1
        simp only [keyV]
        exact keyI_ap i j h0 h1 hij
      · omega
  · have hab : a < b := by
      rw [if_pos (fun e => hk ((cmpI_zero a b).1 e))] at h
      exact (cmpI_neg a b).1 h
    have hd : ∀ v : Int × Int × ByteArray, faultV v = 0 → ∃ c r, keyV v = c :: r ∧ ((v.1 = 0 ∧ c = 16) ∨ (v.1 = 1 ∧ 32 ≤ c ∧ c ≤ 33) ∨ (v.1 = 2 ∧ 47 ≤ c ∧ c ≤ 64) ∨ (v.1 = 3 ∧ c = 80)) := by
      intro v hv
      have fv := fit_of v hv
      obtain ⟨d, k, w⟩ := v
      have s5 := szB_le k.toNat
      have s6 := szB_le (-1 - k).toNat
      simp only at fv ⊢
      rcases fv with ⟨f1, f2, f3⟩ | ⟨f1, f2, f3, f4⟩ | ⟨f1, f2⟩ | ⟨f1, f2, f3⟩
      · subst f1; exact ⟨16, [], rfl, by omega⟩
      · subst f1; exact ⟨32 + k, [], rfl, by omega⟩
      · subst f1
        by_cases hp : 0 ≤ k
        · exact ⟨56 + (szB k.toNat : Int), _, if_pos hp, by omega⟩
        · exact ⟨55 - (szB (-1 - k).toNat : Int), _, if_neg hp, by omega⟩
      · subst f1; exact ⟨80, _, rfl, by omega⟩
    obtain ⟨c, r, e1, k1⟩ := hd (a, i, t) hx
    obtain ⟨d, s, e2, k2⟩ := hd (b, j, u) hy
    rw [e1, e2]
    simp only at k1 k2
    exact .inl (by omega)
theorem hiB_in : ∀ (n : Nat) (v : Int), ∀ c ∈ hiB n v, 0 ≤ c ∧ c < 256
  | 0, _, c, h => by simp [hiB] at h
  | n + 1, v, c, h => by
    rcases List.mem_cons.1 h with e | e
    · omega
    · exact hiB_in n v c e
theorem escL_in : ∀ (l : List UInt8), ∀ c ∈ escL l, 0 ≤ c ∧ c < 256
  | [], c, h => by simp [escL] at h
  | x :: r, c, h => by
    have hx := x.toNat_lt
    unfold escL at h
    split at h
    · rcases List.mem_cons.1 h with e | e
      · omega
      · rcases List.mem_cons.1 e with e | e
        · omega
        · exact escL_in r c e
    · rcases List.mem_cons.1 h with e | e
      · omega
      · exact escL_in r c e
theorem keyV_in (v : Int × Int × ByteArray) (hv : faultV v = 0) : ∀ c ∈ keyV v, 0 ≤ c ∧ c < 256 := by
  intro c hc
  have fv := fit_of v hv
  obtain ⟨d, k, w⟩ := v
  have s5 := szB_le k.toNat
  have s6 := szB_le (-1 - k).toNat
  simp only at fv
  rcases fv with ⟨f1, f2, f3⟩ | ⟨f1, f2, f3, f4⟩ | ⟨f1, f2⟩ | ⟨f1, f2, f3⟩
  · subst f1; simp [keyV] at hc; omega
  · subst f1; simp [keyV] at hc; omega
  · subst f1
    simp only [keyV, keyI] at hc
    by_cases hp : 0 ≤ k
    · simp [hp] at hc
      rcases hc with e | e
      · omega
      · exact hiB_in _ _ c e
    · simp [hp] at hc
      rcases hc with e | e
      · omega
      · exact hiB_in _ _ c e
  · subst f1
    simp only [keyV] at hc
    simp at hc
    rcases hc with e | e | e | e
    · omega
    · exact escL_in _ c e
    · omega
    · omega
/-- A key's bytes. -/
def kb (l : List Int) : List UInt8 := l.map fun n => UInt8.ofNat n.toNat
theorem kb_app (a b : List Int) : kb (a ++ b) = kb a ++ kb b := by simp [kb]
theorem u8_lt {x y : Int} (hx : 0 ≤ x ∧ x < 256) (hy : 0 ≤ y ∧ y < 256) (h : x < y) : UInt8.ofNat x.toNat < UInt8.ofNat y.toNat := by
  rw [UInt8.lt_iff_toNat_lt, UInt8.toNat_ofNat', UInt8.toNat_ofNat']
  omega
theorem ap_less : ∀ (a b p q : List Int), (∀ c ∈ a, 0 ≤ c ∧ c < 256) → (∀ c ∈ b, 0 ≤ c ∧ c < 256) → Ap a b →
    Op.bytesLess (kb (a ++ p)) (kb (b ++ q)) = true ∧ Op.bytesLess (kb (b ++ q)) (kb (a ++ p)) = false ∧ (∀ n, (kb (a ++ p)).take n ≠ kb (b ++ q)) ∧ (∀ n, (kb (b ++ q)).take n ≠ kb (a ++ p))
  | [], _, _, _, _, _, h => by cases h
  | _ :: _, [], _, _, _, _, h => by cases h
  | x :: r, y :: s, p, q, ha, hb, h => by
    rcases h with h | ⟨rfl, k⟩
    · have hl := u8_lt (ha x (by simp)) (hb y (by simp)) h
      have hn : ¬ UInt8.ofNat y.toNat < UInt8.ofNat x.toNat := by rw [UInt8.lt_iff_toNat_lt] at *; omega
      have hne : UInt8.ofNat x.toNat ≠ UInt8.ofNat y.toNat := by intro e; rw [e] at hl; rw [UInt8.lt_iff_toNat_lt] at hl; omega
      refine ⟨?_, ?_, ?_, ?_⟩
      · simp [kb, Op.bytesLess, hl]
      · simp [kb, Op.bytesLess, hn, hne.symm]
      · intro n
        cases n
        · simp [kb]
        · simp [kb, hne]
      · intro n
        cases n
        · simp [kb]
        · simp [kb, hne.symm]
    · obtain ⟨i1, i2, i3, i4⟩ := ap_less r s p q (fun c hc => ha c (by simp [hc])) (fun c hc => hb c (by simp [hc])) k
      unfold kb at i1 i2 i3 i4
      refine ⟨?_, ?_, ?_, ?_⟩
      · simpa [kb, Op.bytesLess] using i1
      · simpa [kb, Op.bytesLess] using i2
      · intro n
        cases n
        · simp [kb]
        · rename_i n
          have := i3 n
          simpa [kb] using this
      · intro n
        cases n
        · simp [kb]
        · rename_i n
          have := i4 n
          simpa [kb] using this
theorem less_same : ∀ (p a b : List UInt8), Op.bytesLess (p ++ a) (p ++ b) = Op.bytesLess a b
  | [], a, b => rfl
  | x :: p, a, b => by simp [Op.bytesLess, less_same p a b]
/-- less, as the law says it. -/
def lessV (x y : Int × Int × ByteArray) : Bool := if x.1 ≠ y.1 then decide (x.1 < y.1) else if x.2.1 ≠ y.2.1 then decide (x.2.1 < y.2.1) else Op.bytesLess x.2.2.toList y.2.2.toList
/-- ahead, as the law says it. -/
def aheadL : List (Int × Int × ByteArray) → List (Int × Int × ByteArray) → Bool × Bool
  | [], us => (!us.isEmpty, true)
  | _ :: _, [] => (false, false)
  | x :: r, y :: s => if x = y then aheadL r s else (lessV x y, false)
theorem lessV_cmp (x y : Int × Int × ByteArray) : lessV x y = decide (cmpV x y < 0) := by
  unfold lessV cmpV or3
  by_cases h1 : x.1 = y.1
  · rw [if_neg (show ¬ x.1 ≠ y.1 from fun e => e h1), if_neg (show ¬ cmpI x.1 y.1 ≠ 0 from fun e => e ((cmpI_zero _ _).2 h1))]
    by_cases h2 : x.2.1 = y.2.1
    · rw [if_neg (show ¬ x.2.1 ≠ y.2.1 from fun e => e h2), if_neg (show ¬ cmpI x.2.1 y.2.1 ≠ 0 from fun e => e ((cmpI_zero _ _).2 h2))]
      rw [cmpT_less]
      unfold ordB
      cases Op.bytesLess x.2.2.toList y.2.2.toList
      · simp
        split <;> simp
      · simp
    · rw [if_pos (show x.2.1 ≠ y.2.1 from h2), if_pos (show cmpI x.2.1 y.2.1 ≠ 0 from fun e => h2 ((cmpI_zero _ _).1 e))]
      simp [cmpI_neg]
  · rw [if_pos (show x.1 ≠ y.1 from h1), if_pos (show cmpI x.1 y.1 ≠ 0 from fun e => h1 ((cmpI_zero _ _).1 e))]
    simp [cmpI_neg]
theorem keyV_some (v : Int × Int × ByteArray) : ∃ c r, keyV v = c :: r := by
  unfold keyV keyI
  split
  · exact ⟨_, _, rfl⟩
  · split
    · exact ⟨_, _, rfl⟩
    · split
      · split <;> exact ⟨_, _, rfl⟩
      · exact ⟨_, _, rfl⟩
/-- The order of two keys' bytes is the order of their lists. -/
theorem order_all : ∀ (vs us : List (Int × Int × ByteArray)), (∀ v ∈ vs, faultV v = 0 ∧ -9223372036854775808 ≤ v.2.1 ∧ v.2.1 ≤ 9223372036854775807) → (∀ v ∈ us, faultV v = 0 ∧ -9223372036854775808 ≤ v.2.1 ∧ v.2.1 ≤ 9223372036854775807) →
    Op.bytesLess (kb (keyL vs)) (kb (keyL us)) = (aheadL vs us).1 ∧ (kb (keyL vs) = kb (keyL us) ↔ vs = us) ∧ (((kb (keyL vs)).length ≤ (kb (keyL us)).length ∧ (kb (keyL us)).take (kb (keyL vs)).length = kb (keyL vs)) ↔ (aheadL vs us).2 = true) ∧ (aheadL vs us).1 = decide (cmpL vs us < 0) ∧ cmpL us vs = - cmpL vs us ∧ (cmpL vs us = 0 ↔ vs = us)
  | [], [], _, _ => by simp [keyL, kb, Op.bytesLess, aheadL, cmpL]
  | [], y :: s, _, _ => by
    obtain ⟨c, r, e⟩ := keyV_some y
    simp [keyL, kb, Op.bytesLess, aheadL, cmpL, e]
  | x :: r, [], _, _ => by
    obtain ⟨c, q, e⟩ := keyV_some x
    simp [keyL, kb, Op.bytesLess, aheadL, cmpL, e]
  | x :: r, y :: s, hv, hu => by
    have ex : keyL (x :: r) = keyV x ++ keyL r := by simp [keyL]
    have ey : keyL (y :: s) = keyV y ++ keyL s := by simp [keyL]
    by_cases h : x = y
    · subst h
      obtain ⟨i1, i2, i3, i4, i5, i6⟩ := order_all r s (fun v m => hv v (by simp [m])) (fun v m => hu v (by simp [m]))
      rw [ex, ey, kb_app, kb_app, less_same]
      have ea : aheadL (x :: r) (x :: s) = aheadL r s := by simp [aheadL]
      have ec : cmpL (x :: r) (x :: s) = cmpL r s := by simp [cmpL, cmpV_self]
      have ed : cmpL (x :: s) (x :: r) = cmpL s r := by simp [cmpL, cmpV_self]
      rw [ea, ec, ed]
      refine ⟨i1, ?_, ?_, i4, i5, ?_⟩
      · rw [List.append_cancel_left_eq, i2]; simp
      · rw [← i3]
        simp only [List.length_append, List.take_length_add_append, List.append_cancel_left_eq, Nat.add_le_add_iff_left]
      · rw [i6]; simp
    · have hx := hv x (by simp)
      have hy := hu y (by simp)
      have ea : aheadL (x :: r) (y :: s) = (lessV x y, false) := by simp [aheadL, h]
      have hc : cmpV x y ≠ 0 := fun e => h (cmpV_zero x y e)
      have ec : cmpL (x :: r) (y :: s) = cmpV x y := by simp [cmpL, hc]
      have hd : cmpV y x ≠ 0 := fun e => h (cmpV_zero y x e).symm
      have ed : cmpL (y :: s) (x :: r) = cmpV y x := by simp [cmpL, hd]
      rw [ex, ey, ea, ec, ed, lessV_cmp, cmpV_flip x y]
      have nl : ¬ (x :: r = y :: s) := by simp [h]
      by_cases hl : cmpV x y < 0
      · obtain ⟨j1, j2, j3, j4⟩ := ap_less _ _ (keyL r) (keyL s) (keyV_in x hx.1) (keyV_in y hy.1) (keyV_ap x y hx.1 hy.1 hx.2.1 hy.2.2 hl)
        have j5 : kb (keyV x ++ keyL r) ≠ kb (keyV y ++ keyL s) := by intro e; have := j4 (kb (keyV y ++ keyL s)).length; rw [List.take_length] at this; exact this e.symm
        refine ⟨?_, ?_, ?_, rfl, rfl, ?_⟩
        · rw [j1]; simp [hl]
        · simp [nl, j5]
        · simp [j4]
        · simp [nl, hc]
      · have hl2 : cmpV y x < 0 := by rw [cmpV_flip x y]; omega
        obtain ⟨j1, j2, j3, j4⟩ := ap_less _ _ (keyL s) (keyL r) (keyV_in y hy.1) (keyV_in x hx.1) (keyV_ap y x hy.1 hx.1 hy.2.1 hx.2.2 hl2)
        have j5 : kb (keyV x ++ keyL r) ≠ kb (keyV y ++ keyL s) := by intro e; have := j4 (kb (keyV x ++ keyL r)).length; rw [List.take_length] at this; exact this e
        refine ⟨?_, ?_, ?_, rfl, rfl, ?_⟩
        · rw [j2]; simp [hl]
        · simp [nl, j5]
        · simp [j3]
        · simp [nl, hc]
end Go.Proofs.YtjcffcpmegpjeaaGreatDoor
