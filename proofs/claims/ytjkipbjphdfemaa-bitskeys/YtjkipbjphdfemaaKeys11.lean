import Derived.Test.YtjkipbjphdfemaaKeys10
namespace Go.Proofs.Ytjkipbjphdfemaa
open Go.ChangeShapes Go.WideShapes Go.ChangeAt Go.RowKit
set_option linter.unusedVariables false

theorem app_slice {W : World} {ops : Array Oper} {rest : List Oper} {o : Oper} {a : Act} {Q : Exit → Act → World → Prop} (hgd : o.guard = none) (s x : Operand)
    (ho : o.op = .call { callee := .builtin .append, args := #[s, x], argTypes := #[46, 46] })
    (B C : Nat) (v : Value) (xs ys : List Int) (hown : ownB W B v xs) (hs : a.eval s = v) (g n cap : Nat) (hn : ys.length = n) (hys : ownB W C (.slice (some ⟨g, 0, none⟩) n cap) ys) (hx : a.eval x = .slice (some ⟨g, 0, none⟩) n cap)
    (hlen : xs.length + n ≤ 140737488355328) (hB : B ≤ W.heap.size)
    (h : ∀ v' w', ownB w' B v' (xs ++ ys) → Below B W w' → wpList Try.prog ops Q rest (a.put o.dst v') w') :
    wpList Try.prog ops Q (o :: rest) a W := by
  subst hn
  obtain ⟨i0, hi, hz0, hz1, hz2⟩ := info_parts infoB
  refine wpList_append_own _ hgd s x 46 ho B 5 i0 (.int .u8 0) 1 1 Try.underlying46 hi hz0 hz1 hz2 rfl (by decide) v xs.length _ hs hown
    ⟨g, 0, none⟩ ys.length cap (ys.map (Value.int .u8)) hx (by simp) ?_ ?_ (by unfold maxLen; omega) (by omega) hB ?_
  · intro j u hj
    have hj2 : j < ys.length := by
      rcases Nat.lt_or_ge j ys.length with h2 | h2
      · exact h2
      · rw [List.getElem?_eq_none (by simpa using h2)] at hj; cases hj
    have hadd : (⟨g, 0, none⟩ : Addr).add j = ⟨g, j, none⟩ := by unfold Addr.add; split <;> simp_all
    rw [hadd, World.ownsRow.cellAt hys j (by omega)]
    exact hj
  · intro u hu
    obtain ⟨c, _, rfl⟩ := List.mem_map.1 hu
    rfl
  · intro v' w' hown' hgrow _
    refine h v' w' ?_ ?_
    · unfold ownB; rw [List.length_append, List.map_append]; exact hown'
    · exact (Below.refl _ _).grown hgrow hB (fun k hk => (World.ownsRow.lt hown k hk).1)
theorem hiT_zero (n : Nat) (u : Int) : hiT 0 n u = hiB n u := by
  unfold hiT
  have : (tb 0) = id := by funext x; unfold tb; rw [if_pos rfl]; rfl
  rw [this, List.map_id]
theorem byte_not (u : Int) (h0 : 0 ≤ u) (h1 : u ≤ 18446744073709551615) : ∀ j : Nat, j < 8 → (18446744073709551615 - u) / 2 ^ (8 * j) % 256 = 255 - u / 2 ^ (8 * j) % 256
  | 0, _ => by simp only [Nat.mul_zero, Int.pow_zero]; omega
  | 1, _ => by simp only [show (2 : Int) ^ (8 * 1) = 256 from rfl]; omega
  | 2, _ => by simp only [show (2 : Int) ^ (8 * 2) = 65536 from rfl]; omega
  | 3, _ => by simp only [show (2 : Int) ^ (8 * 3) = 16777216 from rfl]; omega
  | 4, _ => by simp only [show (2 : Int) ^ (8 * 4) = 4294967296 from rfl]; omega
  | 5, _ => by simp only [show (2 : Int) ^ (8 * 5) = 1099511627776 from rfl]; omega
  | 6, _ => by simp only [show (2 : Int) ^ (8 * 6) = 281474976710656 from rfl]; omega
  | 7, _ => by simp only [show (2 : Int) ^ (8 * 7) = 72057594037927936 from rfl]; omega
  | j + 8, h => by omega
theorem hiT_not (u : Int) (h0 : 0 ≤ u) (h1 : u ≤ 18446744073709551615) : ∀ n : Nat, n ≤ 8 → hiT 255 n u = hiB n (18446744073709551615 - u)
  | 0, _ => rfl
  | n + 1, h => by
    have ih := hiT_not u h0 h1 n (by omega)
    unfold hiT at ih ⊢
    rw [hiB, hiB, List.map_cons, ih, byte_not u h0 h1 n (by omega)]
    rfl
set_option maxRecDepth 100000 in
set_option maxHeartbeats 1600000 in
theorem ref_key2 (i : Int) (t : ByteArray) (B : Nat) (w : World) (hB : B ≤ w.heap.size) (h0 : -9223372036854775808 ≤ i) (h1 : i ≤ 9223372036854775807) :
    Calls Try.prog 31 #[.agg #[.int .i64 2, .int .i64 i, .string t]] w fun e w' => ∃ b', e = .returned b' ∧ ownB w' B b' (keyI i) ∧ Below B w w' := by
  have HB0 : Hid (Below B w (w.alloc (.cells #[.int .i64 2, .int .i64 i, .string t] 41))) := (Below.refl _ _).alloc hB _
  by_cases hi : 0 ≤ i
  · obtain ⟨u, rfl⟩ : ∃ u : Nat, i = u := ⟨i.toNat, by omega⟩
    have hz : szB u ≤ 8 := szB_le u
    have hwr : IntKind.u64.wrap (u : Int) = u := by show (u : Int) % 18446744073709551616 = u; omega
    have HK : Hid (keyI u = [] ++ [56 + (szB u : Int)] ++ hiT 0 (szB u) u) := by
      show _ = _
      unfold keyI
      rw [if_pos (by omega), Int.toNat_natCast, hiT_zero, hwr]
      rfl
    clear hwr
    go_enter Try.func31, Try.ntmps31
    go_wp2_with (first | (go_at_call 42; refine (ref_size u _ (by omega)).mono ?_; rintro e w1 ⟨rfl, rfl⟩) | (at_builtin; refine app_oneL (by rfl) _ _ (by rfl) B (.slice none 0 0) [] _ (ownB_nil _ _) (by rfl) (w.heap.size + 1) (by simp) (by rfl) (by simp) (by simp; omega) ?_; intro v1 w2 hown1 hbel1 hgr1; have HO1 : Hid (ownB w2 B v1 ([] ++ [56 + (szB u : Int)])) := hown1; have HB1 : Hid _ := hbel1; have hB2 : B ≤ w2.heap.size := Nat.le_trans (Nat.le_trans hB (Nat.le_of_lt (lt_alloc _ _))) hbel1.size; clear hown1 hbel1 hgr1) | (go_at_call 43; refine (ref_high u (szB u) 0 _ (by omega) hz (by simp)).mono ?_; rintro e w3 ⟨rfl, hown3, hbel3⟩; have HO3 : Hid (ownB w3 _ _ (hiT 0 (szB u) u)) := hown3; have HO2 := HO1.out.later hbel3; have HB3 : Hid (Below B w2 w3) := hbel3.mono hB2; have hB3 : B ≤ w3.heap.size := Nat.le_trans hB2 hbel3.size; clear hown3 hbel3) | (at_builtin; refine app_slice (by rfl) _ _ (by rfl) B _ _ _ _ HO2 (by rfl) _ _ _ (hiT_len _ _ _) HO3.out (by rfl) (by simp; omega) hB3 ?_; intro v4 w4 hown4 hbel4; have HO4 : Hid (ownB w4 B v4 (_ ++ _)) := hown4; have HB4 : Hid (Below B w3 w4) := hbel4; clear hown4 hbel4))
    go_ret
    refine ⟨_, rfl, ?_, HB0.out.trans (HB1.out.trans (HB3.out.trans HB4.out))⟩
    rw [HK.out]
    exact HO4.out
  · obtain ⟨u, hu⟩ : ∃ u : Nat, (u : Int) = -1 - i := ⟨(-1 - i).toNat, by omega⟩
    have hz : szB u ≤ 8 := szB_le u
    have HK : Hid (keyI i = [] ++ [55 - (szB u : Int)] ++ hiT 255 (szB u) u) := by
      show _ = _
      have e1 : IntKind.u64.wrap i = 18446744073709551615 - (u : Int) := by show i % 18446744073709551616 = _; omega
      unfold keyI
      rw [if_neg (by omega), ← hu, Int.toNat_natCast, hiT_not u (by omega) (by omega) _ hz, e1]
      rfl
    have HWU : Hid ((-1 - i) = (u : Int)) := hu.symm
    have hi2 : i < 0 := by omega
    have hub : u < 9223372036854775808 := by omega
    clear hu hi
    go_enter Try.func31, Try.ntmps31
    go_wp2_with (first | (go_at_call 42; rw [HWU.out]; refine (ref_size u _ (by omega)).mono ?_; rintro e w1 ⟨rfl, rfl⟩) | (at_builtin; refine app_oneL (by rfl) _ _ (by rfl) B (.slice none 0 0) [] _ (ownB_nil _ _) (by rfl) (w.heap.size + 1) (by simp) (by rfl) (by simp) (by simp; omega) ?_; intro v1 w2 hown1 hbel1 hgr1; have HO1 : Hid (ownB w2 B v1 ([] ++ [55 - (szB u : Int)])) := hown1; have HB1 : Hid _ := hbel1; have hB2 : B ≤ w2.heap.size := Nat.le_trans (Nat.le_trans hB (Nat.le_of_lt (lt_alloc _ _))) hbel1.size; clear hown1 hbel1 hgr1) | (go_at_call 43; (try rw [HWU.out]); refine (ref_high u (szB u) 255 _ (by omega) hz (by simp)).mono ?_; rintro e w3 ⟨rfl, hown3, hbel3⟩; have HO3 : Hid (ownB w3 _ _ (hiT 255 (szB u) u)) := hown3; have HO2 := HO1.out.later hbel3; have HB3 : Hid (Below B w2 w3) := hbel3.mono hB2; have hB3 : B ≤ w3.heap.size := Nat.le_trans hB2 hbel3.size; clear hown3 hbel3) | (at_builtin; refine app_slice (by rfl) _ _ (by rfl) B _ _ _ _ HO2 (by rfl) _ _ _ (hiT_len _ _ _) HO3.out (by rfl) (by simp; omega) hB3 ?_; intro v4 w4 hown4 hbel4; have HO4 : Hid (ownB w4 B v4 (_ ++ _)) := hown4; have HB4 : Hid (Below B w3 w4) := hbel4; clear hown4 hbel4))
    go_ret
    refine ⟨_, rfl, ?_, HB0.out.trans (HB1.out.trans (HB3.out.trans HB4.out))⟩
    rw [HK.out]
    exact HO4.out
end Go.Proofs.Ytjkipbjphdfemaa
