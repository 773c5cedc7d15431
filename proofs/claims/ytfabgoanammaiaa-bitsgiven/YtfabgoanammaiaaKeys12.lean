import Derived.Test.YtfabgoanammaiaaKeys7
namespace Go.Proofs.Ytfabgoanammaiaa
open Go.ChangeShapes Go.WideShapes Go.ChangeAt Go.RowKit
set_option linter.unusedVariables false

end Go.Proofs.Ytfabgoanammaiaa

namespace Go.Proofs.Ytfabgoanammaiaa
open Go.ChangeShapes Go.WideShapes Go.ChangeAt Go.RowKit
set_option linter.unusedVariables false

/-- A byte laid over with turn. -/
def tb (tn x : Int) : Int := if tn = 0 then x else 255 - x
theorem xor_tb (x tn : Int) (h : tn = 0 ∨ tn = 255) : bits .xor .u8 (x % 256) tn = tb tn (x % 256) := by
  rw [u8_xor _ _ (by omega) (by omega) (by omega) (by omega)]
  have key0 : ∀ x : Fin 256, (x.val ^^^ 0) = x.val := by decide +kernel
  have key1 : ∀ x : Fin 256, (x.val ^^^ 255) = 255 - x.val := by decide +kernel
  have a0 := key0 ⟨(x % 256).toNat, by omega⟩
  have a1 := key1 ⟨(x % 256).toNat, by omega⟩
  simp only at a0 a1
  rcases h with rfl | rfl
  · rw [show ((0 : Int).toNat) = 0 from rfl, a0]; unfold tb; rw [if_pos rfl]; omega
  · rw [show ((255 : Int).toNat) = 255 from rfl, a1]; unfold tb; rw [if_neg (by decide)]; omega
theorem dv (u : Int) (j : Nat) : u / 2 ^ (8 * j) / 256 = u / 2 ^ (8 * (j + 1)) := by
  have h : (2 : Int) ^ (8 * (j + 1)) = 2 ^ (8 * j) * 256 := by
    rw [Nat.mul_add, Int.pow_add]; rfl
  have h0 : (0 : Int) ≤ 2 ^ (8 * j) := Int.le_of_lt (Int.pow_pos (by decide))
  rw [h, Int.ediv_ediv_of_nonneg h0]
def hiT (tn : Int) (n : Nat) (u : Int) : List Int := (hiB n u).map (tb tn)
theorem hiT_len (tn : Int) (n : Nat) (u : Int) : (hiT tn n u).length = n := by unfold hiT; rw [List.length_map, hiB_len]
theorem set_step (i : Nat) (c : Int) (r : List Int) : (List.replicate (i + 1) (0 : Int) ++ r).set i c = List.replicate i 0 ++ c :: r := by
  rw [List.replicate_succ', List.append_assoc, List.set_append_right _ _ (by simp)]
  simp
end Go.Proofs.Ytfabgoanammaiaa

namespace Go.Proofs.Ytfabgoanammaiaa
open Go.ChangeShapes Go.WideShapes Go.ChangeAt Go.RowKit
set_option linter.unusedVariables false

end Go.Proofs.Ytfabgoanammaiaa

namespace Go.Proofs.Ytfabgoanammaiaa
open Go.ChangeShapes Go.WideShapes Go.ChangeAt Go.RowKit
set_option linter.unusedVariables false

theorem app_slice {W : World} {ops : Array Oper} {rest : List Oper} {o : Oper} {a : Act} {Q : Exit → Act → World → Prop} (hgd : o.guard = none) (s x : Operand)
    (ho : o.op = .call { callee := .builtin .append, args := #[s, x], argTypes := #[47, 47] })
    (B C : Nat) (v : Value) (xs ys : List Int) (hown : ownB W B v xs) (hs : a.eval s = v) (g n cap : Nat) (hn : ys.length = n) (hys : ownB W C (.slice (some ⟨g, 0, none⟩) n cap) ys) (hx : a.eval x = .slice (some ⟨g, 0, none⟩) n cap)
    (hlen : xs.length + n ≤ 140737488355328) (hB : B ≤ W.heap.size)
    (h : ∀ v' w', ownB w' B v' (xs ++ ys) → Below B W w' → wpList Try.prog ops Q rest (a.put o.dst v') w') :
    wpList Try.prog ops Q (o :: rest) a W := by
  subst hn
  obtain ⟨i0, hi, hz0, hz1, hz2⟩ := info_parts infoB
  refine wpList_append_own _ hgd s x 47 ho B 5 i0 (.int .u8 0) 1 1 Try.underlying47 hi hz0 hz1 hz2 rfl (by decide) v xs.length _ hs hown
    ⟨g, 0, none⟩ ys.length cap (ys.map (Value.int .u8)) hx (by simp) ?_ ?_ (by unfold maxLen; omega) (by omega) hB ?_
  · intro j u hj
    have hj2 : j < ys.length := by
      rcases Nat.lt_or_ge j ys.length with h2 | h2
      · exact h2
      · rw [List.getElem?_eq_none (by simpa using h2)] at hj; cases hj
    have hadd : (⟨g, 0, none⟩ : Addr).add j = ⟨g, j, none⟩ := by unfold Addr.add; split <;> simp_all
    rw [hadd, World.ownsRow.cellAt hys j (by omega)]
    exact hj
  · intro u hu
    obtain ⟨c, _, rfl⟩ := List.mem_map.1 hu
    rfl
  · intro v' w' hown' hgrow _
    refine h v' w' ?_ ?_
    · unfold ownB; rw [List.length_append, List.map_append]; exact hown'
    · exact (Below.refl _ _).grown hgrow hB (fun k hk => (World.ownsRow.lt hown k hk).1)
theorem hiT_zero (n : Nat) (u : Int) : hiT 0 n u = hiB n u := by
  unfold hiT
  have : (tb 0) = id := by funext x; unfold tb; rw [if_pos rfl]; rfl
  rw [this, List.map_id]
theorem byte_not (u : Int) (h0 : 0 ≤ u) (h1 : u ≤ 18446744073709551615) : ∀ j : Nat, j < 8 → (18446744073709551615 - u) / 2 ^ (8 * j) % 256 = 255 - u / 2 ^ (8 * j) % 256
  | 0, _ => by simp only [Nat.mul_zero, Int.pow_zero]; omega
  | 1, _ => by simp only [show (2 : Int) ^ (8 * 1) = 256 from rfl]; omega
  | 2, _ => by simp only [show (2 : Int) ^ (8 * 2) = 65536 from rfl]; omega
  | 3, _ => by simp only [show (2 : Int) ^ (8 * 3) = 16777216 from rfl]; omega
  | 4, _ => by simp only [show (2 : Int) ^ (8 * 4) = 4294967296 from rfl]; omega
  | 5, _ => by simp only [show (2 : Int) ^ (8 * 5) = 1099511627776 from rfl]; omega
  | 6, _ => by simp only [show (2 : Int) ^ (8 * 6) = 281474976710656 from rfl]; omega
  | 7, _ => by simp only [show (2 : Int) ^ (8 * 7) = 72057594037927936 from rfl]; omega
  | j + 8, h => by omega
theorem hiT_not (u : Int) (h0 : 0 ≤ u) (h1 : u ≤ 18446744073709551615) : ∀ n : Nat, n ≤ 8 → hiT 255 n u = hiB n (18446744073709551615 - u)
  | 0, _ => rfl
  | n + 1, h => by
    have ih := hiT_not u h0 h1 n (by omega)
    unfold hiT at ih ⊢
    rw [hiB, hiB, List.map_cons, ih, byte_not u h0 h1 n (by omega)]
    rfl
end Go.Proofs.Ytfabgoanammaiaa

namespace Go.Proofs.Ytfabgoanammaiaa
open Go.ChangeShapes Go.WideShapes Go.ChangeAt Go.RowKit
set_option linter.unusedVariables false

theorem keyV_ne (v : Int × Int × ByteArray) : keyV v ≠ [] := by
  unfold keyV
  split
  · simp
  · split
    · simp
    · split
      · unfold keyI; split <;> simp
      · simp
theorem ownB.form {w : World} {B : Nat} {v : Value} {xs : List Int} (h : ownB w B v xs) (hne : xs ≠ []) : ∃ g cap, v = .slice (some ⟨g, 0, none⟩) xs.length cap := by
  rcases h.2 with ⟨_, h2⟩ | ⟨g, cap, cur, e, _⟩
  · exact absurd (List.eq_nil_of_length_eq_zero h2) hne
  · exact ⟨g, cap, e⟩
end Go.Proofs.Ytfabgoanammaiaa
