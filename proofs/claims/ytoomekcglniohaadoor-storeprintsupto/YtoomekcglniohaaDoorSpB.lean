import Derived.Test.YtoomekcglniohaaDoorSpA
import Derived.Laws.BytesArg
namespace Go.Proofs.YtoomekcglniohaaDoor
open Go.ChangeShapes Go.WideShapes Go.ChangeAt Go.RowKit
set_option linter.unusedVariables false
set_option maxRecDepth 100000
theorem sadd (a b : ByteArray) (h : a.size + b.size ≤ 140737488355328) : ∀ (w : World), (Op.stringOp .add a b).run Tryd.prog w = .ok (.string (a ++ b)) w := fun w => run_string_add_sum w _ _ (by omega)
theorem dec_few (u : Nat) (h : u ≤ 18446744073709551615) : Lib.nDigits u ≤ 20 := by
  by_cases h1 : 1 ≤ u
  · have := Lib.numDigits_eq u h1 (by omega)
    split at this <;> omega
  · have : u = 0 := by omega
    subst this
    rw [Lib.nDigits_small (by omega)]
    omega
theorem itoa_len (n : Int) (h0 : -9223372036854775808 ≤ n) (h1 : n ≤ 18446744073709551615) : (Lib.itoa n).length ≤ 22 := by
  unfold Lib.itoa
  split
  · have := Lib.decDigits_length n.natAbs
    have h2 := dec_few n.natAbs (by omega)
    rw [List.length_cons]; omega
  · have := Lib.decDigits_length n.toNat
    have h2 := dec_few n.toNat (by omega)
    omega
theorem quotedT (s : ByteArray) (w : World) (hs : s.size ≤ 1048576) (hg : GW w) : Calls Tryd.prog 21 #[.string s] w fun e w' => e = .returned (.string (tx (quotL s))) ∧ Below w.heap.size w w' := by
  have HR : Hid (∀ _ : Unit, _) := fun _ => replT s w hs hg
  have hq := quoL_len s.data.toList
  have hz : (tx (quoL s.data.toList)).size ≤ 2097152 := by rw [tx_size]; rw [Array.length_toList] at hq; exact Nat.le_trans hq (by show 2 * s.size ≤ _; omega)
  have HE : Hid (⟨#[39]⟩ ++ tx (quoL s.data.toList) ++ ⟨#[39]⟩ = tx (quotL s)) := by
    show tx [39] ++ tx (quoL s.data.toList) ++ tx [39] = _
    rw [tx_app, tx_app]
    rfl
  clear hq
  generalize tx (quoL s.data.toList) = X at *
  have ha1 := sadd ⟨#[39]⟩ X (by show 1 + X.size ≤ _; omega)
  have ha2 := sadd (⟨#[39]⟩ ++ X) ⟨#[39]⟩ (by rw [ByteArray.size_append]; show 1 + X.size + 1 ≤ _; omega)
  go_enter Tryd.func21, Tryd.ntmps21
  go_wp2_with fail
  refine (HR.out ()).mono ?_
  rintro e w1 ⟨rfl, hb⟩
  go_wp2
  go_ret
  rw [HE.out]
  exact ⟨rfl, hb⟩
theorem codeT (c : Int) (h0 : -9223372036854775808 ≤ c) (h1 : c ≤ 9223372036854775807) (w : World) (hg : GW w) : Calls Tryd.prog 18 #[.int .i64 c] w fun e w' => e = .returned (.string (tx (codeL c))) ∧ Below w.heap.size w w' := by
  by_cases hc : c = 0
  · subst hc
    go_enter Tryd.func18, Tryd.ntmps18
    go_wp2
    go_ret
    exact ⟨rfl, Below.refl _ _⟩
  · have HR : Hid (∀ _ : Unit, _) := fun _ => itoaT c h0 h1 w hg
    have hz : (tx (Lib.itoa c)).size ≤ 22 := by rw [tx_size]; exact itoa_len c h0 (by omega)
    have HE : Hid (⟨#[69]⟩ ++ tx (Lib.itoa c) = tx (codeL c)) := by
      show tx [69] ++ tx (Lib.itoa c) = _
      rw [tx_app]
      unfold codeL
      rw [if_neg hc]
      rfl
    have hcb : (c == 0) = false := by simp [hc]
    clear hc
    generalize tx (Lib.itoa c) = X at *
    have ha1 := sadd ⟨#[69]⟩ X (by show 1 + X.size ≤ _; omega)
    go_enter Tryd.func18, Tryd.ntmps18
    go_wp2_with fail
    refine (HR.out ()).mono ?_
    rintro e w1 ⟨rfl, hb⟩
    go_wp2
    go_ret
    rw [HE.out]
    exact ⟨rfl, hb⟩
end Go.Proofs.YtoomekcglniohaaDoor
