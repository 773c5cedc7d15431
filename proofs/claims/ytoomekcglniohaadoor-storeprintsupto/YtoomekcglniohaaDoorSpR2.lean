import Derived.Test.YtoomekcglniohaaDoorSpR1
namespace Go.Proofs.YtoomekcglniohaaDoor
open Go.ChangeShapes Go.WideShapes Go.ChangeAt Go.RowKit
set_option linter.unusedVariables false
set_option maxRecDepth 100000
set_option maxHeartbeats 4000000 in
theorem stN : ∀ (m u : Nat), u ≤ m → u < 18446744073709551616 → ∀ w : World, Calls Tryd.prog 24 #[.int .u64 (u : Int)] w fun e w' => e = .returned (.string (tx (Lib.decDigits u))) ∧ Below w.heap.size w w' := by
  intro m
  induction m with
  | zero =>
    intro u h1 h2 w
    have hu : u = 0 := by omega
    subst hu
    have hcv := conv1 w 48
    have hA : Below w.heap.size w (w.alloc (.cells #[.int .u8 48] 5)) := (Below.refl _ _).alloc (Nat.le_refl _) _
    have HA : Hid _ := hA
    have HE : Hid (strOfNums [48] = tx (Lib.decDigits 0)) := num_one 0 (by omega)
    clear hA
    rw [← HE.out]
    go_enter Tryd.func24, Tryd.ntmps24
    go_wp2
    go_ret
    exact ⟨rfl, HA.out⟩
  | succ m ih =>
    intro u h1 h2 w
    by_cases h10 : u < 10
    · have hcv := conv1 w (48 + (u : Int))
      have hA : Below w.heap.size w (w.alloc (.cells #[.int .u8 (48 + (u : Int))] 5)) := (Below.refl _ _).alloc (Nat.le_refl _) _
      have HA : Hid _ := hA
      have hw0 : IntKind.i64.wrap (u : Int) = (u : Int) := by rw [IntKind.wrap_i64]; omega
      have hw1 : IntKind.i64.wrap (48 + (u : Int)) = 48 + (u : Int) := by rw [IntKind.wrap_i64]; omega
      have hw2 : IntKind.u8.wrap (48 + (u : Int)) = 48 + (u : Int) := by rw [IntKind.wrap_u8]; omega
      clear hA ih
      rw [← num_one u h10]
      go_enter Tryd.func24, Tryd.ntmps24
      go_wp2
      go_ret
      exact ⟨rfl, HA.out⟩
    · have HI1 : Hid (∀ W : World, _) := fun W => ih (u / 10) (by omega) (by omega) W
      have HI2 : Hid (∀ W : World, _) := fun W => ih (u % 10) (by omega) (by omega) W
      have hz := dec_size u (by omega)
      have ha := saddc (tx (Lib.decDigits (u / 10))) (tx (Lib.decDigits (u % 10))) (tx (Lib.decDigits u)) (by rw [tx_app, ← dec_more u h10]) (by omega)
      have hq : (u : Int) / 10 = ((u / 10 : Nat) : Int) := by omega
      have hm : (u : Int) % 10 = ((u % 10 : Nat) : Int) := by omega
      have h10i : ¬ (u : Int) < 10 := by omega
      clear ih hz h10
      generalize tx (Lib.decDigits (u / 10)) = X at *
      generalize tx (Lib.decDigits (u % 10)) = Y at *
      generalize tx (Lib.decDigits u) = Z at *
      generalize ((u / 10 : Nat) : Int) = q at *
      generalize ((u % 10 : Nat) : Int) = r at *
      go_enter Tryd.func24, Tryd.ntmps24
      go_wp2_with fail
      refine (HI1.out _).mono ?_
      rintro e w1 ⟨rfl, hb1⟩
      have HB1 : Hid (Below w.heap.size w w1) := hb1
      clear hb1
      go_wp2_with fail
      refine (HI2.out _).mono ?_
      rintro e w2 ⟨rfl, hb2⟩
      have HB2 : Hid (Below w.heap.size w w2) := HB1.out.trans (hb2.mono HB1.out.size)
      clear hb2
      go_wp2
      go_ret
      exact ⟨rfl, HB2.out⟩
theorem quo_take (l : List UInt8) (k : Nat) (h : k < l.length) : quoL (l.take (k + 1)) = quoL (l.take k) ++ (if l[k] = 39 then [39, 39] else [l[k]]) := by
  unfold quoL
  rw [flat_take _ _ _ h]
theorem one_byte (s : ByteArray) (k : Nat) (h : k < s.size) : s.extract k (k + 1) = tx [s[k]] := by
  apply ByteArray.ext_getElem
  · rw [tx_size, ByteArray.size_extract]; simp; omega
  · intro i h1 h2
    have : i = 0 := by rw [tx_size] at h2; simpa using h2
    subst this
    rw [ByteArray.getElem_extract]
    rfl
theorem cut_one (s : ByteArray) (k : Nat) (h : k < s.size) (w : World) : (Instr.slice 9 (.string s) (some (.int .i64 (k : Int))) (some (.int .i64 ((k : Int) + 1))) none).run Tryd.prog w = .ok (.string (s.extract k (k + 1))) w := by
  have ht : Tryd.prog.underlying 9 = some .string := by as_aux_lemma => kernel_rfl
  have e1 : ((k : Int) + 1).toNat = k + 1 := by omega
  simp [Instr.slice, run_underlying ht, Instr.sliceBounds, run_sliceBound, e1, (by omega : (k : Int) + 1 ≤ (s.size : Int)), (by omega : 0 ≤ (k : Int) + 1), (by omega : (k : Int) ≤ (k : Int) + 1)]
set_option maxHeartbeats 4000000 in
theorem quoR (s : ByteArray) (hs : s.size ≤ 1048576) (w : World) : Calls Tryd.prog 25 #[.string s] w fun e w' => e = .returned (.string (tx (quotL s))) ∧ w' = w := by
  have hl : s.data.toList.length = s.size := by rw [Array.length_toList]; rfl
  have HQ : Hid (∀ k, (39 :: quoL (s.data.toList.take k)).length ≤ 2097153) := by
    show ∀ k, (39 :: quoL (s.data.toList.take k)).length ≤ 2097153
    intro k
    have h1 := quoL_len (s.data.toList.take k)
    have h2 : (s.data.toList.take k).length ≤ s.size := by rw [List.length_take]; omega
    rw [List.length_cons]
    omega
  go_enter Tryd.func25, Tryd.ntmps25
  go_wp2
  go_loop [3, 4] (fun c x => ∃ k : Nat, k ≤ s.size ∧ x = .int .i64 (k : Int) ∧ c = .string (tx (39 :: quoL (s.data.toList.take k)))) (fun _ x => s.size - (intOf x).toNat)
  case atStart => exact ⟨0, by omega, rfl, rfl⟩
  case round =>
    obtain ⟨k, hk, rfl, rfl⟩ := hrel
    by_cases hkl : k < s.size
    · have hki : (k : Int) < (s.size : Int) := by omega
      have hget : s.data.toList[k]'(by omega) = s[k] := by rw [Array.getElem_toList]; rfl
      have hnx := quo_take s.data.toList k (by omega)
      rw [hget] at hnx
      have hex := one_byte s k hkl
      have hbk := HQ.out (k + 1)
      have hw : IntKind.i64.wrap ((k : Int) + 1) = (k : Int) + 1 := by rw [IntKind.wrap_i64]; omega
      have hcut := cut_one s k hkl w
      by_cases h39 : s[k] = 39
      · rw [if_pos h39] at hnx
        have hc : ((s[k].toNat : Int) == 39) = true := by rw [h39]; rfl
        have ha1 := saddc (tx (39 :: quoL (s.data.toList.take k))) (s.extract k (k + 1)) (tx (39 :: (quoL (s.data.toList.take k) ++ [39]))) (by rw [hex, h39, tx_app]; rfl) (by rw [tx_size, List.length_cons, List.length_append]; rw [hnx, List.length_cons, List.length_append] at hbk; simp at hbk ⊢; omega)
        have ha2 := saddc (tx (39 :: (quoL (s.data.toList.take k) ++ [39]))) ⟨#[39]⟩ (tx (39 :: quoL (s.data.toList.take (k + 1)))) (by show _ ++ tx [39] = _; rw [tx_app, hnx]; simp) (by rw [tx_size]; omega)
        clear hnx hex hbk h39 hget
        go_wp2
        refine ⟨⟨k + 1, by omega, by simp, rfl⟩, ?_⟩
        show s.size - ((k : Int) + 1).toNat < s.size - (k : Int).toNat
        omega
      · rw [if_neg h39] at hnx
        have hc : ((s[k].toNat : Int) == 39) = false := by
          rw [beq_eq_false_iff_ne]
          intro h
          exact h39 (UInt8.toNat_inj.mp (by have : (39 : UInt8).toNat = 39 := rfl; omega))
        have ha1 := saddc (tx (39 :: quoL (s.data.toList.take k))) (s.extract k (k + 1)) (tx (39 :: quoL (s.data.toList.take (k + 1)))) (by rw [hex, tx_app, hnx]; rfl) (by rw [tx_size]; omega)
        clear hnx hex hbk h39 hget
        go_wp2
        refine ⟨⟨k + 1, by omega, by simp, rfl⟩, ?_⟩
        show s.size - ((k : Int) + 1).toNat < s.size - (k : Int).toNat
        omega
    · have hke : k = s.size := by omega
      have hki : ¬ (k : Int) < (s.size : Int) := by omega
      have ht : s.data.toList.take k = s.data.toList := List.take_of_length_le (by omega)
      have hb := HQ.out k
      rw [ht] at hb ⊢
      have ha := saddc (tx (39 :: quoL s.data.toList)) ⟨#[39]⟩ (tx (quotL s)) (by show _ ++ tx [39] = _; rw [tx_app]; rfl) (by unfold quotL; rw [tx_size]; simp at hb ⊢; omega)
      clear ht hb hke
      go_wp2
      go_ret
      exact ⟨rfl, rfl⟩
end Go.Proofs.YtoomekcglniohaaDoor
