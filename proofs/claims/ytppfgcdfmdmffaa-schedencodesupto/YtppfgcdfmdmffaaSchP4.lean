import Derived.Test.YtppfgcdfmdmffaaSchP3
namespace Go.Proofs.Ytppfgcdfmdmffaa
open Go.ChangeShapes Go.WideShapes Go.ChangeAt Go.RowKit
set_option linter.unusedVariables false

theorem drop_at (s : ByteArray) (k : Nat) (h : k < s.size) : s.data.toList.drop k = s[k] :: s.data.toList.drop (k + 1) := by
  have hl : k < s.data.toList.length := by rw [len_list]; exact h
  rw [List.drop_eq_getElem_cons hl]
  simp [ByteArray.getElem_eq_getElem_data]
theorem drop_all (s : ByteArray) (k : Nat) (h : s.size ≤ k) : s.data.toList.drop k = [] := List.drop_eq_nil_of_le (by rw [len_list]; exact h)
set_option maxRecDepth 100000 in
set_option maxHeartbeats 6400000 in
theorem refDecode (s : ByteArray) (w : World) (hs : s.size ≤ 1466015503360) :
    Calls Try.prog 10 #[.string s] w fun e w' => ∃ v, e = .returned v ∧ ownP w' w.heap.size v (dL s.data.toList) ∧ Below w.heap.size w w' := by
  go_enter Try.func10, Try.ntmps10
  go_wp2_with fail
  go_loopw [3, 4] (fun c i wr => ∃ (k : Nat) (acc : List (Int × Int × Int)), i = .int .i64 (k : Int) ∧ k ≤ s.size ∧ acc.length ≤ k ∧ ownP wr w.heap.size c acc ∧ Below w.heap.size w wr ∧ acc ++ dL (s.data.toList.drop k) = dL s.data.toList) (fun _ i _ => s.size - (intOf i).toNat)
  case atStart => exact ⟨0, [], rfl, by omega, by simp, ownP_nil _ _, Below.refl _ _, by simp⟩
  case round =>
    obtain ⟨k, acc, rfl, hk, hlen, hown, hbel, hv⟩ := hrel
    have HV : Hid (acc ++ dL (s.data.toList.drop k) = dL s.data.toList) := hv
    have HO : Hid (∀ o, ownP (wr.alloc o) w.heap.size _ acc) := fun o => hown.same (fun k hk _ => Below.heap_alloc wr o k hk)
    have HB : Hid (∀ o, Below w.heap.size w (wr.alloc o)) := fun o => hbel.alloc hbel.size o
    have HO0 : Hid (ownP wr w.heap.size _ acc) := hown
    have HB0 : Hid (Below w.heap.size w wr) := hbel
    clear hv hown hbel
    by_cases hl : k < s.size
    · have hl' : (k : Int) < (s.size : Int) := by omega
      have hb := s[k].toNat_lt
      have hal : (acc.length + 1) * 24 ≤ 140737488355328 := by omega
      have hd0 := drop_at s k hl
      obtain ⟨d1, d2, d3⟩ := dL_step (s.data.toList.drop k) (by rw [hd0]; simp)
      rw [List.drop_drop] at d1
      have HD : Hid _ := d1
      clear d1 d2 d3
      have he1 := ent_one (s.data.toList.drop k) s[k] _ hd0
      rcases (show (s[k].toNat / 32 = 1 ∧ k + 1 < s.size) ∨ (s[k].toNat / 32 = 1 ∧ ¬ k + 1 < s.size) ∨ s[k].toNat / 32 = 0 ∨ s[k].toNat / 32 = 2 ∨ s[k].toNat / 32 = 3 ∨ s[k].toNat / 32 = 4 ∨ (s[k].toNat / 32 = 5 ∧ s[k].toNat = 160) ∨ (s[k].toNat / 32 = 5 ∧ s[k].toNat ≠ 160) ∨ s[k].toNat / 32 = 6 ∨ s[k].toNat / 32 = 7 by omega) with ⟨o, c2⟩ | ⟨o, c2⟩ | o | o | o | o | ⟨o, ob⟩ | ⟨o, ob⟩ | o | o
      case' inl =>
        have hd1 := drop_at s (k + 1) c2
        rw [hd1] at hd0
        have he := ent_two _ s[k] s[k + 1] _ hd0 o
        have hc := s[k + 1].toNat_lt
        have HE : Hid (ent (s.data.toList.drop k) = (((2, (s[k].toNat : Int) % 32, (s[k + 1].toNat : Int) + 1) : Int × Int × Int), (2 : Nat))) := by show _ = _; rw [he]; simp
        have o' : ((s[k].toNat : Nat) : Int) / 32 = 1 := by omega
        have c2' : (k : Int) + 1 < (s.size : Int) := by omega
        clear hd1 he
        clear o
      case' inr.inl =>
        have HE : Hid (ent (s.data.toList.drop k) = (((0, 0, (s[k].toNat : Int)) : Int × Int × Int), (1 : Nat))) := by
          show _ = _
          rw [he1 (.inr (drop_all s (k + 1) (by omega)))]
          unfold one
          rw [if_neg (by omega), if_neg (by omega), if_neg (by omega), if_neg (by omega), if_neg (by omega)]
        have o' : ((s[k].toNat : Nat) : Int) / 32 = 1 := by omega
        have c2' : ¬ (k : Int) + 1 < (s.size : Int) := by omega
        clear o
      case' inr.inr.inl =>
        have HE : Hid (ent (s.data.toList.drop k) = (((1, (s[k].toNat : Int) % 32, 1) : Int × Int × Int), (1 : Nat))) := by show _ = _; rw [he1 (.inl (by omega))]; unfold one; rw [if_pos o]; simp
        have o' : ((s[k].toNat : Nat) : Int) / 32 = 0 := by omega
        clear o
      case' inr.inr.inr.inl =>
        have HE : Hid (ent (s.data.toList.drop k) = (((3, (s[k].toNat : Int) % 32, 1) : Int × Int × Int), (1 : Nat))) := by show _ = _; rw [he1 (.inl (by omega))]; unfold one; rw [if_neg (by omega), if_pos o]; simp
        have o' : ((s[k].toNat : Nat) : Int) / 32 = 2 := by omega
        clear o
      case' inr.inr.inr.inr.inl =>
        have HE : Hid (ent (s.data.toList.drop k) = (((4, 0, (s[k].toNat : Int) % 32 + 1) : Int × Int × Int), (1 : Nat))) := by show _ = _; rw [he1 (.inl (by omega))]; unfold one; rw [if_neg (by omega), if_neg (by omega), if_pos o]; simp
        have o' : ((s[k].toNat : Nat) : Int) / 32 = 3 := by omega
        clear o
      case' inr.inr.inr.inr.inr.inl =>
        have HE : Hid (ent (s.data.toList.drop k) = (((5, (s[k].toNat : Int) % 32, 1) : Int × Int × Int), (1 : Nat))) := by show _ = _; rw [he1 (.inl (by omega))]; unfold one; rw [if_neg (by omega), if_neg (by omega), if_neg (by omega), if_pos o]; simp
        have o' : ((s[k].toNat : Nat) : Int) / 32 = 4 := by omega
        clear o
      case' inr.inr.inr.inr.inr.inr.inl =>
        have HE : Hid (ent (s.data.toList.drop k) = (((6, 0, 0) : Int × Int × Int), (1 : Nat))) := by show _ = _; rw [he1 (.inl (by omega))]; unfold one; rw [if_neg (by omega), if_neg (by omega), if_neg (by omega), if_neg (by omega), if_pos ob]
        have o' : ((s[k].toNat : Nat) : Int) = 160 := by omega
        clear ob
        clear o
      case' inr.inr.inr.inr.inr.inr.inr.inl =>
        have HE : Hid (ent (s.data.toList.drop k) = (((0, 0, (s[k].toNat : Int)) : Int × Int × Int), (1 : Nat))) := by show _ = _; rw [he1 (.inl (by omega))]; unfold one; rw [if_neg (by omega), if_neg (by omega), if_neg (by omega), if_neg (by omega), if_neg ob]
        have o' : ((s[k].toNat : Nat) : Int) / 32 = 5 := by omega
        have ob' : (((s[k].toNat : Nat) : Int) == 160) = false := by simp; omega
        clear ob
        clear o
      case' inr.inr.inr.inr.inr.inr.inr.inr.inl =>
        have HE : Hid (ent (s.data.toList.drop k) = (((0, 0, (s[k].toNat : Int)) : Int × Int × Int), (1 : Nat))) := by show _ = _; rw [he1 (.inl (by omega))]; unfold one; rw [if_neg (by omega), if_neg (by omega), if_neg (by omega), if_neg (by omega), if_neg (by omega)]
        have o' : ((s[k].toNat : Nat) : Int) / 32 = 6 := by omega
        clear o
      case' inr.inr.inr.inr.inr.inr.inr.inr.inr =>
        have HE : Hid (ent (s.data.toList.drop k) = (((0, 0, (s[k].toNat : Int)) : Int × Int × Int), (1 : Nat))) := by show _ = _; rw [he1 (.inl (by omega))]; unfold one; rw [if_neg (by omega), if_neg (by omega), if_neg (by omega), if_neg (by omega), if_neg (by omega)]
        have o' : ((s[k].toNat : Nat) : Int) / 32 = 7 := by omega
        clear o
      all_goals
        clear he1 hd0
        rw [HE.out] at HD
        simp only at HD
        go_wp2_with (at_builtin; refine app_pick (by rfl) _ _ (by rfl) w.heap.size _ acc (_, _, _) (HO.out _) (by rfl) (wr.heap.size + 1) (by simp) (by rfl) hal (HB.out _).size ?_; intro v' w6 hown6 hbel6; have HO6 : Hid (ownP w6 w.heap.size v' _) := hown6; have HB6 : Hid (Below w.heap.size w w6) := (HB.out _).trans hbel6; clear hown6 hbel6)
        first
        | (refine ⟨⟨k + 1, _, by go_num, by omega, ?_, HO6.out, HB6.out, ?_⟩, ?_⟩
           · simp; omega
           · rw [List.append_assoc, List.singleton_append, ← HD.out]; exact HV.out
           · simp [intOf]; omega)
        | (refine ⟨⟨k + 2, _, by go_num, by omega, ?_, HO6.out, HB6.out, ?_⟩, ?_⟩
           · simp; omega
           · rw [List.append_assoc, List.singleton_append, ← HD.out]; exact HV.out
           · simp [intOf]; omega)
    · have HE : Hid (acc = dL s.data.toList) := by
        show _ = _
        have := HV.out
        rw [drop_all s k (by omega)] at this
        simpa [dL] using this
      have hl' : ¬ (k : Int) < (s.size : Int) := by omega
      clear HV HO HB
      go_wp2
      go_ret
      exact ⟨_, rfl, by rw [← HE.out]; exact HO0.out, HB0.out⟩
end Go.Proofs.Ytppfgcdfmdmffaa
