import Derived.Test.YtegnmflbbpfdhaaGreatSchP2
namespace Go.Proofs.YtegnmflbbpfdhaaGreat
open Go.ChangeShapes Go.WideShapes Go.ChangeAt Go.RowKit
set_option linter.unusedVariables false

def strLen : Value → Nat
  | .string t => t.size
  | _ => 0
theorem len_list (t : ByteArray) : t.data.toList.length = t.size := by rw [Array.length_toList]; rfl
theorem ext_list (t : ByteArray) (n : Nat) : (t.extract n t.size).data.toList = t.data.toList.drop n := by
  rw [Lib.extract_data, List.take_of_length_le (by simp)]
theorem ext_len (t : ByteArray) (n : Nat) (h : n ≤ t.size) : (t.extract n t.size).size = t.size - n := by rw [ByteArray.size_extract]; omega
set_option maxRecDepth 100000 in
set_option maxHeartbeats 3200000 in
theorem decode_any (s : ByteArray) (w : World) (hs : s.size ≤ 1466015503360) :
    Calls Tryz.prog 42 #[.string s] w fun e w' => ∃ v, e = .returned v ∧ ownP w' w.heap.size v (dL s.data.toList) ∧ Below w.heap.size w w' := by
  go_enter Tryz.func42, Tryz.ntmps42
  go_wp2_with fail
  go_loopw [0, 3] (fun sc c wr => ∃ (t : ByteArray) (acc : List (Int × Int × Int)), sc = .string t ∧ acc.length + t.size ≤ s.size ∧ ownP wr w.heap.size c acc ∧ Below w.heap.size w wr ∧ acc ++ dL t.data.toList = dL s.data.toList) (fun sc _ _ => strLen sc)
  case atStart => exact ⟨s, [], rfl, by simp, ownP_nil _ _, Below.refl _ _, rfl⟩
  case round =>
    obtain ⟨t, acc, rfl, hlen, hown, hbel, hv⟩ := hrel
    have HV : Hid (acc ++ dL t.data.toList = dL s.data.toList) := hv
    have HO : Hid (ownP wr w.heap.size _ acc) := hown
    have HB : Hid (Below w.heap.size w wr) := hbel
    clear hv hown hbel
    by_cases hl : 0 < t.size
    · have hl' : (0 : Int) < (t.size : Int) := by omega
      have hne : t.data.toList ≠ [] := by intro e; have h2 := len_list t; rw [e] at h2; simp at h2; omega
      obtain ⟨d1, d2, d3⟩ := dL_step t.data.toList hne
      have d3' : (ent t.data.toList).2 ≤ t.size := by simpa using d3
      have hE := entry_any t wr hl (by omega)
      have HD : Hid _ := d1
      have HE : Hid _ := ext_list t (ent t.data.toList).2
      have HZ : Hid _ := ext_len t (ent t.data.toList).2 d3'
      clear d1 d3 hne
      go_wp2_with fail
      refine hE.mono ?_
      rintro e w1 ⟨rfl, hb1⟩
      have HO2 : Hid (∀ o, ownP (w1.alloc o) w.heap.size _ acc) := fun o => HO.out.same (fun k hk _ => (Below.heap_alloc w1 o k (Nat.lt_of_lt_of_le hk hb1.size)).trans (hb1.block k hk))
      have HO1 : Hid (ownP w1 w.heap.size _ acc) := HO.out.same (fun k hk _ => hb1.block k hk)
      have HB1 : Hid (Below w.heap.size w w1) := HB.out.trans (hb1.mono HB.out.size)
      have HB2 : Hid (∀ o, Below w.heap.size w (w1.alloc o)) := fun o => HB1.out.alloc HB1.out.size o
      clear hb1 HO HB hE
      generalize ent t.data.toList = r at *
      obtain ⟨⟨k, i, n⟩, m⟩ := r
      simp only at d2 d3'
      unfold entA
      simp only
      have hal : (acc.length + 1) * 24 ≤ 140737488355328 := by omega
      have d3i : (m : Int) ≤ (t.size : Int) := by omega
      go_wp2_with (at_builtin; first | (refine app_pick (by rfl) _ _ (by rfl) w.heap.size _ acc (k, i, n) (HO2.out _) (by rfl) (w1.heap.size + 1) (by simp) (by rfl) hal (HB2.out _).size ?_; intro v' w6 hown6 hbel6; have HO6 : Hid (ownP w6 w.heap.size v' (acc ++ [(k, i, n)])) := hown6; have HB6 : Hid (Below w.heap.size w w6) := (HB2.out _).trans hbel6; clear hown6 hbel6) | (refine app_pick (by rfl) _ _ (by rfl) w.heap.size _ acc (k, i, n) HO1.out (by rfl) w1.heap.size (by rfl) (by rfl) hal HB1.out.size ?_; intro v' w6 hown6 hbel6; have HO6 : Hid (ownP w6 w.heap.size v' (acc ++ [(k, i, n)])) := hown6; have HB6 : Hid (Below w.heap.size w w6) := HB1.out.trans hbel6; clear hown6 hbel6))
      go_roundw
      case rel => exact ⟨t.extract m t.size, acc ++ [(k, i, n)], rfl, by rw [HZ.out]; simp; omega, HO6.out, HB6.out, by rw [HE.out, List.append_assoc, List.singleton_append, ← HD.out]; exact HV.out⟩
      case measure => show (t.extract m t.size).size < t.size; rw [HZ.out]; show t.size - m < t.size; omega
    · have e : t.data.toList = [] := by
        apply List.eq_nil_of_length_eq_zero
        rw [len_list]; omega
      have HE : Hid (acc = dL s.data.toList) := by
        show _ = _
        have := HV.out
        rw [e] at this
        simpa [dL] using this
      have hz : t.size = 0 := by omega
      clear HV e
      go_wp2
      go_ret
      exact ⟨_, rfl, by rw [← HE.out]; exact HO.out, HB.out⟩
end Go.Proofs.YtegnmflbbpfdhaaGreat
