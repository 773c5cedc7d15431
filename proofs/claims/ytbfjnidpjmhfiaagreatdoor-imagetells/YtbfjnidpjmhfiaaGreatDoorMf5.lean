import Derived.Test.YtbfjnidpjmhfiaaGreatDoorMf4
namespace Go.Proofs.YtbfjnidpjmhfiaaGreatDoor
open Go.ChangeShapes Go.WideShapes Go.ChangeAt Go.RowKit
set_option linter.unusedVariables false
set_option maxRecDepth 100000
theorem Kept.refl (K : Nat → Prop) (w : World) : Kept K w w := ⟨rfl, rfl, rfl, Nat.le_refl _, fun _ _ _ => rfl⟩
theorem Kept.of {K : Nat → Prop} {w w' : World} (h : Below w.heap.size w w') : Kept K w w' := ⟨h.os, h.tape, h.output, h.size, fun k hk _ => h.block k hk⟩
/-- Two steps; what the second may touch is what the first may, or new. -/
theorem Kept.trans {K L : Nat → Prop} {a b c : World} (h : Kept K a b) (k : Kept L b c) (hL : ∀ x, x < a.heap.size → L x → K x) : Kept K a c :=
  ⟨k.os.trans h.os, k.tape.trans h.tape, k.output.trans h.output, Nat.le_trans h.size k.size, fun x hx hn => (k.block x (Nat.lt_of_lt_of_le hx h.size) (fun e => hn (hL x hx e))).trans (h.block x hx hn)⟩
set_option maxHeartbeats 1600000 in
theorem numbers_any (w : World) (B g vb sb cap : Nat) (xs ns : List Int) (h : Wr w B g vb xs) (hc : ∀ i (hi : i < ns.length), w.cell? ⟨sb, i, none⟩ = some (.int .u64 ns[i])) (hn : ∀ x ∈ ns, 0 ≤ x ∧ x ≤ 18446744073709551615) (h1 : sb ≠ g) (h2 : sb ≠ vb) (hsb : sb < w.heap.size) (hl : xs.length + ns.length * 10 ≤ 140737488355328) (hB : B ≤ w.heap.size) :
    Calls Tryz.prog 26 #[.pointer (some ⟨g, 0, none⟩), .slice (some ⟨sb, 0, none⟩) ns.length cap] w fun e w' => e = .returned (.tuple #[]) ∧ ∃ vb', Wr w' B g vb' (xs ++ ns.flatMap uvB) ∧ (vb' = vb ∨ w.heap.size ≤ vb') ∧ Kept (fun k => k = g ∨ k = vb) w w' := by
  have HH : Hid (Wr w B g vb xs) := h
  have HC : Hid (∀ i (hi : i < ns.length), w.cell? ⟨sb, i, none⟩ = some (.int .u64 ns[i])) := hc
  have HN : Hid (∀ x ∈ ns, 0 ≤ x ∧ x ≤ 18446744073709551615) := hn
  clear h hc hn
  go_enter Tryz.func26, Tryz.ntmps26
  go_wp2
  go_loopw [8] (fun i wr => ∃ k : Nat, k ≤ ns.length ∧ i = .int .i64 k ∧ ∃ vb', Wr wr B g vb' (xs ++ (ns.take k).flatMap uvB) ∧ (vb' = vb ∨ w.heap.size ≤ vb') ∧ Kept (fun k => k = g ∨ k = vb) w wr ∧ ((ns.take k).flatMap uvB).length ≤ k * 10) (fun i _ => ns.length - (intOf i).toNat)
  case atStart => exact ⟨0, Nat.zero_le _, rfl, vb, by simpa using HH.out, Or.inl rfl, Kept.refl _ _, by simp⟩
  case round =>
    obtain ⟨k, hk, rfl, vb1, hwr, hvb, hkp, hlen⟩ := hrel
    have HWR : Hid (Wr wr B g vb1 (xs ++ (ns.take k).flatMap uvB)) := hwr
    have HVB : Hid (vb1 = vb ∨ w.heap.size ≤ vb1) := hvb
    have HKP : Hid (Kept (fun k => k = g ∨ k = vb) w wr) := hkp
    have s1 := hkp.size
    clear hwr hvb hkp
    by_cases hkl : k < ns.length
    · have c1 := (HKP.out.cell (p := ⟨sb, k, none⟩) hsb (fun e => by rcases e with e | e; exact h1 e; exact h2 e)).trans (HC.out k hkl)
      have hb := HN.out _ (List.getElem_mem hkl)
      have HST : Hid (xs ++ (ns.take (k + 1)).flatMap uvB = xs ++ (ns.take k).flatMap uvB ++ uvB ns[k]) := by
        show _ = _
        rw [List.take_succ_eq_append_getElem hkl, List.flatMap_append, List.append_assoc]
        simp
      have HLN : Hid (((ns.take (k + 1)).flatMap uvB).length ≤ (k + 1) * 10) := by
        show _ ≤ _
        rw [List.take_succ_eq_append_getElem hkl, List.flatMap_append, List.length_append, List.flatMap_singleton]
        have := (uvB_len ns[k]).1
        omega
      have hub := uvB_bytes ns[k] hb.1 hb.2
      have hul := (uvB_len ns[k]).1
      generalize ns[k] = x at *
      go_wp2_with fail
      refine (uvarint x wr hb.1 hb.2).mono ?_
      rintro _ w1 ⟨rfl, hb1⟩
      have HB1 : Hid (Below wr.heap.size wr w1) := hb1
      have HW1 : Hid (Wr w1 B g vb1 (xs ++ (ns.take k).flatMap uvB)) := HWR.out.keep (Kept.of (K := fun _ => False) hb1) (fun h => h) (fun h => h)
      have s2 := hb1.size
      clear hb1
      have hsz : (strOfNums (uvB x)).size = (uvB x).length := strOfNums_size _
      go_wp2_with fail
      refine (text_any w1 B g vb1 _ (strOfNums (uvB x)) HW1.out (by rw [hsz, List.length_append]; omega) (by omega)).mono ?_
      rintro _ w2 ⟨rfl, vb2, hw2, hv2, hk2⟩
      rw [txtStr _ hub] at hw2
      have HW2 : Hid (Wr w2 B g vb2 (xs ++ (ns.take k).flatMap uvB ++ uvB x)) := hw2
      have HV2 : Hid (vb2 = vb ∨ w.heap.size ≤ vb2) := by
        rcases hv2 with e | e
        · rw [e]; exact HVB.out
        · right; omega
      have HK2 : Hid (Kept (fun k => k = g ∨ k = vb) w w2) := (HKP.out.trans (Kept.of (K := fun _ => False) HB1.out) (fun _ _ h => h.elim)).trans hk2 (fun y hy hh => by
        rcases hh with e | e
        · exact Or.inl e
        · rcases HVB.out with e2 | e2
          · exact Or.inr (e.trans e2)
          · omega)
      clear hw2 hv2 hk2 hub hsz
      go_wp2
      go_roundw
      case rel => exact ⟨k + 1, by omega, by go_num, vb2, by rw [HST.out]; exact HW2.out, HV2.out, HK2.out, HLN.out⟩
      case measure => simp [intOf]; omega
    · have hke : k = ns.length := by omega
      subst hke
      rw [List.take_length] at HWR
      go_wp2
      refine bodyPost_end (results_none rfl _ _ _) rfl ⟨rfl, ?_⟩
      exact ⟨vb1, HWR.out, HVB.out, HKP.out⟩
end Go.Proofs.YtbfjnidpjmhfiaaGreatDoor
