import Derived.Test.YtfabgoanammaiaaRdRow2
namespace Go.Proofs.Ytfabgoanammaiaa
open Go.ChangeShapes Go.WideShapes Go.ChangeAt Go.RowKit
set_option linter.unusedVariables false

/-- What is read of a value of kind k in a row, from byte p on: the value, how many bytes, the error. -/
def rrV (s : ByteArray) (p k : Nat) : (Int × Int × ByteArray) × Nat × Int :=
  if k = 0 then ((0, 0, ⟨#[]⟩), 0, 0)
  else if k = 1 then ((1, rbW s p, ⟨#[]⟩), 1, rbE s p)
  else if k = 2 then ((2, sdec (ruV s p).1, ⟨#[]⟩), (ruV s p).2.1, (ruV s p).2.2)
  else ((3, 0, (rbV s p 4096).1), (rbV s p 4096).2.1, (rbV s p 4096).2.2)
/-- What is read of the values behind the kinds that begin at p, f of them still to come, n bytes being taken: the values, how many bytes, the error. -/
def rrF (s : ByteArray) (p : Nat) : Nat → Nat → List (Int × Int × ByteArray) → List (Int × Int × ByteArray) × Nat × Int
  | 0, n, acc => if p + n < s.size then ([], 0, 16) else (acc, n, 0)
  | f + 1, n, acc =>
    if (rrV s (p + n) (knd s (p + 1) acc.length)).2.2 = 0 then rrF s p f (n + (rrV s (p + n) (knd s (p + 1) acc.length)).2.1) (acc ++ [(rrV s (p + n) (knd s (p + 1) acc.length)).1])
    else ([], 0, (rrV s (p + n) (knd s (p + 1) acc.length)).2.2)
def rrL (s : ByteArray) (p : Nat) : List (Int × Int × ByteArray) × Nat × Int := if kdE s p = 0 then rrF s p (kdN s p) (1 + (kdN s p + 3) / 4) [] else ([], 0, kdE s p)
theorem kdE_in {s : ByteArray} {p : Nat} (h : kdE s p = 0) : p + 1 + (kdN s p + 3) / 4 ≤ s.size := by
  unfold kdE at h
  split at h
  · split at h
    · omega
    · split at h
      · omega
      · omega
  · omega
theorem rbE_in {s : ByteArray} {p : Nat} (h : rbE s p = 0) : p + 1 ≤ s.size := by
  unfold rbE at h
  split at h
  · omega
  · omega
theorem rbV_in {s : ByteArray} {p m : Nat} (h : (rbV s p m).2.2 = 0) : p + (rbV s p m).2.1 ≤ s.size := by
  unfold rbV at h ⊢
  by_cases h1 : (ruV s p).2.2 = 0
  · rw [if_pos h1] at h ⊢
    by_cases h2 : m < (ruV s p).1
    · rw [if_pos h2] at h; simp at h
    · rw [if_neg h2] at h ⊢
      by_cases h3 : p + (ruV s p).2.1 + (ruV s p).1 ≤ s.size
      · rw [if_pos h3]; simp only; omega
      · rw [if_neg h3] at h; simp at h
  · rw [if_neg h1] at h; exact absurd h h1
theorem rrF_end (s : ByteArray) (p n : Nat) (acc : List (Int × Int × ByteArray)) (h : ¬ p + n < s.size) : rrF s p 0 n acc = (acc, n, 0) := by
  unfold rrF; rw [if_neg h]
theorem rrF_tail (s : ByteArray) (p n : Nat) (acc : List (Int × Int × ByteArray)) (h : p + n < s.size) : rrF s p 0 n acc = ([], 0, 16) := by
  unfold rrF; rw [if_pos h]
theorem rrF_ok (s : ByteArray) (p f n : Nat) (acc : List (Int × Int × ByteArray)) (h : (rrV s (p + n) (knd s (p + 1) acc.length)).2.2 = 0) : rrF s p (f + 1) n acc = rrF s p f (n + (rrV s (p + n) (knd s (p + 1) acc.length)).2.1) (acc ++ [(rrV s (p + n) (knd s (p + 1) acc.length)).1]) := by
  conv => lhs; unfold rrF
  rw [if_pos h]
theorem rrF_no (s : ByteArray) (p f n : Nat) (acc : List (Int × Int × ByteArray)) (h : (rrV s (p + n) (knd s (p + 1) acc.length)).2.2 ≠ 0) : rrF s p (f + 1) n acc = ([], 0, (rrV s (p + n) (knd s (p + 1) acc.length)).2.2) := by
  conv => lhs; unfold rrF
  rw [if_neg h]
theorem knd_lt (s : ByteArray) (p i : Nat) : knd s p i < 4 := by
  unfold knd
  split
  · omega
  · omega
theorem ownV.down {w : World} {B B' : Nat} {v : Value} {vs : List (Int × Int × ByteArray)} (h : ownV w B v vs) (hB : B' ≤ B) : ownV w B' v vs := by
  rcases h with ⟨h1, h2 | ⟨g, cap, cur, rfl, hb, hr⟩⟩
  · exact ⟨h1, .inl h2⟩
  · exact ⟨h1, .inr ⟨g, cap, cur, rfl, by omega, hr⟩⟩
attribute [local go_sem] fld0_4 fld1_4 fld2_4 fld3_4
set_option maxRecDepth 100000 in
set_option maxHeartbeats 6400000 in
theorem row_read (R : Nat) (s : ByteArray) (p : Nat) (w : World) (h : Rd w R s p) (hp : p ≤ s.size) (hs : s.size ≤ 1125899906842624) :
    Calls Try.prog 26 #[.pointer (some ⟨R, 0, none⟩)] w (TookV R s p w (rrL s p)) := by
  have hlt := h.lt
  have hK := kinds_read R s p w h hp hs
  go_enter Try.func26, Try.ntmps26
  go_wp2_with fail
  refine hK.mono ?_
  rintro e w1 ⟨hf, ⟨hc, g, cap, rfl, hg0, hg1, hn16, hnc, hcap, hcs, hr⟩ | ⟨hc, rfl⟩⟩
  · have HL : Hid (rrL s p = rrF s p (kdN s p) (1 + (kdN s p + 3) / 4) []) := by show _ = _; unfold rrL; rw [if_pos hc]
    have hin0 := kdE_in hc
    have HF0 : Hid (Fr R w w1) := hf
    have HCS : Hid (∀ i, i < kdN s p → w1.cell? ⟨g, i, none⟩ = some (.int .i64 (knd s (p + 1) i))) := hcs
    have HR : Hid (Rd w1 R s (p + 1 + (kdN s p + 3) / 4)) := hr
    have hR1 := hr.lt
    clear hf hcs hr hc hK h
    generalize kdN s p = nv at *
    have hww : w.heap.size ≤ w1.heap.size := HF0.out.size
    go_wp2_with fail
    go_loopw [3, 9] (fun c i wr => ∃ (k n f : Nat) (acc : List (Int × Int × ByteArray)), k ≤ nv ∧ f = nv - k ∧ i = .int .i64 k ∧ acc.length = k ∧ p + n ≤ s.size ∧ ownV wr w1.heap.size c acc ∧ Rd wr R s (p + n) ∧ Fr R w1 wr ∧ rrL s p = rrF s p f n acc) (fun _ i _ => nv - (intOf i).toNat)
    case atStart => exact ⟨0, 1 + (nv + 3) / 4, nv, [], by omega, by omega, rfl, rfl, by omega, ownV_nil _ _, by rw [← Nat.add_assoc]; exact HR.out, Fr.refl _ _, HL.out⟩
    case round =>
      obtain ⟨k, n, f, acc, hk, hf, rfl, hal, hn, hown, hr2, hf2, hv⟩ := hrel
      have HV : Hid (rrL s p = rrF s p f n acc) := hv
      have HO2 : Hid (ownV wr w1.heap.size _ acc) := hown
      have HR2 : Hid (Rd wr R s (p + n)) := hr2
      have HF2 : Hid (Fr R w1 wr) := hf2
      have HA : Hid (acc.length = k) := hal
      clear hv hown hr2 hf2 hal HR HL
      by_cases h1 : k < nv
      · obtain ⟨f, rfl⟩ : ∃ f', f = f' + 1 := ⟨f - 1, by omega⟩
        have hcx : wr.cell? ⟨g, k, none⟩ = some (.int .i64 (knd s (p + 1) k)) := by
          rw [World.cell?_of_block (w := w1) (HF2.out.rest g hg1 (by omega))]; exact HCS.out k h1
        have HOK : Hid _ := fun h => HV.out.trans (rrF_ok s p f n acc h)
        have HNO : Hid _ := fun h => HV.out.trans (rrF_no s p f n acc h)
        rw [HA.out] at HOK HNO
        have hy4 := knd_lt s (p + 1) k
        clear HV
        have i1 : (k : Int) < (nv : Int) := by omega
        generalize knd s (p + 1) k = y at *
        have hy : y = 0 ∨ y = 1 ∨ y = 2 ∨ y = 3 := by omega
        clear hy4
        rcases hy with rfl | rfl | rfl | rfl
        · -- kind 0
          have HV5 : Hid (rrL s p = rrF s p f (n + 0) (acc ++ [(0, 0, ⟨#[]⟩)])) := HOK.out rfl
          have hin2 : p + n + 0 ≤ s.size := hn
          clear HOK HNO
          go_wp2_with fail
          refine (layE_0 _).mono ?_
          rintro e w4 ⟨rfl, hb4⟩
          have HR4 : Hid (Rd w4 R s (p + n)) := HR2.out.later hb4
          have HF4 : Hid (Fr R w1 w4) := HF2.out.trans (Fr.of (Nat.le_of_lt HR2.out.lt) hb4)
          have HO4 : Hid (ownV w4 w1.heap.size _ acc) := HO2.out.same (fun k hk _ => hb4.block k hk)
          clear hb4 HR2 HF2 HO2 hcx
          go_wp2_with fail
          refine (rdNull_row R s (p + n) w4 HR4.out).mono ?_
          rintro e w5 ⟨hf5, ⟨hc, rfl, hr5⟩ | ⟨hc, rfl⟩⟩
          · skip
            skip
            have HR5 : Hid (Rd w5 R s (p + n + 0)) := hr5
            have HF5 : Hid (Fr R w1 w5) := HF4.out.trans hf5
            have HO5 : Hid (ownV w5 w1.heap.size _ acc) := HO4.out.fr hR1 hf5
            have hB5 : w1.heap.size ≤ w5.heap.size := HF5.out.size
            clear hr5 hf5 HR4 HF4 HO4 hc
            unfold vA
            go_wp2_with (at_builtin; refine app_val (by rfl) _ _ (by rfl) w1.heap.size _ acc (0, 0, ⟨#[]⟩) HO5.out (by rfl) (by rfl) (by have := HA.out; omega) hB5 ?_; intro v' w6 hown6 hbel6; have HO6 : Hid (ownV w6 w1.heap.size v' (acc ++ [(0, 0, ⟨#[]⟩)])) := hown6; have HF6 : Hid (Fr R w1 w6) := HF5.out.grow (Nat.le_of_lt hR1) hbel6; have HR6 : Hid (Rd w6 R s (p + n + 0)) := HR5.out.grow hR1 hbel6; clear hown6 hbel6)
            go_roundw
            case rel => exact ⟨k + 1, _, f, _, by omega, by omega, by go_num, by rw [List.length_append, List.length_singleton, HA.out], by rw [← Nat.add_assoc]; exact hin2, HO6.out, by rw [← Nat.add_assoc]; exact HR6.out, HF6.out, HV5.out⟩
            case measure => simp [intOf]; omega
          · exact absurd rfl hc
        · -- kind 1
          have HVok : Hid ((rbE s (p + n) : Int) = 0 → rrL s p = rrF s p f (n + 1) (acc ++ [(1, rbW s (p + n), ⟨#[]⟩)])) := HOK.out
          have HVno : Hid ((rbE s (p + n) : Int) ≠ 0 → rrL s p = ([], 0, rbE s (p + n))) := HNO.out
          have HIN : Hid ((rbE s (p + n) : Int) = 0 → p + n + 1 ≤ s.size) := fun h => rbE_in h
          clear HOK HNO
          go_wp2_with fail
          refine (layE_1 _).mono ?_
          rintro e w4 ⟨rfl, hb4⟩
          have HR4 : Hid (Rd w4 R s (p + n)) := HR2.out.later hb4
          have HF4 : Hid (Fr R w1 w4) := HF2.out.trans (Fr.of (Nat.le_of_lt HR2.out.lt) hb4)
          have HO4 : Hid (ownV w4 w1.heap.size _ acc) := HO2.out.same (fun k hk _ => hb4.block k hk)
          clear hb4 HR2 HF2 HO2 hcx
          go_wp2_with fail
          refine (rdBool_row R s (p + n) w4 HR4.out hn hs).mono ?_
          rintro e w5 ⟨hf5, ⟨hc, rfl, hr5⟩ | ⟨hc, rfl⟩⟩
          · have HV5 : Hid _ := HVok.out hc
            have hin2 := HIN.out hc
            have HR5 : Hid (Rd w5 R s (p + n + 1)) := hr5
            have HF5 : Hid (Fr R w1 w5) := HF4.out.trans hf5
            have HO5 : Hid (ownV w5 w1.heap.size _ acc) := HO4.out.fr hR1 hf5
            have hB5 : w1.heap.size ≤ w5.heap.size := HF5.out.size
            clear hr5 hf5 HR4 HF4 HO4 HIN HVok HVno hc
            unfold vA
            go_wp2_with (at_builtin; refine app_val (by rfl) _ _ (by rfl) w1.heap.size _ acc (1, rbW s (p + n), ⟨#[]⟩) HO5.out (by rfl) (by rfl) (by have := HA.out; omega) hB5 ?_; intro v' w6 hown6 hbel6; have HO6 : Hid (ownV w6 w1.heap.size v' (acc ++ [(1, rbW s (p + n), ⟨#[]⟩)])) := hown6; have HF6 : Hid (Fr R w1 w6) := HF5.out.grow (Nat.le_of_lt hR1) hbel6; have HR6 : Hid (Rd w6 R s (p + n + 1)) := HR5.out.grow hR1 hbel6; clear hown6 hbel6)
            go_roundw
            case rel => exact ⟨k + 1, _, f, _, by omega, by omega, by go_num, by rw [List.length_append, List.length_singleton, HA.out], by rw [← Nat.add_assoc]; exact hin2, HO6.out, by rw [← Nat.add_assoc]; exact HR6.out, HF6.out, HV5.out⟩
            case measure => simp [intOf]; omega
          · exact ⟨rfl, tookV_e (HVno.out hc) hc (HF0.out.trans (HF4.out.trans hf5))⟩
        · -- kind 2
          have HVok : Hid (((ruV s (p + n)).2.2 : Int) = 0 → rrL s p = rrF s p f (n + (ruV s (p + n)).2.1) (acc ++ [(2, sdec (ruV s (p + n)).1, ⟨#[]⟩)])) := HOK.out
          have HVno : Hid (((ruV s (p + n)).2.2 : Int) ≠ 0 → rrL s p = ([], 0, (ruV s (p + n)).2.2)) := HNO.out
          have HIN : Hid (((ruV s (p + n)).2.2 : Int) = 0 → p + n + (ruV s (p + n)).2.1 ≤ s.size) := fun h => (ruV_bound s (p + n)).2.2.2.2 h
          clear HOK HNO
          go_wp2_with fail
          refine (layE_2 _).mono ?_
          rintro e w4 ⟨rfl, hb4⟩
          have HR4 : Hid (Rd w4 R s (p + n)) := HR2.out.later hb4
          have HF4 : Hid (Fr R w1 w4) := HF2.out.trans (Fr.of (Nat.le_of_lt HR2.out.lt) hb4)
          have HO4 : Hid (ownV w4 w1.heap.size _ acc) := HO2.out.same (fun k hk _ => hb4.block k hk)
          clear hb4 HR2 HF2 HO2 hcx
          go_wp2_with fail
          refine (rdInt_row R s (p + n) w4 HR4.out hn hs).mono ?_
          rintro e w5 ⟨hf5, ⟨hc, rfl, hr5⟩ | ⟨hc, rfl⟩⟩
          · have HV5 : Hid _ := HVok.out hc
            have hin2 := HIN.out hc
            have HR5 : Hid (Rd w5 R s (p + n + (ruV s (p + n)).2.1)) := hr5
            have HF5 : Hid (Fr R w1 w5) := HF4.out.trans hf5
            have HO5 : Hid (ownV w5 w1.heap.size _ acc) := HO4.out.fr hR1 hf5
            have hB5 : w1.heap.size ≤ w5.heap.size := HF5.out.size
            clear hr5 hf5 HR4 HF4 HO4 HIN HVok HVno hc
            unfold vA
            go_wp2_with (at_builtin; refine app_val (by rfl) _ _ (by rfl) w1.heap.size _ acc (2, sdec (ruV s (p + n)).1, ⟨#[]⟩) HO5.out (by rfl) (by rfl) (by have := HA.out; omega) hB5 ?_; intro v' w6 hown6 hbel6; have HO6 : Hid (ownV w6 w1.heap.size v' (acc ++ [(2, sdec (ruV s (p + n)).1, ⟨#[]⟩)])) := hown6; have HF6 : Hid (Fr R w1 w6) := HF5.out.grow (Nat.le_of_lt hR1) hbel6; have HR6 : Hid (Rd w6 R s (p + n + (ruV s (p + n)).2.1)) := HR5.out.grow hR1 hbel6; clear hown6 hbel6)
            go_roundw
            case rel => exact ⟨k + 1, _, f, _, by omega, by omega, by go_num, by rw [List.length_append, List.length_singleton, HA.out], by rw [← Nat.add_assoc]; exact hin2, HO6.out, by rw [← Nat.add_assoc]; exact HR6.out, HF6.out, HV5.out⟩
            case measure => simp [intOf]; omega
          · exact ⟨rfl, tookV_e (HVno.out hc) hc (HF0.out.trans (HF4.out.trans hf5))⟩
        · -- kind 3
          have HVok : Hid (((rbV s (p + n) 4096).2.2 : Int) = 0 → rrL s p = rrF s p f (n + (rbV s (p + n) 4096).2.1) (acc ++ [(3, 0, (rbV s (p + n) 4096).1)])) := HOK.out
          have HVno : Hid (((rbV s (p + n) 4096).2.2 : Int) ≠ 0 → rrL s p = ([], 0, (rbV s (p + n) 4096).2.2)) := HNO.out
          have HIN : Hid (((rbV s (p + n) 4096).2.2 : Int) = 0 → p + n + (rbV s (p + n) 4096).2.1 ≤ s.size) := fun h => rbV_in h
          clear HOK HNO
          go_wp2_with fail
          refine (layE_3 _).mono ?_
          rintro e w4 ⟨rfl, hb4⟩
          have HR4 : Hid (Rd w4 R s (p + n)) := HR2.out.later hb4
          have HF4 : Hid (Fr R w1 w4) := HF2.out.trans (Fr.of (Nat.le_of_lt HR2.out.lt) hb4)
          have HO4 : Hid (ownV w4 w1.heap.size _ acc) := HO2.out.same (fun k hk _ => hb4.block k hk)
          clear hb4 HR2 HF2 HO2 hcx
          go_wp2_with fail
          refine (rdText_row R s (p + n) w4 HR4.out hn hs).mono ?_
          rintro e w5 ⟨hf5, ⟨hc, rfl, hr5⟩ | ⟨hc, rfl⟩⟩
          · have HV5 : Hid _ := HVok.out hc
            have hin2 := HIN.out hc
            have HR5 : Hid (Rd w5 R s (p + n + (rbV s (p + n) 4096).2.1)) := hr5
            have HF5 : Hid (Fr R w1 w5) := HF4.out.trans hf5
            have HO5 : Hid (ownV w5 w1.heap.size _ acc) := HO4.out.fr hR1 hf5
            have hB5 : w1.heap.size ≤ w5.heap.size := HF5.out.size
            clear hr5 hf5 HR4 HF4 HO4 HIN HVok HVno hc
            unfold vA
            go_wp2_with (at_builtin; refine app_val (by rfl) _ _ (by rfl) w1.heap.size _ acc (3, 0, (rbV s (p + n) 4096).1) HO5.out (by rfl) (by rfl) (by have := HA.out; omega) hB5 ?_; intro v' w6 hown6 hbel6; have HO6 : Hid (ownV w6 w1.heap.size v' (acc ++ [(3, 0, (rbV s (p + n) 4096).1)])) := hown6; have HF6 : Hid (Fr R w1 w6) := HF5.out.grow (Nat.le_of_lt hR1) hbel6; have HR6 : Hid (Rd w6 R s (p + n + (rbV s (p + n) 4096).2.1)) := HR5.out.grow hR1 hbel6; clear hown6 hbel6)
            go_roundw
            case rel => exact ⟨k + 1, _, f, _, by omega, by omega, by go_num, by rw [List.length_append, List.length_singleton, HA.out], by rw [← Nat.add_assoc]; exact hin2, HO6.out, by rw [← Nat.add_assoc]; exact HR6.out, HF6.out, HV5.out⟩
            case measure => simp [intOf]; omega
          · exact ⟨rfl, tookV_e (HVno.out hc) hc (HF0.out.trans (HF4.out.trans hf5))⟩
      · have e : f = 0 := by omega
        subst e
        have i1 : True := trivial
        have HVt : Hid (p + n < s.size → rrL s p = ([], 0, 16)) := fun h => HV.out.trans (rrF_tail s p n acc h)
        have HVe : Hid (¬ p + n < s.size → rrL s p = (acc, n, 0)) := fun h => HV.out.trans (rrF_end s p n acc h)
        have ek : k = nv := by omega
        subst ek
        have HW : Hid (w.heap.size ≤ w1.heap.size) := hww
        clear HCS HV HA hin0 hg0 hg1 hcap hnc hn16 hww hf hk h1 i1
        have i1 : ¬ (k : Int) < (k : Int) := by omega
        go_wp2_with fail
        refine (left_any R s (p + n) wr HR2.out hn hs).mono ?_
        rintro e w3 ⟨rfl, nq, rfl⟩
        have HF3 : Hid (Fr R w (wr.drewN nq)) := HF0.out.trans (HF2.out.trans (fr_drewN nq))
        have HR3 : Hid (Rd (wr.drewN nq) R s (p + n)) := HR2.out.drewN nq
        have HO3 : Hid (ownV (wr.drewN nq) w.heap.size _ acc) := (HO2.out.fr hR1 (fr_drewN nq)).down HW.out
        clear HR2 HF2 HO2 HF0
        generalize wr.drewN nq = w3 at *
        by_cases h2 : p + n < s.size
        · have HV3 : Hid (rrL s p = ([], 0, 16)) := HVt.out h2
          have i2 : (0 : Int) < (s.size : Int) - ((p + n : Nat) : Int) := by omega
          clear HVt HVe
          go_wp2
          exact ⟨rfl, tookV_e HV3.out (by decide) HF3.out⟩
        · have HV3 : Hid (rrL s p = (acc, n, 0)) := HVe.out h2
          have i2 : ¬ (0 : Int) < (s.size : Int) - ((p + n : Nat) : Int) := by omega
          clear HVt HVe
          go_wp2
          go_ret
          exact tookV_v HV3.out HF3.out HO3.out HR3.out
  · exact ⟨rfl, tookV_e (by unfold rrL; rw [if_neg hc]) hc hf⟩
end Go.Proofs.Ytfabgoanammaiaa
