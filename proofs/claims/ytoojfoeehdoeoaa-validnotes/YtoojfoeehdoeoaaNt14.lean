import Derived.Test.YtoojfoeehdoeoaaOpenN
namespace Go.Proofs.Ytoojfoeehdoeoaa
open Go.ChangeShapes Go.WideShapes Go.ChangeAt Go.RowKit Go.Maps
set_option linter.unusedVariables false
set_option maxRecDepth 100000
abbrev boxP (w : World) : World := w.alloc (.cells #[.slice none 0 0, .map none, .slice none 0 0, .map none] 45)
abbrev boxD (w : World) : World := w.alloc (.cells #[.slice none 0 0, .slice none 0 0] 48)
theorem newP_any (w : World) : Calls Try.prog 4 #[] w fun e w' => e = .returned (.pointer (some ⟨w.heap.size, 0, none⟩)) ∧ w' = boxP w := by
  go_enter Try.func4, Try.ntmps4
  go_wp2
  go_ret
  exact ⟨rfl, rfl⟩
theorem newD_any (w : World) : Calls Try.prog 5 #[] w fun e w' => e = .returned (.pointer (some ⟨w.heap.size, 0, none⟩)) ∧ w' = boxD w := by
  go_enter Try.func5, Try.ntmps5
  go_wp2
  go_ret
  exact ⟨rfl, rfl⟩
theorem ps_new (w : World) : Ps (boxP w) w.heap.size (fun b => b = w.heap.size) [] [] := by
  refine ⟨.slice none 0 0, none, fun _ => False, .slice none 0 0, none, fun _ => False, ⟨?_, ?_, ?_, ?_, World.ownsRow_nil _ _ _ _, fun b hb => (by cases hb), Or.inl ⟨rfl, rfl⟩, fun h => h, fun b h => h.elim⟩, ⟨?_, ?_, ?_, ?_, World.ownsRow_nil _ _ _ _, fun b hb => (by cases hb), Or.inl ⟨rfl, rfl⟩, fun h => h, fun b h => h.elim⟩, fun b h => h.elim, fun b hb => ?_, fun b hb => ?_⟩ <;> try simp
  · rcases hb with h | h | h
    · exact h
    · exact h.elim
    · exact h.elim
  · omega
theorem ds_new (w : World) : Ds (boxD w) w.heap.size (fun b => b = w.heap.size) [] [] := by
  refine ⟨.slice none 0 0, fun _ => False, .slice none 0 0, fun _ => False, ⟨?_, ?_, World.ownsRow_nil _ _ _ _, fun b hb => (by cases hb), fun h => h, fun b h => h.elim⟩, ⟨?_, ?_, World.ownsRow_nil _ _ _ _, fun b hb => (by cases hb), fun h => h, fun b h => h.elim⟩, fun b h => h.elim, fun b hb => ?_, fun b hb => ?_⟩ <;> try simp
  · rcases hb with h | h | h
    · exact h
    · exact h.elim
    · exact h.elim
  · omega
/-- The two pairs of sets, apart from one another and from what came in. -/
def Four (H : Nat) (w0 w : World) (g1 r1 g2 r2 : Nat) : Prop :=
  ∃ W1 xs1 rs1 W2 xs2 rs2, Duo w g1 r1 W1 xs1 rs1 ∧ Duo w g2 r2 W2 xs2 rs2 ∧ Dis W1 W2 ∧ (∀ b, W1 b → H ≤ b) ∧ (∀ b, W2 b → H ≤ b) ∧ Below H w0 w ∧ H ≤ w.heap.size
theorem Four.one {H : Nat} {w0 w w' : World} {g1 r1 g2 r2 : Nat} {W1 W2 : Nat → Prop} {xs2 : List Int} {rs2 : List R2} (h1 : DuoTo w g1 r1 W1 w') (h2 : Duo w g2 r2 W2 xs2 rs2) (hd : Dis W1 W2) (k1 : ∀ b, W1 b → H ≤ b) (k2 : ∀ b, W2 b → H ≤ b) (hb : Below H w0 w) (hH : H ≤ w.heap.size) : Four H w0 w' g1 r1 g2 r2 := by
  obtain ⟨W', xs, rs, d, sub, kp⟩ := h1
  refine ⟨W', xs, rs, W2, xs2, rs2, d, h2.keeps kp (fun b hb hc => hd b hc hb), fun b hb hc => ?_, fun b hb => ?_, k2, hb.trans (kp.below hH (fun b hb hc => by have := k1 b hc; omega)), Nat.le_trans hH kp.size⟩
  · rcases sub b hb with e | e
    · exact hd b e hc
    · have := h2.lt b hc; omega
  · rcases sub b hb with e | e
    · exact k1 b e
    · omega
theorem Four.two {H : Nat} {w0 w w' : World} {g1 r1 g2 r2 : Nat} {W1 W2 : Nat → Prop} {xs1 : List Int} {rs1 : List R2} (h1 : Duo w g1 r1 W1 xs1 rs1) (h2 : DuoTo w g2 r2 W2 w') (hd : Dis W1 W2) (k1 : ∀ b, W1 b → H ≤ b) (k2 : ∀ b, W2 b → H ≤ b) (hb : Below H w0 w) (hH : H ≤ w.heap.size) : Four H w0 w' g1 r1 g2 r2 := by
  obtain ⟨W', xs, rs, d, sub, kp⟩ := h2
  refine ⟨W1, xs1, rs1, W', xs, rs, h1.keeps kp hd, d, fun b hb hc => ?_, k1, fun b hb => ?_, hb.trans (kp.below hH (fun b hb hc => by have := k2 b hc; omega)), Nat.le_trans hH kp.size⟩
  · rcases sub b hc with e | e
    · exact hd b hb e
    · have := h1.lt b hb; omega
  · rcases sub b hb with e | e
    · exact k2 b e
    · omega
theorem four_new (w : World) : Four w.heap.size w (boxD (boxD (boxP (boxP w)))) w.heap.size (w.heap.size + 2) (w.heap.size + 1) (w.heap.size + 3) := by
  have s1 : (boxP w).heap.size = w.heap.size + 1 := by simp
  have s2 : (boxP (boxP w)).heap.size = w.heap.size + 2 := by simp
  have s3 : (boxD (boxP (boxP w))).heap.size = w.heap.size + 3 := by simp
  have s4 : (boxD (boxD (boxP (boxP w)))).heap.size = w.heap.size + 4 := by simp
  have b1 : Below w.heap.size w (boxP w) := (Below.refl _ _).alloc (Nat.le_refl _) _
  have b2 : Below (boxP w).heap.size (boxP w) (boxP (boxP w)) := (Below.refl _ _).alloc (Nat.le_refl _) _
  have b3 : Below (boxP (boxP w)).heap.size (boxP (boxP w)) (boxD (boxP (boxP w))) := (Below.refl _ _).alloc (Nat.le_refl _) _
  have b4 : Below (boxD (boxP (boxP w))).heap.size (boxD (boxP (boxP w))) (boxD (boxD (boxP (boxP w)))) := (Below.refl _ _).alloc (Nat.le_refl _) _
  have p1 := (((ps_new w).later b2).later b3).later b4
  have p2 := ((ps_new (boxP w)).later b3).later b4
  have d1 := (ds_new (boxP (boxP w))).later b4
  have d2 := ds_new (boxD (boxP (boxP w)))
  rw [s1] at p2
  rw [s2] at d1
  rw [s3] at d2
  refine ⟨fun b => b = w.heap.size ∨ b = w.heap.size + 2, [], [], fun b => b = w.heap.size + 1 ∨ b = w.heap.size + 3, [], [], ⟨_, _, p1, d1, fun b hb hc => by omega, fun b hb => hb, fun b hb => by omega, by simp, by simp, by simp⟩, ⟨_, _, p2, d2, fun b hb hc => by omega, fun b hb => hb, fun b hb => by omega, by simp, by simp, by simp⟩, fun b hb hc => by omega, fun b hb => by omega, fun b hb => by omega, ?_, by omega⟩
  exact ((b1.trans (b2.mono (by omega))).trans (b3.mono (by omega))).trans (b4.mono (by omega))
set_option maxHeartbeats 3200000 in
theorem notes_walk (ao : Option Addr) (cap : Nat) (os : List NoV) (w : World) (hs : SeesT w w.heap.size ao os) (hfit : ∀ o ∈ os, o.fits) (hroom : os.length * 64 ≤ 140737488351232 ∧ ∀ o ∈ os, o.room 140737488351232) :
    Calls Try.prog 3 #[.slice ao os.length cap] w fun e w' => e = .returned (.bool true) ∧ Below w.heap.size w w' := by
  have HS : Hid (SeesT w w.heap.size ao os) := hs
  have HF : Hid (∀ o ∈ os, o.fits) := hfit
  have HR : Hid (∀ o ∈ os, o.room 140737488351232) := hroom.2
  have hol := hroom.1
  have H4 : Hid (Four w.heap.size w (boxD (boxD (boxP (boxP w)))) w.heap.size (w.heap.size + 2) (w.heap.size + 1) (w.heap.size + 3)) := four_new w
  clear hs hfit hroom
  go_enter Try.func3, Try.ntmps3
  go_wp2_with fail
  refine (newP_any w).mono ?_
  rintro _ _ ⟨rfl, rfl⟩
  go_wp2_with fail
  refine (newP_any (boxP w)).mono ?_
  rintro _ _ ⟨rfl, rfl⟩
  go_wp2_with fail
  refine (newD_any (boxP (boxP w))).mono ?_
  rintro _ _ ⟨rfl, rfl⟩
  go_wp2_with fail
  refine (newD_any (boxD (boxP (boxP w)))).mono ?_
  rintro _ _ ⟨rfl, rfl⟩
  go_wp2
  go_loopw [7] (fun i wr => ∃ k : Nat, k ≤ os.length ∧ i = .int .i64 k ∧ Four w.heap.size w wr w.heap.size (w.heap.size + 2) (w.heap.size + 1) (w.heap.size + 3)) (fun i _ => os.length - (intOf i).toNat)
  case atStart => exact ⟨0, Nat.zero_le _, rfl, H4.out⟩
  case round =>
    obtain ⟨k, hk, rfl, W1, xs1, rs1, W2, xs2, rs2, d1, d2, hd, k1, k2, hbel, hH⟩ := hrel
    have HD1 : Hid (Duo wr w.heap.size (w.heap.size + 2) W1 xs1 rs1) := d1
    have HD2 : Hid (Duo wr (w.heap.size + 1) (w.heap.size + 3) W2 xs2 rs2) := d2
    have HDI : Hid (Dis W1 W2) := hd
    have HK1 : Hid (∀ b, W1 b → w.heap.size ≤ b) := k1
    have HK2 : Hid (∀ b, W2 b → w.heap.size ≤ b) := k2
    have HBE : Hid (Below w.heap.size w wr) := hbel
    clear d1 d2 hd k1 k2 hbel
    by_cases hkl : k < os.length
    · obtain ⟨b, off, hao, hb, hat⟩ := (HS.out.later HBE.out) k hkl
      obtain ⟨wf0, wf1, wf2⟩ := HF.out _ (List.getElem_mem hkl)
      obtain ⟨r1, r2, r3⟩ := HR.out _ (List.getElem_mem hkl)
      generalize os[k] = o at *
      obtain ⟨kd, sa, sc, us, lo, hi⟩ := o
      obtain ⟨c0, c1, c2, c3, cu⟩ := hat
      have HU : Hid (SeesN wr w.heap.size sa us) := cu
      have HW : Hid (∀ x ∈ us, (Lit.int .i64 x).wf = true) := wf1
      have HC : Hid (sa = none → us = [] ∧ sc = 0) := wf2
      simp only at c0 c1 c2 c3 r1 r2 r3
      clear cu wf1 wf2 wf0
      subst hao
      have hx : okR (lo, hi) := ⟨by show lo.size ≤ _; omega, by show hi.size ≤ _; omega⟩
      by_cases hp : k % 2 = 0
      · have hm : Int.tmod (k : Int) 2 = 0 := by rw [show (2 : Int) = ((2 : Nat) : Int) from rfl, ← Int.ofNat_tmod]; omega
        go_wp2_with fail
        refine (noted_any wr w.heap.size (w.heap.size + 2) W1 xs1 rs1 kd sa sc us lo hi w.heap.size HD1.out HK1.out hH HU.out HC.out (by omega) HW.out hx).mono ?_
        rintro _ w2 ⟨rfl, hto⟩
        have HTO : Hid (Four w.heap.size w w2 w.heap.size (w.heap.size + 2) (w.heap.size + 1) (w.heap.size + 3)) := Four.one hto HD2.out HDI.out HK1.out HK2.out HBE.out hH
        clear hto
        go_wp2
        go_roundw
        case rel => exact ⟨k + 1, by omega, by go_num, HTO.out⟩
        case measure => simp [intOf]; omega
      · have hm : Int.tmod (k : Int) 2 = 1 := by rw [show (2 : Int) = ((2 : Nat) : Int) from rfl, ← Int.ofNat_tmod]; omega
        go_wp2_with fail
        refine (noted_any wr (w.heap.size + 1) (w.heap.size + 3) W2 xs2 rs2 kd sa sc us lo hi w.heap.size HD2.out HK2.out hH HU.out HC.out (by omega) HW.out hx).mono ?_
        rintro _ w2 ⟨rfl, hto⟩
        have HTO : Hid (Four w.heap.size w w2 w.heap.size (w.heap.size + 2) (w.heap.size + 1) (w.heap.size + 3)) := Four.two HD1.out hto HDI.out HK1.out HK2.out HBE.out hH
        clear hto
        go_wp2
        go_roundw
        case rel => exact ⟨k + 1, by omega, by go_num, HTO.out⟩
        case measure => simp [intOf]; omega
    · have hke : k = os.length := by omega
      subst hke
      go_wp2_with fail
      refine (listed_any wr w.heap.size (w.heap.size + 2) W1 xs1 rs1 HD1.out).mono ?_
      rintro _ w2 ⟨rfl, hb2⟩
      have HB2 : Hid (Below wr.heap.size wr w2) := hb2
      clear hb2
      go_wp2_with fail
      refine (listed_any w2 (w.heap.size + 1) (w.heap.size + 3) W2 xs2 rs2 (HD2.out.later HB2.out)).mono ?_
      rintro _ w3 ⟨rfl, hb3⟩
      have HB3 : Hid (Below w.heap.size w w3) := (HBE.out.trans (HB2.out.mono hH)).trans (hb3.mono (Nat.le_trans hH HB2.out.size))
      clear hb3
      go_wp2
      go_ret
      exact ⟨rfl, HB3.out⟩
end Go.Proofs.Ytoojfoeehdoeoaa
