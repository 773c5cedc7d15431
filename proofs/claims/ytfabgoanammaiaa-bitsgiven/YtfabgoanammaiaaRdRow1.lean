import Derived.Test.YtfabgoanammaiaaRdKey6
namespace Go.Proofs.Ytfabgoanammaiaa
open Go.ChangeShapes Go.WideShapes Go.ChangeAt Go.RowKit
set_option linter.unusedVariables false

set_option maxRecDepth 100000 in
theorem rdNull_row (R : Nat) (s : ByteArray) (p : Nat) (w : World) (h : Rd w R s p) :
    Calls Try.prog 47 #[.pointer (some ⟨R, 0, none⟩)] w (Took R s p w (vA 0 0 ⟨#[]⟩) 0 0) := by
  go_enter Try.func47, Try.ntmps47
  go_wp2
  have hb : Below w.heap.size w (w.alloc (.cells #[.int .i64 0, .int .i64 0, .string ⟨#[]⟩] 45)) := (Below.refl _ _).alloc (Nat.le_refl _) _
  exact bodyPost_ret (ret_val (p := 2) rfl _ _ 0 0 ⟨#[]⟩ w.heap.size (by rfl) (heap_alloc_new w _)) rfl (took_v rfl rfl (Fr.of (Nat.le_of_lt h.lt) hb) (h.later hb))
/-- A truth in a row: its worth, its error. -/
def rbW (s : ByteArray) (p : Nat) : Int := if h : p < s.size then (s[p].toNat : Int) else 0
def rbE (s : ByteArray) (p : Nat) : Int := if h : p < s.size then (if 1 < s[p].toNat then 14 else 0) else 11
set_option maxRecDepth 100000 in
set_option maxHeartbeats 800000 in
theorem rdBool_row (R : Nat) (s : ByteArray) (p : Nat) (w : World) (h : Rd w R s p) (hp : p ≤ s.size) (hs : s.size ≤ 1125899906842624) :
    Calls Try.prog 52 #[.pointer (some ⟨R, 0, none⟩)] w (Took R s p w (vA 1 (rbW s p) ⟨#[]⟩) 1 (rbE s p)) := by
  have hz := h.later (zbelow w)
  have Z := zfr w h
  have hlt := h.lt
  clear h
  by_cases hl : p < s.size
  · have HW : Hid (rbW s p = (s[p].toNat : Int)) := by show _ = _; unfold rbW; rw [dif_pos hl]
    have HE : Hid (rbE s p = if 1 < s[p].toNat then 14 else 0) := by show _ = _; unfold rbE; rw [dif_pos hl]
    go_enter Try.func52, Try.ntmps52
    go_wp2_with fail
    refine (byte_some R s p _ hz hl hs).mono ?_
    rintro e w1 ⟨rfl, hr, hb⟩
    obtain ⟨HF, HH, _⟩ := Z w1 hb
    have HR : Hid (Rd w1 R s (p + 1)) := hr
    have hb8 : s[p].toNat < 256 := s[p].toNat_lt
    clear hb hr Z hz
    generalize s[p].toNat = b at *
    by_cases c1 : 1 < b
    · rw [if_pos c1] at HE
      have t1 : (1 : Int) < (b : Int) := by omega
      go_wp2
      exact ⟨rfl, took_e HE.out (by decide) HF.out _⟩
    · rw [if_neg c1] at HE
      have t1 : ¬ (1 : Int) < (b : Int) := by omega
      go_wp2_with fail
      refine (boolValue_any (b : Int) w1 (by omega) (by omega)).mono ?_
      rintro e w2 ⟨rfl, hb2⟩
      obtain ⟨HH2, c0, c1, c2, f0, f1, f2⟩ := zcells HH.out hb2
      have HF2 : Hid (Fr R w w2) := HF.out.trans (Fr.of (Nat.le_of_lt HR.out.lt) hb2)
      have HR2 : Hid (Rd w2 R s (p + 1)) := HR.out.later hb2
      clear hb2 HH HF HR
      unfold vA
      go_wp2
      exact bodyPost_ret (ret_val (p := 2) rfl _ _ 1 (b : Int) ⟨#[]⟩ w.heap.size (by rfl) (set3 HH2.out)) rfl (took_v HE.out (by rw [HW.out]) (HF2.out.set3 (Nat.le_of_lt hlt) (Nat.le_refl _)) (HR2.out.set3 (Nat.ne_of_gt hlt)))
  · have e : p = s.size := by omega
    subst e
    go_enter Try.func52, Try.ntmps52
    go_wp2_with fail
    refine (byte_short R s _ hz hs).mono ?_
    rintro e w1 ⟨rfl, hb⟩
    exact ⟨rfl, took_e (by unfold rbE; rw [dif_neg hl]) (by decide) (Z w1 hb).1.out _⟩
set_option maxRecDepth 100000 in
set_option maxHeartbeats 800000 in
theorem rdInt_row (R : Nat) (s : ByteArray) (p : Nat) (w : World) (h : Rd w R s p) (hp : p ≤ s.size) (hs : s.size ≤ 1125899906842624) :
    Calls Try.prog 57 #[.pointer (some ⟨R, 0, none⟩)] w (Took R s p w (vA 2 (sdec (ruV s p).1) ⟨#[]⟩) (ruV s p).2.1 (ruV s p).2.2) := by
  have hM := svarint_read R s p _ (h.later (zbelow w)) hp hs
  have Z := zfr w h
  have hlt := h.lt
  clear h
  generalize sdec (ruV s p).1 = A at *
  generalize (ruV s p).2.1 = m at *
  generalize (ruV s p).2.2 = ec at *
  go_enter Try.func57, Try.ntmps57
  go_wp2_with fail
  refine hM.mono ?_
  rintro e w1 ⟨hb, ⟨hc, rfl, hr⟩ | ⟨hc, rfl⟩⟩
  · have HC : Hid (ec = 0) := hc
    have HR : Hid (Rd w1 R s (p + m)) := hr
    obtain ⟨HF, HH, _⟩ := Z w1 hb
    clear hc hr hb hM Z
    go_wp2_with fail
    refine (intValue_any A w1).mono ?_
    rintro e w2 ⟨rfl, hb2⟩
    obtain ⟨HH2, c0, c1, c2, f0, f1, f2⟩ := zcells HH.out hb2
    have HF2 : Hid (Fr R w w2) := HF.out.trans (Fr.of (Nat.le_of_lt HR.out.lt) hb2)
    have HR2 : Hid (Rd w2 R s (p + m)) := HR.out.later hb2
    clear hb2 HH HF HR
    unfold vA
    go_wp2
    exact bodyPost_ret (ret_val (p := 2) rfl _ _ 2 A ⟨#[]⟩ w.heap.size (by rfl) (set3 HH2.out)) rfl (took_v HC.out rfl (HF2.out.set3 (Nat.le_of_lt hlt) (Nat.le_refl _)) (HR2.out.set3 (Nat.ne_of_gt hlt)))
  · exact ⟨rfl, took_e rfl hc (Z w1 hb).1.out _⟩
set_option maxRecDepth 100000 in
set_option maxHeartbeats 800000 in
theorem rdText_row (R : Nat) (s : ByteArray) (p : Nat) (w : World) (h : Rd w R s p) (hp : p ≤ s.size) (hs : s.size ≤ 1125899906842624) :
    Calls Try.prog 62 #[.pointer (some ⟨R, 0, none⟩)] w (Took R s p w (vA 3 0 (rbV s p 4096).1) (rbV s p 4096).2.1 (rbV s p 4096).2.2) := by
  have hM := blob_read R s p 4096 _ (h.later (zbelow w)) hp (by omega) hs
  have Z := zfr w h
  have hlt := h.lt
  clear h
  generalize (rbV s p 4096).1 = A at *
  generalize (rbV s p 4096).2.1 = m at *
  generalize (rbV s p 4096).2.2 = ec at *
  go_enter Try.func62, Try.ntmps62
  go_wp2_with fail
  refine hM.mono ?_
  rintro e w1 ⟨hb, ⟨hc, rfl, hr⟩ | ⟨hc, rfl⟩⟩
  · have HC : Hid (ec = 0) := hc
    have HR : Hid (Rd w1 R s (p + m)) := hr
    obtain ⟨HF, HH, _⟩ := Z w1 hb
    clear hc hr hb hM Z
    go_wp2_with fail
    refine (textValue_any A w1).mono ?_
    rintro e w2 ⟨rfl, hb2⟩
    obtain ⟨HH2, c0, c1, c2, f0, f1, f2⟩ := zcells HH.out hb2
    have HF2 : Hid (Fr R w w2) := HF.out.trans (Fr.of (Nat.le_of_lt HR.out.lt) hb2)
    have HR2 : Hid (Rd w2 R s (p + m)) := HR.out.later hb2
    clear hb2 HH HF HR
    unfold vA
    go_wp2
    exact bodyPost_ret (ret_val (p := 2) rfl _ _ 3 0 A w.heap.size (by rfl) (set3 HH2.out)) rfl (took_v HC.out rfl (HF2.out.set3 (Nat.le_of_lt hlt) (Nat.le_refl _)) (HR2.out.set3 (Nat.ne_of_gt hlt)))
  · exact ⟨rfl, took_e rfl hc (Z w1 hb).1.out _⟩
end Go.Proofs.Ytfabgoanammaiaa
