import Derived.Test.YtbfjnidpjmhfiaaGreatDoorReads1
namespace Go.Proofs.YtbfjnidpjmhfiaaGreatDoor
open Go.ChangeShapes Go.WideShapes Go.ChangeAt Go.RowKit
set_option linter.unusedVariables false

theorem took_i64 {R : Nat} {s : ByteArray} {p n : Nat} {c : Int} {w w' : World} {x y : Int} (h : x = y) (hb : Fr R w w') (hc : c = 0) (hr : Rd w' R s (p + n)) : Took R s p w (.int .i64 y) n c (.returned (.int .i64 x)) w' := by
  rw [h]; exact ⟨hb, .inl ⟨hc, rfl, hr⟩⟩
theorem and1 (u : Nat) (h : u < 18446744073709551616) : bits .and .u64 (u : Int) 1 = (u : Int) % 2 := by
  have := u64_and_nat u 1 h (by omega)
  rw [show ((1 : Nat) : Int) = 1 from rfl] at this
  rw [this, nat_mask1]; omega

theorem ext_get (s : ByteArray) (p n i : Nat) (h : p + n ≤ s.size) (hi : i < n) (hz : i < (s.extract p (p + n)).size) (hz2 : p + i < s.size) : (s.extract p (p + n))[i]'hz = s[p + i] := by
  rw [ByteArray.getElem_extract]
theorem ext_size (s : ByteArray) (p n : Nat) (h : p + n ≤ s.size) : (s.extract p (p + n)).size = n := by
  rw [ByteArray.size_extract]; omega
set_option maxRecDepth 100000 in
set_option maxHeartbeats 800000 in
theorem lowest_read (R : Nat) (s : ByteArray) (p n : Nat) (w : World) (h : Rd w R s p) (hn : n ≤ 8) (hp : p + n ≤ s.size) (hs : s.size ≤ 1125899906842624) :
    Calls Tryz.prog 101 #[.pointer (some ⟨R, 0, none⟩), .int .i64 n] w fun e w' => e = .returned (.int .u64 (fxV s p n : Int)) ∧ Rd w' R s (p + n) ∧ Fr R w w' := by
  go_enter Tryz.func101, Tryz.ntmps101
  go_wp2_with fail
  refine (next_some R s p n w h hs hp).mono ?_
  rintro e w1 ⟨rfl, hr, hb⟩
  have HR : Hid (Rd w1 R s (p + n)) := hr
  have HB : Hid (Fr R w w1) := hb
  have hz := ext_size s p n hp
  have HG : Hid (∀ i (hi : i < n) (hz : i < (s.extract p (p + n)).size) (h2 : p + i < s.size), (s.extract p (p + n))[i]'hz = s[p + i]'h2) := fun i hi hz h2 => ext_get s p n i hp hi hz h2
  clear hr hb h
  generalize s.extract p (p + n) = t at *
  go_wp2_with fail
  go_loop [6, 12] (fun v i => ∃ k : Nat, k ≤ n ∧ i = .int .i64 k ∧ v = .int .u64 (fxV s p k : Int)) (fun _ i => n - (intOf i).toNat)
  case atStart => exact ⟨0, Nat.zero_le _, rfl, rfl⟩
  case round =>
    obtain ⟨k, hk, rfl, rfl⟩ := hrel
    by_cases hlt : k < n
    · have hkt : k < t.size := by omega
      have hb8 : t[k].toNat < 256 := t[k].toNat_lt
      have HS : Hid (fxV s p (k + 1) = fxV s p k + t[k].toNat * 256 ^ k) := by
        show _ = _
        rw [HG.out k hlt hkt (by omega)]; exact fxV_succ s p k (by omega)
      have HO : Hid _ := or_shift8 (fxV s p k) t[k].toNat k (fxV_lt s p k) hb8 (by omega)
      generalize fxV s p k = A at *
      go_wp2
      go_round
      case rel => exact ⟨k + 1, by omega, by go_num, by rw [HS.out]; exact val_u64 HO.out⟩
      case measure => simp [intOf]; omega
    · have hk' : k = n := by omega
      subst hk'
      go_wp2
      go_ret
      exact ⟨rfl, HR.out, HB.out⟩
set_option maxRecDepth 100000 in
theorem lowest_short (R : Nat) (s : ByteArray) (p n : Nat) (w : World) (h : Rd w R s p) (hp : p ≤ s.size) (hn : s.size < p + n) (hs : s.size ≤ 1125899906842624) :
    Calls Tryz.prog 101 #[.pointer (some ⟨R, 0, none⟩), .int .i64 n] w fun e w' => e = oops 11 ∧ Fr R w w' := by
  go_enter Tryz.func101, Tryz.ntmps101
  go_wp2_with fail
  refine (next_short R s p n w h hp hs (by omega)).mono ?_
  rintro e w1 ⟨rfl, hb⟩
  exact ⟨rfl, rfl, hb⟩
/-- The error of n bytes from p on. -/
def fxE (s : ByteArray) (p n : Nat) : Int := if p + n ≤ s.size then 0 else 11
set_option maxRecDepth 100000 in
theorem f32_read (R : Nat) (s : ByteArray) (p : Nat) (w : World) (h : Rd w R s p) (hp : p ≤ s.size) (hs : s.size ≤ 1125899906842624) :
    Calls Tryz.prog 100 #[.pointer (some ⟨R, 0, none⟩)] w fun e w' => Took R s p w (.int .u32 (fxV s p 4 : Int)) 4 (fxE s p 4) e w' := by
  have hlt := fxV_lt s p 4
  by_cases hn : p + 4 ≤ s.size
  · go_enter Tryz.func100, Tryz.ntmps100
    go_wp2_with fail
    refine (lowest_read R s p 4 w h (by omega) hn hs).mono ?_
    rintro e w1 ⟨rfl, hr, hb⟩
    have HR : Hid (Rd w1 R s (p + 4)) := hr
    have HB : Hid (Fr R w w1) := hb
    have hm : ((fxV s p 4 : Nat) : Int) % 4294967296 = (fxV s p 4 : Int) := by omega
    clear hr hb
    go_wp2
    go_ret
    exact ⟨HB.out, .inl ⟨by unfold fxE; rw [if_pos hn], rfl, HR.out⟩⟩
  · go_enter Tryz.func100, Tryz.ntmps100
    go_wp2_with fail
    refine (lowest_short R s p 4 w h hp (by omega) hs).mono ?_
    rintro e w1 ⟨rfl, hb⟩
    exact ⟨rfl, hb, .inr ⟨by unfold fxE; rw [if_neg hn]; decide, by unfold fxE; rw [if_neg hn]; rfl⟩⟩
/-- What is read of a text from p on, its length ahead, of at most m bytes: the text, how many bytes, the error. -/
def rbV (s : ByteArray) (p m : Nat) : ByteArray × Nat × Int :=
  if (ruV s p).2.2 = 0 then
    (if m < (ruV s p).1 then (ByteArray.empty, 0, 4)
     else if p + (ruV s p).2.1 + (ruV s p).1 ≤ s.size then (s.extract (p + (ruV s p).2.1) (p + (ruV s p).2.1 + (ruV s p).1), (ruV s p).2.1 + (ruV s p).1, 0)
     else (ByteArray.empty, 0, 11))
  else (ByteArray.empty, 0, (ruV s p).2.2)
set_option maxRecDepth 100000 in
set_option maxHeartbeats 800000 in
theorem blob_read (R : Nat) (s : ByteArray) (p m : Nat) (w : World) (h : Rd w R s p) (hp : p ≤ s.size) (hm : m ≤ 1048576) (hs : s.size ≤ 1125899906842624) :
    Calls Tryz.prog 83 #[.pointer (some ⟨R, 0, none⟩), .int .i64 m] w fun e w' => Took R s p w (.string (rbV s p m).1) (rbV s p m).2.1 (rbV s p m).2.2 e w' := by
  have hb := ruV_bound s p
  go_enter Tryz.func83, Tryz.ntmps83
  go_wp2_with fail
  refine (uvarint_read R s p w h hp hs).mono ?_
  rintro e w1 ⟨hb1, ⟨hc, rfl, hr⟩ | ⟨hc, rfl⟩⟩
  · have HB : Hid (Fr R w w1) := hb1
    have hin := hb.2.2.2.2 hc
    have HE : Hid (rbV s p m = if m < (ruV s p).1 then (ByteArray.empty, 0, 4) else if p + (ruV s p).2.1 + (ruV s p).1 ≤ s.size then (s.extract (p + (ruV s p).2.1) (p + (ruV s p).2.1 + (ruV s p).1), (ruV s p).2.1 + (ruV s p).1, 0) else (ByteArray.empty, 0, 11)) := by
      show _ = _
      unfold rbV; rw [if_pos hc]
    have HR : Hid (Rd w1 R s (p + (ruV s p).2.1)) := hr
    have hu := hb.1
    clear hb1 hr hc hb h
    by_cases c1 : m < (ruV s p).1
    · go_wp2_with fail
      exact ⟨rfl, HB.out, .inr ⟨by rw [HE.out, if_pos c1]; decide, by rw [HE.out, if_pos c1]; rfl⟩⟩
    · by_cases c2 : p + (ruV s p).2.1 + (ruV s p).1 ≤ s.size
      · go_wp2_with fail
        refine (next_some R s (p + (ruV s p).2.1) (ruV s p).1 w1 HR.out hs c2).mono ?_
        rintro e w2 ⟨rfl, hr2, hb2⟩
        have HR2 : Hid _ := hr2
        have HB2 : Hid (Fr R w w2) := HB.out.trans hb2
        clear hr2 hb2
        go_wp2
        go_ret
        refine ⟨HB2.out, .inl ⟨by rw [HE.out, if_neg c1, if_pos c2], ?_, ?_⟩⟩
        · rw [HE.out, if_neg c1, if_pos c2]; rfl
        · rw [HE.out, if_neg c1, if_pos c2]; simp only []; rw [← Nat.add_assoc]; exact HR2.out
      · go_wp2_with fail
        refine (next_short R s (p + (ruV s p).2.1) _ w1 HR.out (by omega) hs (by omega)).mono ?_
        rintro e w2 ⟨rfl, hb2⟩
        exact ⟨rfl, HB.out.trans hb2, .inr ⟨by rw [HE.out, if_neg c1, if_neg c2]; decide, by rw [HE.out, if_neg c1, if_neg c2]; rfl⟩⟩
  · exact ⟨rfl, hb1, .inr ⟨by unfold rbV; rw [if_neg hc]; exact hc, by unfold rbV; rw [if_neg hc]; rfl⟩⟩
set_option maxRecDepth 100000 in
theorem blob1_read (R : Nat) (s : ByteArray) (p : Nat) (w : World) (h : Rd w R s p) (hp : p ≤ s.size) (hs : s.size ≤ 1125899906842624) :
    Calls Tryz.prog 82 #[.pointer (some ⟨R, 0, none⟩)] w fun e w' => Took R s p w (.string (rbV s p 1048576).1) (rbV s p 1048576).2.1 (rbV s p 1048576).2.2 e w' := by
  go_enter Tryz.func82, Tryz.ntmps82
  go_wp2_with fail
  refine (blob_read R s p 1048576 w h hp (by omega) hs).mono ?_
  rintro e w1 ⟨hb1, ⟨hc, rfl, hr⟩ | ⟨hc, rfl⟩⟩
  · have HB : Hid (Fr R w w1) := hb1
    have HC : Hid _ := hc
    have HR : Hid _ := hr
    clear hb1 hc hr h
    go_wp2
    go_ret
    exact ⟨HB.out, .inl ⟨HC.out, rfl, HR.out⟩⟩
  · exact ⟨rfl, hb1, .inr ⟨hc, rfl⟩⟩
end Go.Proofs.YtbfjnidpjmhfiaaGreatDoor
