import Derived.Test.YtjcffcpmegpjeaaGreatDoorReads2
namespace Go.Proofs.YtjcffcpmegpjeaaGreatDoor
open Go.ChangeShapes Go.WideShapes Go.ChangeAt Go.RowKit
set_option linter.unusedVariables false
set_option maxRecDepth 100000

/-- What an exported reader answers, of what the taking from p on came to: v, n bytes, the error c. -/
def rd3 {A : Type} (s : ByteArray) (at_ : Int) (z : A) (t : Nat → A × Nat × Int) : A × Int × Int :=
  if 0 ≤ at_ ∧ at_ ≤ s.size then (if (t at_.toNat).2.2 = 0 then ((t at_.toNat).1, at_ + (t at_.toNat).2.1, 0) else (z, at_, (t at_.toNat).2.2)) else (z, at_, 10)
theorem rd3_out {A : Type} (s : ByteArray) (at_ : Int) (z : A) (t : Nat → A × Nat × Int) (h : ¬ (0 ≤ at_ ∧ at_ ≤ s.size)) : rd3 s at_ z t = (z, at_, 10) := by
  unfold rd3; rw [if_neg h]
theorem rd3_ok {A : Type} (s : ByteArray) (p : Nat) (z : A) (t : Nat → A × Nat × Int) (h : p ≤ s.size) (hc : (t p).2.2 = 0) : rd3 s p z t = ((t p).1, (p : Int) + (t p).2.1, 0) := by
  unfold rd3; rw [if_pos (by omega), Int.toNat_natCast, if_pos hc]
theorem rd3_err {A : Type} (s : ByteArray) (p : Nat) (z : A) (t : Nat → A × Nat × Int) (h : p ≤ s.size) (hc : (t p).2.2 ≠ 0) : rd3 s p z t = (z, (p : Int), (t p).2.2) := by
  unfold rd3; rw [if_pos (by omega), Int.toNat_natCast, if_neg hc]
theorem tup3_u {k : IntKind} {a b c : Int} {r : Int × Int × Int} (h : r = (a, b, c)) : Ending.returned (.tuple #[.int k a, .int .i64 b, .int .i64 c]) = .returned (.tuple #[.int k r.1, .int .i64 r.2.1, .int .i64 r.2.2]) := by rw [h]
theorem tup3_s {a : ByteArray} {b c : Int} {r : ByteArray × Int × Int} (h : r = (a, b, c)) : Ending.returned (.tuple #[.string a, .int .i64 b, .int .i64 c]) = .returned (.tuple #[.string r.1, .int .i64 r.2.1, .int .i64 r.2.2]) := by rw [h]
def tU (s : ByteArray) (p : Nat) : Int × Nat × Int := ((ruV s p).1, (ruV s p).2.1, (ruV s p).2.2)
def tS (s : ByteArray) (p : Nat) : Int × Nat × Int := (sdec (ruV s p).1, (ruV s p).2.1, (ruV s p).2.2)
def tX (s : ByteArray) (p : Nat) : Int × Nat × Int := (fxV s p 8, 8, fxE s p 8)
def tF (s : ByteArray) (p : Nat) : Int × Nat × Int := (fxV s p 4, 4, fxE s p 4)
def tB (s : ByteArray) (p : Nat) : ByteArray × Nat × Int := rbV s p 1048576

def rU (s : ByteArray) (at_ : Int) := rd3 s at_ (0 : Int) (tU s)
set_option maxRecDepth 100000 in
set_option maxHeartbeats 800000 in
theorem ReadUvarint_any (s : ByteArray) (at_ : Int) (w : World) (h0 : -9223372036854775808 ≤ at_) (h1 : at_ ≤ 9223372036854775807) (hs : s.size ≤ 1125899906842624) :
    Calls Tryz.prog 111 #[.string s, .int .i64 at_] w fun e w' => e = .returned (.tuple #[.int .u64 (rU s at_).1, .int .i64 (rU s at_).2.1, .int .i64 (rU s at_).2.2]) ∧ Below w.heap.size w w' := by
  by_cases hin : 0 ≤ at_ ∧ at_ ≤ s.size
  · obtain ⟨p, rfl⟩ := Int.eq_ofNat_of_zero_le hin.1
    have hp : p ≤ s.size := by omega
    by_cases hc : (tU s p).2.2 = 0
    · have HE : Hid (rU s (p : Int) = _) := rd3_ok s p (0 : Int) (tU s) hp hc
      have HK : Hid ((tU s p).2.2 = 0) := hc
      clear hc
      go_enter Tryz.func111, Tryz.ntmps111
      go_wp2_with fail
      refine (readU_core s p w (tU s p).1 (tU s p).2.1 (tU s p).2.2 hp hs (show ∀ R w, _ from fun R w h => uvarint_read R s p w h hp hs)).mono ?_
      rintro e w1 ⟨he, hb⟩
      have HB : Hid (Below w.heap.size w w1) := hb
      obtain rfl := he.1 HK.out
      clear hb he
      go_wp2
      go_ret3
      exact ⟨tup3_u HE.out, HB.out⟩
    · have HE : Hid (rU s (p : Int) = _) := rd3_err s p (0 : Int) (tU s) hp hc
      have HK : Hid ((tU s p).2.2 ≠ 0) := hc
      clear hc
      go_enter Tryz.func111, Tryz.ntmps111
      go_wp2_with fail
      refine (readU_core s p w (tU s p).1 (tU s p).2.1 (tU s p).2.2 hp hs (show ∀ R w, _ from fun R w h => uvarint_read R s p w h hp hs)).mono ?_
      rintro e w1 ⟨he, hb⟩
      have HB : Hid (Below w.heap.size w w1) := hb
      obtain rfl := he.2 HK.out
      clear hb he
      go_wp2
      go_ret3
      exact ⟨tup3_u HE.out, HB.out⟩
  · have HE : Hid (rU s at_ = _) := rd3_out s at_ (0 : Int) (tU s) hin
    have hor : at_ < 0 ∨ (s.size : Int) < at_ := by omega
    have HO : Hid _ := hor
    clear hin hor
    go_enter Tryz.func111, Tryz.ntmps111
    go_wp2_with fail
    refine (readU_out s at_ w HO.out h0 h1 hs).mono ?_
    rintro e w1 ⟨rfl, hb⟩
    have HB : Hid (Below w.heap.size w w1) := hb
    clear hb
    go_wp2
    go_ret3
    exact ⟨tup3_u HE.out, HB.out⟩

def rS (s : ByteArray) (at_ : Int) := rd3 s at_ (0 : Int) (tS s)
def rX (s : ByteArray) (at_ : Int) := rd3 s at_ (0 : Int) (tX s)
def rF (s : ByteArray) (at_ : Int) := rd3 s at_ (0 : Int) (tF s)
def rB (s : ByteArray) (at_ : Int) := rd3 s at_ ByteArray.empty (tB s)
set_option maxRecDepth 100000 in
set_option maxHeartbeats 800000 in
theorem ReadBlob_any (s : ByteArray) (at_ : Int) (w : World) (h0 : -9223372036854775808 ≤ at_) (h1 : at_ ≤ 9223372036854775807) (hs : s.size ≤ 1125899906842624) :
    Calls Tryz.prog 144 #[.string s, .int .i64 at_] w fun e w' => e = .returned (.tuple #[.string (rB s at_).1, .int .i64 (rB s at_).2.1, .int .i64 (rB s at_).2.2]) ∧ Below w.heap.size w w' := by
  by_cases hin : 0 ≤ at_ ∧ at_ ≤ s.size
  · obtain ⟨p, rfl⟩ := Int.eq_ofNat_of_zero_le hin.1
    have hp : p ≤ s.size := by omega
    by_cases hc : (tB s p).2.2 = 0
    · have HE : Hid (rB s (p : Int) = _) := rd3_ok s p ByteArray.empty (tB s) hp hc
      have HK : Hid ((tB s p).2.2 = 0) := hc
      clear hc
      go_enter Tryz.func144, Tryz.ntmps144
      go_wp2_with fail
      refine (readB_core s p w (tB s p).1 (tB s p).2.1 (tB s p).2.2 hp hs (show ∀ R w, _ from fun R w h => blob1_read R s p w h hp hs)).mono ?_
      rintro e w1 ⟨he, hb⟩
      have HB : Hid (Below w.heap.size w w1) := hb
      obtain rfl := he.1 HK.out
      clear hb he
      go_wp2
      go_ret3
      exact ⟨tup3_s HE.out, HB.out⟩
    · have HE : Hid (rB s (p : Int) = _) := rd3_err s p ByteArray.empty (tB s) hp hc
      have HK : Hid ((tB s p).2.2 ≠ 0) := hc
      clear hc
      go_enter Tryz.func144, Tryz.ntmps144
      go_wp2_with fail
      refine (readB_core s p w (tB s p).1 (tB s p).2.1 (tB s p).2.2 hp hs (show ∀ R w, _ from fun R w h => blob1_read R s p w h hp hs)).mono ?_
      rintro e w1 ⟨he, hb⟩
      have HB : Hid (Below w.heap.size w w1) := hb
      obtain rfl := he.2 HK.out
      clear hb he
      go_wp2
      go_ret3
      exact ⟨tup3_s HE.out, HB.out⟩
  · have HE : Hid (rB s at_ = _) := rd3_out s at_ ByteArray.empty (tB s) hin
    have hor : at_ < 0 ∨ (s.size : Int) < at_ := by omega
    have HO : Hid _ := hor
    clear hin hor
    go_enter Tryz.func144, Tryz.ntmps144
    go_wp2_with fail
    refine (readB_out s at_ w HO.out h0 h1 hs).mono ?_
    rintro e w1 ⟨rfl, hb⟩
    have HB : Hid (Below w.heap.size w w1) := hb
    clear hb
    go_wp2
    go_ret3
    exact ⟨tup3_s HE.out, HB.out⟩
end Go.Proofs.YtjcffcpmegpjeaaGreatDoor
