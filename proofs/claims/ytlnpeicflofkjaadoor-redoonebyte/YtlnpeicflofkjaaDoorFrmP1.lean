import Derived.Test.YtlnpeicflofkjaaDoorBack1
import Derived.Test.YtlnpeicflofkjaaDoorCrc5
namespace Go.Proofs.YtlnpeicflofkjaaDoor
open Go.ChangeShapes Go.WideShapes Go.ChangeAt Go.RowKit
set_option linter.unusedVariables false
set_option maxRecDepth 100000
/-- May a frame have this kind, number and size of body? -/
def mayFr (k l n : Int) : Bool := decide (1 ≤ l ∧ l ≤ 4611686018427387903) && (decide (k = 1 ∧ 1 ≤ n ∧ n ≤ 131072) || decide (k = 2 ∧ n = 8) || decide (k = 3 ∧ n = 0))
/-- The bytes of a sum. -/
def smB (t : ByteArray) : ByteArray := strOfNums (fxB 4 (crN t.data.toList : Nat))
/-- The head of a frame, without its own sum. -/
def hdF (k l : Int) (b : ByteArray) : ByteArray := strOfNums [83, 70] ++ strOfNums [k, 0] ++ strOfNums (fxB 4 b.size) ++ strOfNums (fxB 8 l) ++ smB b
/-- A frame's bytes, or the refusal. -/
def enF (k l : Int) (b : ByteArray) : ByteArray × Int := if mayFr k l b.size = true then (hdF k l b ++ smB (hdF k l b) ++ b, 0) else (ByteArray.empty, 110)
theorem smB_size (t : ByteArray) : (smB t).size = 4 := by unfold smB; rw [strOfNums_size, fxB_len]
theorem hdF_size (k l : Int) (b : ByteArray) : (hdF k l b).size = 20 := by
  unfold hdF
  simp [strOfNums_size, fxB_len, smB_size]
theorem crN_lt' (l : List UInt8) : crN l < 4294967296 := by unfold crN; omega
theorem mod256 (v n : Nat) : ((v : Int) / 256 ^ n % 256) = ((v / 256 ^ n % 256 : Nat) : Int) := by
  have : ((256 : Int) ^ n) = ((256 ^ n : Nat) : Int) := by simp
  rw [this]; omega
/-- A byte of a number that was read. -/
theorem fxV_byte (s : ByteArray) (p : Nat) : ∀ (n i : Nat) (hi : i < n) (h : p + n ≤ s.size), fxV s p n / 256 ^ i % 256 = (s[p + i]'(by omega)).toNat
  | 0, i, hi, _ => by omega
  | n + 1, i, hi, h => by
    have hl := fxV_lt s p n
    have hb := (s[p + n]'(by omega)).toNat_lt
    rw [fxV_succ s p n (by omega)]
    by_cases e : i = n
    · subst e
      rw [Nat.add_mul_div_right _ _ (Nat.pow_pos (by omega)), Nat.div_eq_of_lt hl, Nat.zero_add, Nat.mod_eq_of_lt hb]
    · have ih := fxV_byte s p n i (by omega) (by omega)
      rw [← ih]
      have e2 : n = i + 1 + (n - (i + 1)) := by omega
      generalize fxV s p n = V at *
      generalize (s[p + n]'(by omega)).toNat = c at *
      have e3 : c * 256 ^ n = 256 ^ i * (256 * (c * 256 ^ (n - (i + 1)))) := by
        conv => lhs; rw [e2, Nat.pow_add, Nat.pow_succ]
        rw [Nat.mul_left_comm c, Nat.mul_assoc (256 ^ i) 256]
      rw [e3, Nat.add_mul_div_left _ _ (Nat.pow_pos (by omega)), Nat.add_mul_mod_self_left]
/-- Four bytes of a text are those of a number just if that number is read there. -/
theorem four_iff (s : ByteArray) (p v : Nat) (h : p + 4 ≤ s.size) (hv : v < 4294967296) : s.extract p (p + 4) = strOfNums (fxB 4 v) ↔ fxV s p 4 = v := by
  constructor
  · intro e
    have hh : HasAt s p (fxB 4 v) := by
      intro i hi
      rw [fxB_len] at hi
      obtain ⟨g, hg⟩ := nums_get (fxB 4 v) (fxB_bytes 4 v) i (by rw [fxB_len]; omega)
      refine ⟨by omega, ?_⟩
      rw [← hg]
      have hx : i < (s.extract p (p + 4)).size := by rw [e]; exact g
      have : (s.extract p (p + 4))[i]'hx = (strOfNums (fxB 4 v))[i]'g := by congr 1
      rw [← this, ext_get s p 4 i h hi hx (by omega)]
    have := fx_back s p 4 v hh
    rw [this]
    exact Nat.mod_eq_of_lt (by omega)
  · intro e
    apply ByteArray.ext_getElem
    · rw [ext_size s p 4 h, strOfNums_size, fxB_len]
    · intro i h1 h2
      have hi : i < 4 := by rw [ext_size s p 4 h] at h1; exact h1
      rw [ext_get s p 4 i h hi h1 (by omega)]
      obtain ⟨g, hg⟩ := nums_get (fxB 4 v) (fxB_bytes 4 v) i (by rw [fxB_len]; omega)
      have hq := fxB_get 4 i v hi
      rw [List.getElem?_eq_getElem (by rw [fxB_len]; omega)] at hq
      rw [Option.some.inj hq, mod256] at hg
      have hb := fxV_byte s p 4 i hi h
      rw [e] at hb
      apply UInt8.toNat_inj.1
      omega
/-- The byte at a place (0 behind the end). -/
def bAt (s : ByteArray) (i : Nat) : Nat := if h : i < s.size then s[i].toNat else 0
theorem bAt_of (s : ByteArray) (i : Nat) (h : i < s.size) : bAt s i = s[i].toNat := by unfold bAt; rw [dif_pos h]
/-- How the reading of the frame with which t begins ends: the kind of a tail. -/
def dfE (t : ByteArray) : Int :=
  if t.size < 24 then 1 else if t.extract 0 2 ≠ strOfNums [83, 70] then 2 else if fxV t 20 4 ≠ crN (t.extract 0 20).data.toList then 3
  else if bAt t 3 ≠ 0 ∨ mayFr (bAt t 2) (fxV t 8 8) (fxV t 4 4) = false then 4
  else if t.size < 24 + fxV t 4 4 then 1
  else if fxV t 16 4 ≠ crN (t.extract 24 (24 + fxV t 4 4)).data.toList then 5 else 0
end Go.Proofs.YtlnpeicflofkjaaDoor
