import Derived.Test.YtbfjnidpjmhfiaaGreatDoorBack1
import Derived.Test.YtbfjnidpjmhfiaaGreatDoorCrc5
import Derived.Test.YtbfjnidpjmhfiaaGreatDoorMfR
import Derived.Test.YtbfjnidpjmhfiaaGreatDoorMd2
import Derived.Test.YtbfjnidpjmhfiaaGreatDoorMf4
import Derived.Test.YtbfjnidpjmhfiaaGreatDoorDe20
import Derived.Laws.BitsAllLaws
namespace Go.Proofs.YtbfjnidpjmhfiaaGreatDoor
open Go.ChangeShapes Go.WideShapes Go.ChangeAt Go.RowKit
set_option linter.unusedVariables false
set_option maxRecDepth 100000
/-- May a frame have this kind, number and size of body? -/
def mayFr (k l n : Int) : Bool := decide (1 ≤ l ∧ l ≤ 4611686018427387903) && (decide (k = 1 ∧ 1 ≤ n ∧ n ≤ 131072) || decide (k = 2 ∧ n = 8) || decide (k = 3 ∧ n = 0))
/-- The bytes of a sum. -/
def smB (t : ByteArray) : ByteArray := strOfNums (fxB 4 (crN t.data.toList : Nat))
/-- The head of a frame, without its own sum. -/
def hdF (k l : Int) (b : ByteArray) : ByteArray := strOfNums [83, 70] ++ strOfNums [k, 0] ++ strOfNums (fxB 4 b.size) ++ strOfNums (fxB 8 l) ++ smB b
/-- A frame's bytes, or the refusal. -/
def enF (k l : Int) (b : ByteArray) : ByteArray × Int := if mayFr k l b.size = true then (hdF k l b ++ smB (hdF k l b) ++ b, 0) else (ByteArray.empty, 110)
theorem smB_size (t : ByteArray) : (smB t).size = 4 := by unfold smB; rw [strOfNums_size, fxB_len]
theorem hdF_size (k l : Int) (b : ByteArray) : (hdF k l b).size = 20 := by
  unfold hdF
  simp [strOfNums_size, fxB_len, smB_size]
theorem crN_lt' (l : List UInt8) : crN l < 4294967296 := by unfold crN; omega
theorem mod256 (v n : Nat) : ((v : Int) / 256 ^ n % 256) = ((v / 256 ^ n % 256 : Nat) : Int) := by
  have : ((256 : Int) ^ n) = ((256 ^ n : Nat) : Int) := by simp
  rw [this]; omega
/-- A byte of a number that was read. -/
theorem fxV_byte (s : ByteArray) (p : Nat) : ∀ (n i : Nat) (hi : i < n) (h : p + n ≤ s.size), fxV s p n / 256 ^ i % 256 = (s[p + i]'(by omega)).toNat
  | 0, i, hi, _ => by omega
  | n + 1, i, hi, h => by
    have hl := fxV_lt s p n
    have hb := (s[p + n]'(by omega)).toNat_lt
    rw [fxV_succ s p n (by omega)]
    by_cases e : i = n
    · subst e
      rw [Nat.add_mul_div_right _ _ (Nat.pow_pos (by omega)), Nat.div_eq_of_lt hl, Nat.zero_add, Nat.mod_eq_of_lt hb]
    · have ih := fxV_byte s p n i (by omega) (by omega)
      rw [← ih]
      have e2 : n = i + 1 + (n - (i + 1)) := by omega
      generalize fxV s p n = V at *
      generalize (s[p + n]'(by omega)).toNat = c at *
      have e3 : c * 256 ^ n = 256 ^ i * (256 * (c * 256 ^ (n - (i + 1)))) := by
        conv => lhs; rw [e2, Nat.pow_add, Nat.pow_succ]
        rw [Nat.mul_left_comm c, Nat.mul_assoc (256 ^ i) 256]
      rw [e3, Nat.add_mul_div_left _ _ (Nat.pow_pos (by omega)), Nat.add_mul_mod_self_left]
/-- Four bytes of a text are those of a number just if that number is read there. -/
theorem four_iff (s : ByteArray) (p v : Nat) (h : p + 4 ≤ s.size) (hv : v < 4294967296) : s.extract p (p + 4) = strOfNums (fxB 4 v) ↔ fxV s p 4 = v := by
  constructor
  · intro e
    have hh : HasAt s p (fxB 4 v) := by
      intro i hi
      rw [fxB_len] at hi
      obtain ⟨g, hg⟩ := nums_get (fxB 4 v) (fxB_bytes 4 v) i (by rw [fxB_len]; omega)
      refine ⟨by omega, ?_⟩
      rw [← hg]
      have hx : i < (s.extract p (p + 4)).size := by rw [e]; exact g
      have : (s.extract p (p + 4))[i]'hx = (strOfNums (fxB 4 v))[i]'g := by congr 1
      rw [← this, ext_get s p 4 i h hi hx (by omega)]
    have := fx_back s p 4 v hh
    rw [this]
    exact Nat.mod_eq_of_lt (by omega)
  · intro e
    apply ByteArray.ext_getElem
    · rw [ext_size s p 4 h, strOfNums_size, fxB_len]
    · intro i h1 h2
      have hi : i < 4 := by rw [ext_size s p 4 h] at h1; exact h1
      rw [ext_get s p 4 i h hi h1 (by omega)]
      obtain ⟨g, hg⟩ := nums_get (fxB 4 v) (fxB_bytes 4 v) i (by rw [fxB_len]; omega)
      have hq := fxB_get 4 i v hi
      rw [List.getElem?_eq_getElem (by rw [fxB_len]; omega)] at hq
      rw [Option.some.inj hq, mod256] at hg
      have hb := fxV_byte s p 4 i hi h
      rw [e] at hb
      apply UInt8.toNat_inj.1
      omega
/-- The byte at a place (0 behind the end). -/
def bAt (s : ByteArray) (i : Nat) : Nat := if h : i < s.size then s[i].toNat else 0
theorem bAt_of (s : ByteArray) (i : Nat) (h : i < s.size) : bAt s i = s[i].toNat := by unfold bAt; rw [dif_pos h]
/-- How the reading of the frame with which t begins ends: the kind of a tail. -/
def dfE (t : ByteArray) : Int :=
  if t.size < 24 then 1 else if t.extract 0 2 ≠ strOfNums [83, 70] then 2 else if fxV t 20 4 ≠ crN (t.extract 0 20).data.toList then 3
  else if bAt t 3 ≠ 0 ∨ mayFr (bAt t 2) (fxV t 8 8) (fxV t 4 4) = false then 4
  else if t.size < 24 + fxV t 4 4 then 1
  else if fxV t 16 4 ≠ crN (t.extract 24 (24 + fxV t 4 4)).data.toList then 5 else 0
end Go.Proofs.YtbfjnidpjmhfiaaGreatDoor

namespace Go.Proofs.YtbfjnidpjmhfiaaGreatDoor
open Go.ChangeShapes Go.WideShapes Go.ChangeAt Go.RowKit
set_option linter.unusedVariables false
set_option maxRecDepth 100000
theorem fxV_congr (s t : ByteArray) (p : Nat) : ∀ n, (∀ i, i < n → bAt s (p + i) = bAt t (p + i)) → fxV s p n = fxV t p n
  | 0, _ => rfl
  | n + 1, h => by
    have h1 := fxV_congr s t p n (fun i hi => h i (by omega))
    have h2 := h n (by omega)
    unfold bAt at h2
    unfold fxV
    rw [h1, h2]
theorem has_bAt {s : ByteArray} {p : Nat} {xs : List Int} (h : HasAt s p xs) (i : Nat) (hi : i < xs.length) : (bAt s (p + i) : Int) = xs[i] := by
  obtain ⟨a, b⟩ := h i hi
  rw [bAt_of _ _ a, b]
theorem bAt_app_l (a b : ByteArray) (i : Nat) (h : i < a.size) : bAt (a ++ b) i = bAt a i := by
  rw [bAt_of _ _ (by simp; omega), bAt_of _ _ h, ByteArray.getElem_append_left h]
theorem bAt_app_r (a b : ByteArray) (i : Nat) : bAt (a ++ b) (a.size + i) = bAt b i := by
  unfold bAt
  by_cases h : i < b.size
  · rw [dif_pos h, dif_pos (by simp; omega), ByteArray.getElem_append_right (by omega)]
    congr 2
    omega
  · rw [dif_neg h, dif_neg (by simp; omega)]
theorem bAt_ext (s : ByteArray) (a b i : Nat) (h : b ≤ s.size) (hi : a + i < b) : bAt (s.extract a b) i = bAt s (a + i) := by
  rw [bAt_of _ _ (by rw [ByteArray.size_extract]; omega), bAt_of _ _ (by omega), ByteArray.getElem_extract]
theorem ext_bAt (s t : ByteArray) (a b : Nat) (hs : b ≤ s.size) (ht : b ≤ t.size) (h : ∀ i, a ≤ i → i < b → bAt s i = bAt t i) : s.extract a b = t.extract a b := by
  apply ByteArray.ext_getElem
  · rw [ByteArray.size_extract, ByteArray.size_extract]; omega
  · intro i h1 h2
    have hi : a + i < b := by rw [ByteArray.size_extract] at h1; omega
    have := h (a + i) (by omega) hi
    rw [← bAt_ext s a b i hs hi, ← bAt_ext t a b i ht hi, bAt_of _ _ h1, bAt_of _ _ h2] at this
    exact UInt8.toNat_inj.1 this
theorem crN_one (p q : List UInt8) (a c : UInt8) (h : crN (p ++ a :: q) = crN (p ++ c :: q)) : a = c := by
  have l1 := ovN_lt (p ++ a :: q) 4294967295 (by omega)
  have l2 := ovN_lt (p ++ c :: q) 4294967295 (by omega)
  have h2 : ovN 4294967295 (p ++ a :: q) = ovN 4294967295 (p ++ c :: q) := by unfold crN at h; omega
  rw [ovN_app, ovN_app] at h2
  have lp := ovN_lt p 4294967295 (by omega)
  generalize ovN 4294967295 p = r at *
  have e1 : ∀ x : UInt8, ovN r (x :: q) = ovN (stN r x) q := fun x => rfl
  rw [e1, e1] at h2
  have h3 := ovN_inj q _ _ (stN_lt _ _ lp) (stN_lt _ _ lp) h2
  have h4 := mN_inj (Nat.xor_lt_two_pow (n := 32) lp (byte_lt a)) (Nat.xor_lt_two_pow (n := 32) lp (byte_lt c)) h3
  have h5 : (r ^^^ r) ^^^ a.toNat = (r ^^^ r) ^^^ c.toNat := by rw [Nat.xor_assoc, h4, Nat.xor_assoc]
  rw [Nat.xor_self, Nat.zero_xor, Nat.zero_xor] at h5
  exact UInt8.toNat_inj.1 h5
theorem toList_bAt (s : ByteArray) (i : Nat) (h : i < s.data.toList.length) : s.data.toList[i].toNat = bAt s i := by
  have h' : i < s.size := by rw [Array.length_toList] at h; exact h
  rw [bAt_of _ _ h']
  rfl
/-- Texts that part in one byte have not one sum. -/
theorem crN_turn (s t : ByteArray) (a : Nat) (hl : s.size = t.size) (ha : a < s.size) (h : ∀ i, i < s.size → i ≠ a → bAt s i = bAt t i) (hn : bAt s a ≠ bAt t a) : crN s.data.toList ≠ crN t.data.toList := by
  intro e
  have ls : s.data.toList.length = s.size := by rw [Array.length_toList]; rfl
  have lt : t.data.toList.length = t.size := by rw [Array.length_toList]; rfl
  have hget : ∀ i (h1 : i < s.data.toList.length) (h2 : i < t.data.toList.length), i ≠ a → s.data.toList[i] = t.data.toList[i] := fun i h1 h2 hi => by
    apply UInt8.toNat_inj.1
    rw [toList_bAt, toList_bAt]
    exact h i (by omega) hi
  have es : s.data.toList = s.data.toList.take a ++ s.data.toList[a]'(by omega) :: s.data.toList.drop (a + 1) := by
    rw [← List.drop_eq_getElem_cons (by omega), List.take_append_drop]
  have et : t.data.toList = s.data.toList.take a ++ t.data.toList[a]'(by omega) :: s.data.toList.drop (a + 1) := by
    conv => lhs; rw [← List.take_append_drop a t.data.toList, List.drop_eq_getElem_cons (by omega : a < t.data.toList.length)]
    congr 1
    · apply List.ext_getElem
      · simp; omega
      · intro i h1 h2
        rw [List.getElem_take, List.getElem_take]
        exact (hget i (by simp at h2; omega) (by simp at h1; omega) (by simp at h1; omega)).symm
    · congr 1
      apply List.ext_getElem
      · simp; omega
      · intro i h1 h2
        rw [List.getElem_drop, List.getElem_drop]
        exact (hget _ (by simp at h2; omega) (by simp at h1; omega) (by omega)).symm
  rw [es, et] at e
  have := crN_one _ _ _ _ e
  apply hn
  rw [← toList_bAt s a (by omega), ← toList_bAt t a (by omega), this]
/-- A number that parts in one byte. -/
theorem fxV_turn (s t : ByteArray) (p n a : Nat) (hs : p + n ≤ s.size) (ht : p + n ≤ t.size) (ha : p ≤ a) (hb : a < p + n) (hn : bAt s a ≠ bAt t a) : fxV s p n ≠ fxV t p n := by
  intro e
  have h1 := fxV_byte s p n (a - p) (by omega) hs
  have h2 := fxV_byte t p n (a - p) (by omega) ht
  rw [e, h2] at h1
  apply hn
  rw [bAt_of _ _ (by omega), bAt_of _ _ (by omega)]
  have e2 : p + (a - p) = a := by omega
  simp only [e2] at h1
  exact h1.symm
end Go.Proofs.YtbfjnidpjmhfiaaGreatDoor

namespace Go.Proofs.YtbfjnidpjmhfiaaGreatDoor
open Go.ChangeShapes Go.WideShapes Go.ChangeAt Go.RowKit
set_option linter.unusedVariables false
set_option maxRecDepth 100000
/-- One byte of s is another in t. -/
def Turned (s t : ByteArray) : Prop := t.size = s.size ∧ ∃ a, a < s.size ∧ (∀ i, i < s.size → i ≠ a → bAt t i = bAt s i) ∧ bAt t a ≠ bAt s a
/-- A whole file with one byte turned is none. -/
theorem opE_turn {b t mg : ByteArray} (h : opE b mg = 0) (ht : Turned b t) : opE t mg ≠ 0 := by
  intro h2
  obtain ⟨hz, a, ha, hsame, hne⟩ := ht
  obtain ⟨p1, -, p3⟩ := opE_parts h
  obtain ⟨-, -, q3⟩ := opE_parts h2
  rw [hz] at q3
  by_cases hl : a < b.size - 4
  · have e1 : fxV b (b.size - 4) 4 = fxV t (b.size - 4) 4 := fxV_congr b t _ 4 (fun i hi => (hsame _ (by omega) (by omega)).symm)
    have z1 : (b.extract 0 (b.size - 4)).size = b.size - 4 := by rw [ByteArray.size_extract]; omega
    have z2 : (t.extract 0 (b.size - 4)).size = b.size - 4 := by rw [ByteArray.size_extract]; omega
    refine crN_turn (b.extract 0 (b.size - 4)) (t.extract 0 (b.size - 4)) a (by omega) (by omega) (fun i hi hia => ?_) ?_ ?_
    · rw [bAt_ext b 0 _ i (by omega) (by omega), bAt_ext t 0 _ i (by omega) (by omega), Nat.zero_add]
      exact (hsame i (by omega) hia).symm
    · rw [bAt_ext b 0 _ a (by omega) (by omega), bAt_ext t 0 _ a (by omega) (by omega), Nat.zero_add]
      exact fun e => hne e.symm
    · rw [p3, q3, e1]
  · have e1 : b.extract 0 (b.size - 4) = t.extract 0 (b.size - 4) := ext_bAt b t 0 _ (by omega) (by omega) (fun i _ hi => (hsame i (by omega) (by omega)).symm)
    have e2 := fxV_turn b t (b.size - 4) 4 a (by omega) (by omega) (by omega) (by omega) (fun e => hne e.symm)
    apply e2
    rw [← p3, ← q3, e1]
/-- What is sealed is whole. -/
theorem opE_seal (m l : List Int) (hm : m.length = 8) (mg : ByteArray) (hmg : mg = strOfNums m) : opE (sealM m l) mg = 0 ∧ (sealM m l).size = 12 + l.length := by
  have hz : (strOfNums (m ++ l)).size = 8 + l.length := by rw [strOfNums_size, List.length_append, hm]
  have hb : (sealM m l).size = 12 + l.length := by
    unfold sealM
    rw [ByteArray.size_append, hz, strOfNums_size, fxB_len]
    omega
  have hx : (sealM m l).extract 0 ((sealM m l).size - 4) = strOfNums (m ++ l) := by
    rw [hb, show 12 + l.length - 4 = (strOfNums (m ++ l)).size from by omega]
    unfold sealM
    exact ByteArray.extract_append_eq_left rfl
  have hx8 : (sealM m l).extract 0 8 = mg := by
    have e : (sealM m l).extract 0 8 = ((sealM m l).extract 0 ((sealM m l).size - 4)).extract 0 8 := by
      rw [ByteArray.extract_extract]
      congr 1
      omega
    rw [e, hx, strApp, hmg]
    exact ByteArray.extract_append_eq_left (by rw [strOfNums_size, hm])
  have hc : crN (strOfNums (m ++ l)).data.toList ≤ 4294967295 := by unfold crN; omega
  have h4 := (fx4_iff (sealM m l) ((sealM m l).size - 4) (crN (strOfNums (m ++ l)).data.toList) (by omega) hc).2 (by
    conv => rhs; rw [hb, show 12 + l.length - 4 = (strOfNums (m ++ l)).size from by omega, ← hb]
    unfold sealM
    exact (ByteArray.extract_append_eq_right rfl (by simp)).symm)
  refine ⟨?_, hb⟩
  unfold opE
  rw [if_neg (by omega), if_neg (by rw [hx8]; simp), if_neg]
  rw [hx, h4]
  simp
theorem ownsM.free {w : World} {B : Nat} {e : TypeId} {xs : List Value} {g n cap : Nat} (h : ownsM w B e (.slice (some ⟨g, 0, none⟩) n cap) xs) (j : Nat) (hj : j < xs.length) : w.frozen? ⟨g, j, none⟩ = false := by
  obtain ⟨g', cap', cur, fz, he, hb, hg, hz, hl, hm, hs, ht⟩ := h
  simp only [Value.slice.injEq, Option.some.injEq, Addr.mk.injEq, and_true] at he
  obtain ⟨rfl, rfl, rfl⟩ := he
  obtain ⟨f1, f2⟩ := fz
  simp only at hz
  simp [World.frozen?, hg]
  intro h1
  rcases hz with hz | hz <;> omega
theorem ownMB.set {w : World} {B : Nat} {xs : List Int} {g n cap : Nat} (h : ownMB w B (.slice (some ⟨g, 0, none⟩) n cap) xs) (j : Nat) (y : Int) : ownMB (w.setCell ⟨g, j, none⟩ (.int .u8 y)) B (.slice (some ⟨g, 0, none⟩) n cap) (xs.set j y) := by
  unfold ownMB ownsM at h ⊢
  obtain ⟨g', cap', cur, fz, he, hb, hg, hz, hl, hm, hs, ht⟩ := h
  simp only [Value.slice.injEq, Option.some.injEq, Addr.mk.injEq, and_true] at he
  obtain ⟨rfl, rfl, rfl⟩ := he
  refine ⟨g, cap, _, fz, by simp, hb, setCellP _ hg, hz, by simpa using hl, hm, by simpa using hs, ?_⟩
  rw [Array.toList_setIfInBounds, List.take_set]
  simp only [List.length_map, List.length_set] at ht ⊢
  rw [ht, List.map_set]
theorem txtN_get (s : ByteArray) (j : Nat) (hj : j < s.size) : (txtN s)[j]? = some ((bAt s j : Nat) : Int) := by
  unfold txtN
  rw [List.getElem?_map, List.getElem?_eq_getElem (by simpa using hj)]
  simp only [Option.map_some, Option.some.injEq, Int.natCast_inj]
  exact toList_bAt s j (by simpa using hj)
end Go.Proofs.YtbfjnidpjmhfiaaGreatDoor

namespace Go.Proofs.YtbfjnidpjmhfiaaGreatDoor
open Go.ChangeShapes Go.WideShapes Go.ChangeAt Go.RowKit
set_option linter.unusedVariables false
set_option maxRecDepth 100000
theorem txtN_bytes (s : ByteArray) : ∀ x ∈ txtN s, 0 ≤ x ∧ x < 256 := by
  intro x hx
  unfold txtN at hx
  obtain ⟨c, _, rfl⟩ := List.mem_map.1 hx
  have := c.toNat_lt
  exact ⟨by omega, by omega⟩
theorem bAt_lt (s : ByteArray) (j : Nat) (hj : j < s.size) : bAt s j < 256 := by
  have h := txtN_bytes s ((bAt s j : Nat) : Int) (List.mem_of_getElem? (txtN_get s j hj))
  omega
/-- The numbers of a text with one of them changed, as a text. -/
theorem flip_turned (s : ByteArray) (a x : Nat) (ha : a < s.size) (hx : x < 256) : (strOfNums ((txtN s).set a ((bAt s a ^^^ x : Nat) : Int))).size = s.size ∧ (x ≠ 0 → Turned s (strOfNums ((txtN s).set a ((bAt s a ^^^ x : Nat) : Int)))) := by
  have hl : (txtN s).length = s.size := txtN_lenB s
  have hz : (strOfNums ((txtN s).set a ((bAt s a ^^^ x : Nat) : Int))).size = s.size := by rw [strOfNums_size, List.length_set, hl]
  refine ⟨hz, fun hx0 => ⟨hz, a, ha, ?_, ?_⟩⟩
  all_goals
    have hc := bAt_lt s a ha
    have hxl : bAt s a ^^^ x < 256 := Nat.xor_lt_two_pow (n := 8) hc hx
    have hb : ∀ y ∈ (txtN s).set a ((bAt s a ^^^ x : Nat) : Int), 0 ≤ y ∧ y < 256 := fun y hy => by
      rcases List.mem_or_eq_of_mem_set hy with h | h
      · exact txtN_bytes s y h
      · rw [h]; omega
  · intro i hi hia
    obtain ⟨g, hg⟩ := nums_get _ hb i (by rw [List.length_set, hl]; exact hi)
    have e := txtN_get s i hi
    rw [List.getElem_set_ne (fun e => hia e.symm)] at hg
    have e2 := (List.getElem?_eq_some_iff.1 e).2
    rw [e2] at hg
    rw [bAt_of _ _ g]
    omega
  · obtain ⟨g, hg⟩ := nums_get _ hb a (by rw [List.length_set, hl]; exact ha)
    rw [List.getElem_set_self] at hg
    rw [bAt_of _ _ g]
    intro e
    apply hx0
    have h1 : bAt s a ^^^ x = bAt s a := by omega
    have h2 : bAt s a ^^^ (bAt s a ^^^ x) = bAt s a ^^^ bAt s a := by rw [h1]
    rw [← Nat.xor_assoc, Nat.xor_self, Nat.zero_xor] at h2
    exact h2
set_option maxHeartbeats 3200000 in
theorem flipped_any (w : World) (s : ByteArray) (n x : Nat) (hs0 : 0 < s.size) (hs : s.size ≤ 140737488355328) (hn : n ≤ 18446744073709551615) (hx : x < 256) :
    Calls Tryz.prog 16 #[.string s, .int .u64 (n : Int), .int .u8 (x : Int)] w fun e w' => (∃ t, e = .returned (.string t) ∧ t.size = s.size ∧ (x ≠ 0 → Turned s t)) ∧ Below w.heap.size w w' := by
  have hj : n % s.size < s.size := Nat.mod_lt _ hs0
  have hmod : ((n : Int).tmod (s.size : Int)) = ((n % s.size : Nat) : Int) := by rw [Int.tmod_eq_emod_of_nonneg (by omega)]; rfl
  have hcv := conv_bytes w s
  obtain ⟨ho, hb⟩ := conv_ownMB w w.heap.size s (Nat.le_refl _) hs
  obtain ⟨hft, hfu⟩ := flip_turned s (n % s.size) x hj hx
  have hbl := bAt_lt s (n % s.size) hj
  have hxo : bits .xor .u8 ((bAt s (n % s.size) : Nat) : Int) (x : Int) = ((bAt s (n % s.size) ^^^ x : Nat) : Int) := u8_xor_nat _ _ hbl hx
  have hfz := ownsM.free ho (n % s.size) (by rw [List.length_map, txtN_lenB]; exact hj)
  have hce : (Lib.bytesWorld w 5 s).cell? ⟨w.heap.size, n % s.size, none⟩ = some (.int .u8 ((bAt s (n % s.size) : Nat) : Int)) := by
    have h1 := ownsM.cells ho (n % s.size) (.int .u8 ((bAt s (n % s.size) : Nat) : Int)) (by rw [List.getElem?_map, txtN_get s _ hj]; rfl)
    have hadd : (⟨w.heap.size, 0, none⟩ : Addr).add (n % s.size) = ⟨w.heap.size, n % s.size, none⟩ := by unfold Addr.add; split <;> simp_all
    rwa [hadd] at h1
  have hcv2 := (ho.set (n % s.size) ((bAt s (n % s.size) ^^^ x : Nat) : Int)).conv
  have HB : Hid (Below w.heap.size w (Lib.bytesWorld w 5 s)) := hb
  have HF : Hid _ := hft
  have HU : Hid _ := hfu
  generalize strOfNums ((txtN s).set (n % s.size) ((bAt s (n % s.size) ^^^ x : Nat) : Int)) = T at *
  clear ho hb hft hfu
  generalize Lib.bytesWorld w 5 s = w1 at *
  generalize grownCap w s.size 0 5 = cp at *
  generalize bAt s (n % s.size) ^^^ x = Y at *
  generalize bAt s (n % s.size) = X at *
  have hjj : ((n % s.size : Nat) : Int) < (s.size : Int) := by omega
  generalize n % s.size = j at *
  go_enter Tryz.func16, Tryz.ntmps16
  go_wp2
  go_ret
  exact ⟨⟨T, rfl, HF.out, HU.out⟩, HB.out.setCell (p := ⟨w.heap.size, j, none⟩) (Nat.le_refl _) _⟩
end Go.Proofs.YtbfjnidpjmhfiaaGreatDoor
