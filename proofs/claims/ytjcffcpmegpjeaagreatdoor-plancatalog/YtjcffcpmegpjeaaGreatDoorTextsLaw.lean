import Derived.Test.YtjcffcpmegpjeaaGreatDoorRdPlain8
import Derived.Test.YtjcffcpmegpjeaaGreatDoorReads7
import Derived.Test.YtjcffcpmegpjeaaGreatDoorOneForm
namespace Go.Proofs.YtjcffcpmegpjeaaGreatDoor
open Go.ChangeShapes Go.WideShapes Go.ChangeAt Go.RowKit
set_option linter.unusedVariables false
set_option maxRecDepth 100000

/-- What the reference's reader of one value answers, of what was read behind the byte p. -/
def refA (r : (Int × Int × ByteArray) × Nat × Int) (p : Nat) : Value :=
  if r.2.2 = 0 then .tuple #[vA r.1.1 r.1.2.1 r.1.2.2, .int .i64 ((p + 1 + r.2.1 : Nat) : Int), .int .i64 0] else .tuple #[vA 0 0 ⟨#[]⟩, .int .i64 (p : Int), .int .i64 r.2.2]
theorem refA_ok {r : (Int × Int × ByteArray) × Nat × Int} {p m : Nat} {a i : Int} {t : ByteArray} (h : r = ((a, i, t), m, 0)) : refA r p = .tuple #[vA a i t, .int .i64 ((p + 1 + m : Nat) : Int), .int .i64 0] := by
  rw [h]; unfold refA; rw [if_pos rfl]
theorem refA_no {r : (Int × Int × ByteArray) × Nat × Int} {p : Nat} {c : Int} (h : r.2.2 = c) (hc : c ≠ 0) : refA r p = .tuple #[vA 0 0 ⟨#[]⟩, .int .i64 (p : Int), .int .i64 c] := by
  unfold refA; rw [if_neg (by rw [h]; exact hc), h]
theorem canon_first (s : ByteArray) (p t n : Nat) (ht : t < 256) (hn : 0 < n) (h8 : n ≤ 8) (hin : p + n ≤ s.size) : szB (magV s p t n) < n ↔ (s[p]'(by omega)).toNat ^^^ t = 0 := by
  have hlt := magV_lt s p t ht n
  obtain ⟨g1, g2⟩ := magV_digit s p t ht n hin 0 hn
  have hp : 0 < 256 ^ (n - 1) := Nat.pow_pos (by decide)
  have e256 : 256 ^ n = 256 ^ (n - 1) * 256 := by rw [← Nat.pow_succ]; congr 1; omega
  have hd : magV s p t n / 256 ^ (n - 1) < 256 := by rw [Nat.div_lt_iff_lt_mul hp, Nat.mul_comm]; rw [e256] at hlt; omega
  rw [show n - 1 - 0 = n - 1 by omega, Nat.mod_eq_of_lt hd] at g2
  simp only [Nat.add_zero] at g2
  rw [← g2, Nat.div_eq_zero_iff]
  have h64 : magV s p t n < 18446744073709551616 := by
    have : 256 ^ n ≤ 256 ^ 8 := Nat.pow_le_pow_right (by decide) h8
    have e : (256 : Nat) ^ 8 = 18446744073709551616 := by decide
    omega
  constructor
  · intro h
    right
    have h1 := szB_fit _ h64
    have h2 : 256 ^ szB (magV s p t n) ≤ 256 ^ (n - 1) := Nat.pow_le_pow_right (by decide) (by omega)
    omega
  · intro h
    have h1 : magV s p t n < 256 ^ (n - 1) := by omega
    have h2 : szB (magV s p t n) ≤ n - 1 := szF_most 8 (n - 1) _ h1
    omega
theorem rkV_int (s : ByteArray) (p : Nat) (tag : Int) (h1 : 47 ≤ tag) (h2 : tag ≤ 64) : rkV s p tag = ((2, tagV s p tag, ⟨#[]⟩), tagN tag, magE s p (tagT tag) (tagN tag)) := by
  unfold rkV
  rw [if_neg (by omega), if_neg (by omega), if_pos ⟨h1, h2⟩]
theorem magV_step (s : ByteArray) (p t k : Nat) (ht : t < 256) (hk : k < 8) : magV s p t k * 256 < 18446744073709551616 := by
  have := magV_lt s p t ht k
  have h2 : 256 ^ k ≤ 256 ^ 7 := Nat.pow_le_pow_right (by decide) (by omega)
  have e : (256 : Nat) ^ 7 = 72057594037927936 := by decide
  omega
theorem xor_u8 (b t : Nat) (hb : b < 256) (ht : t < 256) : bits .xor .u8 (b : Int) (t : Int) = ((b ^^^ t : Nat) : Int) := u8_xor_nat b t hb ht
theorem xor_int (s : ByteArray) (p t : Nat) (h : p < s.size) (ht : t < 256) : bits .xor .u8 (s[p].toNat : Int) (t : Int) = ((s[p].toNat ^^^ t : Nat) : Int) := u8_xor_nat _ _ s[p].toNat_lt ht
theorem ret_val3 {fn : Func} {p u v : Tmp} (h : fn.results = #[.cell p 59, .tmp u, .tmp v]) (tmps : Array Value) (w : World) (k i : Int) (t : ByteArray) (g : Nat) (hp : tmps.getD p undef = .pointer (some ⟨g, 0, none⟩)) (hg : w.heap[g]? = some (.cells #[.int .i64 k, .int .i64 i, .string t] 59 (0, 0))) :
    (results fn tmps).run Tryz.prog w = .ok (.tuple #[vA k i t, tmps.getD u undef, tmps.getD v undef]) w := by
  have hp' : tmps[p]?.getD undef = .pointer (some ⟨g, 0, none⟩) := by simpa using hp
  simp [results, h, hp', asAddr, run_loadVar_row w g 59 59 _ (0, 0) _ hg Tryz.underlying59 rfl infoV3]
  rfl
/-- The world with a value more, twice. -/
def w2V (w : World) (k i : Int) (t : ByteArray) : World := (w.alloc (.cells #[.int .i64 k, .int .i64 i, .string t] 59)).alloc (.cells #[.int .i64 k, .int .i64 i, .string t] 59)
theorem w2V_below (w : World) (k i : Int) (t : ByteArray) : Below w.heap.size w (w2V w k i t) := ((Below.refl _ _).alloc (Nat.le_refl _) _).alloc (by simp) _
theorem w2V_res (w : World) (k i : Int) (t : ByteArray) : (w2V w k i t).heap[w.heap.size]? = some (.cells #[.int .i64 k, .int .i64 i, .string t] 59 (0, 0)) := by
  unfold w2V
  show ((w.heap.push _).push _)[w.heap.size]? = _
  rw [Array.getElem?_push, if_neg (by simp), Array.getElem?_push, if_pos rfl]
theorem tup_at {a : Value} {p k : Nat} : Ending.returned (.tuple #[a, .int .i64 ((p : Int) + 1 + (k : Int)), .int .i64 0]) = .returned (.tuple #[a, .int .i64 ((p + 1 + k : Nat) : Int), .int .i64 0]) := by
  rw [show (p : Int) + 1 + (k : Int) = ((p + 1 + k : Nat) : Int) by omega]
/-! The walks (made by wip/tools/mkrefint.py). -/
set_option maxRecDepth 100000 in
set_option maxHeartbeats 3200000 in
theorem refIntP (s : ByteArray) (p n : Nat) (w : World) (hp : p < s.size) (hb : s[p].toNat = 56 + n) (e8 : n ≤ 8) (hs : s.size ≤ 1125899906842624) :
    Calls Tryz.prog 95 #[.string s, .int .i64 p] w fun e w' => e = .returned (refA (rkV s (p + 1) s[p].toNat) p) ∧ Below w.heap.size w w' := by
  have HV : Hid (rkV s (p + 1) (s[p].toNat : Int) = ((2, ((magV s (p + 1) 0 n : Nat) : Int), ⟨#[]⟩), n, magE s (p + 1) 0 n)) := by
    show _ = _
    rw [rkV_int s (p + 1) (s[p].toNat : Int) (by omega) (by omega)]
    have hN : tagN (s[p].toNat : Int) = n := by unfold tagN; rw [if_pos (by omega)]; omega
    have hT : tagT (s[p].toNat : Int) = 0 := by unfold tagT; rw [if_pos (by omega)]
    have hW : tagV s (p + 1) (s[p].toNat : Int) = ((magV s (p + 1) 0 n : Nat) : Int) := by unfold tagV; rw [if_pos (by omega), hN]
    rw [hN, hT, hW]
  have HB : Hid (Below w.heap.size w (w2V w 0 0 ⟨#[]⟩)) := w2V_below w 0 0 ⟨#[]⟩
  have hnI : (s[p].toNat : Int) - 56 = (n : Int) := by omega
  have hlt : ¬ (s[p].toNat : Int) < 56 := by omega
  generalize hbb : s[p].toNat = b at *
  by_cases c1 : s.size < p + 1 + n
  · have c1' : (s.size : Int) - p - 1 < (n : Int) := by omega
    have HE : Hid (magE s (p + 1) 0 n = 11) := by show _ = _; unfold magE; rw [if_pos c1]
    clear hb c1
    go_enter Tryz.func95, Tryz.ntmps95
    go_wp2
    exact bodyPost_ret (ret_val3 rfl _ _ 0 0 ⟨#[]⟩ w.heap.size (by rfl) (w2V_res w 0 0 ⟨#[]⟩)) rfl ⟨by rw [refA_no (c := 11) (by rw [HV.out]; exact HE.out) (by decide)]; rfl, HB.out⟩
  have c1' : ¬ ((s.size : Int) - p - 1 < (n : Int)) := by omega
  by_cases c2 : n = 0
  case' neg =>
    have hin : p + 1 < s.size := by omega
    have hc := canon_first s (p + 1) 0 n (by omega) (by omega) e8 (by omega)
    have hx : bits .xor .u8 (s[p + 1].toNat : Int) 0 = ((s[p + 1].toNat ^^^ 0 : Nat) : Int) := xor_int s (p + 1) 0 hin (by omega)
    have c2' : (0 : Int) < (n : Int) := by omega
    generalize s[p + 1].toNat ^^^ 0 = y at *
    by_cases c3 : y = 0
    · have HE : Hid (magE s (p + 1) 0 n = 13) := by show _ = _; unfold magE; rw [if_neg c1, if_pos (hc.2 c3)]
      subst c3
      clear hc hb c1
      go_enter Tryz.func95, Tryz.ntmps95
      go_wp2
      exact bodyPost_ret (ret_val3 rfl _ _ 0 0 ⟨#[]⟩ w.heap.size (by rfl) (w2V_res w 0 0 ⟨#[]⟩)) rfl ⟨by rw [refA_no (c := 13) (by rw [HV.out]; exact HE.out) (by decide)]; rfl, HB.out⟩
    have c3' : ((y : Int) == 0) = false := by simp; omega
    have hcan : ¬ szB (magV s (p + 1) 0 n) < n := fun h => c3 (hc.1 h)
    clear hc c3
  case' pos =>
    have hcan : ¬ szB (magV s (p + 1) 0 n) < n := by omega
    have c2' : ¬ (0 : Int) < (n : Int) := by omega
  all_goals
    have HE : Hid (magE s (p + 1) 0 n = if 9223372036854775808 ≤ magV s (p + 1) 0 n then 10 else 0) := by show _ = _; unfold magE; rw [if_neg c1, if_neg hcan]
    have HI : Hid (p + 1 + n ≤ s.size) := by show _ ≤ _; omega
    clear hcan c1 hb c2
    go_enter Tryz.func95, Tryz.ntmps95
    go_wp2
    go_loop [11, 12] (fun u i => ∃ k : Nat, k ≤ n ∧ i = .int .i64 k ∧ u = .int .u64 (magV s (p + 1) 0 k : Nat)) (fun _ i => n - (intOf i).toNat)
    case atStart => exact ⟨0, by omega, rfl, rfl⟩
    case round =>
      obtain ⟨k, hk, rfl, rfl⟩ := hrel
      have hv := magV_lt s (p + 1) 0 (by omega) k
      by_cases h1 : k < n
      · try (exfalso; omega)
        all_goals
          have hkx : p + 1 + k < s.size := by have := HI.out; omega
          have HS : Hid (magV s (p + 1) 0 (k + 1) = magV s (p + 1) 0 k * 256 + (s[p + 1 + k].toNat ^^^ 0)) := magV_succ s (p + 1) 0 k hkx
          have hst := magV_step s (p + 1) 0 k (by omega) (by omega)
          have hx1 : bits .xor .u8 (s[p + 1 + k].toNat : Int) 0 = ((s[p + 1 + k].toNat ^^^ 0 : Nat) : Int) := xor_int s (p + 1 + k) 0 hkx (by omega)
          have hxb := turn_lt s[p + 1 + k].toNat 0 s[p + 1 + k].toNat_lt (by omega)
          generalize magV s (p + 1) 0 k = A at *
          generalize s[p + 1 + k].toNat ^^^ 0 = z at *
          have h1' : (k : Int) < (n : Int) := by omega
          clear hv
          go_wp2
          go_round
          case rel => exact ⟨k + 1, by omega, by go_num, by rw [HS.out]; go_num⟩
          case measure => simp [intOf]; omega
      · have e : k = n := by omega
        subst e
        have hz : magV s (p + 1) 0 k < 18446744073709551616 := by
          have h8 : (256 : Nat) ^ k ≤ 256 ^ 8 := Nat.pow_le_pow_right (by omega) e8
          have h88 : (256 : Nat) ^ 8 = 18446744073709551616 := by decide
          omega
        generalize magV s (p + 1) 0 k = A at *
        have h1' : ¬ (k : Int) < (k : Int) := by omega
        clear hv HI
        by_cases hr : 9223372036854775808 ≤ A
        · rw [if_pos hr] at HE
          have hr1 : (9223372036854775807 : Int) < (A : Int) := by omega
          go_wp2
          exact bodyPost_ret (ret_val3 rfl _ _ 0 0 ⟨#[]⟩ w.heap.size (by rfl) (w2V_res w 0 0 ⟨#[]⟩)) rfl ⟨by rw [refA_no (c := 10) (by rw [HV.out]; exact HE.out) (by decide)]; rfl, HB.out⟩
        · rw [if_neg hr] at HE
          have hr1 : ¬ (9223372036854775807 : Int) < (A : Int) := by omega
          have hr2 : IntKind.i64.wrap (A : Int) = (A : Int) := by rw [IntKind.wrap_i64]; omega
          clear hr
          go_wp2
          exact bodyPost_ret (ret_val3 rfl _ _ 2 ((A : Int)) ⟨#[]⟩ w.heap.size (by rfl) (w2V_res w 2 ((A : Int)) ⟨#[]⟩)) rfl ⟨by rw [refA_ok (by rw [HV.out, HE.out])]; exact tup_at, w2V_below w 2 ((A : Int)) ⟨#[]⟩⟩
set_option maxRecDepth 100000 in
set_option maxHeartbeats 3200000 in
theorem refIntN (s : ByteArray) (p n : Nat) (w : World) (hp : p < s.size) (hb : s[p].toNat + n = 55) (e8 : n ≤ 8) (hs : s.size ≤ 1125899906842624) :
    Calls Tryz.prog 95 #[.string s, .int .i64 p] w fun e w' => e = .returned (refA (rkV s (p + 1) s[p].toNat) p) ∧ Below w.heap.size w w' := by
  have HV : Hid (rkV s (p + 1) (s[p].toNat : Int) = ((2, -1 - ((magV s (p + 1) 255 n : Nat) : Int), ⟨#[]⟩), n, magE s (p + 1) 255 n)) := by
    show _ = _
    rw [rkV_int s (p + 1) (s[p].toNat : Int) (by omega) (by omega)]
    have hN : tagN (s[p].toNat : Int) = n := by unfold tagN; rw [if_neg (by omega)]; omega
    have hT : tagT (s[p].toNat : Int) = 255 := by unfold tagT; rw [if_neg (by omega)]
    have hW : tagV s (p + 1) (s[p].toNat : Int) = -1 - ((magV s (p + 1) 255 n : Nat) : Int) := by unfold tagV; rw [if_neg (by omega), hN]
    rw [hN, hT, hW]
  have HB : Hid (Below w.heap.size w (w2V w 0 0 ⟨#[]⟩)) := w2V_below w 0 0 ⟨#[]⟩
  have hnI : 55 - (s[p].toNat : Int) = (n : Int) := by omega
  have hlt : (s[p].toNat : Int) < 56 := by omega
  generalize hbb : s[p].toNat = b at *
  by_cases c1 : s.size < p + 1 + n
  · have c1' : (s.size : Int) - p - 1 < (n : Int) := by omega
    have HE : Hid (magE s (p + 1) 255 n = 11) := by show _ = _; unfold magE; rw [if_pos c1]
    clear hb c1
    go_enter Tryz.func95, Tryz.ntmps95
    go_wp2
    exact bodyPost_ret (ret_val3 rfl _ _ 0 0 ⟨#[]⟩ w.heap.size (by rfl) (w2V_res w 0 0 ⟨#[]⟩)) rfl ⟨by rw [refA_no (c := 11) (by rw [HV.out]; exact HE.out) (by decide)]; rfl, HB.out⟩
  have c1' : ¬ ((s.size : Int) - p - 1 < (n : Int)) := by omega
  by_cases c2 : n = 0
  case' neg =>
    have hin : p + 1 < s.size := by omega
    have hc := canon_first s (p + 1) 255 n (by omega) (by omega) e8 (by omega)
    have hx : bits .xor .u8 (s[p + 1].toNat : Int) 255 = ((s[p + 1].toNat ^^^ 255 : Nat) : Int) := xor_int s (p + 1) 255 hin (by omega)
    have c2' : (0 : Int) < (n : Int) := by omega
    generalize s[p + 1].toNat ^^^ 255 = y at *
    by_cases c3 : y = 0
    · have HE : Hid (magE s (p + 1) 255 n = 13) := by show _ = _; unfold magE; rw [if_neg c1, if_pos (hc.2 c3)]
      subst c3
      clear hc hb c1
      go_enter Tryz.func95, Tryz.ntmps95
      go_wp2
      exact bodyPost_ret (ret_val3 rfl _ _ 0 0 ⟨#[]⟩ w.heap.size (by rfl) (w2V_res w 0 0 ⟨#[]⟩)) rfl ⟨by rw [refA_no (c := 13) (by rw [HV.out]; exact HE.out) (by decide)]; rfl, HB.out⟩
    have c3' : ((y : Int) == 0) = false := by simp; omega
    have hcan : ¬ szB (magV s (p + 1) 255 n) < n := fun h => c3 (hc.1 h)
    clear hc c3
  case' pos =>
    have hcan : ¬ szB (magV s (p + 1) 255 n) < n := by omega
    have c2' : ¬ (0 : Int) < (n : Int) := by omega
  all_goals
    have HE : Hid (magE s (p + 1) 255 n = if 9223372036854775808 ≤ magV s (p + 1) 255 n then 10 else 0) := by show _ = _; unfold magE; rw [if_neg c1, if_neg hcan]
    have HI : Hid (p + 1 + n ≤ s.size) := by show _ ≤ _; omega
    clear hcan c1 hb c2
    go_enter Tryz.func95, Tryz.ntmps95
    go_wp2
    go_loop [11, 12] (fun u i => ∃ k : Nat, k ≤ n ∧ i = .int .i64 k ∧ u = .int .u64 (magV s (p + 1) 255 k : Nat)) (fun _ i => n - (intOf i).toNat)
    case atStart => exact ⟨0, by omega, rfl, rfl⟩
    case round =>
      obtain ⟨k, hk, rfl, rfl⟩ := hrel
      have hv := magV_lt s (p + 1) 255 (by omega) k
      by_cases h1 : k < n
      · try (exfalso; omega)
        all_goals
          have hkx : p + 1 + k < s.size := by have := HI.out; omega
          have HS : Hid (magV s (p + 1) 255 (k + 1) = magV s (p + 1) 255 k * 256 + (s[p + 1 + k].toNat ^^^ 255)) := magV_succ s (p + 1) 255 k hkx
          have hst := magV_step s (p + 1) 255 k (by omega) (by omega)
          have hx1 : bits .xor .u8 (s[p + 1 + k].toNat : Int) 255 = ((s[p + 1 + k].toNat ^^^ 255 : Nat) : Int) := xor_int s (p + 1 + k) 255 hkx (by omega)
          have hxb := turn_lt s[p + 1 + k].toNat 255 s[p + 1 + k].toNat_lt (by omega)
          generalize magV s (p + 1) 255 k = A at *
          generalize s[p + 1 + k].toNat ^^^ 255 = z at *
          have h1' : (k : Int) < (n : Int) := by omega
          clear hv
          go_wp2
          go_round
          case rel => exact ⟨k + 1, by omega, by go_num, by rw [HS.out]; go_num⟩
          case measure => simp [intOf]; omega
      · have e : k = n := by omega
        subst e
        have hz : magV s (p + 1) 255 k < 18446744073709551616 := by
          have h8 : (256 : Nat) ^ k ≤ 256 ^ 8 := Nat.pow_le_pow_right (by omega) e8
          have h88 : (256 : Nat) ^ 8 = 18446744073709551616 := by decide
          omega
        generalize magV s (p + 1) 255 k = A at *
        have h1' : ¬ (k : Int) < (k : Int) := by omega
        clear hv HI
        by_cases hr : 9223372036854775808 ≤ A
        · rw [if_pos hr] at HE
          have hr1 : (9223372036854775807 : Int) < (A : Int) := by omega
          go_wp2
          exact bodyPost_ret (ret_val3 rfl _ _ 0 0 ⟨#[]⟩ w.heap.size (by rfl) (w2V_res w 0 0 ⟨#[]⟩)) rfl ⟨by rw [refA_no (c := 10) (by rw [HV.out]; exact HE.out) (by decide)]; rfl, HB.out⟩
        · rw [if_neg hr] at HE
          have hr1 : ¬ (9223372036854775807 : Int) < (A : Int) := by omega
          have hr2 : IntKind.i64.wrap (A : Int) = (A : Int) := by rw [IntKind.wrap_i64]; omega
          clear hr
          go_wp2
          exact bodyPost_ret (ret_val3 rfl _ _ 2 (-1 - (A : Int)) ⟨#[]⟩ w.heap.size (by rfl) (w2V_res w 2 (-1 - (A : Int)) ⟨#[]⟩)) rfl ⟨by rw [refA_ok (by rw [HV.out, HE.out])]; exact tup_at, w2V_below w 2 (-1 - (A : Int)) ⟨#[]⟩⟩
end Go.Proofs.YtjcffcpmegpjeaaGreatDoor

namespace Go.Proofs.YtjcffcpmegpjeaaGreatDoor
open Go.ChangeShapes Go.WideShapes Go.ChangeAt Go.RowKit
set_option linter.unusedVariables false

theorem rkV_text (s : ByteArray) (p : Nat) : rkV s p 80 = ((3, 0, strOfNums (rtV s p).1), (rtV s p).2.1, (rtV s p).2.2) := by
  unfold rkV
  rw [if_neg (by omega), if_neg (by omega), if_neg (by omega), if_pos rfl]
theorem w2V_size (w : World) (k i : Int) (t : ByteArray) : (w2V w k i t).heap.size = w.heap.size + 2 := by
  show ((w.heap.push _).push _).size = _; simp
theorem w2V_var (w : World) (k i : Int) (t : ByteArray) : (w2V w k i t).heap[w.heap.size + 1]? = some (.cells #[.int .i64 k, .int .i64 i, .string t] 59 (0, 0)) := by
  show ((w.heap.push _).push _)[w.heap.size + 1]? = _
  rw [Array.getElem?_push, if_pos (by simp)]
theorem refA_txt {s : ByteArray} {p n : Nat} {acc : List Int} (h : rtV s (p + 1) = (acc, n, 0)) : refA (rkV s (p + 1) 80) p = .tuple #[vA 3 0 (strOfNums acc), .int .i64 ((p + 1 + n : Nat) : Int), .int .i64 0] := by
  rw [refA_ok (a := 3) (i := 0) (t := strOfNums acc) (m := n) (by rw [rkV_text, h])]
theorem refA_bad {s : ByteArray} {p : Nat} {c : Int} (h : rtV s (p + 1) = ([], 0, c)) (hc : c ≠ 0) : refA (rkV s (p + 1) 80) p = .tuple #[vA 0 0 ⟨#[]⟩, .int .i64 (p : Int), .int .i64 c] :=
  refA_no (by rw [rkV_text, h]) hc
theorem tup_txt {a : Value} {p n : Nat} : Ending.returned (.tuple #[a, .int .i64 (((p + 1 + n : Nat) : Int) + 2), .int .i64 0]) = .returned (.tuple #[a, .int .i64 ((p + 1 + (n + 2) : Nat) : Int), .int .i64 0]) := by
  rw [show ((p + 1 + n : Nat) : Int) + 2 = ((p + 1 + (n + 2) : Nat) : Int) by omega]
set_option maxRecDepth 100000 in
set_option maxHeartbeats 3200000 in
theorem refEsc (s : ByteArray) (p : Nat) (w : World) (hp : p < s.size) (hs : s.size ≤ 1125899906842624) :
    Calls Tryz.prog 96 #[.string s, .int .i64 p] w fun e w' => e = .returned (refA (rkV s (p + 1) 80) p) ∧ Below w.heap.size w w' := by
  go_enter Tryz.func96, Tryz.ntmps96
  go_wp2_with fail
  have hW2 : Hid (Below w.heap.size w (w2V w 0 0 ⟨#[]⟩)) := w2V_below w 0 0 ⟨#[]⟩
  have hWs := w2V_size w 0 0 ⟨#[]⟩
  have hG0 : Hid _ := w2V_res w 0 0 ⟨#[]⟩
  have hG1 : Hid _ := w2V_var w 0 0 ⟨#[]⟩
  show Code.wp _ _ _ _ (w2V w 0 0 ⟨#[]⟩)
  generalize w2V w 0 0 ⟨#[]⟩ = W at *
  go_loopw [8, 9] (fun c i wr => ∃ (n f : Nat) (acc : List Int), i = .int .i64 ((p + 1 + n : Nat) : Int) ∧ p + 1 + n ≤ s.size ∧ s.size < p + 1 + n + f ∧ acc.length ≤ 4096 ∧ ownB wr W.heap.size c acc ∧ Below W.heap.size W wr ∧ rtV s (p + 1) = rtF s (p + 1) f n acc) (fun _ i _ => s.size + 1 - (intOf i).toNat)
  case atStart => exact ⟨0, s.size + 1, [], rfl, by omega, by omega, by simp, ownB_nil _ _, Below.refl _ _, rfl⟩
  case round =>
    obtain ⟨n, f, acc, rfl, hn, hf, ha, hown, hbel, hv⟩ := hrel
    obtain ⟨f, rfl⟩ : ∃ f', f = f' + 1 := ⟨f - 1, by omega⟩
    have HV : Hid (rtV s (p + 1) = rtF s (p + 1) (f + 1) n acc) := hv
    have HO : Hid (ownB wr W.heap.size _ acc) := hown
    have HB : Hid (Below W.heap.size W wr) := hbel
    have HX : Hid (∀ x y z, Below w.heap.size w (((wr.setCell ⟨w.heap.size, 0, none⟩ x).setCell ⟨w.heap.size, 1, none⟩ y).setCell ⟨w.heap.size, 2, none⟩ z)) := fun x y z => (((hW2.out.trans (hbel.mono (by omega))).setCell (p := ⟨w.heap.size, 0, none⟩) (Nat.le_refl _) _).setCell (p := ⟨w.heap.size, 1, none⟩) (Nat.le_refl _) _).setCell (p := ⟨w.heap.size, 2, none⟩) (Nat.le_refl _) _
    obtain ⟨HG0, c0, c1, c2, f0, f1, f2⟩ := zcells hG0.out hbel
    obtain ⟨HG1, d0, d1, d2, g0, g1, g2⟩ := zcells hG1.out hbel
    clear hv hown hbel hG0 hG1
    by_cases hl : p + 1 + n < s.size
    · have hl' : ((p + 1 + n : Nat) : Int) < (s.size : Int) := by omega
      by_cases h0 : s[p + 1 + n].toNat = 0
      · have h0i : ((s[p + 1 + n].toNat : Nat) : Int) = 0 := by omega
        by_cases h2 : p + 1 + n + 1 < s.size
        · have h2' : (((p + 1 + n : Nat) : Int) + 1 == (s.size : Int)) = false := by simp; omega
          by_cases h3 : s[p + 1 + n + 1].toNat = 1
          · have HE : Hid (rtV s (p + 1) = (acc, n + 2, 0)) := HV.out.trans (rtF_end s (p + 1) f n acc hl h0 (by unfold etE; rw [dif_pos h2, if_pos (.inl h3)]) (by unfold etV; rw [dif_pos h2, h3]; rfl))
            have h3i : ((s[p + 1 + n + 1].toNat : Nat) : Int) = 1 := by omega
            have hcv := (HO.out.same (w' := wr.setCell ⟨w.heap.size + 1, 0, none⟩ (.int .i64 3)) fun k hk hb => Below.heap_setCell _ _ _ _ (by show k ≠ w.heap.size + 1; omega)).conv
            have hne : w.heap.size ≠ w.heap.size + 1 := by omega
            have HN : Hid _ := hne
            clear HV h0 h3
            go_wp2
            refine bodyPost_ret (ret_val3 rfl _ _ 3 0 (strOfNums acc) w.heap.size (by rfl) (set3 ((Below.heap_setCell _ _ _ _ HN.out).trans ((Below.heap_setCell _ _ _ _ HN.out).trans HG0.out)))) rfl ⟨?_, ?_⟩
            · rw [refA_txt HE.out]; exact tup_txt
            · exact (((((hW2.out.trans (HB.out.mono (by omega))).setCell (p := ⟨w.heap.size + 1, 0, none⟩) (Nat.le_succ _) _).setCell (p := ⟨w.heap.size + 1, 2, none⟩) (Nat.le_succ _) _).setCell (p := ⟨w.heap.size, 0, none⟩) (Nat.le_refl _) _).setCell (p := ⟨w.heap.size, 1, none⟩) (Nat.le_refl _) _).setCell (p := ⟨w.heap.size, 2, none⟩) (Nat.le_refl _) _
          · have h3i : (((s[p + 1 + n + 1].toNat : Nat) : Int) == 1) = false := by simp; omega
            by_cases h4 : s[p + 1 + n + 1].toNat = 255
            · have HVb : Hid (rtV s (p + 1) = if acc.length = 4096 then ([], 0, 4) else rtF s (p + 1) f (n + 2) (acc ++ [0])) := HV.out.trans (rtF_zero s (p + 1) f n acc hl h0 (by unfold etE; rw [dif_pos h2, if_pos (.inr h4)]) (by unfold etV; rw [dif_pos h2, h4]; rfl))
              have h4i : (((s[p + 1 + n + 1].toNat : Nat) : Int) != 255) = false := by simp; omega
              have hL := HO.out.len
              clear HV h0 h3 h4
              by_cases hm : acc.length = 4096
              · rw [if_pos hm] at HVb
                rw [hm] at hL
                go_wp2
                exact bodyPost_ret (ret_val3 rfl _ _ 0 0 ⟨#[]⟩ w.heap.size (by rfl) (set3 HG0.out)) rfl ⟨by rw [refA_bad HVb.out (by decide)]; rfl, HX.out _ _ _⟩
              · rw [if_neg hm] at HVb
                have t4 : (((acc.length : Nat) : Int) == 4096) = false := by simp; omega
                have hBr : W.heap.size ≤ wr.heap.size := HB.out.size
                go_wp2_with (at_builtin; refine app_oneL (by rfl) _ _ (by rfl) W.heap.size _ acc _ HO.out (by rfl) _ (by rfl) (by rfl) (by omega) hBr ?_; intro v' w3 hown3 hbel3 _; have HO3 : Hid (ownB w3 W.heap.size v' (acc ++ [0])) := hown3; have HB3 : Hid (Below W.heap.size W w3) := HB.out.trans hbel3; clear hown3 hbel3)
                go_roundw
                case rel => exact ⟨n + 2, f, acc ++ [0], by go_num, by omega, by omega, by rw [List.length_append, List.length_singleton]; omega, HO3.out, HB3.out, HVb.out⟩
                case measure => simp [intOf]; omega
            · have HE : Hid (rtV s (p + 1) = ([], 0, 15)) := by
                show _ = _
                have he : etE s (p + 1 + n + 1) = 15 := by unfold etE; rw [dif_pos h2, if_neg (by omega)]
                rw [HV.out, rtF_err s (p + 1) f n acc hl h0 (by rw [he]; decide), he]
              have h4i : (((s[p + 1 + n + 1].toNat : Nat) : Int) != 255) = true := by simp; omega
              clear HV HO h0 h3 h4
              go_wp2
              exact bodyPost_ret (ret_val3 rfl _ _ 0 0 ⟨#[]⟩ w.heap.size (by rfl) (set3 HG0.out)) rfl ⟨by rw [refA_bad HE.out (by decide)]; rfl, HX.out _ _ _⟩
        · have HE : Hid (rtV s (p + 1) = ([], 0, 11)) := by
            show _ = _
            have he : etE s (p + 1 + n + 1) = 11 := by unfold etE; rw [dif_neg h2]
            rw [HV.out, rtF_err s (p + 1) f n acc hl h0 (by rw [he]; decide), he]
          have h2' : (((p + 1 + n : Nat) : Int) + 1 == (s.size : Int)) = true := by simp; omega
          clear HV HO h0 h2
          go_wp2
          exact bodyPost_ret (ret_val3 rfl _ _ 0 0 ⟨#[]⟩ w.heap.size (by rfl) (set3 HG0.out)) rfl ⟨by rw [refA_bad HE.out (by decide)]; rfl, HX.out _ _ _⟩
      · have HVb : Hid (rtV s (p + 1) = if acc.length = 4096 then ([], 0, 4) else rtF s (p + 1) f (n + 1) (acc ++ [(s[p + 1 + n].toNat : Int)])) := HV.out.trans (rtF_byte s (p + 1) f n acc hl h0)
        have t0 : (((s[p + 1 + n].toNat : Nat) : Int) == 0) = false := by simp; omega
        have hL := HO.out.len
        clear HV h0
        by_cases hm : acc.length = 4096
        · rw [if_pos hm] at HVb
          rw [hm] at hL
          go_wp2
          exact bodyPost_ret (ret_val3 rfl _ _ 0 0 ⟨#[]⟩ w.heap.size (by rfl) (set3 HG0.out)) rfl ⟨by rw [refA_bad HVb.out (by decide)]; rfl, HX.out _ _ _⟩
        · rw [if_neg hm] at HVb
          have t4 : (((acc.length : Nat) : Int) == 4096) = false := by simp; omega
          have hBr : W.heap.size ≤ wr.heap.size := HB.out.size
          go_wp2_with (at_builtin; refine app_oneL (by rfl) _ _ (by rfl) W.heap.size _ acc _ HO.out (by rfl) _ (by rfl) (by rfl) (by omega) hBr ?_; intro v' w3 hown3 hbel3 _; have HO3 : Hid (ownB w3 W.heap.size v' (acc ++ [(s[p + 1 + n].toNat : Int)])) := hown3; have HB3 : Hid (Below W.heap.size W w3) := HB.out.trans hbel3; clear hown3 hbel3)
          go_roundw
          case rel => exact ⟨n + 1, f, acc ++ [(s[p + 1 + n].toNat : Int)], by go_num, by omega, by omega, by rw [List.length_append, List.length_singleton]; omega, HO3.out, HB3.out, HVb.out⟩
          case measure => simp [intOf]; omega
    · have HE : Hid (rtV s (p + 1) = ([], 0, 11)) := HV.out.trans (rtF_short s (p + 1) f n acc hl)
      have hl' : ¬ ((p + 1 + n : Nat) : Int) < (s.size : Int) := by omega
      clear HV HO hl
      go_wp2
      exact bodyPost_ret (ret_val3 rfl _ _ 0 0 ⟨#[]⟩ w.heap.size (by rfl) (set3 HG0.out)) rfl ⟨by rw [refA_bad HE.out (by decide)]; rfl, HX.out _ _ _⟩
end Go.Proofs.YtjcffcpmegpjeaaGreatDoor

namespace Go.Proofs.YtjcffcpmegpjeaaGreatDoor
open Go.ChangeShapes Go.WideShapes Go.ChangeAt Go.RowKit
set_option linter.unusedVariables false

theorem refInt (s : ByteArray) (p : Nat) (w : World) (hp : p < s.size) (h1 : 47 ≤ s[p].toNat) (h2 : s[p].toNat ≤ 64) (hs : s.size ≤ 1125899906842624) :
    Calls Tryz.prog 95 #[.string s, .int .i64 p] w fun e w' => e = .returned (refA (rkV s (p + 1) s[p].toNat) p) ∧ Below w.heap.size w w' := by
  by_cases hb : 56 ≤ s[p].toNat
  · exact refIntP s p (s[p].toNat - 56) w hp (by omega) (by omega) hs
  · exact refIntN s p (55 - s[p].toNat) w hp (by omega) (by omega) hs
theorem refA_two (r : (Int × Int × ByteArray) × Nat × Int) (p : Nat) : ∃ k i t m c, refA r p = .tuple #[vA k i t, .int .i64 m, .int .i64 c] := by
  unfold refA
  split
  · exact ⟨_, _, _, _, _, rfl⟩
  · exact ⟨_, _, _, _, _, rfl⟩
set_option maxRecDepth 100000 in
set_option maxHeartbeats 3200000 in
theorem refOne (s : ByteArray) (p : Nat) (w : World) (hp : p < s.size) (hs : s.size ≤ 1125899906842624) :
    Calls Tryz.prog 68 #[.string s, .int .i64 p] w fun e w' => e = .returned (refA (rkV s (p + 1) s[p].toNat) p) ∧ Below w.heap.size w w' := by
  have HI : Hid (47 ≤ s[p].toNat → s[p].toNat ≤ 64 → ∀ W, _) := fun h1 h2 W => refInt s p W hp h1 h2 hs
  have HT : Hid (s[p].toNat = 80 → ∀ W, Calls Tryz.prog 96 #[.string s, .int .i64 p] W fun e w' => e = .returned (refA (rkV s (p + 1) s[p].toNat) p) ∧ Below W.heap.size W w') := fun h W => by
    rw [h]; exact refEsc s p W hp hs
  have hlt := s[p].toNat_lt
  have HR : Hid (∀ b : Nat, s[p].toNat = b → refA (rkV s (p + 1) b) p = refA (rkV s (p + 1) s[p].toNat) p) := fun b hb => by rw [hb]
  generalize hbb : s[p].toNat = b at *
  by_cases a1 : b = 16
  · have HA : Hid (refA (rkV s (p + 1) (b : Nat)) p = .tuple #[vA 0 0 ⟨#[]⟩, .int .i64 ((p + 1 + 0 : Nat) : Int), .int .i64 0]) := refA_ok (by unfold rkV; rw [if_pos (by omega)])
    have a1' : (b : Int) = 16 := by omega
    clear HI HT HR a1
    go_enter Tryz.func68, Tryz.ntmps68
    go_wp2
    exact bodyPost_ret (ret_val3 rfl _ _ 0 0 ⟨#[]⟩ w.heap.size (by rfl) (w2V_res w 0 0 ⟨#[]⟩)) rfl ⟨by rw [HA.out]; rfl, w2V_below w 0 0 ⟨#[]⟩⟩
  have a1' : ((b : Int) == 16) = false := by simp; omega
  by_cases a2 : b = 32 ∨ b = 33
  · have HA : Hid (refA (rkV s (p + 1) (b : Nat)) p = .tuple #[vA 1 ((b : Int) - 32) ⟨#[]⟩, .int .i64 ((p + 1 + 0 : Nat) : Int), .int .i64 0]) := refA_ok (by unfold rkV; rw [if_neg (by omega), if_pos (by omega)])
    have a2' : (b : Int) = 32 ∨ (b : Int) = 33 := by omega
    clear HI HT HR a2
    go_enter Tryz.func68, Tryz.ntmps68
    rcases a2' with a2' | a2'
    all_goals
      rw [a2'] at HA
      go_wp2
      exact bodyPost_ret (ret_val3 rfl _ _ 1 _ ⟨#[]⟩ w.heap.size (by rfl) (w2V_res w 1 _ ⟨#[]⟩)) rfl ⟨by rw [a2', HA.out]; rfl, w2V_below w 1 _ ⟨#[]⟩⟩
  have a2' : ((b : Int) == 32) = false := by simp; omega
  have a2'' : ((b : Int) == 33) = false := by simp; omega
  by_cases a3 : 47 ≤ b ∧ b ≤ 64
  case' pos =>
    have CA : Hid _ := HI.out a3.1 a3.2
    have a3' : (47 : Int) ≤ (b : Int) := by omega
    have a3'' : (b : Int) ≤ 64 := by omega
    clear HI HT a2 a1
    go_enter Tryz.func68, Tryz.ntmps68
    go_wp2_with fail
  case' neg =>
    by_cases a4 : b = 80
    case' neg =>
      have HA : Hid (refA (rkV s (p + 1) (b : Nat)) p = .tuple #[vA 0 0 ⟨#[]⟩, .int .i64 (p : Int), .int .i64 14]) := refA_no (by unfold rkV; rw [if_neg (by omega), if_neg (by omega), if_neg (by omega), if_neg (by omega)]) (by decide)
      have a4' : ((b : Int) == 80) = false := by simp; omega
      clear HI HT HR a1 a2
      go_enter Tryz.func68, Tryz.ntmps68
      rcases (show 64 < b ∨ b < 47 by omega) with a6 | a6
      case' inl =>
        have a5 : (47 : Int) ≤ (b : Int) := by omega
        have a7 : ¬ (b : Int) ≤ 64 := by omega
      case' inr =>
        have a5 : ¬ (47 : Int) ≤ (b : Int) := by omega
      all_goals
        clear a3 a4 a6
        go_wp2
        exact bodyPost_ret (ret_val3 rfl _ _ 0 0 ⟨#[]⟩ w.heap.size (by rfl) (w2V_res w 0 0 ⟨#[]⟩)) rfl ⟨by rw [HA.out]; rfl, w2V_below w 0 0 ⟨#[]⟩⟩
    case' pos =>
      have CA : Hid _ := HT.out a4
      have a4' : (b : Int) = 80 := by omega
      clear HI HT a1 a2 a3 a4
      go_enter Tryz.func68, Tryz.ntmps68
      go_wp2_with fail
  all_goals
    refine (CA.out _).mono ?_
    rintro e w1 ⟨rfl, hb1⟩
    obtain ⟨HG0, c0, c1, c2, f0, f1, f2⟩ := zcells (w2V_res w 0 0 ⟨#[]⟩) hb1
    have HB1 : Hid (Below w.heap.size w w1) := (w2V_below w 0 0 ⟨#[]⟩).trans (hb1.mono (w2V_below w 0 0 ⟨#[]⟩).size)
    obtain ⟨k, i, t, m, c, hA⟩ := refA_two (rkV s (p + 1) (b : Nat)) p
    have HA : Hid (refA (rkV s (p + 1) (b : Nat)) p = _) := hA
    rw [hA]
    clear hA hb1 CA HR
    unfold vA
    go_wp2
    exact bodyPost_ret (ret_val3 rfl _ _ k i t w.heap.size (by rfl) (set3 HG0.out)) rfl ⟨by first | (rw [HA.out]; rfl) | (rw [← a4', HA.out]; rfl), ((HB1.out.setCell (p := ⟨w.heap.size, 0, none⟩) (Nat.le_refl _) _).setCell (p := ⟨w.heap.size, 1, none⟩) (Nat.le_refl _) _).setCell (p := ⟨w.heap.size, 2, none⟩) (Nat.le_refl _) _⟩
theorem refA_yes {r : (Int × Int × ByteArray) × Nat × Int} {p : Nat} (h : r.2.2 = 0) : refA r p = .tuple #[.agg #[.int .i64 r.1.1, .int .i64 r.1.2.1, .string r.1.2.2], .int .i64 ((p + 1 + r.2.1 : Nat) : Int), .int .i64 0] := by
  unfold refA; rw [if_pos h]; rfl
theorem refA_not {r : (Int × Int × ByteArray) × Nat × Int} {p : Nat} (h : r.2.2 ≠ 0) : refA r p = .tuple #[.agg #[.int .i64 0, .int .i64 0, .string ⟨#[]⟩], .int .i64 (p : Int), .int .i64 r.2.2] := by
  unfold refA; rw [if_neg h]; rfl
/-- What the reference's reader of a list answers. -/
def refL (w : World) (r : List (Int × Int × ByteArray) × Nat × Int) (e : Ending) (w' : World) : Prop :=
  ((r.2.2 = 0 → ∃ v, e = .returned (.tuple #[v, .int .i64 0]) ∧ ownV w' w.heap.size v r.1) ∧ (r.2.2 ≠ 0 → e = .returned (.tuple #[.slice none 0 0, .int .i64 r.2.2]))) ∧ Below w.heap.size w w'
theorem refL_no {w w' : World} {r : List (Int × Int × ByteArray) × Nat × Int} {c : Int} (h : r = ([], 0, c)) (hc : c ≠ 0) (hb : Below w.heap.size w w') : refL w r (.returned (.tuple #[.slice none 0 0, .int .i64 c])) w' := by
  rw [h]; exact ⟨⟨fun e => absurd e hc, fun _ => rfl⟩, hb⟩
theorem refL_yes {w w' : World} {r : List (Int × Int × ByteArray) × Nat × Int} {vs : List (Int × Int × ByteArray)} {n : Nat} {v : Value} (h : r = (vs, n, 0)) (ho : ownV w' w.heap.size v vs) (hb : Below w.heap.size w w') : refL w r (.returned (.tuple #[v, .int .i64 0])) w' := by
  rw [h]; exact ⟨⟨fun _ => ⟨v, rfl, ho⟩, fun e => absurd rfl e⟩, hb⟩
theorem app_valG {wr : World} {ops : Array Oper} {rest : List Oper} {o : Oper} {a : Act} {Q : Exit → Act → World → Prop} (hgd : o.guard = none) (s x : Operand)
    (ho : o.op = .call { callee := .builtin .append, args := #[s, x], argTypes := #[26, 26] })
    (B : Nat) (v : Value) (vs : List (Int × Int × ByteArray)) (c : Int × Int × ByteArray) (hown : ownV wr B v vs) (hs : a.eval s = v) (g : Nat) (hg : g = wr.heap.size) (hx : a.eval x = .slice (some ⟨g, 0, none⟩) 1 1)
    (hlen : (vs.length + 1) * 32 ≤ 140737488355328) (hB : B ≤ wr.heap.size)
    (h : ∀ v' w', ownV w' B v' (vs ++ [c]) → Below B wr w' → wpList Tryz.prog ops Q rest (a.put o.dst v') w') :
    wpList Tryz.prog ops Q (o :: rest) a (wr.alloc (.cells #[.int .i64 c.1, .int .i64 c.2.1, .string c.2.2] 59)) := by
  subst hg
  exact app_val hgd s x ho B v vs c hown hs hx hlen hB h
set_option maxRecDepth 100000 in
set_option maxHeartbeats 3200000 in
theorem refKey (s : ByteArray) (w : World) (hs : s.size ≤ 1125899906842624) : Calls Tryz.prog 34 #[.string s] w (refL w (rkL s 0)) := by
  go_enter Tryz.func34, Tryz.ntmps34
  go_wp2_with fail
  go_loopw [4, 5] (fun c i wr => ∃ (n f : Nat) (acc : List (Int × Int × ByteArray)), i = .int .i64 (n : Int) ∧ n ≤ s.size ∧ s.size < n + f ∧ acc.length ≤ 16 ∧ ownV wr w.heap.size c acc ∧ Below w.heap.size w wr ∧ rkL s 0 = rkF s 0 f n acc) (fun _ i _ => s.size + 1 - (intOf i).toNat)
  case atStart => exact ⟨0, s.size + 1, [], rfl, by omega, by omega, by simp, ownV_nil _ _, Below.refl _ _, rfl⟩
  case round =>
    obtain ⟨n, f, acc, rfl, hn, hf, ha, hown, hbel, hv⟩ := hrel
    obtain ⟨f, rfl⟩ : ∃ f', f = f' + 1 := ⟨f - 1, by omega⟩
    have HV : Hid (rkL s 0 = rkF s 0 (f + 1) n acc) := hv
    have HO : Hid (ownV wr w.heap.size _ acc) := hown
    have HB : Hid (Below w.heap.size w wr) := hbel
    have hL := hown.len
    clear hv hown hbel
    by_cases hl : n < s.size
    · by_cases hm : acc.length = 16
      · have HE : Hid (rkL s 0 = ([], 0, 18)) := HV.out.trans (rkF_many s 0 f n acc (by omega) hm)
        rw [hm] at hL
        clear HV HO
        go_wp2
        go_ret2
        exact refL_no HE.out (by decide) HB.out
      · have hz : 0 + n = n := Nat.zero_add n
        have HS : Hid (rkL s 0 = if (rkV s (n + 1) s[n].toNat).2.2 = 0 then rkF s 0 f (n + 1 + (rkV s (n + 1) s[n].toNat).2.1) (acc ++ [(rkV s (n + 1) s[n].toNat).1]) else ([], 0, (rkV s (n + 1) s[n].toNat).2.2)) := by
          have := HV.out.trans (rkF_step s 0 f n acc (by omega) hm)
          simp only [hz] at this
          exact this
        have t4 : (((acc.length : Nat) : Int) == 16) = false := by simp; omega
        have hin := rkV_in s (n + 1) (s[n].toNat : Int) (by omega)
        clear HV hz
        go_wp2_with fail
        refine (refOne s n wr hl hs).mono ?_
        rintro e w1 ⟨rfl, hb1⟩
        generalize rkV s (n + 1) (s[n].toNat : Int) = r at *
        have HO1 : Hid (ownV w1 w.heap.size _ acc) := HO.out.same (fun k hk _ => hb1.block k hk)
        have HB1 : Hid (Below w.heap.size w w1) := HB.out.trans (hb1.mono HB.out.size)
        clear hb1 HO HB hL
        by_cases hc : r.2.2 = 0
        · rw [refA_yes hc]
          have hin2 := hin hc
          rw [if_pos hc] at HS
          obtain ⟨⟨k, i, t⟩, m, c⟩ := r
          simp only at hin2 HS hc ⊢
          clear hin hc
          have HO2 : Hid (∀ o, ownV (w1.alloc o) w.heap.size _ acc) := fun o => HO1.out.same (fun k hk _ => Below.heap_alloc w1 o k hk)
          have HB2 : Hid (∀ o, Below w.heap.size w (w1.alloc o)) := fun o => HB1.out.alloc HB1.out.size o
          go_wp2_with (at_builtin; refine app_valG (by rfl) _ _ (by rfl) w.heap.size _ acc (k, i, t) (HO2.out _) (by rfl) (w1.heap.size + 1) (by simp) (by rfl) (by omega) (HB2.out _).size ?_; intro v' w6 hown6 hbel6; have HO6 : Hid (ownV w6 w.heap.size v' (acc ++ [(k, i, t)])) := hown6; have HB6 : Hid (Below w.heap.size w w6) := (HB2.out _).trans hbel6; clear hown6 hbel6)
          go_roundw
          case rel => exact ⟨n + 1 + m, f, acc ++ [(k, i, t)], rfl, by omega, by omega, by rw [List.length_append, List.length_singleton]; omega, HO6.out, HB6.out, HS.out⟩
          case measure => simp [intOf]; omega
        · rw [refA_not hc]
          rw [if_neg hc] at HS
          generalize r.2.2 = c at *
          have hc' : (c != 0) = true := by simpa using hc
          have HC : Hid (c ≠ 0) := hc
          clear hin hc HO1
          go_wp2
          go_ret2
          exact refL_no HS.out HC.out (HB1.out.alloc HB1.out.size _)
    · have HE : Hid (rkL s 0 = (acc, n, 0)) := HV.out.trans (rkF_end s 0 f n acc (by omega))
      clear HV hL
      go_wp2
      go_ret2
      exact refL_yes HE.out HO.out HB.out
end Go.Proofs.YtjcffcpmegpjeaaGreatDoor

namespace Go.Proofs.YtjcffcpmegpjeaaGreatDoor
open Go.ChangeShapes Go.WideShapes Go.ChangeAt Go.RowKit
set_option linter.unusedVariables false

/-- What the reference's reader of a column answers, of what was read from the byte p on. -/
def refR (r : (Int × Int × ByteArray) × Nat × Int) (p : Nat) : Value :=
  if r.2.2 = 0 then .tuple #[.agg #[.int .i64 r.1.1, .int .i64 r.1.2.1, .string r.1.2.2], .int .i64 ((p + r.2.1 : Nat) : Int), .int .i64 0] else .tuple #[.agg #[.int .i64 0, .int .i64 0, .string ⟨#[]⟩], .int .i64 (p : Int), .int .i64 r.2.2]
theorem refR_ok {r : (Int × Int × ByteArray) × Nat × Int} {p m : Nat} {a i : Int} {t : ByteArray} (h : r = ((a, i, t), m, 0)) : refR r p = .tuple #[vA a i t, .int .i64 ((p + m : Nat) : Int), .int .i64 0] := by
  rw [h]; unfold refR; rw [if_pos rfl]; rfl
theorem refR_no {r : (Int × Int × ByteArray) × Nat × Int} {p : Nat} {c : Int} (h : r.2.2 = c) (hc : c ≠ 0) : refR r p = .tuple #[vA 0 0 ⟨#[]⟩, .int .i64 (p : Int), .int .i64 c] := by
  unfold refR; rw [if_neg (by rw [h]; exact hc), h]; rfl
theorem rS_in (s : ByteArray) (p : Nat) (hp : p ≤ s.size) : ((ruV s p).2.2 = 0 → rS s p = (sdec (ruV s p).1, ((p + (ruV s p).2.1 : Nat) : Int), 0)) ∧ ((ruV s p).2.2 ≠ 0 → rS s p = (0, (p : Int), (ruV s p).2.2)) := by
  constructor
  · intro h
    unfold rS
    rw [rd3_ok s p (0 : Int) (tS s) hp (by unfold tS; exact h)]
    unfold tS
    simp
  · intro h
    unfold rS
    rw [rd3_err s p (0 : Int) (tS s) hp (by unfold tS; exact h)]
    rfl
theorem rT_in (s : ByteArray) (p m : Nat) (hp : p ≤ s.size) : ((rbV s p m).2.2 = 0 → rT s p m = ((rbV s p m).1, ((p + (rbV s p m).2.1 : Nat) : Int), 0)) ∧ ((rbV s p m).2.2 ≠ 0 → rT s p m = (ByteArray.empty, (p : Int), (rbV s p m).2.2)) := by
  constructor
  · intro h
    unfold rT
    rw [rd3_ok s p ByteArray.empty _ hp h]
    simp
  · intro h
    unfold rT
    rw [rd3_err s p ByteArray.empty _ hp h]
theorem rrV_one (s : ByteArray) (p : Nat) : rrV s p 1 = ((1, rbW s p, ⟨#[]⟩), 1, rbE s p) := by unfold rrV; rw [if_neg (by decide), if_pos rfl]
theorem rrV_two (s : ByteArray) (p : Nat) : rrV s p 2 = ((2, sdec (ruV s p).1, ⟨#[]⟩), (ruV s p).2.1, (ruV s p).2.2) := by unfold rrV; rw [if_neg (by decide), if_neg (by decide), if_pos rfl]
theorem rrV_three (s : ByteArray) (p : Nat) : rrV s p 3 = ((3, 0, (rbV s p 4096).1), (rbV s p 4096).2.1, (rbV s p 4096).2.2) := by unfold rrV; rw [if_neg (by decide), if_neg (by decide), if_neg (by decide)]
set_option maxRecDepth 100000 in
set_option maxHeartbeats 3200000 in
theorem refCol (s : ByteArray) (p k : Nat) (w : World) (hp : p ≤ s.size) (hk : k < 4) (hs : s.size ≤ 1125899906842624) :
    Calls Tryz.prog 60 #[.string s, .int .i64 p, .int .i64 k] w fun e w' => e = .returned (refR (rrV s p k) p) ∧ Below w.heap.size w w' := by
  have HB : Hid (∀ k i t, Below w.heap.size w (w2V w k i t)) := w2V_below w
  rcases (show k = 0 ∨ k = 1 ∨ k = 2 ∨ k = 3 by omega) with rfl | rfl | rfl | rfl
  · have HA : Hid (refR (rrV s p 0) p = .tuple #[vA 0 0 ⟨#[]⟩, .int .i64 ((p + 0 : Nat) : Int), .int .i64 0]) := refR_ok (by unfold rrV; rw [if_pos rfl])
    go_enter Tryz.func60, Tryz.ntmps60
    go_wp2
    exact bodyPost_ret (ret_val3 rfl _ _ 0 0 ⟨#[]⟩ w.heap.size (by rfl) (w2V_res w 0 0 ⟨#[]⟩)) rfl ⟨by rw [HA.out]; rfl, HB.out _ _ _⟩
  · by_cases hl : p < s.size
    · have hb := s[p].toNat_lt
      by_cases h1 : 1 < s[p].toNat
      · have HA : Hid (refR (rrV s p 1) p = .tuple #[vA 0 0 ⟨#[]⟩, .int .i64 (p : Int), .int .i64 14]) := refR_no (by rw [rrV_one]; show rbE s p = 14; unfold rbE; rw [dif_pos hl, if_pos h1]) (by decide)
        have h1' : (1 : Int) < ((s[p].toNat : Nat) : Int) := by omega
        have hne : ((p : Int) == (s.size : Int)) = false := by simp; omega
        go_enter Tryz.func60, Tryz.ntmps60
        go_wp2
        exact bodyPost_ret (ret_val3 rfl _ _ 0 0 ⟨#[]⟩ w.heap.size (by rfl) (w2V_res w 0 0 ⟨#[]⟩)) rfl ⟨by rw [HA.out]; rfl, HB.out _ _ _⟩
      · have HA : Hid (refR (rrV s p 1) p = .tuple #[vA 1 (s[p].toNat : Int) ⟨#[]⟩, .int .i64 ((p + 1 : Nat) : Int), .int .i64 0]) := refR_ok (by rw [rrV_one]; unfold rbE rbW; rw [dif_pos hl, dif_pos hl, if_neg h1])
        have h1' : ¬ (1 : Int) < ((s[p].toNat : Nat) : Int) := by omega
        have hne : ((p : Int) == (s.size : Int)) = false := by simp; omega
        go_enter Tryz.func60, Tryz.ntmps60
        go_wp2
        exact bodyPost_ret (ret_val3 rfl _ _ 1 _ ⟨#[]⟩ w.heap.size (by rfl) (w2V_res w 1 _ ⟨#[]⟩)) rfl ⟨by rw [HA.out]; rfl, HB.out _ _ _⟩
    · have HA : Hid (refR (rrV s p 1) p = .tuple #[vA 0 0 ⟨#[]⟩, .int .i64 (p : Int), .int .i64 11]) := refR_no (by rw [rrV_one]; show rbE s p = 11; unfold rbE; rw [dif_neg hl]) (by decide)
      have hne : ((p : Int) == (s.size : Int)) = true := by simp; omega
      go_enter Tryz.func60, Tryz.ntmps60
      go_wp2
      exact bodyPost_ret (ret_val3 rfl _ _ 0 0 ⟨#[]⟩ w.heap.size (by rfl) (w2V_res w 0 0 ⟨#[]⟩)) rfl ⟨by rw [HA.out]; rfl, HB.out _ _ _⟩
  · obtain ⟨q0, q1⟩ := rS_in s p hp
    by_cases hc : (ruV s p).2.2 = 0
    · have HA : Hid (refR (rrV s p 2) p = .tuple #[vA 2 (sdec (ruV s p).1) ⟨#[]⟩, .int .i64 ((p + (ruV s p).2.1 : Nat) : Int), .int .i64 0]) := refR_ok (by rw [rrV_two, hc])
      have hq := q0 hc
      clear q0 q1 hc
      generalize sdec (ruV s p).1 = v at *
      generalize (ruV s p).2.1 = m at *
      go_enter Tryz.func60, Tryz.ntmps60
      go_wp2_with fail
      refine (ref_sv s p _ hs).mono ?_
      rintro e w1 ⟨rfl, rfl⟩
      rw [hq]
      clear hq
      go_wp2
      exact bodyPost_ret (ret_val3 rfl _ _ 2 v ⟨#[]⟩ w.heap.size (by rfl) (w2V_res w 2 v ⟨#[]⟩)) rfl ⟨by rw [HA.out]; rfl, HB.out _ _ _⟩
    · have HA : Hid (refR (rrV s p 2) p = .tuple #[vA 0 0 ⟨#[]⟩, .int .i64 (p : Int), .int .i64 (ruV s p).2.2]) := refR_no (by rw [rrV_two]) hc
      have hq := q1 hc
      have hc' : ((ruV s p).2.2 != 0) = true := by simpa using hc
      clear q0 q1 hc
      generalize (ruV s p).2.2 = c at *
      go_enter Tryz.func60, Tryz.ntmps60
      go_wp2_with fail
      refine (ref_sv s p _ hs).mono ?_
      rintro e w1 ⟨rfl, rfl⟩
      rw [hq]
      clear hq
      go_wp2
      exact bodyPost_ret (ret_val3 rfl _ _ 0 0 ⟨#[]⟩ w.heap.size (by rfl) (w2V_res w 0 0 ⟨#[]⟩)) rfl ⟨by rw [HA.out]; rfl, HB.out _ _ _⟩
  · obtain ⟨q0, q1⟩ := rT_in s p 4096 hp
    by_cases hc : (rbV s p 4096).2.2 = 0
    · have HA : Hid (refR (rrV s p 3) p = .tuple #[vA 3 0 (rbV s p 4096).1, .int .i64 ((p + (rbV s p 4096).2.1 : Nat) : Int), .int .i64 0]) := refR_ok (by rw [rrV_three, hc])
      have hq := q0 hc
      clear q0 q1 hc
      generalize (rbV s p 4096).1 = t at *
      generalize (rbV s p 4096).2.1 = m at *
      go_enter Tryz.func60, Tryz.ntmps60
      go_wp2_with fail
      refine (ref_text s p 4096 _ (by omega) hs).mono ?_
      rintro e w1 ⟨rfl, rfl⟩
      rw [hq]
      clear hq
      go_wp2
      exact bodyPost_ret (ret_val3 rfl _ _ 3 0 t w.heap.size (by rfl) (w2V_res w 3 0 t)) rfl ⟨by rw [HA.out]; rfl, HB.out _ _ _⟩
    · have HA : Hid (refR (rrV s p 3) p = .tuple #[vA 0 0 ⟨#[]⟩, .int .i64 (p : Int), .int .i64 (rbV s p 4096).2.2]) := refR_no (by rw [rrV_three]) hc
      have hq := q1 hc
      have hc' : ((rbV s p 4096).2.2 != 0) = true := by simpa using hc
      clear q0 q1 hc
      generalize (rbV s p 4096).2.2 = c at *
      go_enter Tryz.func60, Tryz.ntmps60
      go_wp2_with fail
      refine (ref_text s p 4096 _ (by omega) hs).mono ?_
      rintro e w1 ⟨rfl, rfl⟩
      rw [hq]
      clear hq
      go_wp2
      exact bodyPost_ret (ret_val3 rfl _ _ 0 0 ⟨#[]⟩ w.heap.size (by rfl) (w2V_res w 0 0 ⟨#[]⟩)) rfl ⟨by rw [HA.out]; rfl, HB.out _ _ _⟩
end Go.Proofs.YtjcffcpmegpjeaaGreatDoor

namespace Go.Proofs.YtjcffcpmegpjeaaGreatDoor
open Go.ChangeShapes Go.WideShapes Go.ChangeAt Go.RowKit
set_option linter.unusedVariables false

theorem infoI : (Tryz.prog.info? 3).map (fun i => (i.zero, i.size, i.bytes)) = some (some (.int .i64 0), 1, 8) := by kernel_rfl
/-- The slice value v holds just the numbers ks, in a row of the call's own. -/
def ownI (w : World) (B : Nat) (v : Value) (ks : List Int) : Prop := w.ownsRow B 3 1 v ks.length (ks.map (Value.int .i64))
theorem ownI_nil (w : World) (B : Nat) : ownI w B (.slice none 0 0) [] := World.ownsRow_nil _ _ _ _
theorem app_four {wr : World} {ops : Array Oper} {rest : List Oper} {o : Oper} {a : Act} {Q : Exit → Act → World → Prop} (hgd : o.guard = none) (s x : Operand)
    (ho : o.op = .call { callee := .builtin .append, args := #[s, x], argTypes := #[23, 23] })
    (B : Nat) (v : Value) (xs : List Int) (c0 c1 c2 c3 : Int) (hown : ownI wr B v xs) (hs : a.eval s = v) (hx : a.eval x = .slice (some ⟨wr.heap.size, 0, none⟩) 4 4)
    (hlen : (xs.length + 4) * 8 ≤ 140737488355328) (hB : B ≤ wr.heap.size)
    (h : ∀ v' w', ownI w' B v' (xs ++ [c0, c1, c2, c3]) → Below B wr w' → wpList Tryz.prog ops Q rest (a.put o.dst v') w') :
    wpList Tryz.prog ops Q (o :: rest) a (wr.alloc (.cells #[.int .i64 c0, .int .i64 c1, .int .i64 c2, .int .i64 c3] 3)) := by
  obtain ⟨i0, hi, hz0, hz1, hz2⟩ := info_parts infoI
  refine wpList_append_own _ hgd s x 23 ho B 3 i0 (.int .i64 0) 1 8 Tryz.underlying23 hi hz0 hz1 hz2 rfl (by decide) v xs.length _ hs (World.ownsRow.alloc hown _)
    ⟨wr.heap.size, 0, none⟩ 4 4 [.int .i64 c0, .int .i64 c1, .int .i64 c2, .int .i64 c3] hx rfl ?_ ?_ (by unfold maxLen; omega) (by omega) (by simp; omega) ?_
  · intro j u hj
    match j, hj with
    | 0, hj => simp at hj; subst hj; simp [Addr.add]
    | 1, hj => simp at hj; subst hj; simp [Addr.add]
    | 2, hj => simp at hj; subst hj; simp [Addr.add]
    | 3, hj => simp at hj; subst hj; simp [Addr.add]
  · intro u hu; simp at hu; rcases hu with rfl | rfl | rfl | rfl <;> rfl
  · intro v' w' hown' hgrow _
    refine h v' w' ?_ ?_
    · have : (xs ++ [c0, c1, c2, c3]).length = xs.length + 4 := by simp
      unfold ownI; rw [this, List.map_append]; exact hown'
    · exact ((Below.refl _ _).alloc hB _).grown hgrow (by simp; omega) (fun k hk => (World.ownsRow.lt hown k hk).1)
theorem ownI.same {w w' : World} {B : Nat} {v : Value} {xs : List Int} (h : ownI w B v xs) (hk : ∀ k, k < w.heap.size → B ≤ k → w'.heap[k]? = w.heap[k]?) : ownI w' B v xs := by
  rcases h with ⟨h1, h2 | ⟨g, cap, cur, rfl, hb, hg, hr⟩⟩
  · exact ⟨h1, .inl h2⟩
  · exact ⟨h1, .inr ⟨g, cap, cur, rfl, hb, by rw [hk g (Array.getElem?_eq_some_iff.1 hg).1 hb]; exact hg, hr⟩⟩
/-- What can be seen of such a row. -/
theorem ownI.sees {w : World} {B : Nat} {v : Value} {xs : List Int} (h : ownI w B v xs) : ∃ ao cap, v = .slice ao xs.length cap ∧ ∀ i (hi : i < xs.length), ∃ g, ao = some ⟨g, 0, none⟩ ∧ w.cell? ⟨g, i, none⟩ = some (.int .i64 xs[i]) := by
  have hh := h
  rcases h.2 with ⟨e, e2⟩ | ⟨g, cap, cur, e, hb, hg, hnc, hm, hs, ht⟩
  · subst e
    refine ⟨none, 0, by rw [e2], fun i hi => absurd hi (by omega)⟩
  · subst e
    refine ⟨some ⟨g, 0, none⟩, cap, rfl, fun i hi => ⟨g, rfl, ?_⟩⟩
    unfold ownI at hh
    rw [World.ownsRow.cellAt hh i (by simpa using hi), List.getElem?_map, List.getElem?_eq_getElem hi]
    rfl
/-- The kinds of the first j bytes of kinds. -/
def ksL (s : ByteArray) (j : Nat) : List Int := (List.range (4 * j)).map fun i => (knd s 1 i : Int)
theorem ksL_len (s : ByteArray) (j : Nat) : (ksL s j).length = 4 * j := by simp [ksL]
theorem ksL_get (s : ByteArray) (j i : Nat) (h : i < (ksL s j).length) : (ksL s j)[i] = (knd s 1 i : Int) := by simp [ksL]
theorem ksL_succ (s : ByteArray) (j : Nat) (h : 1 + j < s.size) : ksL s (j + 1) = ksL s j ++ [(s[1 + j].toNat : Int) % 4, (s[1 + j].toNat : Int) / 4 % 4, (s[1 + j].toNat : Int) / 16 % 4, (s[1 + j].toNat : Int) / 64] := by
  have kd : ∀ m, m < 4 → knd s 1 (4 * j + m) = s[1 + j].toNat / 4 ^ m % 4 := by
    intro m hm
    have q : (4 * j + m) / 4 = j := by omega
    have r : (4 * j + m) % 4 = m := by omega
    unfold knd
    simp only [q, r]
    rw [dif_pos h]
  have k0 := kd 0 (by omega)
  have k1 := kd 1 (by omega)
  have k2 := kd 2 (by omega)
  have k3 := kd 3 (by omega)
  have hb := s[1 + j].toNat_lt
  generalize s[1 + j].toNat = b at *
  rw [show (4 : Nat) ^ 0 = 1 from rfl] at k0
  rw [show (4 : Nat) ^ 1 = 4 from rfl] at k1
  rw [show (4 : Nat) ^ 2 = 16 from rfl] at k2
  rw [show (4 : Nat) ^ 3 = 64 from rfl] at k3
  have e0 : (knd s 1 (4 * j) : Int) = (b : Int) % 4 := by rw [show 4 * j = 4 * j + 0 by omega, k0]; omega
  have e1 : (knd s 1 (4 * j + 1) : Int) = (b : Int) / 4 % 4 := by rw [k1]; omega
  have e2 : (knd s 1 (4 * j + 2) : Int) = (b : Int) / 16 % 4 := by rw [k2]; omega
  have e3 : (knd s 1 (4 * j + 3) : Int) = (b : Int) / 64 := by rw [k3]; omega
  unfold ksL
  rw [show 4 * (j + 1) = 4 * j + 1 + 1 + 1 + 1 by omega, List.range_succ, List.range_succ, List.range_succ, List.range_succ]
  simp only [List.map_append, List.map_cons, List.map_nil, List.append_assoc, List.cons_append, List.nil_append]
  rw [e0, e1, show 4 * j + 1 + 1 = 4 * j + 2 by omega, e2, show 4 * j + 2 + 1 = 4 * j + 3 by omega, e3]
theorem rrV_in (s : ByteArray) (p k : Nat) (hp : p ≤ s.size) (h : (rrV s p k).2.2 = 0) : p + (rrV s p k).2.1 ≤ s.size := by
  by_cases h0 : k = 0
  · subst h0; exact hp
  · by_cases h1 : k = 1
    · subst h1; rw [rrV_one] at h ⊢; exact rbE_in h
    · by_cases h2 : k = 2
      · subst h2; rw [rrV_two] at h ⊢; exact (ruV_bound s p).2.2.2.2 h
      · have e : rrV s p k = ((3, 0, (rbV s p 4096).1), (rbV s p 4096).2.1, (rbV s p 4096).2.2) := by unfold rrV; rw [if_neg h0, if_neg h1, if_neg h2]
        rw [e] at h ⊢; exact rbV_in h
set_option maxRecDepth 100000 in
set_option maxHeartbeats 3200000 in
theorem refRow (s : ByteArray) (w : World) (hs : s.size ≤ 1125899906842624) : Calls Tryz.prog 28 #[.string s] w (refL w (rrL s 0)) := by
  by_cases hl : 0 < s.size
  · have hN : kdN s 0 = s[0].toNat := by unfold kdN; rw [dif_pos hl]
    have hb := s[0].toNat_lt
    have hne : (s.toList == []) = false := by
      have : s.toList.length = s.size := by rw [Lib.toList_data]; simp
      cases hx : s.toList with
      | nil => rw [hx] at this; simp at this; omega
      | cons a b => rfl
    generalize hbb : s[0].toNat = b at *
    by_cases h1 : 16 < b
    · have HE : Hid (rrL s 0 = ([], 0, 18)) := by
        show _ = _
        have : kdE s 0 = 18 := by unfold kdE; rw [if_pos hl, hN, if_pos h1]
        unfold rrL; rw [if_neg (by rw [this]; decide), this]
      have h1' : (16 : Int) < (b : Int) := by omega
      go_enter Tryz.func28, Tryz.ntmps28
      go_wp2
      go_ret2
      exact refL_no HE.out (by decide) (Below.refl _ _)
    have h1' : ¬ (16 : Int) < (b : Int) := by omega
    obtain ⟨n, hn⟩ : ∃ n : Nat, n = (b + 3) / 4 := ⟨_, rfl⟩
    have hnI : ((b : Int) + 3) / 4 = (n : Int) := by omega
    by_cases h2 : s.size < 1 + n
    · have HE : Hid (rrL s 0 = ([], 0, 11)) := by
        show _ = _
        have : kdE s 0 = 11 := by unfold kdE; rw [if_pos hl, hN, if_neg h1, if_pos (by omega)]
        unfold rrL; rw [if_neg (by rw [this]; decide), this]
      have h2' : (s.size : Int) < 1 + (n : Int) := by omega
      clear hn
      go_enter Tryz.func28, Tryz.ntmps28
      go_wp2
      go_ret2
      exact refL_no HE.out (by decide) (Below.refl _ _)
    have h2' : ¬ (s.size : Int) < 1 + (n : Int) := by omega
    have HN : Hid (n = (b + 3) / 4) := hn
    clear hn
    go_enter Tryz.func28, Tryz.ntmps28
    go_wp2
    go_loopw [6, 7] (fun c i wr => ∃ j : Nat, j ≤ n ∧ i = .int .i64 (j : Int) ∧ ownI wr w.heap.size c (ksL s j) ∧ Below w.heap.size w wr) (fun _ i _ => n - (intOf i).toNat)
    case atStart => exact ⟨0, by omega, rfl, ownI_nil _ _, Below.refl _ _⟩
    case round =>
      obtain ⟨j, hj, rfl, hown, hbel⟩ := hrel
      have HO : Hid (ownI wr w.heap.size _ (ksL s j)) := hown
      have HB : Hid (Below w.heap.size w wr) := hbel
      clear hown hbel
      by_cases hj1 : j < n
      · have hin : 1 + j < s.size := by omega
        have HK : Hid _ := ksL_succ s j hin
        have hL := ksL_len s j
        have h64 := s[1 + j].toNat_lt
        have hj2 : j ≤ 16 := by have := HN.out; omega
        have hin' : (1 : Int) + (j : Int) < (s.size : Int) := by omega
        have hB5 : w.heap.size ≤ wr.heap.size := HB.out.size
        have hlen : ((ksL s j).length + 4) * 8 ≤ 140737488355328 := by omega
        clear hL
        go_wp2_with (at_builtin; refine app_four (by rfl) _ _ (by rfl) w.heap.size _ (ksL s j) _ _ _ _ HO.out (by rfl) (by rfl) hlen hB5 ?_; intro v' w6 hown6 hbel6; have HO6 : Hid (ownI w6 w.heap.size v' _) := hown6; have HB6 : Hid (Below w.heap.size w w6) := HB.out.trans hbel6; clear hown6 hbel6)
        go_roundw
        case rel => exact ⟨j + 1, by omega, by go_num, by rw [HK.out]; exact HO6.out, HB6.out⟩
        case measure => simp [intOf]; omega
      · have e : j = n := by omega
        subst e
        obtain ⟨ao, cap, rfl, hsee⟩ := HO.out.sees
        have HS : Hid (∀ i, i < 4 * j → ∃ g, ao = some ⟨g, 0, none⟩ ∧ g < wr.heap.size ∧ wr.cell? ⟨g, i, none⟩ = some (.int .i64 (knd s 1 i : Nat))) := fun i hi => by
          obtain ⟨g, e1, e2⟩ := hsee i (by rw [ksL_len]; exact hi)
          rw [ksL_get] at e2
          refine ⟨g, e1, ?_, e2⟩
          by_cases hg : g < wr.heap.size
          · exact hg
          · exfalso
            have : wr.heap[g]? = none := Array.getElem?_eq_none (by omega)
            simp [World.cell?, this] at e2
        rw [ksL_len]
        have hb4 : b ≤ 4 * j := by have := HN.out; omega
        have hb3 : 4 * j < b + 4 := by have := HN.out; omega
        clear hsee HO HN hj hj1 hnI
        go_wp2_with fail
        go_loopw [9] (fun i wr' => ∃ q : Nat, b ≤ q ∧ q ≤ 4 * j ∧ i = .int .i64 (q : Int) ∧ (∀ x, b ≤ x → x < q → knd s 1 x = 0) ∧ wr' = wr) (fun i _ => 4 * j - (intOf i).toNat)
        case atStart => exact ⟨b, by omega, by omega, rfl, fun x h1 h2 => by omega, rfl⟩
        case round =>
          obtain ⟨q, hq1, hq2, rfl, hq3, rfl⟩ := hrel
          have HQ : Hid (∀ x, b ≤ x → x < q → knd s 1 x = 0) := hq3
          clear hq3
          by_cases hq4 : q < 4 * j
          · obtain ⟨g, rfl, hg, hc⟩ := HS.out q hq4
            have hq4' : (q : Int) < ((4 * j : Nat) : Int) := by omega
            by_cases hz : knd s 1 q = 0
            · have HZ : Hid (knd s 1 q = 0) := hz
              rw [hz] at hc
              clear hz
              go_wp2
              go_roundw
              case rel => exact ⟨q + 1, by omega, by omega, by go_num, fun x x1 x2 => by
                by_cases e : x = q
                · rw [e]; exact HZ.out
                · exact HQ.out x x1 (by omega), trivial⟩
              case measure => simp [intOf]; omega
            · have HE : Hid (rrL s 0 = ([], 0, 14)) := by
                show _ = _
                have hno : kdZ s (0 + 1) b (4 * ((b + 3) / 4)) = false := kdZ_no (k := q) hq1 (by omega) hz
                have : kdE s 0 = 14 := by unfold kdE; rw [if_pos hl, hN, if_neg h1, if_neg (by omega), hno]; rfl
                unfold rrL; rw [if_neg (by rw [this]; decide), this]
              have hz' : (((knd s 1 q : Nat) : Int) != 0) = true := by simpa using hz
              generalize ((knd s 1 q : Nat) : Int) = kq at *
              clear HS hz
              go_wp2
              go_ret2
              exact refL_no HE.out (by decide) HB.out
          · have HE : Hid (rrL s 0 = rrF s 0 b (1 + j) []) := by
              show _ = _
              have hyes : kdZ s (0 + 1) b (4 * ((b + 3) / 4)) = true := kdZ_yes fun i i1 i2 => HQ.out i i1 (by omega)
              have : kdE s 0 = 0 := by unfold kdE; rw [if_pos hl, hN, if_neg h1, if_neg (by omega), if_pos hyes]
              unfold rrL; rw [if_pos this, hN, show (b + 3) / 4 = j by omega]
            have hq4' : ¬ (q : Int) < ((4 * j : Nat) : Int) := by omega
            clear HQ
            go_wp2_with fail
            have HBs : Hid (w.heap.size ≤ wr.heap.size) := HB.out.size
            generalize wr = W2 at *
            go_loopw [10, 11, 12] (fun c at_ i wr' => ∃ (x m : Nat) (acc : List (Int × Int × ByteArray)), x ≤ b ∧ i = .int .i64 (x : Int) ∧ at_ = .int .i64 (m : Int) ∧ m ≤ s.size ∧ acc.length = x ∧ ownV wr' W2.heap.size c acc ∧ Below W2.heap.size W2 wr' ∧ rrL s 0 = rrF s 0 (b - x) m acc) (fun _ _ i _ => b - (intOf i).toNat)
            case atStart => exact ⟨0, 1 + j, [], by omega, rfl, by go_num, by omega, rfl, ownV_nil _ _, Below.refl _ _, HE.out⟩
            case round =>
              obtain ⟨x, m, acc, hx, rfl, rfl, hm, hlen, hown, hbel, hv⟩ := hrel
              have HO : Hid (ownV wr W2.heap.size _ acc) := hown
              have HB1 : Hid (Below W2.heap.size W2 wr) := hbel
              have HV : Hid (rrL s 0 = rrF s 0 (b - x) m acc) := hv
              clear hown hbel hv HE
              by_cases hxb : x < b
              · obtain ⟨g, rfl, hg, hc⟩ := HS.out x (by omega)
                have hc2 := (HB1.out.cell (p := ⟨g, x, none⟩) hg).trans hc
                have hk4 := knd_lt s 1 x
                have hxb' : (x : Int) < (b : Int) := by omega
                have hx4 : (x : Int) < ((4 * j : Nat) : Int) := by omega
                obtain ⟨f, hf⟩ : ∃ f, b - x = f + 1 := ⟨b - x - 1, by omega⟩
                have HW : Hid (rrL s 0 = if (rrV s m (knd s 1 x)).2.2 = 0 then rrF s 0 f (m + (rrV s m (knd s 1 x)).2.1) (acc ++ [(rrV s m (knd s 1 x)).1]) else ([], 0, (rrV s m (knd s 1 x)).2.2)) := by
                  have h0 : 0 + m = m := Nat.zero_add m
                  rw [hf] at HV
                  by_cases hc : (rrV s m (knd s 1 x)).2.2 = 0
                  · have := rrF_ok s 0 f m acc (by rw [h0, hlen]; exact hc)
                    rw [h0, hlen] at this
                    show _ = _
                    rw [HV.out, this, if_pos hc]
                  · have := rrF_no s 0 f m acc (by rw [h0, hlen]; exact hc)
                    rw [h0, hlen] at this
                    show _ = _
                    rw [HV.out, this, if_neg hc]
                have hin := rrV_in s m (knd s 1 x) hm
                have hCol := fun W => refCol s m (knd s 1 x) W hm hk4 hs
                have HC : Hid _ := hCol
                clear hc HV hCol
                generalize rrV s m (knd s 1 x) = r at *
                generalize knd s 1 x = k at *
                go_wp2_with fail
                refine (HC.out _).mono ?_
                rintro e w1 ⟨rfl, hb1⟩
                have HO1 : Hid (ownV w1 W2.heap.size _ acc) := HO.out.same (fun k hk _ => hb1.block k hk)
                have HB2 : Hid (Below W2.heap.size W2 w1) := HB1.out.trans (hb1.mono HB1.out.size)
                clear hb1 HO HB1 HC hc2
                by_cases hcc : r.2.2 = 0
                · have hin2 := hin hcc
                  rw [if_pos hcc] at HW
                  unfold refR
                  rw [if_pos hcc]
                  obtain ⟨⟨kk, i, t⟩, mm, c⟩ := r
                  simp only at hin2 HW hcc ⊢
                  clear hin hcc
                  have HO2 : Hid (∀ o, ownV (w1.alloc o) W2.heap.size _ acc) := fun o => HO1.out.same (fun k hk _ => Below.heap_alloc w1 o k hk)
                  have HB3 : Hid (∀ o, Below W2.heap.size W2 (w1.alloc o)) := fun o => HB2.out.alloc HB2.out.size o
                  have hal : (acc.length + 1) * 32 ≤ 140737488355328 := by omega
                  have HL : Hid (acc.length = x) := hlen
                  clear hlen
                  go_wp2_with (at_builtin; refine app_valG (by rfl) _ _ (by rfl) W2.heap.size _ acc (kk, i, t) (HO2.out _) (by rfl) (w1.heap.size + 1) (by simp) (by rfl) hal (HB3.out _).size ?_; intro v' w6 hown6 hbel6; have HO6 : Hid (ownV w6 W2.heap.size v' (acc ++ [(kk, i, t)])) := hown6; have HB6 : Hid (Below W2.heap.size W2 w6) := (HB3.out _).trans hbel6; clear hown6 hbel6)
                  go_roundw
                  case rel => exact ⟨x + 1, m + mm, acc ++ [(kk, i, t)], by omega, by go_num, rfl, by omega, by rw [List.length_append, List.length_singleton, HL.out], HO6.out, HB6.out, by rw [show b - (x + 1) = f by omega]; exact HW.out⟩
                  case measure => simp [intOf]; omega
                · rw [if_neg hcc] at HW
                  unfold refR
                  rw [if_neg hcc]
                  generalize r.2.2 = c at *
                  have hc' : (c != 0) = true := by simpa using hcc
                  have HC : Hid (c ≠ 0) := hcc
                  clear hin hcc HO1
                  go_wp2
                  go_ret2
                  exact refL_no HW.out HC.out (HB.out.trans ((HB2.out.mono HBs.out).alloc (Nat.le_trans HBs.out HB2.out.size) _))
              · have e : x = b := by omega
                subst e
                rw [Nat.sub_self] at HV
                have hxb' : ¬ (x : Int) < (x : Int) := by omega
                by_cases ht : m < s.size
                · have HE : Hid (rrL s 0 = ([], 0, 16)) := HV.out.trans (rrF_tail s 0 m acc (by omega))
                  have ht' : (m : Int) < (s.size : Int) := by omega
                  clear HV HO
                  go_wp2
                  go_ret2
                  exact refL_no HE.out (by decide) (HB.out.trans (HB1.out.mono HBs.out))
                · have HE : Hid (rrL s 0 = (acc, m, 0)) := HV.out.trans (rrF_end s 0 m acc (by omega))
                  have ht' : ¬ (m : Int) < (s.size : Int) := by omega
                  clear HV
                  go_wp2
                  go_ret2
                  exact refL_yes HE.out (HO.out.down HBs.out) (HB.out.trans (HB1.out.mono HBs.out))
  · have HE : Hid (rrL s 0 = ([], 0, 11)) := by
      show _ = _
      have : kdE s 0 = 11 := by unfold kdE; rw [if_neg hl]
      unfold rrL; rw [if_neg (by rw [this]; decide), this]
    have hne : (s.toList == []) = true := by
      have : s.toList.length = s.size := by rw [Lib.toList_data]; simp
      cases hx : s.toList with
      | nil => rfl
      | cons a b => rw [hx] at this; simp at this; omega
    go_enter Tryz.func28, Tryz.ntmps28
    go_wp2
    go_ret2
    exact refL_no HE.out (by decide) (Below.refl _ _)
end Go.Proofs.YtjcffcpmegpjeaaGreatDoor

namespace Go.Proofs.YtjcffcpmegpjeaaGreatDoor
open Go.ChangeShapes Go.WideShapes Go.ChangeAt Go.RowKit
set_option linter.unusedVariables false

theorem sees_nil (w : World) (B : Nat) : SeesV w B (.slice none 0 0) [] := ⟨none, 0, rfl, by simp, by simp, fun k hk => absurd hk (by simp)⟩
theorem rkL_few (s : ByteArray) : (rkL s 0).1.length ≤ 16 ∨ (rkL s 0).2.2 ≠ 0 := by
  by_cases h : (rkL s 0).2.2 = 0
  · exact .inl (rkL_form s (rkL s 0).1 (rkL s 0).2.1 (by rw [← h])).2.1
  · exact .inr h
theorem rrL_few (s : ByteArray) : (rrL s 0).1.length ≤ 16 ∨ (rrL s 0).2.2 ≠ 0 := by
  by_cases h : (rrL s 0).2.2 = 0
  · exact .inl (rrL_form s (rrL s 0).1 (rrL s 0).2.1 (by rw [← h])).2.1
  · exact .inr h
theorem refL_form {w w' : World} {r : List (Int × Int × ByteArray) × Nat × Int} {e : Ending} (h : refL w r e w') : ∃ a, e = .returned (.tuple #[a, .int .i64 r.2.2]) := by
  by_cases hc : r.2.2 = 0
  · obtain ⟨v, hv, _⟩ := h.1.1 hc
    exact ⟨v, by rw [hv, hc]⟩
  · exact ⟨_, h.1.2 hc⟩
theorem neq_self (c : Int) : (c != c) = false := by simp
end Go.Proofs.YtjcffcpmegpjeaaGreatDoor
