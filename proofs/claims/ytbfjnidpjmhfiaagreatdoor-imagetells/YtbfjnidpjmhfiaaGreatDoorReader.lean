import Derived.Test.YtbfjnidpjmhfiaaGreatDoorRows
import Derived.WalkKit
import Derived.ProofKit
import Derived.OpenShut
import Derived.ShutString
import Derived.WalkLawsBesides
import Derived.Outline
import Derived.WalkSpells
import Derived.BigRegion
import Derived.Deep.QuietTactic
import Derived.BigQuiet
import Derived.OneCell
import Derived.Laws.BitsAllLaws
namespace Go.Proofs.YtbfjnidpjmhfiaaGreatDoor
open Go.ChangeShapes Go.WideShapes Go.ChangeAt Go.RowKit

/-- The reader's struct lies in block R: its text and its place. -/
def Rd (w : World) (R : Nat) (s : ByteArray) (p : Nat) : Prop := w.heap[R]? = some (.cells #[.string s, .int .i64 p] 156 (0, 0))
theorem Rd.cell0 {w : World} {R : Nat} {s : ByteArray} {p : Nat} (h : Rd w R s p) : w.cell? ⟨R, 0, none⟩ = some (.string s) := by
  unfold Rd at h
  simp [World.cell?, h]
theorem Rd.cell1 {w : World} {R : Nat} {s : ByteArray} {p : Nat} (h : Rd w R s p) : w.cell? ⟨R, 1, none⟩ = some (.int .i64 p) := by
  unfold Rd at h
  simp [World.cell?, h]
theorem Rd.free {w : World} {R : Nat} {s : ByteArray} {p : Nat} (h : Rd w R s p) (j : Nat) : w.frozen? ⟨R, j, none⟩ = false := by
  unfold Rd at h
  simp [World.frozen?, h]
theorem Rd.drew {w : World} {R : Nat} {s : ByteArray} {p : Nat} (h : Rd w R s p) : Rd w.drew R s p := h
theorem Rd.move {w : World} {R : Nat} {s : ByteArray} {p : Nat} (h : Rd w R s p) (q : Nat) : Rd (w.setCell ⟨R, 1, none⟩ (.int .i64 q)) R s q := by
  unfold Rd at h ⊢
  simp [World.setCell, Array.getElem?_modify, h]
def oops (c : Int) : Ending := .panicked [{ v := .iface 37 (.int .i64 c), recovered := false }]

set_option maxRecDepth 100000 in
theorem left_any (R : Nat) (s : ByteArray) (p : Nat) (w : World) (h : Rd w R s p) (hp : p ≤ s.size) (hs : s.size ≤ 1125899906842624) :
    Calls Tryz.prog 107 #[.pointer (some ⟨R, 0, none⟩)] w fun e w' => e = .returned (.int .i64 ((s.size : Int) - p)) ∧ ∃ n, w' = w.drewN n := by
  have c0 := h.cell0
  have c1 := h.cell1
  go_enter Tryz.func107, Tryz.ntmps107
  go_wp2
  go_quiet (fail)
  go_wp2
  go_ret
  exact ⟨rfl, _, rfl⟩
theorem Rd.drewN {w : World} {R : Nat} {s : ByteArray} {p : Nat} (h : Rd w R s p) (n : Nat) : Rd (w.drewN n) R s p := by
  have e : (w.drewN n).heap = w.heap := by induction n generalizing w with
    | zero => rfl
    | succ n ih => exact ih (w := w.drew) h
  unfold Rd at h ⊢
  rw [e]; exact h
theorem below_drewN {B : Nat} {w : World} (n : Nat) : Below B w (w.drewN n) := by
  induction n generalizing w with
  | zero => exact Below.refl _ _
  | succ n ih => exact (ih (w := w)).drew
/-- All but the reader's own block stays. -/
structure Fr (R : Nat) (w w' : World) : Prop extends Below R w w' where
  rest : ∀ k, k < w.heap.size → k ≠ R → w'.heap[k]? = w.heap[k]?
theorem Fr.refl (R : Nat) (w : World) : Fr R w w := ⟨Below.refl _ _, fun _ _ _ => rfl⟩
theorem Fr.trans {R : Nat} {a b c : World} (h : Fr R a b) (k : Fr R b c) : Fr R a c := ⟨h.toBelow.trans k.toBelow, fun i hi hn => (k.rest i (Nat.lt_of_lt_of_le hi h.size) hn).trans (h.rest i hi hn)⟩
theorem Fr.drew {R : Nat} {a w : World} (h : Fr R a w) : Fr R a w.drew := ⟨h.toBelow.drew, h.rest⟩
theorem Fr.of {R : Nat} {a w : World} (hR : R ≤ a.heap.size) (h : Below a.heap.size a w) : Fr R a w := ⟨h.mono hR, fun k hk _ => h.block k hk⟩
theorem Fr.alloc {R : Nat} {a w : World} (h : Fr R a w) (hR : R ≤ w.heap.size) (o : Obj) : Fr R a (w.alloc o) := ⟨h.toBelow.alloc hR o, fun k hk hn => (Below.heap_alloc w o k (Nat.lt_of_lt_of_le hk h.size)).trans (h.rest k hk hn)⟩
theorem Fr.setCell {R : Nat} {a w : World} (h : Fr R a w) {p : Addr} (hp : p.block = R) (u : Value) : Fr R a (w.setCell p u) := ⟨h.toBelow.setCell (Nat.le_of_eq hp.symm) u, fun k hk hn => (Below.heap_setCell w p u k (by rw [hp]; exact hn)).trans (h.rest k hk hn)⟩
theorem Fr.setOwn {R : Nat} {a w : World} (h : Fr R a w) {p : Addr} (hR : R ≤ p.block) (hp : a.heap.size ≤ p.block) (u : Value) : Fr R a (w.setCell p u) := ⟨h.toBelow.setCell hR u, fun k hk hn => (Below.heap_setCell w p u k (Nat.ne_of_lt (Nat.lt_of_lt_of_le hk hp))).trans (h.rest k hk hn)⟩
theorem fr_drewN {R : Nat} {w : World} (n : Nat) : Fr R w (w.drewN n) := by
  induction n generalizing w with
  | zero => exact Fr.refl _ _
  | succ n ih => exact (ih (w := w)).drew

set_option maxRecDepth 100000 in
theorem next_short (R : Nat) (s : ByteArray) (p : Nat) (n : Int) (w : World) (h : Rd w R s p) (hp : p ≤ s.size) (hs : s.size ≤ 1125899906842624) (hn : (s.size : Int) - p < n) :
    Calls Tryz.prog 98 #[.pointer (some ⟨R, 0, none⟩), .int .i64 n] w fun e w' => e = oops 11 ∧ Fr R w w' := by
  go_enter Tryz.func98, Tryz.ntmps98
  go_wp2_with fail
  refine (left_any R s p _ h hp hs).mono ?_
  rintro e w1 ⟨rfl, nq, rfl⟩
  go_wp2
  exact ⟨rfl, rfl, fr_drewN nq⟩
set_option maxRecDepth 100000 in
theorem next_some (R : Nat) (s : ByteArray) (p n : Nat) (w : World) (h : Rd w R s p) (hs : s.size ≤ 1125899906842624) (hn : p + n ≤ s.size) :
    Calls Tryz.prog 98 #[.pointer (some ⟨R, 0, none⟩), .int .i64 n] w fun e w' => e = .returned (.string (s.extract p (p + n))) ∧ Rd w' R s (p + n) ∧ Fr R w w' := by
  go_enter Tryz.func98, Tryz.ntmps98
  go_wp2_with fail
  refine (left_any R s p _ h (by omega) hs).mono ?_
  rintro e w1 ⟨rfl, nq, rfl⟩
  have h1 := h.drewN nq
  have HB1 : Hid (Fr R w (w.drewN nq)) := fr_drewN nq
  generalize w.drewN nq = w1 at *
  have c0 := h1.cell0
  have c1 := h1.cell1
  have f1 := h1.free 1
  have HR : Hid (Rd w1 R s p) := h1
  clear h h1
  go_wp2
  go_quiet (fail)
  go_wp2
  go_ret
  refine ⟨rfl, ?_, ?_⟩
  · rw [show ((p : Int) + (n : Int)) = ((p + n : Nat) : Int) from by omega]
    exact (HR.out.drewN _).move _
  · exact (HB1.out.trans (fr_drewN _)).setCell rfl _

theorem sub_byte (s : ByteArray) (p : Nat) (hp : p < s.size) : (s.extract p (p + 1)).size = 1 := by
  rw [ByteArray.size_extract]; omega
theorem sub_get (s : ByteArray) (p : Nat) (hp : p < s.size) (h : 0 < (s.extract p (p + 1)).size) : (s.extract p (p + 1))[0]'h = s[p] := by
  rw [ByteArray.getElem_extract]; rfl
set_option maxRecDepth 100000 in
theorem byte_short (R : Nat) (s : ByteArray) (w : World) (h : Rd w R s s.size) (hs : s.size ≤ 1125899906842624) :
    Calls Tryz.prog 106 #[.pointer (some ⟨R, 0, none⟩)] w fun e w' => e = oops 11 ∧ Fr R w w' := by
  go_enter Tryz.func106, Tryz.ntmps106
  go_wp2_with fail
  refine (next_short R s s.size 1 w h (Nat.le_refl _) hs (by omega)).mono ?_
  rintro e w1 ⟨rfl, hb⟩
  exact ⟨rfl, rfl, hb⟩
set_option maxRecDepth 100000 in
theorem byte_some (R : Nat) (s : ByteArray) (p : Nat) (w : World) (h : Rd w R s p) (hp : p < s.size) (hs : s.size ≤ 1125899906842624) :
    Calls Tryz.prog 106 #[.pointer (some ⟨R, 0, none⟩)] w fun e w' => e = .returned (.int .u8 (s[p].toNat : Int)) ∧ Rd w' R s (p + 1) ∧ Fr R w w' := by
  go_enter Tryz.func106, Tryz.ntmps106
  go_wp2_with fail
  refine (next_some R s p 1 w h hs (by omega)).mono ?_
  rintro e w1 ⟨rfl, hr, hb⟩
  have HR : Hid _ := hr
  have HB : Hid _ := hb
  have hsz := sub_byte s p hp
  have HG : Hid _ := sub_get s p hp
  clear hr hb
  generalize s.extract p (p + 1) = t at *
  go_wp2
  go_ret
  refine ⟨?_, HR.out, HB.out⟩
  rw [← HG.out (by omega)]; rfl

/-- What is read of a number from byte p on, n bytes of it being taken with the worth acc: its worth, how many bytes, the error. -/
def ruF (s : ByteArray) (p : Nat) : Nat → Nat → Nat → Nat × Nat × Int
  | 0, _, _ => (0, 0, 12)
  | f + 1, n, acc =>
    if h : p + n < s.size then
      (if n = 9 ∧ 1 < s[p + n].toNat then (0, 0, 12)
       else if 128 ≤ s[p + n].toNat then ruF s p f (n + 1) (acc + (s[p + n].toNat % 128) * 128 ^ n)
       else if s[p + n].toNat = 0 ∧ 0 < n then (0, 0, 13)
       else (acc + (s[p + n].toNat % 128) * 128 ^ n, n + 1, 0))
    else (0, 0, 11)
def ruV (s : ByteArray) (p : Nat) : Nat × Nat × Int := ruF s p 10 0 0
theorem ruF_short (s : ByteArray) (p f n acc : Nat) (h : ¬ p + n < s.size) : ruF s p (f + 1) n acc = (0, 0, 11) := by
  unfold ruF; rw [dif_neg h]
theorem ruF_far (s : ByteArray) (p f n acc : Nat) (h : p + n < s.size) (h9 : n = 9) (hb : 1 < s[p + n].toNat) : ruF s p (f + 1) n acc = (0, 0, 12) := by
  unfold ruF; rw [dif_pos h, if_pos ⟨h9, hb⟩]
theorem ruF_more (s : ByteArray) (p f n acc : Nat) (h : p + n < s.size) (h9 : n ≠ 9) (hb : 128 ≤ s[p + n].toNat) : ruF s p (f + 1) n acc = ruF s p f (n + 1) (acc + (s[p + n].toNat % 128) * 128 ^ n) := by
  conv => lhs; unfold ruF
  rw [dif_pos h, if_neg (fun e => h9 e.1), if_pos hb]
theorem ruF_canon (s : ByteArray) (p f n acc : Nat) (h : p + n < s.size) (hn : 0 < n) (hb : s[p + n].toNat = 0) : ruF s p (f + 1) n acc = (0, 0, 13) := by
  unfold ruF; rw [dif_pos h, if_neg (by omega), if_neg (by omega), if_pos ⟨hb, hn⟩]
theorem ruF_done (s : ByteArray) (p f n acc : Nat) (h : p + n < s.size) (h9 : n = 9 → s[p + n].toNat ≤ 1) (hb : s[p + n].toNat < 128) (hc : s[p + n].toNat ≠ 0 ∨ n = 0) : ruF s p (f + 1) n acc = (acc + s[p + n].toNat * 128 ^ n, n + 1, 0) := by
  unfold ruF; rw [dif_pos h, if_neg (by omega), if_neg (by omega), if_neg (by omega), Nat.mod_eq_of_lt hb]
/-- What a call of a reader's method comes to: the answer, the place, or the error; all but the reader's own block stays. -/
def Took (R : Nat) (s : ByteArray) (p : Nat) (w : World) (v : Value) (n : Nat) (c : Int) (e : Ending) (w' : World) : Prop :=
  Fr R w w' ∧ ((c = 0 ∧ e = .returned v ∧ Rd w' R s (p + n)) ∨ (c ≠ 0 ∧ e = oops c))
theorem worth_lt (b n : Nat) (hb : b < 128) (hn : n ≤ 9) (h9 : n = 9 → b ≤ 1) : b * 128 ^ n < 18446744073709551616 := by
  rcases Nat.lt_or_ge n 9 with h | h
  · have h2 : b * 128 ^ n ≤ 127 * 128 ^ 8 := Nat.mul_le_mul (by omega) (Nat.pow_le_pow_right (by omega) (by omega))
    have h3 : 127 * 128 ^ 8 < 18446744073709551616 := by decide
    omega
  · have : n = 9 := by omega
    subst this
    have := h9 rfl
    omega
theorem or_shift (A b n : Nat) (ha : A < 128 ^ n) (hb : b < 128) (hn : n ≤ 9) (h9 : n = 9 → b ≤ 1) :
    bits .or .u64 (A : Int) ((b : Int) * 2 ^ (7 * n)) = ((A + b * 128 ^ n : Nat) : Int) := by
  have h1 := worth_lt b n hb hn h9
  have h2 : A < 18446744073709551616 := by
    have h3 : (128 : Nat) ^ n ≤ 128 ^ 9 := Nat.pow_le_pow_right (by omega) hn
    have h4 : (128 : Nat) ^ 9 < 18446744073709551616 := by decide
    omega
  have e2 : (b : Int) * 2 ^ (7 * n) = ((b * 128 ^ n : Nat) : Int) := by
    rw [Int.pow_mul]; simp
  rw [e2, u64_or_nat _ _ h2 h1]
  have := nat_join (7 * n) (b * 128 ^ n) A (by rw [show (128 : Nat) ^ n = 2 ^ (7 * n) from by rw [Nat.pow_mul]]; simp) (by rw [Nat.pow_mul, show 2 ^ 7 = 128 from rfl]; omega)
  rw [Nat.or_comm, this, Nat.add_comm]
theorem or_wrap (A b n : Nat) (ha : A < 128 ^ n) (hn : n ≤ 9) (h9 : n = 9 → b ≤ 1) :
    bits .or .u64 (A : Int) (IntKind.u64.wrap ((b : Int) % 128 * 2 ^ (7 * n))) = ((A + b % 128 * 128 ^ n : Nat) : Int) := by
  have h1 := worth_lt (b % 128) n (by omega) hn (by omega)
  have e2 : (b : Int) % 128 * 2 ^ (7 * n) = ((b % 128 * 128 ^ n : Nat) : Int) := by
    rw [Int.pow_mul]; simp
  have := or_shift A (b % 128) n ha (by omega) hn (by omega)
  rw [show ((b % 128 : Nat) : Int) = (b : Int) % 128 from by simp] at this
  rw [IntKind.wrap_u64, e2, Int.emod_eq_of_lt (by omega) (by omega), ← e2]
  exact this
theorem val_u64 {a b : Int} (h : a = b) : Value.int .u64 a = .int .u64 b := by rw [h]
theorem clear_top (b : Nat) (hb : b < 256) : bits .andNot .u8 (b : Int) 128 = ((b % 128 : Nat) : Int) := by
  have := u8_andNot_nat b 128 hb (by omega)
  rw [show ((128 : Nat) : Int) = 128 from rfl] at this
  rw [this]
  have key : ∀ x : Fin 256, (x.val &&& (255 - 128)) = x.val % 128 := by decide +kernel
  rw [key ⟨b, hb⟩]

theorem took_err {R : Nat} {s : ByteArray} {p : Nat} {w w' : World} {r : Nat × Nat × Int} {c : Int} (hv : r = (0, 0, c)) (hc : c ≠ 0) (hb : Fr R w w') (v : Value) : Took R s p w v r.2.1 r.2.2 (oops c) w' := by
  rw [hv]; exact ⟨hb, .inr ⟨hc, rfl⟩⟩
theorem took_ok {R : Nat} {s : ByteArray} {p : Nat} {w w' : World} {r : Nat × Nat × Int} {a n : Nat} (hv : r = (a, n, 0)) (hb : Fr R w w') (hr : Rd w' R s (p + n)) : Took R s p w (.int .u64 (r.1 : Int)) r.2.1 r.2.2 (.returned (.int .u64 (a : Int))) w' := by
  rw [hv]; exact ⟨hb, .inl ⟨rfl, rfl, hr⟩⟩
theorem took_ok' {R : Nat} {s : ByteArray} {p : Nat} {w w' : World} {r : Nat × Nat × Int} {a n : Nat} (hv : r = (a, n, 0)) (hb : Fr R w w') (hr : Rd w' R s (p + n)) {x : Int} (hx : x = (a : Int)) : Took R s p w (.int .u64 (r.1 : Int)) r.2.1 r.2.2 (.returned (.int .u64 x)) w' := by
  rw [hx]; exact took_ok hv hb hr
set_option maxRecDepth 100000 in
set_option maxHeartbeats 1600000 in
theorem uvarint_read (R : Nat) (s : ByteArray) (p : Nat) (w : World) (h : Rd w R s p) (hp : p ≤ s.size) (hs : s.size ≤ 1125899906842624) :
    Calls Tryz.prog 96 #[.pointer (some ⟨R, 0, none⟩)] w fun e w' => Took R s p w (.int .u64 ((ruV s p).1 : Int)) (ruV s p).2.1 (ruV s p).2.2 e w' := by
  go_enter Tryz.func96, Tryz.ntmps96
  go_wp2
  go_loopw [3, 4] (fun v n wr => ∃ (k A : Nat), k ≤ 9 ∧ v = .int .u64 (A : Int) ∧ n = .int .i64 (k : Int) ∧ A < 128 ^ k ∧ p + k ≤ s.size ∧ Rd wr R s (p + k) ∧ Fr R w wr ∧ ruV s p = ruF s p (10 - k) k A) (fun _ n _ => 10 - (intOf n).toNat)
  case atStart => exact ⟨0, 0, by omega, rfl, rfl, by simp, by omega, h, Fr.refl _ _, rfl⟩
  case round =>
    obtain ⟨k, A, hk, rfl, rfl, hA, hpk, hr, hbel, hv⟩ := hrel
    obtain ⟨f, hf⟩ : ∃ f, 10 - k = f + 1 := ⟨9 - k, by omega⟩
    rw [hf] at hv
    have HV : Hid (ruV s p = ruF s p (f + 1) k A) := hv
    have HB : Hid (Fr R w wr) := hbel
    have HR : Hid (Rd wr R s (p + k)) := hr
    have HF : Hid (10 - k = f + 1) := hf
    clear hv hbel hr hf h
    by_cases hlt : p + k < s.size
    · go_wp2_with fail
      refine (byte_some R s (p + k) _ HR.out hlt hs).mono ?_
      rintro e w1 ⟨rfl, hr1, hb1⟩
      have HR1 : Hid (Rd w1 R s (p + k + 1)) := hr1
      have HB1 : Hid (Fr R w w1) := HB.out.trans hb1
      have HD : Hid (k = 9 → s[p + k].toNat ≤ 1) → Hid (s[p + k].toNat < 128) → Hid (s[p + k].toNat ≠ 0 ∨ k = 0) → Hid (ruV s p = (A + s[p + k].toNat * 128 ^ k, k + 1, 0)) := fun a b c => HV.out.trans (ruF_done s p f k A hlt a b c)
      have HM : Hid (k ≠ 9) → Hid (128 ≤ s[p + k].toNat) → Hid (ruV s p = ruF s p f (k + 1) (A + (s[p + k].toNat % 128) * 128 ^ k)) := fun a b => HV.out.trans (ruF_more s p f k A hlt a b)
      have HFar : Hid (k = 9) → Hid (1 < s[p + k].toNat) → Hid (ruV s p = (0, 0, 12)) := fun a b => HV.out.trans (ruF_far s p f k A hlt a b)
      have HC : Hid (0 < k) → Hid (s[p + k].toNat = 0) → Hid (ruV s p = (0, 0, 13)) := fun a b => HV.out.trans (ruF_canon s p f k A hlt a b)
      have hb8 : s[p + k].toNat < 256 := s[p + k].toNat_lt
      clear hr1 hb1 HB HR
      generalize s[p + k].toNat = b at *
      have hct := clear_top b hb8
      by_cases c1 : k = 9 ∧ 1 < b
      · have HV12 := HFar c1.1 c1.2
        have t1 : ((k : Int) == 9) = true := by simp; omega
        have t2 : 1 < b := c1.2
        clear c1 HD HM HFar HC
        go_wp2
        exact ⟨rfl, took_err HV12.out (by decide) HB1.out _⟩
      · have hw9 : k = 9 → b ≤ 1 := by omega
        have HO : Hid _ := or_wrap A b k hA hk hw9
        have HP : Hid (A + b % 128 * 128 ^ k < 128 ^ (k + 1)) := by
          show _ < _
          have : b % 128 * 128 ^ k ≤ 127 * 128 ^ k := Nat.mul_le_mul (by omega) (Nat.le_refl _)
          rw [Nat.pow_succ]; omega
        have HW : Hid (k = 9 → b ≤ 1) := hw9
        clear hA hw9
        by_cases c2 : 128 ≤ b
        · have hk9 : k ≠ 9 := by intro e; exact c1 ⟨e, by omega⟩
          have t1 : ((k : Int) == 9) = false := by simp; omega
          have HMo := HM hk9 c2
          have hk8 : k ≤ 8 := by omega
          clear c1 HD HM HFar HC
          go_wp2
          go_roundw
          case rel => exact ⟨k + 1, A + b % 128 * 128 ^ k, by omega, val_u64 HO.out, by go_num, HP.out, by omega, HR1.out, HB1.out, by rw [show 10 - (k + 1) = f from by have := HF.out; omega]; exact HMo.out⟩
          case measure => simp [intOf]; omega
        · have t3 : b < 128 := by omega
          by_cases c3 : b = 0 ∧ 0 < k
          · have HV13 := HC c3.2 c3.1
            have t1 : ((b : Int) == 0) = true := by simp; omega
            have t2 : (0 : Int) < (k : Int) := by omega
            cases c9 : ((k : Int) == 9)
            all_goals
              clear c1 HD HM HFar HC c2
              go_wp2
              exact ⟨rfl, took_err HV13.out (by decide) HB1.out _⟩
          · have HDo := HD HW.out (by show _ < _; omega) (by show _ ∨ _; omega)
            have hmod : b % 128 = b := by omega
            rw [hmod] at HO HP
            clear hmod
            cases c9 : ((k : Int) == 9)
            all_goals
              cases cb : ((b : Int) == 0)
              all_goals
                clear HD HM HFar HC
                go_wp2
                all_goals first
                  | (exfalso; have hc := HW.out; simp at c9 cb; omega)
                  | (go_ret; exact took_ok' HDo.out HB1.out HR1.out HO.out)
    · have hpk' : p + k = s.size := by omega
      go_wp2_with fail
      refine (byte_short R s _ (by rw [← hpk']; exact HR.out) hs).mono ?_
      rintro e w1 ⟨rfl, hb1⟩
      exact ⟨rfl, took_err (HV.out.trans (ruF_short s p f k A hlt)) (by decide) (HB.out.trans hb1) _⟩
end Go.Proofs.YtbfjnidpjmhfiaaGreatDoor
