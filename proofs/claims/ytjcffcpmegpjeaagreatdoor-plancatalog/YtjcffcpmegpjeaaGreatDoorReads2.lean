import Derived.Test.YtjcffcpmegpjeaaGreatDoorRows
import Derived.WalkKit
import Derived.ProofKit
import Derived.OpenShut
import Derived.ShutString
import Derived.WalkLawsBesides
import Derived.Outline
import Derived.WalkSpells
import Derived.BigRegion
import Derived.Deep.QuietTactic
import Derived.BigQuiet
import Derived.OneCell
import Derived.Laws.BitsAllLaws
import Derived.Defers
import Derived.Recover
import Derived.Laws.Pointers
namespace Go.Proofs.YtjcffcpmegpjeaaGreatDoor
open Go.ChangeShapes Go.WideShapes Go.ChangeAt Go.RowKit

/-- The reader's struct lies in block R: its text and its place. -/
def Rd (w : World) (R : Nat) (s : ByteArray) (p : Nat) : Prop := w.heap[R]? = some (.cells #[.string s, .int .i64 p] 168 (0, 0))
theorem Rd.cell0 {w : World} {R : Nat} {s : ByteArray} {p : Nat} (h : Rd w R s p) : w.cell? ⟨R, 0, none⟩ = some (.string s) := by
  unfold Rd at h
  simp [World.cell?, h]
theorem Rd.cell1 {w : World} {R : Nat} {s : ByteArray} {p : Nat} (h : Rd w R s p) : w.cell? ⟨R, 1, none⟩ = some (.int .i64 p) := by
  unfold Rd at h
  simp [World.cell?, h]
theorem Rd.free {w : World} {R : Nat} {s : ByteArray} {p : Nat} (h : Rd w R s p) (j : Nat) : w.frozen? ⟨R, j, none⟩ = false := by
  unfold Rd at h
  simp [World.frozen?, h]
theorem Rd.drew {w : World} {R : Nat} {s : ByteArray} {p : Nat} (h : Rd w R s p) : Rd w.drew R s p := h
theorem Rd.move {w : World} {R : Nat} {s : ByteArray} {p : Nat} (h : Rd w R s p) (q : Nat) : Rd (w.setCell ⟨R, 1, none⟩ (.int .i64 q)) R s q := by
  unfold Rd at h ⊢
  simp [World.setCell, Array.getElem?_modify, h]
def oops (c : Int) : Ending := .panicked [{ v := .iface 29 (.int .i64 c), recovered := false }]

set_option maxRecDepth 100000 in
theorem left_any (R : Nat) (s : ByteArray) (p : Nat) (w : World) (h : Rd w R s p) (hp : p ≤ s.size) (hs : s.size ≤ 1125899906842624) :
    Calls Tryz.prog 109 #[.pointer (some ⟨R, 0, none⟩)] w fun e w' => e = .returned (.int .i64 ((s.size : Int) - p)) ∧ ∃ n, w' = w.drewN n := by
  have c0 := h.cell0
  have c1 := h.cell1
  go_enter Tryz.func109, Tryz.ntmps109
  go_wp2
  go_quiet (fail)
  go_wp2
  go_ret
  exact ⟨rfl, _, rfl⟩
theorem Rd.drewN {w : World} {R : Nat} {s : ByteArray} {p : Nat} (h : Rd w R s p) (n : Nat) : Rd (w.drewN n) R s p := by
  have e : (w.drewN n).heap = w.heap := by induction n generalizing w with
    | zero => rfl
    | succ n ih => exact ih (w := w.drew) h
  unfold Rd at h ⊢
  rw [e]; exact h
theorem below_drewN {B : Nat} {w : World} (n : Nat) : Below B w (w.drewN n) := by
  induction n generalizing w with
  | zero => exact Below.refl _ _
  | succ n ih => exact (ih (w := w)).drew
/-- All but the reader's own block stays. -/
structure Fr (R : Nat) (w w' : World) : Prop extends Below R w w' where
  rest : ∀ k, k < w.heap.size → k ≠ R → w'.heap[k]? = w.heap[k]?
theorem Fr.refl (R : Nat) (w : World) : Fr R w w := ⟨Below.refl _ _, fun _ _ _ => rfl⟩
theorem Fr.trans {R : Nat} {a b c : World} (h : Fr R a b) (k : Fr R b c) : Fr R a c := ⟨h.toBelow.trans k.toBelow, fun i hi hn => (k.rest i (Nat.lt_of_lt_of_le hi h.size) hn).trans (h.rest i hi hn)⟩
theorem Fr.drew {R : Nat} {a w : World} (h : Fr R a w) : Fr R a w.drew := ⟨h.toBelow.drew, h.rest⟩
theorem Fr.of {R : Nat} {a w : World} (hR : R ≤ a.heap.size) (h : Below a.heap.size a w) : Fr R a w := ⟨h.mono hR, fun k hk _ => h.block k hk⟩
theorem Fr.alloc {R : Nat} {a w : World} (h : Fr R a w) (hR : R ≤ w.heap.size) (o : Obj) : Fr R a (w.alloc o) := ⟨h.toBelow.alloc hR o, fun k hk hn => (Below.heap_alloc w o k (Nat.lt_of_lt_of_le hk h.size)).trans (h.rest k hk hn)⟩
theorem Fr.setCell {R : Nat} {a w : World} (h : Fr R a w) {p : Addr} (hp : p.block = R) (u : Value) : Fr R a (w.setCell p u) := ⟨h.toBelow.setCell (Nat.le_of_eq hp.symm) u, fun k hk hn => (Below.heap_setCell w p u k (by rw [hp]; exact hn)).trans (h.rest k hk hn)⟩
theorem Fr.setOwn {R : Nat} {a w : World} (h : Fr R a w) {p : Addr} (hR : R ≤ p.block) (hp : a.heap.size ≤ p.block) (u : Value) : Fr R a (w.setCell p u) := ⟨h.toBelow.setCell hR u, fun k hk hn => (Below.heap_setCell w p u k (Nat.ne_of_lt (Nat.lt_of_lt_of_le hk hp))).trans (h.rest k hk hn)⟩
theorem fr_drewN {R : Nat} {w : World} (n : Nat) : Fr R w (w.drewN n) := by
  induction n generalizing w with
  | zero => exact Fr.refl _ _
  | succ n ih => exact (ih (w := w)).drew

set_option maxRecDepth 100000 in
theorem next_short (R : Nat) (s : ByteArray) (p : Nat) (n : Int) (w : World) (h : Rd w R s p) (hp : p ≤ s.size) (hs : s.size ≤ 1125899906842624) (hn : (s.size : Int) - p < n) :
    Calls Tryz.prog 140 #[.pointer (some ⟨R, 0, none⟩), .int .i64 n] w fun e w' => e = oops 11 ∧ Fr R w w' := by
  go_enter Tryz.func140, Tryz.ntmps140
  go_wp2_with fail
  refine (left_any R s p _ h hp hs).mono ?_
  rintro e w1 ⟨rfl, nq, rfl⟩
  go_wp2
  exact ⟨rfl, rfl, fr_drewN nq⟩
set_option maxRecDepth 100000 in
theorem next_some (R : Nat) (s : ByteArray) (p n : Nat) (w : World) (h : Rd w R s p) (hs : s.size ≤ 1125899906842624) (hn : p + n ≤ s.size) :
    Calls Tryz.prog 140 #[.pointer (some ⟨R, 0, none⟩), .int .i64 n] w fun e w' => e = .returned (.string (s.extract p (p + n))) ∧ Rd w' R s (p + n) ∧ Fr R w w' := by
  go_enter Tryz.func140, Tryz.ntmps140
  go_wp2_with fail
  refine (left_any R s p _ h (by omega) hs).mono ?_
  rintro e w1 ⟨rfl, nq, rfl⟩
  have h1 := h.drewN nq
  have HB1 : Hid (Fr R w (w.drewN nq)) := fr_drewN nq
  generalize w.drewN nq = w1 at *
  have c0 := h1.cell0
  have c1 := h1.cell1
  have f1 := h1.free 1
  have HR : Hid (Rd w1 R s p) := h1
  clear h h1
  go_wp2
  go_quiet (fail)
  go_wp2
  go_ret
  refine ⟨rfl, ?_, ?_⟩
  · rw [show ((p : Int) + (n : Int)) = ((p + n : Nat) : Int) from by omega]
    exact (HR.out.drewN _).move _
  · exact (HB1.out.trans (fr_drewN _)).setCell rfl _

theorem sub_byte (s : ByteArray) (p : Nat) (hp : p < s.size) : (s.extract p (p + 1)).size = 1 := by
  rw [ByteArray.size_extract]; omega
theorem sub_get (s : ByteArray) (p : Nat) (hp : p < s.size) (h : 0 < (s.extract p (p + 1)).size) : (s.extract p (p + 1))[0]'h = s[p] := by
  rw [ByteArray.getElem_extract]; rfl
set_option maxRecDepth 100000 in
theorem byte_short (R : Nat) (s : ByteArray) (w : World) (h : Rd w R s s.size) (hs : s.size ≤ 1125899906842624) :
    Calls Tryz.prog 139 #[.pointer (some ⟨R, 0, none⟩)] w fun e w' => e = oops 11 ∧ Fr R w w' := by
  go_enter Tryz.func139, Tryz.ntmps139
  go_wp2_with fail
  refine (next_short R s s.size 1 w h (Nat.le_refl _) hs (by omega)).mono ?_
  rintro e w1 ⟨rfl, hb⟩
  exact ⟨rfl, rfl, hb⟩
set_option maxRecDepth 100000 in
theorem byte_some (R : Nat) (s : ByteArray) (p : Nat) (w : World) (h : Rd w R s p) (hp : p < s.size) (hs : s.size ≤ 1125899906842624) :
    Calls Tryz.prog 139 #[.pointer (some ⟨R, 0, none⟩)] w fun e w' => e = .returned (.int .u8 (s[p].toNat : Int)) ∧ Rd w' R s (p + 1) ∧ Fr R w w' := by
  go_enter Tryz.func139, Tryz.ntmps139
  go_wp2_with fail
  refine (next_some R s p 1 w h hs (by omega)).mono ?_
  rintro e w1 ⟨rfl, hr, hb⟩
  have HR : Hid _ := hr
  have HB : Hid _ := hb
  have hsz := sub_byte s p hp
  have HG : Hid _ := sub_get s p hp
  clear hr hb
  generalize s.extract p (p + 1) = t at *
  go_wp2
  go_ret
  refine ⟨?_, HR.out, HB.out⟩
  rw [← HG.out (by omega)]; rfl

/-- What is read of a number from byte p on, n bytes of it being taken with the worth acc: its worth, how many bytes, the error. -/
def ruF (s : ByteArray) (p : Nat) : Nat → Nat → Nat → Nat × Nat × Int
  | 0, _, _ => (0, 0, 12)
  | f + 1, n, acc =>
    if h : p + n < s.size then
      (if n = 9 ∧ 1 < s[p + n].toNat then (0, 0, 12)
       else if 128 ≤ s[p + n].toNat then ruF s p f (n + 1) (acc + (s[p + n].toNat % 128) * 128 ^ n)
       else if s[p + n].toNat = 0 ∧ 0 < n then (0, 0, 13)
       else (acc + (s[p + n].toNat % 128) * 128 ^ n, n + 1, 0))
    else (0, 0, 11)
def ruV (s : ByteArray) (p : Nat) : Nat × Nat × Int := ruF s p 10 0 0
theorem ruF_short (s : ByteArray) (p f n acc : Nat) (h : ¬ p + n < s.size) : ruF s p (f + 1) n acc = (0, 0, 11) := by
  unfold ruF; rw [dif_neg h]
theorem ruF_far (s : ByteArray) (p f n acc : Nat) (h : p + n < s.size) (h9 : n = 9) (hb : 1 < s[p + n].toNat) : ruF s p (f + 1) n acc = (0, 0, 12) := by
  unfold ruF; rw [dif_pos h, if_pos ⟨h9, hb⟩]
theorem ruF_more (s : ByteArray) (p f n acc : Nat) (h : p + n < s.size) (h9 : n ≠ 9) (hb : 128 ≤ s[p + n].toNat) : ruF s p (f + 1) n acc = ruF s p f (n + 1) (acc + (s[p + n].toNat % 128) * 128 ^ n) := by
  conv => lhs; unfold ruF
  rw [dif_pos h, if_neg (fun e => h9 e.1), if_pos hb]
theorem ruF_canon (s : ByteArray) (p f n acc : Nat) (h : p + n < s.size) (hn : 0 < n) (hb : s[p + n].toNat = 0) : ruF s p (f + 1) n acc = (0, 0, 13) := by
  unfold ruF; rw [dif_pos h, if_neg (by omega), if_neg (by omega), if_pos ⟨hb, hn⟩]
theorem ruF_done (s : ByteArray) (p f n acc : Nat) (h : p + n < s.size) (h9 : n = 9 → s[p + n].toNat ≤ 1) (hb : s[p + n].toNat < 128) (hc : s[p + n].toNat ≠ 0 ∨ n = 0) : ruF s p (f + 1) n acc = (acc + s[p + n].toNat * 128 ^ n, n + 1, 0) := by
  unfold ruF; rw [dif_pos h, if_neg (by omega), if_neg (by omega), if_neg (by omega), Nat.mod_eq_of_lt hb]
/-- What a call of a reader's method comes to: the answer, the place, or the error; all but the reader's own block stays. -/
def Took (R : Nat) (s : ByteArray) (p : Nat) (w : World) (v : Value) (n : Nat) (c : Int) (e : Ending) (w' : World) : Prop :=
  Fr R w w' ∧ ((c = 0 ∧ e = .returned v ∧ Rd w' R s (p + n)) ∨ (c ≠ 0 ∧ e = oops c))
theorem worth_lt (b n : Nat) (hb : b < 128) (hn : n ≤ 9) (h9 : n = 9 → b ≤ 1) : b * 128 ^ n < 18446744073709551616 := by
  rcases Nat.lt_or_ge n 9 with h | h
  · have h2 : b * 128 ^ n ≤ 127 * 128 ^ 8 := Nat.mul_le_mul (by omega) (Nat.pow_le_pow_right (by omega) (by omega))
    have h3 : 127 * 128 ^ 8 < 18446744073709551616 := by decide
    omega
  · have : n = 9 := by omega
    subst this
    have := h9 rfl
    omega
theorem or_shift (A b n : Nat) (ha : A < 128 ^ n) (hb : b < 128) (hn : n ≤ 9) (h9 : n = 9 → b ≤ 1) :
    bits .or .u64 (A : Int) ((b : Int) * 2 ^ (7 * n)) = ((A + b * 128 ^ n : Nat) : Int) := by
  have h1 := worth_lt b n hb hn h9
  have h2 : A < 18446744073709551616 := by
    have h3 : (128 : Nat) ^ n ≤ 128 ^ 9 := Nat.pow_le_pow_right (by omega) hn
    have h4 : (128 : Nat) ^ 9 < 18446744073709551616 := by decide
    omega
  have e2 : (b : Int) * 2 ^ (7 * n) = ((b * 128 ^ n : Nat) : Int) := by
    rw [Int.pow_mul]; simp
  rw [e2, u64_or_nat _ _ h2 h1]
  have := nat_join (7 * n) (b * 128 ^ n) A (by rw [show (128 : Nat) ^ n = 2 ^ (7 * n) from by rw [Nat.pow_mul]]; simp) (by rw [Nat.pow_mul, show 2 ^ 7 = 128 from rfl]; omega)
  rw [Nat.or_comm, this, Nat.add_comm]
theorem or_wrap (A b n : Nat) (ha : A < 128 ^ n) (hn : n ≤ 9) (h9 : n = 9 → b ≤ 1) :
    bits .or .u64 (A : Int) (IntKind.u64.wrap ((b : Int) % 128 * 2 ^ (7 * n))) = ((A + b % 128 * 128 ^ n : Nat) : Int) := by
  have h1 := worth_lt (b % 128) n (by omega) hn (by omega)
  have e2 : (b : Int) % 128 * 2 ^ (7 * n) = ((b % 128 * 128 ^ n : Nat) : Int) := by
    rw [Int.pow_mul]; simp
  have := or_shift A (b % 128) n ha (by omega) hn (by omega)
  rw [show ((b % 128 : Nat) : Int) = (b : Int) % 128 from by simp] at this
  rw [IntKind.wrap_u64, e2, Int.emod_eq_of_lt (by omega) (by omega), ← e2]
  exact this
theorem val_u64 {a b : Int} (h : a = b) : Value.int .u64 a = .int .u64 b := by rw [h]
theorem clear_top (b : Nat) (hb : b < 256) : bits .andNot .u8 (b : Int) 128 = ((b % 128 : Nat) : Int) := by
  have := u8_andNot_nat b 128 hb (by omega)
  rw [show ((128 : Nat) : Int) = 128 from rfl] at this
  rw [this]
  have key : ∀ x : Fin 256, (x.val &&& (255 - 128)) = x.val % 128 := by decide +kernel
  rw [key ⟨b, hb⟩]

theorem took_err {R : Nat} {s : ByteArray} {p : Nat} {w w' : World} {r : Nat × Nat × Int} {c : Int} (hv : r = (0, 0, c)) (hc : c ≠ 0) (hb : Fr R w w') (v : Value) : Took R s p w v r.2.1 r.2.2 (oops c) w' := by
  rw [hv]; exact ⟨hb, .inr ⟨hc, rfl⟩⟩
theorem took_ok {R : Nat} {s : ByteArray} {p : Nat} {w w' : World} {r : Nat × Nat × Int} {a n : Nat} (hv : r = (a, n, 0)) (hb : Fr R w w') (hr : Rd w' R s (p + n)) : Took R s p w (.int .u64 (r.1 : Int)) r.2.1 r.2.2 (.returned (.int .u64 (a : Int))) w' := by
  rw [hv]; exact ⟨hb, .inl ⟨rfl, rfl, hr⟩⟩
theorem took_ok' {R : Nat} {s : ByteArray} {p : Nat} {w w' : World} {r : Nat × Nat × Int} {a n : Nat} (hv : r = (a, n, 0)) (hb : Fr R w w') (hr : Rd w' R s (p + n)) {x : Int} (hx : x = (a : Int)) : Took R s p w (.int .u64 (r.1 : Int)) r.2.1 r.2.2 (.returned (.int .u64 x)) w' := by
  rw [hx]; exact took_ok hv hb hr
set_option maxRecDepth 100000 in
set_option maxHeartbeats 1600000 in
theorem uvarint_read (R : Nat) (s : ByteArray) (p : Nat) (w : World) (h : Rd w R s p) (hp : p ≤ s.size) (hs : s.size ≤ 1125899906842624) :
    Calls Tryz.prog 143 #[.pointer (some ⟨R, 0, none⟩)] w fun e w' => Took R s p w (.int .u64 ((ruV s p).1 : Int)) (ruV s p).2.1 (ruV s p).2.2 e w' := by
  go_enter Tryz.func143, Tryz.ntmps143
  go_wp2
  go_loopw [3, 4] (fun v n wr => ∃ (k A : Nat), k ≤ 9 ∧ v = .int .u64 (A : Int) ∧ n = .int .i64 (k : Int) ∧ A < 128 ^ k ∧ p + k ≤ s.size ∧ Rd wr R s (p + k) ∧ Fr R w wr ∧ ruV s p = ruF s p (10 - k) k A) (fun _ n _ => 10 - (intOf n).toNat)
  case atStart => exact ⟨0, 0, by omega, rfl, rfl, by simp, by omega, h, Fr.refl _ _, rfl⟩
  case round =>
    obtain ⟨k, A, hk, rfl, rfl, hA, hpk, hr, hbel, hv⟩ := hrel
    obtain ⟨f, hf⟩ : ∃ f, 10 - k = f + 1 := ⟨9 - k, by omega⟩
    rw [hf] at hv
    have HV : Hid (ruV s p = ruF s p (f + 1) k A) := hv
    have HB : Hid (Fr R w wr) := hbel
    have HR : Hid (Rd wr R s (p + k)) := hr
    have HF : Hid (10 - k = f + 1) := hf
    clear hv hbel hr hf h
    by_cases hlt : p + k < s.size
    · go_wp2_with fail
      refine (byte_some R s (p + k) _ HR.out hlt hs).mono ?_
      rintro e w1 ⟨rfl, hr1, hb1⟩
      have HR1 : Hid (Rd w1 R s (p + k + 1)) := hr1
      have HB1 : Hid (Fr R w w1) := HB.out.trans hb1
      have HD : Hid (k = 9 → s[p + k].toNat ≤ 1) → Hid (s[p + k].toNat < 128) → Hid (s[p + k].toNat ≠ 0 ∨ k = 0) → Hid (ruV s p = (A + s[p + k].toNat * 128 ^ k, k + 1, 0)) := fun a b c => HV.out.trans (ruF_done s p f k A hlt a b c)
      have HM : Hid (k ≠ 9) → Hid (128 ≤ s[p + k].toNat) → Hid (ruV s p = ruF s p f (k + 1) (A + (s[p + k].toNat % 128) * 128 ^ k)) := fun a b => HV.out.trans (ruF_more s p f k A hlt a b)
      have HFar : Hid (k = 9) → Hid (1 < s[p + k].toNat) → Hid (ruV s p = (0, 0, 12)) := fun a b => HV.out.trans (ruF_far s p f k A hlt a b)
      have HC : Hid (0 < k) → Hid (s[p + k].toNat = 0) → Hid (ruV s p = (0, 0, 13)) := fun a b => HV.out.trans (ruF_canon s p f k A hlt a b)
      have hb8 : s[p + k].toNat < 256 := s[p + k].toNat_lt
      clear hr1 hb1 HB HR
      generalize s[p + k].toNat = b at *
      have hct := clear_top b hb8
      by_cases c1 : k = 9 ∧ 1 < b
      · have HV12 := HFar c1.1 c1.2
        have t1 : ((k : Int) == 9) = true := by simp; omega
        have t2 : 1 < b := c1.2
        clear c1 HD HM HFar HC
        go_wp2
        exact ⟨rfl, took_err HV12.out (by decide) HB1.out _⟩
      · have hw9 : k = 9 → b ≤ 1 := by omega
        have HO : Hid _ := or_wrap A b k hA hk hw9
        have HP : Hid (A + b % 128 * 128 ^ k < 128 ^ (k + 1)) := by
          show _ < _
          have : b % 128 * 128 ^ k ≤ 127 * 128 ^ k := Nat.mul_le_mul (by omega) (Nat.le_refl _)
          rw [Nat.pow_succ]; omega
        have HW : Hid (k = 9 → b ≤ 1) := hw9
        clear hA hw9
        by_cases c2 : 128 ≤ b
        · have hk9 : k ≠ 9 := by intro e; exact c1 ⟨e, by omega⟩
          have t1 : ((k : Int) == 9) = false := by simp; omega
          have HMo := HM hk9 c2
          have hk8 : k ≤ 8 := by omega
          clear c1 HD HM HFar HC
          go_wp2
          go_roundw
          case rel => exact ⟨k + 1, A + b % 128 * 128 ^ k, by omega, val_u64 HO.out, by go_num, HP.out, by omega, HR1.out, HB1.out, by rw [show 10 - (k + 1) = f from by have := HF.out; omega]; exact HMo.out⟩
          case measure => simp [intOf]; omega
        · have t3 : b < 128 := by omega
          by_cases c3 : b = 0 ∧ 0 < k
          · have HV13 := HC c3.2 c3.1
            have t1 : ((b : Int) == 0) = true := by simp; omega
            have t2 : (0 : Int) < (k : Int) := by omega
            cases c9 : ((k : Int) == 9)
            all_goals
              clear c1 HD HM HFar HC c2
              go_wp2
              exact ⟨rfl, took_err HV13.out (by decide) HB1.out _⟩
          · have HDo := HD HW.out (by show _ < _; omega) (by show _ ∨ _; omega)
            have hmod : b % 128 = b := by omega
            rw [hmod] at HO HP
            clear hmod
            cases c9 : ((k : Int) == 9)
            all_goals
              cases cb : ((b : Int) == 0)
              all_goals
                clear HD HM HFar HC
                go_wp2
                all_goals first
                  | (exfalso; have hc := HW.out; simp at c9 cb; omega)
                  | (go_ret; exact took_ok' HDo.out HB1.out HR1.out HO.out)
    · have hpk' : p + k = s.size := by omega
      go_wp2_with fail
      refine (byte_short R s _ (by rw [← hpk']; exact HR.out) hs).mono ?_
      rintro e w1 ⟨rfl, hb1⟩
      exact ⟨rfl, took_err (HV.out.trans (ruF_short s p f k A hlt)) (by decide) (HB.out.trans hb1) _⟩
end Go.Proofs.YtjcffcpmegpjeaaGreatDoor

namespace Go.Proofs.YtjcffcpmegpjeaaGreatDoor
open Go.ChangeShapes Go.WideShapes Go.ChangeAt Go.RowKit
set_option linter.unusedVariables false
set_option maxRecDepth 100000

theorem assert_errno (c : Int) (w : World) : (Instr.typeAssert (.iface 29 (.int .i64 c)) 20 29 false).run Tryz.prog w = .ok (.int .i64 c) w := by kernel_rfl

set_option maxRecDepth 100000 in
set_option maxHeartbeats 800000 in
theorem catchU (c a : Int) (bA bV bN bE : Nat) (x y z : Value) (older : List PanicEntry) (w : World)
    (hA : w.cell? ⟨bA, 0, none⟩ = some (.int .i64 a)) (hV : w.cell? ⟨bV, 0, none⟩ = some x) (hN : w.cell? ⟨bN, 0, none⟩ = some y) (hE : w.cell? ⟨bE, 0, none⟩ = some z)
    (fV : w.frozen? ⟨bV, 0, none⟩ = false) (fN : w.frozen? ⟨bN, 0, none⟩ = false) (fE : w.frozen? ⟨bE, 0, none⟩ = false)
    (n4 : bV ≠ bN) (n5 : bV ≠ bE) (n6 : bN ≠ bE) :
    CallsD Tryz.prog 157 #[.pointer (some ⟨bA, 0, none⟩), .pointer (some ⟨bV, 0, none⟩), .pointer (some ⟨bN, 0, none⟩), .pointer (some ⟨bE, 0, none⟩)] (.panicking ({ v := .iface 29 (.int .i64 c), recovered := false } :: older)) w fun e u' w' =>
      e = .returned (.tuple #[]) ∧ u' = .panicking ({ v := .iface 29 (.int .i64 c), recovered := true } :: older) ∧ w'.cell? ⟨bV, 0, none⟩ = some (.int .u64 0) ∧ w'.cell? ⟨bN, 0, none⟩ = some (.int .i64 a) ∧ w'.cell? ⟨bE, 0, none⟩ = some (.int .i64 c) ∧ (∀ B, B ≤ bV → B ≤ bN → B ≤ bE → Below B w w') := by
  refine callsD_of_wpS Tryz.func157 rfl fun c₀ cs hu => ?_
  apply wpS_seq
  apply wpS_region
  simp [wpOpsS, go_sem, recoverD, hu, Tryz.ntmps157, Exit.thenS]
  refine wpS_of_wp ?_
  simp only [Array.replicate, List.replicate, List.setIfInBounds_toArray, List.set_cons_zero, List.set_cons_succ, List.append_toArray, List.cons_append, List.nil_append]
  go_wp2
  have hta := assert_errno
  go_region
  change bodyPostS _ _ _ _ _ _ _ _ _
  refine ⟨rfl, _, rfl, _, results_none rfl _ _ _, rfl, rfl, ?_, ?_, ?_, ?_⟩
  · simp [go_sem, hV]
  · simp [go_sem, hN]
  · simp [go_sem, hE]
  · intro B h1 h2 h3
    exact (((Below.refl _ _).setCell h1 _).setCell h2 _).setCell h3 _ |>.drew
theorem idleU (pA pV pN pE : Addr) (w : World) :
    CallsD Tryz.prog 157 #[.pointer (some pA), .pointer (some pV), .pointer (some pN), .pointer (some pE)] .returning w fun e u' w' => e = .returned (.tuple #[]) ∧ u' = .returning ∧ w' = w := by
  refine callsD_of_wpS Tryz.func157 rfl fun c₀ cs hu => ?_
  apply wpS_seq
  apply wpS_region
  simp [wpOpsS, go_sem, recoverD, hu, Tryz.ntmps157, Exit.thenS]
  refine wpS_of_wp ?_
  simp only [Array.replicate, List.replicate, List.setIfInBounds_toArray, List.set_cons_zero, List.set_cons_succ, List.append_toArray, List.cons_append, List.nil_append]
  go_wp2
  change bodyPostS _ _ _ _ _ _ _ _ _
  cases c₀
  simp only at hu
  subst hu
  exact ⟨rfl, _, rfl, _, results_none rfl _ _ _, rfl, rfl, rfl⟩

theorem rd_new (W : World) (s : ByteArray) (p R : Nat) (hR : R = W.heap.size) : Rd (W.alloc (.cells #[.string s, .int .i64 p] 168)) R s p := by
  subst hR; exact heap_alloc_new W _
theorem five_size (w : World) (a b c d e : Obj) : (((((w.alloc a).alloc b).alloc c).alloc d).alloc e).heap.size = w.heap.size + 5 := by simp
theorem Below.of_five {w w1 : World} {a b c d e : Obj} (h : Below (w.heap.size + 1 + 1 + 1 + 1) (((((w.alloc a).alloc b).alloc c).alloc d).alloc e) w1) : Below w.heap.size w w1 :=
  ((((((Below.refl w.heap.size w).alloc (Nat.le_refl _) a).alloc (by simp) b).alloc (by simp; omega) c).alloc (by simp; omega) d).alloc (by simp; omega) e).trans (h.mono (by omega))

set_option maxRecDepth 100000 in
set_option maxHeartbeats 1600000 in
theorem readU_core (s : ByteArray) (p : Nat) (w : World) (v : Int) (n : Nat) (c : Int) (hp : p ≤ s.size) (hs : s.size ≤ 1125899906842624) (HT : Hid (∀ R w, Rd w R s p → Calls Tryz.prog 143 #[.pointer (some ⟨R, 0, none⟩)] w (Took R s p w (.int .u64 v) n c))) :
    Calls Tryz.prog 142 #[.string s, .int .i64 p, .func (.func 143) #[] #[]] w fun e w' => ((c = 0 → e = .returned (.tuple #[.int .u64 v, .int .i64 ((p : Int) + n), .int .i64 0])) ∧ (c ≠ 0 → e = .returned (.tuple #[.int .u64 0, .int .i64 p, .int .i64 c]))) ∧ Below w.heap.size w w' := by
  have hmf : ∀ (fn : Fn) (first cap : Array Value) (w : World), (Instr.makeFunc fn first cap).run Tryz.prog w = .ok (.func fn first cap) w := fun _ _ _ _ => rfl
  go_enter_defers Tryz.func142, Tryz.ntmps142
  go_wp2_with fail
  refine (HT.out (w.heap.size + 1 + 1 + 1 + 1) _ (rd_new _ _ _ _ (by simp))).mono ?_
  rintro e w1 ⟨hb, hto⟩
  have cA : w1.cell? ⟨w.heap.size, 0, none⟩ = some (.int .i64 p) := by rw [hb.cell (by simp <;> omega)]; simp [go_sem]
  have cV : w1.cell? ⟨w.heap.size + 1, 0, none⟩ = some (.int .u64 0) := by rw [hb.cell (by simp <;> omega)]; simp [go_sem]
  have cN : w1.cell? ⟨w.heap.size + 1 + 1, 0, none⟩ = some (.int .i64 0) := by rw [hb.cell (by simp <;> omega)]; simp [go_sem]
  have cE : w1.cell? ⟨w.heap.size + 1 + 1 + 1, 0, none⟩ = some (.int .i64 0) := by rw [hb.cell (by simp)]; simp [go_sem]
  have fV : w1.frozen? ⟨w.heap.size + 1, 0, none⟩ = false := by rw [hb.frozen (by simp <;> omega)]; simp [go_sem]
  have fN : w1.frozen? ⟨w.heap.size + 1 + 1, 0, none⟩ = false := by rw [hb.frozen (by simp <;> omega)]; simp [go_sem]
  have fE : w1.frozen? ⟨w.heap.size + 1 + 1 + 1, 0, none⟩ = false := by rw [hb.frozen (by simp)]; simp [go_sem]
  have HB : Hid (Below w.heap.size w w1) := Below.of_five hb.toBelow
  clear hb
  rcases hto with ⟨rfl, rfl, hr⟩ | ⟨hc, rfl⟩
  · have c1 := hr.cell1
    clear hr
    go_wp2
    go_region
    go_wp2
    refine leaves_cons (f := 157) (args := #[.pointer (some ⟨w.heap.size, 0, none⟩), .pointer (some ⟨w.heap.size + 1, 0, none⟩), .pointer (some ⟨w.heap.size + 1 + 1, 0, none⟩), .pointer (some ⟨w.heap.size + 1 + 1 + 1, 0, none⟩)]) (by simp) (by simp [go_sem]) ?_
    refine (idleU _ _ _ _ _).mono ?_
    rintro e u' w2 ⟨rfl, rfl, rfl⟩
    refine ⟨.tuple #[.int .u64 v, .int .i64 ((p : Int) + n), .int .i64 0], by simp [results, Tryz.results142, go_sem, cV, cN, cE], ?_, ?_⟩
    · rfl
    · exact ((((HB.out.setCell (by simp) _).setCell (by simp) _).setCell (by simp; omega) _).setCell (by simp; omega) _).drew
  · refine leaves_cons (f := 157) (args := #[.pointer (some ⟨w.heap.size, 0, none⟩), .pointer (some ⟨w.heap.size + 1, 0, none⟩), .pointer (some ⟨w.heap.size + 1 + 1, 0, none⟩), .pointer (some ⟨w.heap.size + 1 + 1 + 1, 0, none⟩)]) (by simp) (by simp [go_sem]) ?_
    refine (catchU c p _ _ _ _ _ _ _ [] _ cA cV cN cE fV fN fE (by omega) (by omega) (by omega)).mono ?_
    rintro e u' w2 ⟨rfl, rfl, dV, dN, dE, hb2⟩
    refine ⟨.tuple #[.int .u64 0, .int .i64 p, .int .i64 c], by simp [results, Tryz.results142, go_sem, dV, dN, dE], ?_, ?_⟩
    · exact ⟨fun h => absurd h hc, fun _ => rfl⟩
    · exact HB.out.trans (hb2 _ (by omega) (by omega) (by omega))

set_option maxRecDepth 100000 in
set_option maxHeartbeats 1600000 in
theorem readU_out (s : ByteArray) (p : Int) (w : World) (hp : p < 0 ∨ (s.size : Int) < p) (h0 : -9223372036854775808 ≤ p) (h1 : p ≤ 9223372036854775807) (hs : s.size ≤ 1125899906842624) :
    Calls Tryz.prog 142 #[.string s, .int .i64 p, .func (.func 143) #[] #[]] w fun e w' => e = .returned (.tuple #[.int .u64 0, .int .i64 p, .int .i64 10]) ∧ Below w.heap.size w w' := by
  have hmf : ∀ (fn : Fn) (first cap : Array Value) (w : World), (Instr.makeFunc fn first cap).run Tryz.prog w = .ok (.func fn first cap) w := fun _ _ _ _ => rfl
  rcases hp with hp | hp
  all_goals
    go_enter_defers Tryz.func142, Tryz.ntmps142
    go_wp2
    refine leaves_cons (f := 157) (args := #[.pointer (some ⟨w.heap.size, 0, none⟩), .pointer (some ⟨w.heap.size + 1, 0, none⟩), .pointer (some ⟨w.heap.size + 1 + 1, 0, none⟩), .pointer (some ⟨w.heap.size + 1 + 1 + 1, 0, none⟩)]) (by simp) (by simp [go_sem]) ?_
    refine (catchU 10 p _ _ _ _ (.int .u64 0) (.int .i64 0) (.int .i64 0) [] _ (by simp [go_sem]) (by simp [go_sem]) (by simp [go_sem]) (by simp [go_sem]) (by simp [go_sem]) (by simp [go_sem]) (by simp [go_sem]) (by omega) (by omega) (by omega)).mono ?_
    rintro e u' w2 ⟨rfl, rfl, dV, dN, dE, hb2⟩
    refine ⟨.tuple #[.int .u64 0, .int .i64 p, .int .i64 10], by simp [results, Tryz.results142, go_sem, dV, dN, dE], rfl, ?_⟩
    exact ((((((Below.refl _ _).alloc (Nat.le_refl _) _).alloc (by simp) _).alloc (by simp; omega) _).alloc (by simp; omega) _).trans (hb2 _ (by omega) (by omega) (by omega)))
end Go.Proofs.YtjcffcpmegpjeaaGreatDoor

namespace Go.Proofs.YtjcffcpmegpjeaaGreatDoor
open Go.ChangeShapes Go.WideShapes Go.ChangeAt Go.RowKit
set_option linter.unusedVariables false
set_option maxRecDepth 100000

end Go.Proofs.YtjcffcpmegpjeaaGreatDoor

namespace Go.Proofs.YtjcffcpmegpjeaaGreatDoor
open Go.ChangeShapes Go.WideShapes Go.ChangeAt Go.RowKit
set_option linter.unusedVariables false

end Go.Proofs.YtjcffcpmegpjeaaGreatDoor

namespace Go.Proofs.YtjcffcpmegpjeaaGreatDoor
open Go.ChangeShapes Go.WideShapes Go.ChangeAt Go.RowKit
set_option linter.unusedVariables false

set_option maxRecDepth 100000 in
set_option maxHeartbeats 800000 in
theorem catchB (c a : Int) (bA bV bN bE : Nat) (x y z : Value) (older : List PanicEntry) (w : World)
    (hA : w.cell? ⟨bA, 0, none⟩ = some (.int .i64 a)) (hV : w.cell? ⟨bV, 0, none⟩ = some x) (hN : w.cell? ⟨bN, 0, none⟩ = some y) (hE : w.cell? ⟨bE, 0, none⟩ = some z)
    (fV : w.frozen? ⟨bV, 0, none⟩ = false) (fN : w.frozen? ⟨bN, 0, none⟩ = false) (fE : w.frozen? ⟨bE, 0, none⟩ = false)
    (n4 : bV ≠ bN) (n5 : bV ≠ bE) (n6 : bN ≠ bE) :
    CallsD Tryz.prog 161 #[.pointer (some ⟨bA, 0, none⟩), .pointer (some ⟨bV, 0, none⟩), .pointer (some ⟨bN, 0, none⟩), .pointer (some ⟨bE, 0, none⟩)] (.panicking ({ v := .iface 29 (.int .i64 c), recovered := false } :: older)) w fun e u' w' =>
      e = .returned (.tuple #[]) ∧ u' = .panicking ({ v := .iface 29 (.int .i64 c), recovered := true } :: older) ∧ w'.cell? ⟨bV, 0, none⟩ = some (.string { data := #[] }) ∧ w'.cell? ⟨bN, 0, none⟩ = some (.int .i64 a) ∧ w'.cell? ⟨bE, 0, none⟩ = some (.int .i64 c) ∧ (∀ B, B ≤ bV → B ≤ bN → B ≤ bE → Below B w w') := by
  refine callsD_of_wpS Tryz.func161 rfl fun c₀ cs hu => ?_
  apply wpS_seq
  apply wpS_region
  simp [wpOpsS, go_sem, recoverD, hu, Tryz.ntmps161, Exit.thenS]
  refine wpS_of_wp ?_
  simp only [Array.replicate, List.replicate, List.setIfInBounds_toArray, List.set_cons_zero, List.set_cons_succ, List.append_toArray, List.cons_append, List.nil_append]
  go_wp2
  have hta := assert_errno
  go_region
  change bodyPostS _ _ _ _ _ _ _ _ _
  refine ⟨rfl, _, rfl, _, results_none rfl _ _ _, rfl, rfl, ?_, ?_, ?_, ?_⟩
  · simp [go_sem, hV]
  · simp [go_sem, hN]
  · simp [go_sem, hE]
  · intro B h1 h2 h3
    exact (((Below.refl _ _).setCell h1 _).setCell h2 _).setCell h3 _ |>.drew
theorem idleB (pA pV pN pE : Addr) (w : World) :
    CallsD Tryz.prog 161 #[.pointer (some pA), .pointer (some pV), .pointer (some pN), .pointer (some pE)] .returning w fun e u' w' => e = .returned (.tuple #[]) ∧ u' = .returning ∧ w' = w := by
  refine callsD_of_wpS Tryz.func161 rfl fun c₀ cs hu => ?_
  apply wpS_seq
  apply wpS_region
  simp [wpOpsS, go_sem, recoverD, hu, Tryz.ntmps161, Exit.thenS]
  refine wpS_of_wp ?_
  simp only [Array.replicate, List.replicate, List.setIfInBounds_toArray, List.set_cons_zero, List.set_cons_succ, List.append_toArray, List.cons_append, List.nil_append]
  go_wp2
  change bodyPostS _ _ _ _ _ _ _ _ _
  cases c₀
  simp only at hu
  subst hu
  exact ⟨rfl, _, rfl, _, results_none rfl _ _ _, rfl, rfl, rfl⟩

set_option maxRecDepth 100000 in
set_option maxHeartbeats 1600000 in
theorem readB_core (s : ByteArray) (p : Nat) (w : World) (v : ByteArray) (n : Nat) (c : Int) (hp : p ≤ s.size) (hs : s.size ≤ 1125899906842624) (HT : Hid (∀ R w, Rd w R s p → Calls Tryz.prog 159 #[.pointer (some ⟨R, 0, none⟩)] w (Took R s p w (.string v) n c))) :
    Calls Tryz.prog 158 #[.string s, .int .i64 p, .func (.func 159) #[] #[]] w fun e w' => ((c = 0 → e = .returned (.tuple #[.string v, .int .i64 ((p : Int) + n), .int .i64 0])) ∧ (c ≠ 0 → e = .returned (.tuple #[.string { data := #[] }, .int .i64 p, .int .i64 c]))) ∧ Below w.heap.size w w' := by
  have hmf : ∀ (fn : Fn) (first cap : Array Value) (w : World), (Instr.makeFunc fn first cap).run Tryz.prog w = .ok (.func fn first cap) w := fun _ _ _ _ => rfl
  go_enter_defers Tryz.func158, Tryz.ntmps158
  go_wp2_with fail
  refine (HT.out (w.heap.size + 1 + 1 + 1 + 1) _ (rd_new _ _ _ _ (by simp))).mono ?_
  rintro e w1 ⟨hb, hto⟩
  have cA : w1.cell? ⟨w.heap.size, 0, none⟩ = some (.int .i64 p) := by rw [hb.cell (by simp <;> omega)]; simp [go_sem]
  have cV : w1.cell? ⟨w.heap.size + 1, 0, none⟩ = some (.string { data := #[] }) := by rw [hb.cell (by simp <;> omega)]; simp [go_sem]
  have cN : w1.cell? ⟨w.heap.size + 1 + 1, 0, none⟩ = some (.int .i64 0) := by rw [hb.cell (by simp <;> omega)]; simp [go_sem]
  have cE : w1.cell? ⟨w.heap.size + 1 + 1 + 1, 0, none⟩ = some (.int .i64 0) := by rw [hb.cell (by simp)]; simp [go_sem]
  have fV : w1.frozen? ⟨w.heap.size + 1, 0, none⟩ = false := by rw [hb.frozen (by simp <;> omega)]; simp [go_sem]
  have fN : w1.frozen? ⟨w.heap.size + 1 + 1, 0, none⟩ = false := by rw [hb.frozen (by simp <;> omega)]; simp [go_sem]
  have fE : w1.frozen? ⟨w.heap.size + 1 + 1 + 1, 0, none⟩ = false := by rw [hb.frozen (by simp)]; simp [go_sem]
  have HB : Hid (Below w.heap.size w w1) := Below.of_five hb.toBelow
  clear hb
  rcases hto with ⟨rfl, rfl, hr⟩ | ⟨hc, rfl⟩
  · have c1 := hr.cell1
    clear hr
    go_wp2
    go_region
    go_wp2
    refine leaves_cons (f := 161) (args := #[.pointer (some ⟨w.heap.size, 0, none⟩), .pointer (some ⟨w.heap.size + 1, 0, none⟩), .pointer (some ⟨w.heap.size + 1 + 1, 0, none⟩), .pointer (some ⟨w.heap.size + 1 + 1 + 1, 0, none⟩)]) (by simp) (by simp [go_sem]) ?_
    refine (idleB _ _ _ _ _).mono ?_
    rintro e u' w2 ⟨rfl, rfl, rfl⟩
    refine ⟨.tuple #[.string v, .int .i64 ((p : Int) + n), .int .i64 0], by simp [results, Tryz.results158, go_sem, cV, cN, cE], ?_, ?_⟩
    · rfl
    · exact ((((HB.out.setCell (by simp) _).setCell (by simp) _).setCell (by simp; omega) _).setCell (by simp; omega) _).drew
  · refine leaves_cons (f := 161) (args := #[.pointer (some ⟨w.heap.size, 0, none⟩), .pointer (some ⟨w.heap.size + 1, 0, none⟩), .pointer (some ⟨w.heap.size + 1 + 1, 0, none⟩), .pointer (some ⟨w.heap.size + 1 + 1 + 1, 0, none⟩)]) (by simp) (by simp [go_sem]) ?_
    refine (catchB c p _ _ _ _ _ _ _ [] _ cA cV cN cE fV fN fE (by omega) (by omega) (by omega)).mono ?_
    rintro e u' w2 ⟨rfl, rfl, dV, dN, dE, hb2⟩
    refine ⟨.tuple #[.string { data := #[] }, .int .i64 p, .int .i64 c], by simp [results, Tryz.results158, go_sem, dV, dN, dE], ?_, ?_⟩
    · exact ⟨fun h => absurd h hc, fun _ => rfl⟩
    · exact HB.out.trans (hb2 _ (by omega) (by omega) (by omega))

set_option maxRecDepth 100000 in
set_option maxHeartbeats 1600000 in
theorem readB_out (s : ByteArray) (p : Int) (w : World) (hp : p < 0 ∨ (s.size : Int) < p) (h0 : -9223372036854775808 ≤ p) (h1 : p ≤ 9223372036854775807) (hs : s.size ≤ 1125899906842624) :
    Calls Tryz.prog 158 #[.string s, .int .i64 p, .func (.func 159) #[] #[]] w fun e w' => e = .returned (.tuple #[.string { data := #[] }, .int .i64 p, .int .i64 10]) ∧ Below w.heap.size w w' := by
  have hmf : ∀ (fn : Fn) (first cap : Array Value) (w : World), (Instr.makeFunc fn first cap).run Tryz.prog w = .ok (.func fn first cap) w := fun _ _ _ _ => rfl
  rcases hp with hp | hp
  all_goals
    go_enter_defers Tryz.func158, Tryz.ntmps158
    go_wp2
    refine leaves_cons (f := 161) (args := #[.pointer (some ⟨w.heap.size, 0, none⟩), .pointer (some ⟨w.heap.size + 1, 0, none⟩), .pointer (some ⟨w.heap.size + 1 + 1, 0, none⟩), .pointer (some ⟨w.heap.size + 1 + 1 + 1, 0, none⟩)]) (by simp) (by simp [go_sem]) ?_
    refine (catchB 10 p _ _ _ _ (.string { data := #[] }) (.int .i64 0) (.int .i64 0) [] _ (by simp [go_sem]) (by simp [go_sem]) (by simp [go_sem]) (by simp [go_sem]) (by simp [go_sem]) (by simp [go_sem]) (by simp [go_sem]) (by omega) (by omega) (by omega)).mono ?_
    rintro e u' w2 ⟨rfl, rfl, dV, dN, dE, hb2⟩
    refine ⟨.tuple #[.string { data := #[] }, .int .i64 p, .int .i64 10], by simp [results, Tryz.results158, go_sem, dV, dN, dE], rfl, ?_⟩
    exact ((((((Below.refl _ _).alloc (Nat.le_refl _) _).alloc (by simp) _).alloc (by simp; omega) _).alloc (by simp; omega) _).trans (hb2 _ (by omega) (by omega) (by omega)))
end Go.Proofs.YtjcffcpmegpjeaaGreatDoor

namespace Go.Proofs.YtjcffcpmegpjeaaGreatDoor
open Go.ChangeShapes Go.WideShapes Go.ChangeAt Go.RowKit
set_option linter.unusedVariables false
set_option maxRecDepth 100000

theorem ruF_bound (s : ByteArray) (p : Nat) : ∀ f n acc, f + n = 10 → acc < 128 ^ n → (ruF s p f n acc).1 < 18446744073709551616 ∧ (ruF s p f n acc).2.1 ≤ 10 ∧ 0 ≤ (ruF s p f n acc).2.2 ∧ (ruF s p f n acc).2.2 ≤ 19 ∧ ((ruF s p f n acc).2.2 = 0 → p + (ruF s p f n acc).2.1 ≤ s.size)
  | 0, n, acc, _, _ => by simp [ruF]
  | f + 1, n, acc, hf, ha => by
    by_cases h : p + n < s.size
    · by_cases h9 : n = 9 ∧ 1 < s[p + n].toNat
      · rw [ruF_far s p f n acc h h9.1 h9.2]; simp
      · by_cases hb : 128 ≤ s[p + n].toNat
        · have h2 : s[p + n].toNat % 128 * 128 ^ n ≤ 127 * 128 ^ n := Nat.mul_le_mul (by omega) (Nat.le_refl _)
          rw [ruF_more s p f n acc h (fun e => h9 ⟨e, by omega⟩) hb]
          exact ruF_bound s p f (n + 1) _ (by omega) (by rw [Nat.pow_succ]; omega)
        · by_cases hc : s[p + n].toNat = 0 ∧ 0 < n
          · rw [ruF_canon s p f n acc h hc.2 hc.1]; simp
          · rw [ruF_done s p f n acc h (by omega) (by omega) (by omega)]
            have hw := worth_lt (s[p + n].toNat) n (by omega) (by omega) (by omega)
            refine ⟨?_, by simp; omega, by simp, by simp, fun _ => by simp; omega⟩
            simp only
            have hd : 128 ^ n ∣ 18446744073709551616 := by
              rcases Nat.lt_or_ge n 10 with h10 | h10
              · exact ⟨2 ^ (64 - 7 * n), by
                  have : n = 0 ∨ n = 1 ∨ n = 2 ∨ n = 3 ∨ n = 4 ∨ n = 5 ∨ n = 6 ∨ n = 7 ∨ n = 8 ∨ n = 9 := by omega
                  rcases this with rfl | rfl | rfl | rfl | rfl | rfl | rfl | rfl | rfl | rfl <;> rfl⟩
              · omega
            obtain ⟨q, hq⟩ := hd
            have h3 : s[p + n].toNat < q := by
              apply Nat.lt_of_mul_lt_mul_left (a := 128 ^ n)
              rw [← hq, Nat.mul_comm]; exact hw
            have h4 : (s[p + n].toNat + 1) * 128 ^ n ≤ q * 128 ^ n := Nat.mul_le_mul (by omega) (Nat.le_refl _)
            rw [Nat.add_mul, Nat.mul_comm q] at h4
            omega
    · rw [ruF_short s p f n acc h]; simp
theorem ruV_bound (s : ByteArray) (p : Nat) : (ruV s p).1 < 18446744073709551616 ∧ (ruV s p).2.1 ≤ 10 ∧ 0 ≤ (ruV s p).2.2 ∧ (ruV s p).2.2 ≤ 19 ∧ ((ruV s p).2.2 = 0 → p + (ruV s p).2.1 ≤ s.size) := ruF_bound s p 10 0 0 rfl (by simp)

/-- The number with a sign that stands for one without. -/
def sdec (u : Nat) : Int := if u % 2 = 0 then ((u / 2 : Nat) : Int) else -1 - ((u / 2 : Nat) : Int)
theorem sdec_xor (u : Nat) (h : u < 18446744073709551616) : bits .xor .i64 ((u : Int) / 2) (-((u : Int) % 2)) = sdec u := by
  unfold sdec
  have hq : u / 2 < 9223372036854775808 := by omega
  by_cases e : u % 2 = 0
  · rw [if_pos e, show ((u : Int) % 2) = 0 from by omega, show (u : Int) / 2 = ((u / 2 : Nat) : Int) from by omega]
    generalize u / 2 = q at *
    show IntKind.i64.wrap ((BitVec.ofInt 64 (q : Int) ^^^ BitVec.ofInt 64 (-0)).toNat : Int) = _
    rw [show BitVec.ofInt 64 (-0) = 0#64 from rfl, BitVec.xor_zero, ofInt_u64 q (by omega), IntKind.wrap_i64]
    omega
  · rw [if_neg e, show ((u : Int) % 2) = 1 from by omega, show (u : Int) / 2 = ((u / 2 : Nat) : Int) from by omega]
    generalize u / 2 = q at *
    show IntKind.i64.wrap ((BitVec.ofInt 64 (q : Int) ^^^ BitVec.ofInt 64 (-1)).toNat : Int) = _
    rw [show BitVec.ofInt 64 (-1) = BitVec.allOnes 64 from rfl, BitVec.xor_allOnes, BitVec.toNat_not, ofInt_u64 q (by omega), IntKind.wrap_i64]
    omega

/-- n bytes from p on, the lowest first. -/
def fxV (s : ByteArray) (p : Nat) : Nat → Nat
  | 0 => 0
  | n + 1 => fxV s p n + (if h : p + n < s.size then s[p + n].toNat else 0) * 256 ^ n
theorem fxV_succ (s : ByteArray) (p n : Nat) (h : p + n < s.size) : fxV s p (n + 1) = fxV s p n + s[p + n].toNat * 256 ^ n := by simp [fxV, h]
theorem fxV_lt (s : ByteArray) (p : Nat) : ∀ n, fxV s p n < 256 ^ n
  | 0 => by simp [fxV]
  | n + 1 => by
    have h1 := fxV_lt s p n
    unfold fxV
    split
    · rename_i h
      have hb : s[p + n].toNat ≤ 255 := by have := s[p + n].toNat_lt; omega
      have h2 : s[p + n].toNat * 256 ^ n ≤ 255 * 256 ^ n := Nat.mul_le_mul hb (Nat.le_refl _)
      rw [Nat.pow_succ]; omega
    · rw [Nat.pow_succ]; omega
theorem or_shift8 (A b n : Nat) (ha : A < 256 ^ n) (hb : b < 256) (hn : n ≤ 7) :
    bits .or .u64 (A : Int) (IntKind.u64.wrap ((b : Int) * 2 ^ (8 * n))) = ((A + b * 256 ^ n : Nat) : Int) := by
  have h3 : (256 : Nat) ^ n ≤ 256 ^ 7 := Nat.pow_le_pow_right (by omega) hn
  have h4 : b * 256 ^ n ≤ 255 * 256 ^ 7 := Nat.mul_le_mul (by omega) h3
  have h5 : 255 * 256 ^ 7 < 18446744073709551616 := by decide
  have h6 : (256 : Nat) ^ 7 < 18446744073709551616 := by decide
  have e2 : (b : Int) * 2 ^ (8 * n) = ((b * 256 ^ n : Nat) : Int) := by rw [Int.pow_mul]; simp
  rw [IntKind.wrap_u64, e2, Int.emod_eq_of_lt (by omega) (by omega), u64_or_nat _ _ (by omega) (by omega)]
  have := nat_join (8 * n) (b * 256 ^ n) A (by rw [show (256 : Nat) ^ n = 2 ^ (8 * n) from by rw [Nat.pow_mul]]; simp) (by rw [Nat.pow_mul, show 2 ^ 8 = 256 from rfl]; omega)
  rw [Nat.or_comm, this, Nat.add_comm]
end Go.Proofs.YtjcffcpmegpjeaaGreatDoor

namespace Go.Proofs.YtjcffcpmegpjeaaGreatDoor
open Go.ChangeShapes Go.WideShapes Go.ChangeAt Go.RowKit
set_option linter.unusedVariables false
set_option maxRecDepth 100000

theorem took_i64 {R : Nat} {s : ByteArray} {p n : Nat} {c : Int} {w w' : World} {x y : Int} (h : x = y) (hb : Fr R w w') (hc : c = 0) (hr : Rd w' R s (p + n)) : Took R s p w (.int .i64 y) n c (.returned (.int .i64 x)) w' := by
  rw [h]; exact ⟨hb, .inl ⟨hc, rfl, hr⟩⟩
theorem and1 (u : Nat) (h : u < 18446744073709551616) : bits .and .u64 (u : Int) 1 = (u : Int) % 2 := by
  have := u64_and_nat u 1 h (by omega)
  rw [show ((1 : Nat) : Int) = 1 from rfl] at this
  rw [this, nat_mask1]; omega

set_option maxRecDepth 100000 in
set_option maxHeartbeats 800000 in
theorem svarint_read (R : Nat) (s : ByteArray) (p : Nat) (w : World) (h : Rd w R s p) (hp : p ≤ s.size) (hs : s.size ≤ 1125899906842624) :
    Calls Tryz.prog 153 #[.pointer (some ⟨R, 0, none⟩)] w fun e w' => Took R s p w (.int .i64 (sdec (ruV s p).1)) (ruV s p).2.1 (ruV s p).2.2 e w' := by
  have hb := (ruV_bound s p).1
  have HX : Hid _ := sdec_xor _ hb
  go_enter Tryz.func153, Tryz.ntmps153
  go_wp2_with fail
  refine (uvarint_read R s p w h hp hs).mono ?_
  rintro e w1 ⟨hb1, ⟨hc, rfl, hr⟩ | ⟨hc, rfl⟩⟩
  · have HT : Hid (Rd w1 R s (p + (ruV s p).2.1)) := hr
    have HB : Hid (Fr R w w1) := hb1
    have HC : Hid ((ruV s p).2.2 = 0) := hc
    clear hr hb1 hc h
    have hand := and1 _ hb
    go_wp2
    go_ret
    exact took_i64 HX.out HB.out HC.out HT.out
  · exact ⟨rfl, hb1, .inr ⟨hc, rfl⟩⟩

theorem ext_get (s : ByteArray) (p n i : Nat) (h : p + n ≤ s.size) (hi : i < n) (hz : i < (s.extract p (p + n)).size) (hz2 : p + i < s.size) : (s.extract p (p + n))[i]'hz = s[p + i] := by
  rw [ByteArray.getElem_extract]
theorem ext_size (s : ByteArray) (p n : Nat) (h : p + n ≤ s.size) : (s.extract p (p + n)).size = n := by
  rw [ByteArray.size_extract]; omega
/-- The error of n bytes from p on. -/
def fxE (s : ByteArray) (p n : Nat) : Int := if p + n ≤ s.size then 0 else 11
/-- What is read of a text from p on, its length ahead, of at most m bytes: the text, how many bytes, the error. -/
def rbV (s : ByteArray) (p m : Nat) : ByteArray × Nat × Int :=
  if (ruV s p).2.2 = 0 then
    (if m < (ruV s p).1 then (ByteArray.empty, 0, 4)
     else if p + (ruV s p).2.1 + (ruV s p).1 ≤ s.size then (s.extract (p + (ruV s p).2.1) (p + (ruV s p).2.1 + (ruV s p).1), (ruV s p).2.1 + (ruV s p).1, 0)
     else (ByteArray.empty, 0, 11))
  else (ByteArray.empty, 0, (ruV s p).2.2)
set_option maxRecDepth 100000 in
set_option maxHeartbeats 800000 in
theorem blob_read (R : Nat) (s : ByteArray) (p m : Nat) (w : World) (h : Rd w R s p) (hp : p ≤ s.size) (hm : m ≤ 1048576) (hs : s.size ≤ 1125899906842624) :
    Calls Tryz.prog 156 #[.pointer (some ⟨R, 0, none⟩), .int .i64 m] w fun e w' => Took R s p w (.string (rbV s p m).1) (rbV s p m).2.1 (rbV s p m).2.2 e w' := by
  have hb := ruV_bound s p
  go_enter Tryz.func156, Tryz.ntmps156
  go_wp2_with fail
  refine (uvarint_read R s p w h hp hs).mono ?_
  rintro e w1 ⟨hb1, ⟨hc, rfl, hr⟩ | ⟨hc, rfl⟩⟩
  · have HB : Hid (Fr R w w1) := hb1
    have hin := hb.2.2.2.2 hc
    have HE : Hid (rbV s p m = if m < (ruV s p).1 then (ByteArray.empty, 0, 4) else if p + (ruV s p).2.1 + (ruV s p).1 ≤ s.size then (s.extract (p + (ruV s p).2.1) (p + (ruV s p).2.1 + (ruV s p).1), (ruV s p).2.1 + (ruV s p).1, 0) else (ByteArray.empty, 0, 11)) := by
      show _ = _
      unfold rbV; rw [if_pos hc]
    have HR : Hid (Rd w1 R s (p + (ruV s p).2.1)) := hr
    have hu := hb.1
    clear hb1 hr hc hb h
    by_cases c1 : m < (ruV s p).1
    · go_wp2_with fail
      exact ⟨rfl, HB.out, .inr ⟨by rw [HE.out, if_pos c1]; decide, by rw [HE.out, if_pos c1]; rfl⟩⟩
    · by_cases c2 : p + (ruV s p).2.1 + (ruV s p).1 ≤ s.size
      · go_wp2_with fail
        refine (next_some R s (p + (ruV s p).2.1) (ruV s p).1 w1 HR.out hs c2).mono ?_
        rintro e w2 ⟨rfl, hr2, hb2⟩
        have HR2 : Hid _ := hr2
        have HB2 : Hid (Fr R w w2) := HB.out.trans hb2
        clear hr2 hb2
        go_wp2
        go_ret
        refine ⟨HB2.out, .inl ⟨by rw [HE.out, if_neg c1, if_pos c2], ?_, ?_⟩⟩
        · rw [HE.out, if_neg c1, if_pos c2]; rfl
        · rw [HE.out, if_neg c1, if_pos c2]; simp only []; rw [← Nat.add_assoc]; exact HR2.out
      · go_wp2_with fail
        refine (next_short R s (p + (ruV s p).2.1) _ w1 HR.out (by omega) hs (by omega)).mono ?_
        rintro e w2 ⟨rfl, hb2⟩
        exact ⟨rfl, HB.out.trans hb2, .inr ⟨by rw [HE.out, if_neg c1, if_neg c2]; decide, by rw [HE.out, if_neg c1, if_neg c2]; rfl⟩⟩
  · exact ⟨rfl, hb1, .inr ⟨by unfold rbV; rw [if_neg hc]; exact hc, by unfold rbV; rw [if_neg hc]; rfl⟩⟩
set_option maxRecDepth 100000 in
theorem blob1_read (R : Nat) (s : ByteArray) (p : Nat) (w : World) (h : Rd w R s p) (hp : p ≤ s.size) (hs : s.size ≤ 1125899906842624) :
    Calls Tryz.prog 159 #[.pointer (some ⟨R, 0, none⟩)] w fun e w' => Took R s p w (.string (rbV s p 1048576).1) (rbV s p 1048576).2.1 (rbV s p 1048576).2.2 e w' := by
  go_enter Tryz.func159, Tryz.ntmps159
  go_wp2_with fail
  refine (blob_read R s p 1048576 w h hp (by omega) hs).mono ?_
  rintro e w1 ⟨hb1, ⟨hc, rfl, hr⟩ | ⟨hc, rfl⟩⟩
  · have HB : Hid (Fr R w w1) := hb1
    have HC : Hid _ := hc
    have HR : Hid _ := hr
    clear hb1 hc hr h
    go_wp2
    go_ret
    exact ⟨HB.out, .inl ⟨HC.out, rfl, HR.out⟩⟩
  · exact ⟨rfl, hb1, .inr ⟨hc, rfl⟩⟩
end Go.Proofs.YtjcffcpmegpjeaaGreatDoor
