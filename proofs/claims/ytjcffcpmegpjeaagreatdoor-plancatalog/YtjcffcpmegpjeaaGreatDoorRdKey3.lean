import Derived.Test.YtjcffcpmegpjeaaGreatDoorReads2
import Derived.Test.YtjcffcpmegpjeaaGreatDoorKeys7
import Derived.Laws.DeepNot64
namespace Go.Proofs.YtjcffcpmegpjeaaGreatDoor
open Go.ChangeShapes Go.WideShapes Go.ChangeAt Go.RowKit
set_option linter.unusedVariables false
set_option maxRecDepth 100000

theorem took_e {R : Nat} {s : ByteArray} {p n : Nat} {w w' : World} {c c' : Int} (h : c = c') (hc : c' ≠ 0) (hb : Fr R w w') (v : Value) : Took R s p w v n c (oops c') w' := ⟨hb, .inr ⟨by rw [h]; exact hc, by rw [h]⟩⟩
theorem took_v {R : Nat} {s : ByteArray} {p n : Nat} {w w' : World} {c : Int} {v v' : Value} (h : c = 0) (hv : v' = v) (hb : Fr R w w') (hr : Rd w' R s (p + n)) : Took R s p w v n c (.returned v') w' := ⟨hb, .inl ⟨h, by rw [hv], hr⟩⟩
/-- The worth of n bytes from p on, the highest first, each with the bits of t turned. -/
def magV (s : ByteArray) (p t : Nat) : Nat → Nat
  | 0 => 0
  | n + 1 => magV s p t n * 256 + ((if h : p + n < s.size then s[p + n].toNat else 0) ^^^ t)
theorem magV_succ (s : ByteArray) (p t n : Nat) (h : p + n < s.size) : magV s p t (n + 1) = magV s p t n * 256 + (s[p + n].toNat ^^^ t) := by simp [magV, h]
theorem magV_lt (s : ByteArray) (p t : Nat) (ht : t < 256) : ∀ n, magV s p t n < 256 ^ n
  | 0 => by simp [magV]
  | n + 1 => by
    have ih := magV_lt s p t ht n
    unfold magV
    have hb : ((if h : p + n < s.size then s[p + n].toNat else 0) ^^^ t) < 256 := by
      refine Nat.xor_lt_two_pow (n := 8) ?_ ht
      split
      · exact s[p + n].toNat_lt
      · omega
    rw [Nat.pow_succ]
    omega
/-- The error of such a number. -/
def magE (s : ByteArray) (p t n : Nat) : Int := if s.size < p + n then 11 else if szB (magV s p t n) < n then 13 else if 9223372036854775808 ≤ magV s p t n then 10 else 0
theorem or_low (A b : Nat) (hb : b < 256) (ha : A * 256 < 18446744073709551616) : bits .or .u64 ((A * 256 : Nat) : Int) ((b : Nat) : Int) = ((A * 256 + b : Nat) : Int) := by
  rw [u64_or_nat _ _ ha (by omega), nat_join 8 (A * 256) b (by omega) (by omega)]
set_option maxRecDepth 100000 in
set_option maxHeartbeats 1600000 in
theorem mag_read (R : Nat) (s : ByteArray) (p n t : Nat) (w : World) (h : Rd w R s p) (hp : p ≤ s.size) (hn : n ≤ 8) (ht : t < 256) (hs : s.size ≤ 1125899906842624) :
    Calls Tryz.prog 151 #[.pointer (some ⟨R, 0, none⟩), .int .i64 n, .int .u8 t] w (Took R s p w (.int .u64 (magV s p t n : Nat)) n (magE s p t n)) := by
  by_cases hl : s.size < p + n
  · have HE : Hid (magE s p t n = 11) := by show _ = _; unfold magE; rw [if_pos hl]
    go_enter Tryz.func151, Tryz.ntmps151
    go_wp2_with fail
    refine (next_short R s p n w h hp hs (by omega)).mono ?_
    rintro e w1 ⟨rfl, hb⟩
    exact ⟨rfl, took_e HE.out (by decide) hb _⟩
  · go_enter Tryz.func151, Tryz.ntmps151
    go_wp2_with fail
    refine (next_some R s p n w h hs (by omega)).mono ?_
    rintro e w1 ⟨rfl, hr, hb⟩
    have HR : Hid (Rd w1 R s (p + n)) := hr
    have HB : Hid (Fr R w w1) := hb
    have HG : Hid (∀ i (hi : i < n) (hz : i < (s.extract p (p + n)).size) (hz2 : p + i < s.size), (s.extract p (p + n))[i]'hz = s[p + i]) := fun i hi hz hz2 => ext_get s p n i (by omega) hi hz hz2
    have hes := ext_size s p n (by omega)
    clear hr hb h
    generalize s.extract p (p + n) = x at *
    go_wp2
    go_loop [8, 14] (fun u i => ∃ k : Nat, k ≤ n ∧ i = .int .i64 k ∧ u = .int .u64 (magV s p t k : Nat)) (fun _ i => n - (intOf i).toNat)
    case atStart => exact ⟨0, by omega, rfl, rfl⟩
    case round =>
      obtain ⟨k, hk, rfl, rfl⟩ := hrel
      have hv := magV_lt s p t ht k
      by_cases h1 : k < n
      · have HS : Hid (magV s p t (k + 1) = magV s p t k * 256 + (s[p + k].toNat ^^^ t)) := magV_succ s p t k (by omega)
        have hxe := HG.out k h1 (by omega) (by omega)
        have h7 : (256 : Nat) ^ k ≤ 256 ^ 7 := Nat.pow_le_pow_right (by omega) (by omega)
        have h77 : (256 : Nat) ^ 7 = 72057594037927936 := by decide
        generalize magV s p t k = A at *
        have hkx : k < x.size := by omega
        have hb := s[p + k].toNat_lt
        have hx1 : bits .xor .u8 ((s[p + k].toNat : Nat) : Int) (t : Int) = ((s[p + k].toNat ^^^ t : Nat) : Int) := u8_xor_nat _ _ (by omega) ht
        have hxb : s[p + k].toNat ^^^ t < 256 := Nat.xor_lt_two_pow (n := 8) (by omega) ht
        generalize s[p + k].toNat ^^^ t = y at *
        have hw : IntKind.u64.wrap ((A : Int) * 256) = (A : Int) * 256 := by rw [IntKind.wrap_u64]; omega
        have hwy : IntKind.u64.wrap (y : Int) = (y : Int) := by rw [IntKind.wrap_u64]; omega
        have hor : bits .or .u64 ((A : Int) * 256) (y : Int) = ((A * 256 + y : Nat) : Int) := by have := or_low A y hxb (by omega); rw [show ((A * 256 : Nat) : Int) = (A : Int) * 256 by omega] at this; exact this
        go_wp2
        go_round
        case rel => exact ⟨k + 1, by omega, by go_num, by rw [HS.out]; go_num⟩
        case measure => simp [intOf]; omega
      · have e : k = n := by omega
        subst e
        have h8 : (256 : Nat) ^ k ≤ 256 ^ 8 := Nat.pow_le_pow_right (by omega) (by omega)
        have h88 : (256 : Nat) ^ 8 = 18446744073709551616 := by decide
        have HE : Hid (magE s p t k = if szB (magV s p t k) < k then 13 else if 9223372036854775808 ≤ magV s p t k then 10 else 0) := by show _ = _; unfold magE; rw [if_neg (by omega)]
        generalize magV s p t k = A at *
        have hu : A < 18446744073709551616 := by omega
        clear HG h8 h88 hv
        by_cases hc : szB A < k
        · rw [if_pos hc] at HE
          have hc1 : ((szB A : Nat) : Int) < (k : Int) := by omega
          go_wp2_with (go_at_call 148; refine (bytes_any A _ hu).mono ?_; rintro e w' ⟨rfl, rfl⟩)
          exact ⟨rfl, took_e HE.out (by decide) HB.out _⟩
        · rw [if_neg hc] at HE
          have hc1 : ¬ (((szB A : Nat) : Int) < (k : Int)) := by omega
          by_cases hr : 9223372036854775808 ≤ A
          · rw [if_pos hr] at HE
            have hr1 : (9223372036854775808 : Int) ≤ (A : Int) := by omega
            go_wp2_with (go_at_call 148; refine (bytes_any A _ hu).mono ?_; rintro e w' ⟨rfl, rfl⟩)
            exact ⟨rfl, took_e HE.out (by decide) HB.out _⟩
          · rw [if_neg hr] at HE
            have hr1 : (A : Int) < 9223372036854775808 := by omega
            clear hr
            go_wp2_with fail
            refine (bytes_any A _ hu).mono ?_
            rintro e w' ⟨rfl, rfl⟩
            have HE2 : Hid (magE s p t k = 0) := HE.out
            clear HE hu hc
            generalize ((szB A : Nat) : Int) = sz at *
            generalize (A : Int) = z at *
            go_wp2
            go_ret
            exact took_v HE2.out rfl HB.out HR.out
end Go.Proofs.YtjcffcpmegpjeaaGreatDoor

namespace Go.Proofs.YtjcffcpmegpjeaaGreatDoor
open Go.ChangeShapes Go.WideShapes Go.ChangeAt Go.RowKit
set_option linter.unusedVariables false
set_option maxRecDepth 100000

/-- A value as the program hands it about. -/
def vA (k i : Int) (t : ByteArray) : Value := .agg #[.int .i64 k, .int .i64 i, .string t]
theorem infoV3 : (Tryz.prog.info? 59).map (·.size) = some 3 := by kernel_rfl
theorem ret_val {fn : Func} {p : Tmp} (h : fn.results = #[.cell p 59]) (tmps : Array Value) (w : World) (k i : Int) (t : ByteArray) (g : Nat) (hp : tmps.getD p undef = .pointer (some ⟨g, 0, none⟩)) (hg : w.heap[g]? = some (.cells #[.int .i64 k, .int .i64 i, .string t] 59 (0, 0))) :
    (results fn tmps).run Tryz.prog w = .ok (vA k i t) w :=
  results_cell_row h tmps w g 59 _ (0, 0) _ hp hg Tryz.underlying59 rfl infoV3
set_option maxRecDepth 100000 in
theorem boolValue_any (v : Int) (w : World) (h0 : 0 ≤ v) (h1 : v ≤ 255) : Calls Tryz.prog 147 #[.int .u8 v] w fun e w' => e = .returned (vA 1 v ⟨#[]⟩) ∧ Below w.heap.size w w' := by
  go_enter Tryz.func147, Tryz.ntmps147
  go_wp2
  exact bodyPost_ret (ret_val (p := 2) rfl _ _ 1 v ⟨#[]⟩ w.heap.size (by rfl) (heap_alloc_new w _)) rfl ⟨rfl, (Below.refl _ _).alloc (Nat.le_refl _) _⟩
set_option maxRecDepth 100000 in
theorem intValue_any (v : Int) (w : World) : Calls Tryz.prog 150 #[.int .i64 v] w fun e w' => e = .returned (vA 2 v ⟨#[]⟩) ∧ Below w.heap.size w w' := by
  go_enter Tryz.func150, Tryz.ntmps150
  go_wp2
  exact bodyPost_ret (ret_val (p := 2) rfl _ _ 2 v ⟨#[]⟩ w.heap.size (by rfl) (heap_alloc_new w _)) rfl ⟨rfl, (Below.refl _ _).alloc (Nat.le_refl _) _⟩
set_option maxRecDepth 100000 in
theorem textValue_any (t : ByteArray) (w : World) : Calls Tryz.prog 155 #[.string t] w fun e w' => e = .returned (vA 3 0 t) ∧ Below w.heap.size w w' := by
  go_enter Tryz.func155, Tryz.ntmps155
  go_wp2
  exact bodyPost_ret (ret_val (p := 2) rfl _ _ 3 0 t w.heap.size (by rfl) (heap_alloc_new w _)) rfl ⟨rfl, (Below.refl _ _).alloc (Nat.le_refl _) _⟩
theorem Rd.lt {w : World} {R : Nat} {s : ByteArray} {p : Nat} (h : Rd w R s p) : R < w.heap.size := by
  unfold Rd at h
  exact (Array.getElem?_eq_some_iff.1 h).1
theorem Rd.later {w w' : World} {R : Nat} {s : ByteArray} {p : Nat} (h : Rd w R s p) (hb : Below w.heap.size w w') : Rd w' R s p := by
  have hl := h.lt
  unfold Rd at h ⊢
  rw [hb.block R hl]
  exact h
/-- What a function with a value as its result begins with: a block of its own for it. -/
theorem zval {R : Nat} {s : ByteArray} {p : Nat} (w : World) (h : Rd w R s p) : ∀ w1, Below (w.alloc (.cells #[.int .i64 0, .int .i64 0, .string ⟨#[]⟩] 59)).heap.size (w.alloc (.cells #[.int .i64 0, .int .i64 0, .string ⟨#[]⟩] 59)) w1 →
    Hid (Fr R w w1) ∧ Hid (Rd w1 R s p) ∧ Hid (w1.heap[w.heap.size]? = some (.cells #[.int .i64 0, .int .i64 0, .string ⟨#[]⟩] 59 (0, 0))) ∧ w1.cell? ⟨w.heap.size, 0, none⟩ = some (.int .i64 0) ∧ w1.cell? ⟨w.heap.size, 1, none⟩ = some (.int .i64 0) ∧ w1.cell? ⟨w.heap.size, 2, none⟩ = some (.string ⟨#[]⟩) ∧ w1.frozen? ⟨w.heap.size, 0, none⟩ = false ∧ w1.frozen? ⟨w.heap.size, 1, none⟩ = false ∧ w1.frozen? ⟨w.heap.size, 2, none⟩ = false := by
  intro w1 hb
  have h0 : Below w.heap.size w (w.alloc (.cells #[.int .i64 0, .int .i64 0, .string ⟨#[]⟩] 59)) := (Below.refl _ _).alloc (Nat.le_refl _) _
  have hr := (h.later h0).later hb
  have hl : w.heap.size < (w.alloc (.cells #[.int .i64 0, .int .i64 0, .string ⟨#[]⟩] 59)).heap.size := by show _ < (Array.push _ _).size; simp
  have hg : w1.heap[w.heap.size]? = some (.cells #[.int .i64 0, .int .i64 0, .string ⟨#[]⟩] 59 (0, 0)) := (hb.block _ hl).trans (heap_alloc_new w _)
  exact ⟨Fr.of (Nat.le_of_lt h.lt) (h0.trans (hb.mono (Nat.le_of_lt hl))), hr, hg, by simp [World.cell?, hg], by simp [World.cell?, hg], by simp [World.cell?, hg], by simp [World.frozen?, hg], by simp [World.frozen?, hg], by simp [World.frozen?, hg]⟩
theorem set3 {w : World} {n : Nat} {t : TypeId} {a b c x y z : Value} (h : w.heap[n]? = some (.cells #[a, b, c] t (0, 0))) : (((w.setCell ⟨n, 0, none⟩ x).setCell ⟨n, 1, none⟩ y).setCell ⟨n, 2, none⟩ z).heap[n]? = some (.cells #[x, y, z] t (0, 0)) := by
  simp [World.setCell, Array.getElem?_modify, h]
theorem Rd.set3 {w : World} {R n p : Nat} {s : ByteArray} {x y z : Value} (h : Rd w R s p) (hn : n ≠ R) : Rd (((w.setCell ⟨n, 0, none⟩ x).setCell ⟨n, 1, none⟩ y).setCell ⟨n, 2, none⟩ z) R s p := by
  unfold Rd at h ⊢
  simp [World.setCell, Array.getElem?_modify, h, hn]
set_option maxRecDepth 100000 in
theorem rdNull_key (R : Nat) (s : ByteArray) (p : Nat) (tag : Int) (w : World) (h : Rd w R s p) :
    Calls Tryz.prog 121 #[.pointer (some ⟨R, 0, none⟩), .int .u8 tag] w (Took R s p w (vA 0 0 ⟨#[]⟩) 0 0) := by
  go_enter Tryz.func121, Tryz.ntmps121
  go_wp2
  have hb : Below w.heap.size w (w.alloc (.cells #[.int .i64 0, .int .i64 0, .string ⟨#[]⟩] 59)) := (Below.refl _ _).alloc (Nat.le_refl _) _
  exact bodyPost_ret (ret_val (p := 4) rfl _ _ 0 0 ⟨#[]⟩ w.heap.size (by rfl) (heap_alloc_new w _)) rfl (took_v rfl rfl (Fr.of (Nat.le_of_lt h.lt) hb) (h.later hb))
set_option maxRecDepth 100000 in
theorem rdBool_key (R : Nat) (s : ByteArray) (p : Nat) (tag : Int) (w : World) (h : Rd w R s p) (h0 : 32 ≤ tag) (h1 : tag ≤ 33) :
    Calls Tryz.prog 126 #[.pointer (some ⟨R, 0, none⟩), .int .u8 tag] w (Took R s p w (vA 1 (tag - 32) ⟨#[]⟩) 0 0) := by
  have Z := zval w h
  go_enter Tryz.func126, Tryz.ntmps126
  go_wp2_with fail
  refine (boolValue_any (tag - 32) _ (by omega) (by omega)).mono ?_
  rintro e w1 ⟨rfl, hb1⟩
  obtain ⟨HB1, HR1, HC1, c0, c1, c2, f0, f1, f2⟩ := Z w1 hb1
  clear hb1 Z
  unfold vA
  go_wp2
  refine bodyPost_ret (ret_val (p := 4) rfl _ _ 1 (tag - 32) ⟨#[]⟩ w.heap.size (by rfl) (set3 HC1.out)) rfl ?_
  exact took_v rfl rfl (((HB1.out.setOwn (Nat.le_of_lt h.lt) (Nat.le_refl _) _).setOwn (Nat.le_of_lt h.lt) (Nat.le_refl _) _).setOwn (Nat.le_of_lt h.lt) (Nat.le_refl _) _) (HR1.out.set3 (Nat.ne_of_gt h.lt))
set_option maxRecDepth 100000 in
theorem kind_tag (tag : Int) (w : World) (h0 : 0 ≤ tag) (h1 : tag ≤ 255) :
    Calls Tryz.prog 141 #[.int .u8 tag] w fun e w' => w' = w ∧ e = if tag = 16 then .returned (.int .i64 0) else if tag = 32 ∨ tag = 33 then .returned (.int .i64 1) else if 47 ≤ tag ∧ tag ≤ 64 then .returned (.int .i64 2) else if tag = 80 then .returned (.int .i64 3) else oops 14 := by
  by_cases a1 : tag = 16
  · rw [if_pos a1]
    subst a1
    go_enter Tryz.func141, Tryz.ntmps141
    go_wp2
    go_ret
    exact ⟨rfl, rfl⟩
  rw [if_neg a1]
  have t1 : (tag == 16) = false := by simpa using a1
  by_cases a2 : tag = 32 ∨ tag = 33
  · rw [if_pos a2]
    rcases a2 with rfl | rfl
    all_goals
      go_enter Tryz.func141, Tryz.ntmps141
      go_wp2
      go_ret
      exact ⟨rfl, rfl⟩
  rw [if_neg a2]
  have t2 : (tag == 32) = false := by simp; omega
  have t3 : (tag == 33) = false := by simp; omega
  by_cases a3 : 47 ≤ tag ∧ tag ≤ 64
  · rw [if_pos a3]
    obtain ⟨u1, u2⟩ := a3
    go_enter Tryz.func141, Tryz.ntmps141
    go_wp2
    go_ret
    exact ⟨rfl, rfl⟩
  rw [if_neg a3]
  by_cases a4 : tag = 80
  · rw [if_pos a4]
    subst a4
    go_enter Tryz.func141, Tryz.ntmps141
    go_wp2
    go_ret
    exact ⟨rfl, rfl⟩
  rw [if_neg a4]
  have t5 : (tag == 80) = false := by simpa using a4
  by_cases u1 : tag < 47
  · go_enter Tryz.func141, Tryz.ntmps141
    go_wp2
    exact ⟨rfl, rfl, rfl⟩
  · have u2 : 64 < tag := by omega
    have u3 : 47 ≤ tag := by omega
    go_enter Tryz.func141, Tryz.ntmps141
    go_wp2
    exact ⟨rfl, rfl, rfl⟩
end Go.Proofs.YtjcffcpmegpjeaaGreatDoor

namespace Go.Proofs.YtjcffcpmegpjeaaGreatDoor
open Go.ChangeShapes Go.WideShapes Go.ChangeAt Go.RowKit
set_option linter.unusedVariables false
set_option maxRecDepth 100000

theorem zbelow (w : World) : Below w.heap.size w (w.alloc (.cells #[.int .i64 0, .int .i64 0, .string ⟨#[]⟩] 59)) := (Below.refl _ _).alloc (Nat.le_refl _) _
/-- The block of a function's own result, after a reader's method. -/
theorem zfr {R : Nat} {s : ByteArray} {p : Nat} (w : World) (h : Rd w R s p) : ∀ w1, Fr R (w.alloc (.cells #[.int .i64 0, .int .i64 0, .string ⟨#[]⟩] 59)) w1 →
    Hid (Fr R w w1) ∧ Hid (w1.heap[w.heap.size]? = some (.cells #[.int .i64 0, .int .i64 0, .string ⟨#[]⟩] 59 (0, 0))) ∧ w1.cell? ⟨w.heap.size, 0, none⟩ = some (.int .i64 0) ∧ w1.cell? ⟨w.heap.size, 1, none⟩ = some (.int .i64 0) ∧ w1.cell? ⟨w.heap.size, 2, none⟩ = some (.string ⟨#[]⟩) ∧ w1.frozen? ⟨w.heap.size, 0, none⟩ = false ∧ w1.frozen? ⟨w.heap.size, 1, none⟩ = false ∧ w1.frozen? ⟨w.heap.size, 2, none⟩ = false := by
  intro w1 hb
  have hl : w.heap.size < (w.alloc (.cells #[.int .i64 0, .int .i64 0, .string ⟨#[]⟩] 59)).heap.size := by show _ < (Array.push _ _).size; simp
  have hg : w1.heap[w.heap.size]? = some (.cells #[.int .i64 0, .int .i64 0, .string ⟨#[]⟩] 59 (0, 0)) := (hb.rest _ hl (Nat.ne_of_gt h.lt)).trans (heap_alloc_new w _)
  exact ⟨(Fr.of (Nat.le_of_lt h.lt) (zbelow w)).trans hb, hg, by simp [World.cell?, hg], by simp [World.cell?, hg], by simp [World.cell?, hg], by simp [World.frozen?, hg], by simp [World.frozen?, hg], by simp [World.frozen?, hg]⟩
theorem zcells {w1 w2 : World} {n : Nat} (hg : w1.heap[n]? = some (.cells #[.int .i64 0, .int .i64 0, .string ⟨#[]⟩] 59 (0, 0))) (hb : Below w1.heap.size w1 w2) :
    Hid (w2.heap[n]? = some (.cells #[.int .i64 0, .int .i64 0, .string ⟨#[]⟩] 59 (0, 0))) ∧ w2.cell? ⟨n, 0, none⟩ = some (.int .i64 0) ∧ w2.cell? ⟨n, 1, none⟩ = some (.int .i64 0) ∧ w2.cell? ⟨n, 2, none⟩ = some (.string ⟨#[]⟩) ∧ w2.frozen? ⟨n, 0, none⟩ = false ∧ w2.frozen? ⟨n, 1, none⟩ = false ∧ w2.frozen? ⟨n, 2, none⟩ = false := by
  have hl : n < w1.heap.size := (Array.getElem?_eq_some_iff.1 hg).1
  have hg : w2.heap[n]? = some (.cells #[.int .i64 0, .int .i64 0, .string ⟨#[]⟩] 59 (0, 0)) := (hb.block _ hl).trans hg
  exact ⟨hg, by simp [World.cell?, hg], by simp [World.cell?, hg], by simp [World.cell?, hg], by simp [World.frozen?, hg], by simp [World.frozen?, hg], by simp [World.frozen?, hg]⟩
theorem Fr.set3 {R n : Nat} {a w : World} {x y z : Value} (h : Fr R a w) (hR : R ≤ n) (hn : a.heap.size ≤ n) : Fr R a (((w.setCell ⟨n, 0, none⟩ x).setCell ⟨n, 1, none⟩ y).setCell ⟨n, 2, none⟩ z) := ((h.setOwn hR hn _).setOwn hR hn _).setOwn hR hn _
/-- The number of a tag: how many bytes, what is turned, what it is worth. -/
def tagN (tag : Int) : Nat := if 56 ≤ tag then (tag - 56).toNat else (55 - tag).toNat
def tagT (tag : Int) : Nat := if 56 ≤ tag then 0 else 255
def tagV (s : ByteArray) (p : Nat) (tag : Int) : Int := if 56 ≤ tag then (magV s p 0 (tagN tag) : Nat) else -1 - ((magV s p 255 (tagN tag) : Nat) : Int)
theorem magE_ok {s : ByteArray} {p t n : Nat} (h : magE s p t n = 0) : magV s p t n < 9223372036854775808 := by
  unfold magE at h
  split at h
  · omega
  · split at h
    · omega
    · split at h
      · omega
      · omega
set_option maxRecDepth 100000 in
set_option maxHeartbeats 1600000 in
theorem rdInt_key (R : Nat) (s : ByteArray) (p : Nat) (tag : Int) (w : World) (h : Rd w R s p) (hp : p ≤ s.size) (hs : s.size ≤ 1125899906842624) (h0 : 47 ≤ tag) (h1 : tag ≤ 64) :
    Calls Tryz.prog 131 #[.pointer (some ⟨R, 0, none⟩), .int .u8 tag] w (Took R s p w (vA 2 (tagV s p tag) ⟨#[]⟩) (tagN tag) (magE s p (tagT tag) (tagN tag))) := by
  have hz := h.later (zbelow w)
  have Z := zfr w h
  have hlt := h.lt
  by_cases ht : 56 ≤ tag
  · have e1 : tagN tag = (tag - 56).toNat := by unfold tagN; rw [if_pos ht]
    have e2 : tagT tag = 0 := by unfold tagT; rw [if_pos ht]
    have e3 : tagV s p tag = (magV s p 0 (tagN tag) : Nat) := by unfold tagV; rw [if_pos ht]
    have hn : tagN tag ≤ 8 := by omega
    have hM := mag_read R s p (tagN tag) 0 _ hz hp hn (by omega) hs
    rw [e2, e3]
    have he : ((tagN tag : Nat) : Int) = tag - 56 := by omega
    clear e1 e2 e3
    generalize tagN tag = m at *
    rw [he] at hM
    clear he hz h
    go_enter Tryz.func131, Tryz.ntmps131
    go_wp2_with fail
    refine hM.mono ?_
    rintro e w1 ⟨hb, ⟨hc, rfl, hr⟩ | ⟨hc, rfl⟩⟩
    · have hA := magE_ok hc
      have HC : Hid (magE s p 0 m = 0) := hc
      have HR : Hid (Rd w1 R s (p + m)) := hr
      obtain ⟨HF, HH, c0, c1, c2, f0, f1, f2⟩ := Z w1 hb
      clear hc hr hb hM Z
      generalize magV s p 0 m = A at *
      have hwr : IntKind.i64.wrap (A : Int) = (A : Int) := by rw [IntKind.wrap_i64]; omega
      clear c0 c1 c2 f0 f1 f2
      go_wp2_with fail
      refine (intValue_any (A : Int) w1).mono ?_
      rintro e w2 ⟨rfl, hb2⟩
      obtain ⟨HH2, c0, c1, c2, f0, f1, f2⟩ := zcells HH.out hb2
      have HF2 : Hid (Fr R w w2) := HF.out.trans (Fr.of (Nat.le_of_lt HR.out.lt) hb2)
      have HR2 : Hid (Rd w2 R s (p + m)) := HR.out.later hb2
      clear hb2 HH HF HR
      unfold vA
      go_wp2
      exact bodyPost_ret (ret_val (p := 4) rfl _ _ 2 (A : Int) ⟨#[]⟩ w.heap.size (by rfl) (set3 HH2.out)) rfl (took_v HC.out rfl (HF2.out.set3 (Nat.le_of_lt hlt) (Nat.le_refl _)) (HR2.out.set3 (Nat.ne_of_gt hlt)))
    · exact ⟨rfl, took_e rfl hc (Z w1 hb).1.out _⟩
  · have e1 : tagN tag = (55 - tag).toNat := by unfold tagN; rw [if_neg ht]
    have e2 : tagT tag = 255 := by unfold tagT; rw [if_neg ht]
    have e3 : tagV s p tag = -1 - ((magV s p 255 (tagN tag) : Nat) : Int) := by unfold tagV; rw [if_neg ht]
    have hn : tagN tag ≤ 8 := by omega
    have hM := mag_read R s p (tagN tag) 255 _ hz hp hn (by omega) hs
    rw [e2, e3]
    have he : ((tagN tag : Nat) : Int) = 55 - tag := by omega
    clear e1 e2 e3
    generalize tagN tag = m at *
    rw [he] at hM
    clear he hz h
    go_enter Tryz.func131, Tryz.ntmps131
    go_wp2_with fail
    refine hM.mono ?_
    rintro e w1 ⟨hb, ⟨hc, rfl, hr⟩ | ⟨hc, rfl⟩⟩
    · have hA := magE_ok hc
      have HC : Hid (magE s p 255 m = 0) := hc
      have HR : Hid (Rd w1 R s (p + m)) := hr
      obtain ⟨HF, HH, c0, c1, c2, f0, f1, f2⟩ := Z w1 hb
      clear hc hr hb hM Z
      generalize magV s p 255 m = A at *
      have hwr : IntKind.i64.wrap (A : Int) = (A : Int) := by rw [IntKind.wrap_i64]; omega
      have hno : bits .xor .i64 (-1) (A : Int) = -1 - (A : Int) := i64_not A hA
      clear c0 c1 c2 f0 f1 f2
      go_wp2_with fail
      refine (intValue_any (-1 - (A : Int)) w1).mono ?_
      rintro e w2 ⟨rfl, hb2⟩
      obtain ⟨HH2, c0, c1, c2, f0, f1, f2⟩ := zcells HH.out hb2
      have HF2 : Hid (Fr R w w2) := HF.out.trans (Fr.of (Nat.le_of_lt HR.out.lt) hb2)
      have HR2 : Hid (Rd w2 R s (p + m)) := HR.out.later hb2
      clear hb2 HH HF HR
      unfold vA
      go_wp2
      exact bodyPost_ret (ret_val (p := 4) rfl _ _ 2 (-1 - (A : Int)) ⟨#[]⟩ w.heap.size (by rfl) (set3 HH2.out)) rfl (took_v HC.out rfl (HF2.out.set3 (Nat.le_of_lt hlt) (Nat.le_refl _)) (HR2.out.set3 (Nat.ne_of_gt hlt)))
    · exact ⟨rfl, took_e rfl hc (Z w1 hb).1.out _⟩
end Go.Proofs.YtjcffcpmegpjeaaGreatDoor
