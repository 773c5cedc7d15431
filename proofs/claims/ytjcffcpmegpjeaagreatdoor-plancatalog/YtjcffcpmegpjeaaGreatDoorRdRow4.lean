import Derived.Test.YtjcffcpmegpjeaaGreatDoorRdRow1
import Derived.Test.YtjcffcpmegpjeaaGreatDoorRows7
namespace Go.Proofs.YtjcffcpmegpjeaaGreatDoor
open Go.ChangeShapes Go.WideShapes Go.ChangeAt Go.RowKit
set_option linter.unusedVariables false
set_option maxRecDepth 100000

theorem infoK : (Tryz.prog.info? 57).map (fun i => (i.zero, i.size, i.bytes)) = some (some (.int .i64 0), 1, 8) := by kernel_rfl
/-- The slice value v holds just the kinds ks, in a row of the call's own. -/
def ownK (w : World) (B : Nat) (v : Value) (ks : List Int) : Prop := w.ownsRow B 57 1 v ks.length (ks.map (Value.int .i64))
theorem ownK.at {w : World} {B g n cap : Nat} {ks : List Int} (h : ownK w B (.slice (some ⟨g, 0, none⟩) n cap) ks) (hn : ks.length = n) (j : Nat) (hj : j < n) : w.cell? ⟨g, j, none⟩ = some (.int .i64 (ks[j]'(by omega))) := by
  unfold ownK at h
  rw [hn] at h
  rw [World.ownsRow.cellAt h j (by omega), List.getElem?_map, List.getElem?_eq_getElem (by omega)]
  rfl
theorem ownK.free {w : World} {B g n cap : Nat} {ks : List Int} (h : ownK w B (.slice (some ⟨g, 0, none⟩) n cap) ks) (hn : ks.length = n) (j : Nat) : w.frozen? ⟨g, j, none⟩ = false := by
  unfold ownK at h
  rw [hn] at h
  exact World.ownsRow.frozenAt h j
theorem ownK.put {w : World} {B g n cap : Nat} {ks : List Int} (h : ownK w B (.slice (some ⟨g, 0, none⟩) n cap) ks) (hn : ks.length = n) (j : Nat) (x : Int) : ownK (w.setCell ⟨g, j, none⟩ (.int .i64 x)) B (.slice (some ⟨g, 0, none⟩) n cap) (ks.set j x) := by
  unfold ownK at h ⊢
  rw [hn] at h
  rw [List.length_set, hn, List.map_set]
  exact (World.ownsRow.stored h j (.int .i64 x)).1
/-- The kind of the value i, the bytes of the kinds beginning at p. -/
def knd (s : ByteArray) (p i : Nat) : Nat := if h : p + i / 4 < s.size then s[p + i / 4].toNat / 4 ^ (i % 4) % 4 else 0
/-- The first k kinds, then nothing, n in all. -/
def kndL (s : ByteArray) (p n k : Nat) : List Int := (List.range n).map fun i => if i < k then (knd s p i : Int) else 0
theorem kndL_len (s : ByteArray) (p n k : Nat) : (kndL s p n k).length = n := by simp [kndL]
theorem kndL_zero (s : ByteArray) (p n : Nat) : kndL s p n 0 = List.replicate n 0 := by
  apply List.ext_getElem
  · simp [kndL]
  · intro i h1 h2; simp [kndL]
theorem kndL_get (s : ByteArray) (p n k i : Nat) (h : i < (kndL s p n k).length) : (kndL s p n k)[i] = if i < k then (knd s p i : Int) else 0 := by
  simp [kndL]
theorem kndL_set (s : ByteArray) (p n k : Nat) : (kndL s p n k).set k (knd s p k) = kndL s p n (k + 1) := by
  apply List.ext_getElem
  · rw [List.length_set, kndL_len, kndL_len]
  · intro i h1 h2
    rw [List.getElem_set, kndL_get, kndL_get]
    by_cases e : k = i
    · subst e; rw [if_pos rfl, if_pos (by omega)]
    · rw [if_neg e]
      by_cases h : i < k
      · rw [if_pos h, if_pos (by omega)]
      · rw [if_neg h, if_neg (by omega)]
theorem kind_bits (x k : Nat) (hx : x < 256) : IntKind.i64.wrap (bits .and .u8 ((x : Int) / 2 ^ (((k : Int) % 4 * 2).toNat)) 3) = ((x / 4 ^ (k % 4) % 4 : Nat) : Int) := by
  have e1 : ((k : Int) % 4 * 2).toNat = 2 * (k % 4) := by omega
  have e2 : (2 : Int) ^ (2 * (k % 4)) = ((4 ^ (k % 4) : Nat) : Int) := by rw [Int.pow_mul]; simp
  rw [e1, e2, ← Int.natCast_ediv]
  have hd : x / 4 ^ (k % 4) < 256 := Nat.lt_of_le_of_lt (Nat.div_le_self _ _) hx
  have := u8_and_nat (x / 4 ^ (k % 4)) 3 hd (by omega)
  rw [show ((3 : Nat) : Int) = 3 from rfl] at this
  rw [this, show (3 : Nat) = 2 ^ 2 - 1 from rfl, Nat.and_two_pow_sub_one_eq_mod, IntKind.wrap_i64]
  omega
/-- How many values a row tells of; the error of its kinds. -/
def kdN (s : ByteArray) (p : Nat) : Nat := if h : p < s.size then s[p].toNat else 0
def kdZ (s : ByteArray) (p b n : Nat) : Bool := (List.range n).all fun i => decide (i < b) || knd s p i == 0
def kdE (s : ByteArray) (p : Nat) : Int := if p < s.size then (if 16 < kdN s p then 18 else if s.size < p + 1 + (kdN s p + 3) / 4 then 11 else if kdZ s (p + 1) (kdN s p) (4 * ((kdN s p + 3) / 4)) then 0 else 14) else 11
theorem kdZ_yes {s : ByteArray} {p b n : Nat} (h : ∀ i, b ≤ i → i < n → knd s p i = 0) : kdZ s p b n = true := by
  unfold kdZ
  rw [List.all_eq_true]
  intro i hi
  rw [List.mem_range] at hi
  rcases Nat.lt_or_ge i b with h1 | h1
  · simp [h1]
  · simp [h i h1 hi]
theorem kdZ_no {s : ByteArray} {p b n k : Nat} (h1 : b ≤ k) (h2 : k < n) (h3 : knd s p k ≠ 0) : kdZ s p b n = false := by
  cases hz : kdZ s p b n
  · rfl
  · unfold kdZ at hz
    rw [List.all_eq_true] at hz
    have := hz k (List.mem_range.2 h2)
    simp [h3] at this
    omega
/-- What the reader of a row's kinds comes to. -/
def TookK (R : Nat) (s : ByteArray) (p : Nat) (w : World) (e : Ending) (w' : World) : Prop :=
  Fr R w w' ∧ ((kdE s p = 0 ∧ ∃ g cap, e = .returned (.slice (some ⟨g, 0, none⟩) (kdN s p) cap) ∧ w.heap.size ≤ g ∧ g < w'.heap.size ∧ kdN s p ≤ 16 ∧ kdN s p ≤ cap ∧ cap ≤ 16 ∧ (∀ i, i < kdN s p → w'.cell? ⟨g, i, none⟩ = some (.int .i64 (knd s (p + 1) i))) ∧ Rd w' R s (p + 1 + (kdN s p + 3) / 4)) ∨ (kdE s p ≠ 0 ∧ e = oops (kdE s p)))
theorem tookK_e {R : Nat} {s : ByteArray} {p : Nat} {w w' : World} {c : Int} (h : kdE s p = c) (hc : c ≠ 0) (hf : Fr R w w') : TookK R s p w (oops c) w' := ⟨hf, .inr ⟨by rw [h]; exact hc, by rw [h]⟩⟩
set_option maxRecDepth 100000 in
set_option maxHeartbeats 1600000 in
theorem kinds_read (R : Nat) (s : ByteArray) (p : Nat) (w : World) (h : Rd w R s p) (hp : p ≤ s.size) (hs : s.size ≤ 1125899906842624) :
    Calls Tryz.prog 108 #[.pointer (some ⟨R, 0, none⟩)] w (TookK R s p w) := by
  have hlt := h.lt
  by_cases hl : p < s.size
  · have HN : Hid (kdN s p = s[p].toNat) := by show _ = _; unfold kdN; rw [dif_pos hl]
    have HE : Hid (kdE s p = if 16 < kdN s p then 18 else if s.size < p + 1 + (kdN s p + 3) / 4 then 11 else if kdZ s (p + 1) (kdN s p) (4 * ((kdN s p + 3) / 4)) then 0 else 14) := by show _ = _; unfold kdE; rw [if_pos hl]
    go_enter Tryz.func108, Tryz.ntmps108
    go_wp2_with fail
    refine (byte_some R s p _ h hl hs).mono ?_
    rintro e w1 ⟨rfl, hr, hb⟩
    have HF : Hid (Fr R w w1) := hb
    have HR : Hid (Rd w1 R s (p + 1)) := hr
    have hb8 : s[p].toNat < 256 := s[p].toNat_lt
    clear hb hr
    generalize s[p].toNat = b at *
    rw [HN.out] at HE
    by_cases c1 : 16 < b
    · have t1 : (16 : Int) < (b : Int) := by omega
      rw [if_pos c1] at HE
      go_wp2_with fail
      exact ⟨rfl, tookK_e HE.out (by decide) HF.out⟩
    · have t1 : ¬ (16 : Int) < (b : Int) := by omega
      rw [if_neg c1] at HE
      go_wp2_with fail
      refine (kindBytes_any b _ (by omega)).mono ?_
      rintro e w2 ⟨rfl, rfl⟩
      have hnb : (b + 3) / 4 ≤ 4 := by omega
      have hbn : b ≤ 4 * ((b + 3) / 4) := by omega
      generalize hnbe : (b + 3) / 4 = nb at *
      have HNB : Hid ((b + 3) / 4 = nb) := hnbe
      clear hnbe
      by_cases hk : p + 1 + nb ≤ s.size
      · rw [if_neg (by omega)] at HE
        go_wp2_with fail
        refine (next_some R s (p + 1) nb _ HR.out hs hk).mono ?_
        rintro e w3 ⟨rfl, hr3, hb3⟩
        have HF3 : Hid (Fr R w w3) := HF.out.trans hb3
        have HR3 : Hid (Rd w3 R s (p + 1 + nb)) := hr3
        have hz := ext_size s (p + 1) nb hk
        have HG : Hid (∀ i (hi : i < nb) (hz : i < (s.extract (p + 1) (p + 1 + nb)).size) (h2 : p + 1 + i < s.size), (s.extract (p + 1) (p + 1 + nb))[i]'hz = s[p + 1 + i]'h2) := fun i hi hz h2 => ext_get s (p + 1) nb i hk hi hz h2
        clear hr3 hb3 HF HR
        generalize s.extract (p + 1) (p + 1 + nb) = t at *
        have hB3 : w.heap.size ≤ w3.heap.size := HF3.out.size
        obtain ⟨i0, hi, hz0, hz1, hz2⟩ := info_parts infoK
        obtain ⟨w4, hmk, hown, hgrow⟩ := run_make_full (P := Tryz.prog) w3 w.heap.size 169 57 i0 (.int .i64 0) 1 Tryz.underlying169 hi hz0 hz1 .i64 .i64 (4 * nb) (by rw [hz2]; omega) (by unfold maxLen; omega) hB3
        have HO : Hid (ownK w4 w.heap.size (.slice (some ⟨w3.heap.size, 0, none⟩) (4 * nb) (4 * nb)) (kndL s (p + 1) (4 * nb) 0)) := by
          show ownK _ _ _ _
          rw [Nat.mul_one, show (Value.int .i64 0).cells = #[.int .i64 0] from rfl, toList_madeCells_one] at hown
          unfold ownK
          rw [kndL_len, kndL_zero, List.map_replicate]
          exact hown
        have hB4 : Below w3.heap.size w3 w4 := (Below.refl _ _).grown hgrow (Nat.le_refl _) (fun k hk => by cases hk)
        have HF4 : Hid (Fr R w w4) := HF3.out.trans (Fr.of (Nat.le_of_lt HR3.out.lt) hB4)
        have HR4 : Hid (Rd w4 R s (p + 1 + nb)) := HR3.out.later hB4
        have hmk2 : (Instr.makeSlice 169 (.int .i64 (4 * (nb : Int))) (.int .i64 (4 * (nb : Int)))).run Tryz.prog w3 = .ok (.slice (some ⟨w3.heap.size, 0, none⟩) (4 * nb) (4 * nb)) w4 := by have h8 := hmk; rw [show ((4 * nb : Nat) : Int) = 4 * (nb : Int) from by omega] at h8; exact h8
        clear hmk hown hgrow hB4 hi hz0 hz1 hz2 HF3
        have hRg := HR3.out.lt
        clear HR3
        generalize w3.heap.size = g at *
        go_wp2_with fail
        go_loopw [23] (fun i wr => ∃ k : Nat, k ≤ 4 * nb ∧ i = .int .i64 k ∧ ownK wr w.heap.size (.slice (some ⟨g, 0, none⟩) (4 * nb) (4 * nb)) (kndL s (p + 1) (4 * nb) k) ∧ Rd wr R s (p + 1 + nb) ∧ Fr R w wr ∧ (∀ i, b ≤ i → i < k → knd s (p + 1) i = 0)) (fun i _ => 4 * nb - (intOf i).toNat)
        case atStart => exact ⟨0, by omega, rfl, HO.out, HR4.out, HF4.out, fun i _ h => by omega⟩
        case round =>
          obtain ⟨k, hk4, rfl, hown, hr5, hf5, hzz⟩ := hrel
          have HO5 : Hid (ownK wr w.heap.size (.slice (some ⟨g, 0, none⟩) (4 * nb) (4 * nb)) (kndL s (p + 1) (4 * nb) k)) := hown
          have HR5 : Hid (Rd wr R s (p + 1 + nb)) := hr5
          have HF5 : Hid (Fr R w wr) := hf5
          have HZ : Hid (∀ i, b ≤ i → i < k → knd s (p + 1) i = 0) := hzz
          clear hown hr5 hf5 hzz HO HR4 HF4 hmk2
          by_cases h1 : k < 4 * nb
          · have i1 : (k : Int) < 4 * (nb : Int) := by omega
            have hkt : k / 4 < t.size := by omega
            have hcx := HO5.out.at (kndL_len _ _ _ _) k h1
            have hfx := HO5.out.free (kndL_len _ _ _ _) k
            have HT : Hid (knd s (p + 1) k = t[k / 4].toNat / 4 ^ (k % 4) % 4) := by
              show _ = _
              unfold knd
              rw [dif_pos (by omega), HG.out (k / 4) (by omega) hkt (by omega)]
            obtain ⟨x, hxe⟩ : ∃ x : UInt8, t[k / 4]'hkt = x := ⟨_, rfl⟩
            rw [hxe] at HT
            have hx8 : x.toNat < 256 := x.toNat_lt
            have HX : Hid (IntKind.i64.wrap (bits .and .u8 ((x.toNat : Int) / 2 ^ (((k : Int) % 4 * 2).toNat)) 3) = (knd s (p + 1) k : Int)) := by rw [HT.out]; exact kind_bits x.toNat k hx8
            have hw4 : (k : Int).tdiv 4 = (k : Int) / 4 := Int.tdiv_eq_ediv_of_nonneg (by omega)
            have i2 : (0 : Int) ≤ (k : Int) / 4 := by omega
            have i3 : (k : Int) / 4 < (t.size : Int) := by omega
            have i4 : ((k : Int) / 4).toNat = k / 4 := by omega
            have i5 : (0 : Int) ≤ (k : Int) := by omega
            have hw1 : IntKind.i64.wrap ((k : Int) / 4) = (k : Int) / 4 := by rw [IntKind.wrap_i64]; omega
            go_wp2_with fail
            refine wp_once ?_
            apply Exists.intro
            apply Exists.intro
            constructor
            · go_region_with (first | (go_at_call 81; refine (kindShift_any k _ (by omega)).mono ?_; rintro e w' ⟨rfl, rfl⟩))
              all_goals exact Post1.here _ _
            rw [HX.out]
            have HO6 : Hid (ownK (wr.setCell ⟨g, k, none⟩ (.int .i64 (knd s (p + 1) k : Int))).drew w.heap.size (.slice (some ⟨g, 0, none⟩) (4 * nb) (4 * nb)) (kndL s (p + 1) (4 * nb) (k + 1))) := by
              have h7 := HO5.out.put (kndL_len _ _ _ _) k (knd s (p + 1) k)
              rw [kndL_set] at h7
              exact h7
            have HR6 : Hid (Rd (wr.setCell ⟨g, k, none⟩ (.int .i64 (knd s (p + 1) k : Int))).drew R s (p + 1 + nb)) := by
              have h7 := HR5.out
              show Rd _ _ _ _
              unfold Rd at h7 ⊢
              exact (Below.heap_setCell wr ⟨g, k, none⟩ _ R (Nat.ne_of_lt hRg)).trans h7
            have HF6 : Hid (Fr R w (wr.setCell ⟨g, k, none⟩ (.int .i64 (knd s (p + 1) k : Int))).drew) := (HF5.out.setOwn (Nat.le_of_lt hRg) hB3 _).drew
            have hc6 := HO6.out.at (kndL_len _ _ _ _) k h1
            rw [kndL_get, if_pos (by omega)] at hc6
            generalize (wr.setCell ⟨g, k, none⟩ (.int .i64 (knd s (p + 1) k : Int))).drew = w6 at *
            have hkn : knd s (p + 1) k < 4 := by rw [HT.out]; omega
            clear HT HX hxe hcx hfx HO5 HR5 HF5
            generalize hkk : knd s (p + 1) k = y at *
            have HK : Hid (knd s (p + 1) k = y) := hkk
            clear hkk
            by_cases hc : b ≤ k
            · by_cases hy : y = 0
              · subst hy
                have j1 : (b : Int) ≤ (k : Int) := by omega
                go_wp2
                go_roundw
                case rel => exact ⟨k + 1, by omega, by go_num, HO6.out, HR6.out, HF6.out, fun i a1 a2 => by rcases Nat.lt_or_ge i k with h9 | h9; exact HZ.out i a1 h9; rw [show i = k by omega]; exact HK.out⟩
                case measure => simp [intOf]; omega
              · have j1 : (b : Int) ≤ (k : Int) := by omega
                have j2 : ((y : Int) != 0) = true := by simp; omega
                have HE2 : Hid (kdE s p = 14) := by show _ = _; rw [HE.out, kdZ_no hc h1 (by rw [HK.out]; exact hy)]; rfl
                go_wp2
                exact ⟨rfl, tookK_e HE2.out (by decide) HF6.out⟩
            · have j1 : ¬ (b : Int) ≤ (k : Int) := by omega
              go_wp2
              go_roundw
              case rel => exact ⟨k + 1, by omega, by go_num, HO6.out, HR6.out, HF6.out, fun i a1 a2 => by omega⟩
              case measure => simp [intOf]; omega
          · have e : k = 4 * nb := by omega
            subst e
            have HE2 : Hid (kdE s p = 0) := by show _ = _; rw [HE.out, kdZ_yes HZ.out]; rfl
            have HCS : Hid (∀ i, i < b → wr.cell? ⟨g, i, none⟩ = some (.int .i64 (knd s (p + 1) i))) := by
              intro i hi
              have h7 := HO5.out.at (kndL_len _ _ _ _) i (by omega)
              rw [kndL_get, if_pos (by omega)] at h7
              exact h7
            have hgl := (World.ownsRow.lt HO5.out g rfl).2
            go_wp2
            go_ret
            refine ⟨HF5.out, .inl ⟨HE2.out, g, 4 * nb, ?_⟩⟩
            rw [HN.out]
            refine ⟨rfl, hB3, hgl, by omega, by omega, by omega, HCS.out, ?_⟩
            rw [HNB.out]
            exact HR5.out
      · rw [if_pos (by omega)] at HE
        go_wp2_with fail
        refine (next_short R s (p + 1) nb _ HR.out (by omega) hs (by omega)).mono ?_
        rintro e w3 ⟨rfl, hb3⟩
        exact ⟨rfl, tookK_e HE.out (by decide) (HF.out.trans hb3)⟩
  · have e : p = s.size := by omega
    subst e
    go_enter Tryz.func108, Tryz.ntmps108
    go_wp2_with fail
    refine (byte_short R s w h hs).mono ?_
    rintro e w1 ⟨rfl, hb⟩
    exact ⟨rfl, tookK_e (by unfold kdE; rw [if_neg hl]) (by decide) hb⟩
end Go.Proofs.YtjcffcpmegpjeaaGreatDoor

namespace Go.Proofs.YtjcffcpmegpjeaaGreatDoor
open Go.ChangeShapes Go.WideShapes Go.ChangeAt Go.RowKit
set_option linter.unusedVariables false
set_option maxRecDepth 100000

/-- What is read of a value of kind k in a row, from byte p on: the value, how many bytes, the error. -/
def rrV (s : ByteArray) (p k : Nat) : (Int × Int × ByteArray) × Nat × Int :=
  if k = 0 then ((0, 0, ⟨#[]⟩), 0, 0)
  else if k = 1 then ((1, rbW s p, ⟨#[]⟩), 1, rbE s p)
  else if k = 2 then ((2, sdec (ruV s p).1, ⟨#[]⟩), (ruV s p).2.1, (ruV s p).2.2)
  else ((3, 0, (rbV s p 4096).1), (rbV s p 4096).2.1, (rbV s p 4096).2.2)
/-- What is read of the values behind the kinds that begin at p, f of them still to come, n bytes being taken: the values, how many bytes, the error. -/
def rrF (s : ByteArray) (p : Nat) : Nat → Nat → List (Int × Int × ByteArray) → List (Int × Int × ByteArray) × Nat × Int
  | 0, n, acc => if p + n < s.size then ([], 0, 16) else (acc, n, 0)
  | f + 1, n, acc =>
    if (rrV s (p + n) (knd s (p + 1) acc.length)).2.2 = 0 then rrF s p f (n + (rrV s (p + n) (knd s (p + 1) acc.length)).2.1) (acc ++ [(rrV s (p + n) (knd s (p + 1) acc.length)).1])
    else ([], 0, (rrV s (p + n) (knd s (p + 1) acc.length)).2.2)
def rrL (s : ByteArray) (p : Nat) : List (Int × Int × ByteArray) × Nat × Int := if kdE s p = 0 then rrF s p (kdN s p) (1 + (kdN s p + 3) / 4) [] else ([], 0, kdE s p)
theorem kdE_in {s : ByteArray} {p : Nat} (h : kdE s p = 0) : p + 1 + (kdN s p + 3) / 4 ≤ s.size := by
  unfold kdE at h
  split at h
  · split at h
    · omega
    · split at h
      · omega
      · omega
  · omega
theorem rbE_in {s : ByteArray} {p : Nat} (h : rbE s p = 0) : p + 1 ≤ s.size := by
  unfold rbE at h
  split at h
  · omega
  · omega
theorem rbV_in {s : ByteArray} {p m : Nat} (h : (rbV s p m).2.2 = 0) : p + (rbV s p m).2.1 ≤ s.size := by
  unfold rbV at h ⊢
  by_cases h1 : (ruV s p).2.2 = 0
  · rw [if_pos h1] at h ⊢
    by_cases h2 : m < (ruV s p).1
    · rw [if_pos h2] at h; simp at h
    · rw [if_neg h2] at h ⊢
      by_cases h3 : p + (ruV s p).2.1 + (ruV s p).1 ≤ s.size
      · rw [if_pos h3]; simp only; omega
      · rw [if_neg h3] at h; simp at h
  · rw [if_neg h1] at h; exact absurd h h1
theorem rrF_end (s : ByteArray) (p n : Nat) (acc : List (Int × Int × ByteArray)) (h : ¬ p + n < s.size) : rrF s p 0 n acc = (acc, n, 0) := by
  unfold rrF; rw [if_neg h]
theorem rrF_tail (s : ByteArray) (p n : Nat) (acc : List (Int × Int × ByteArray)) (h : p + n < s.size) : rrF s p 0 n acc = ([], 0, 16) := by
  unfold rrF; rw [if_pos h]
theorem rrF_ok (s : ByteArray) (p f n : Nat) (acc : List (Int × Int × ByteArray)) (h : (rrV s (p + n) (knd s (p + 1) acc.length)).2.2 = 0) : rrF s p (f + 1) n acc = rrF s p f (n + (rrV s (p + n) (knd s (p + 1) acc.length)).2.1) (acc ++ [(rrV s (p + n) (knd s (p + 1) acc.length)).1]) := by
  conv => lhs; unfold rrF
  rw [if_pos h]
theorem rrF_no (s : ByteArray) (p f n : Nat) (acc : List (Int × Int × ByteArray)) (h : (rrV s (p + n) (knd s (p + 1) acc.length)).2.2 ≠ 0) : rrF s p (f + 1) n acc = ([], 0, (rrV s (p + n) (knd s (p + 1) acc.length)).2.2) := by
  conv => lhs; unfold rrF
  rw [if_neg h]
theorem knd_lt (s : ByteArray) (p i : Nat) : knd s p i < 4 := by
  unfold knd
  split
  · omega
  · omega
theorem ownV.down {w : World} {B B' : Nat} {v : Value} {vs : List (Int × Int × ByteArray)} (h : ownV w B v vs) (hB : B' ≤ B) : ownV w B' v vs := by
  rcases h with ⟨h1, h2 | ⟨g, cap, cur, rfl, hb, hr⟩⟩
  · exact ⟨h1, .inl h2⟩
  · exact ⟨h1, .inr ⟨g, cap, cur, rfl, by omega, hr⟩⟩
attribute [local go_sem] fld0_4 fld1_4 fld2_4 fld3_4
set_option maxRecDepth 100000 in
set_option maxHeartbeats 6400000 in
theorem row_read (R : Nat) (s : ByteArray) (p : Nat) (w : World) (h : Rd w R s p) (hp : p ≤ s.size) (hs : s.size ≤ 1125899906842624) :
    Calls Tryz.prog 86 #[.pointer (some ⟨R, 0, none⟩)] w (TookV R s p w (rrL s p)) := by
  have hlt := h.lt
  have hK := kinds_read R s p w h hp hs
  go_enter Tryz.func86, Tryz.ntmps86
  go_wp2_with fail
  refine hK.mono ?_
  rintro e w1 ⟨hf, ⟨hc, g, cap, rfl, hg0, hg1, hn16, hnc, hcap, hcs, hr⟩ | ⟨hc, rfl⟩⟩
  · have HL : Hid (rrL s p = rrF s p (kdN s p) (1 + (kdN s p + 3) / 4) []) := by show _ = _; unfold rrL; rw [if_pos hc]
    have hin0 := kdE_in hc
    have HF0 : Hid (Fr R w w1) := hf
    have HCS : Hid (∀ i, i < kdN s p → w1.cell? ⟨g, i, none⟩ = some (.int .i64 (knd s (p + 1) i))) := hcs
    have HR : Hid (Rd w1 R s (p + 1 + (kdN s p + 3) / 4)) := hr
    have hR1 := hr.lt
    clear hf hcs hr hc hK h
    generalize kdN s p = nv at *
    have hww : w.heap.size ≤ w1.heap.size := HF0.out.size
    go_wp2_with fail
    go_loopw [3, 9] (fun c i wr => ∃ (k n f : Nat) (acc : List (Int × Int × ByteArray)), k ≤ nv ∧ f = nv - k ∧ i = .int .i64 k ∧ acc.length = k ∧ p + n ≤ s.size ∧ ownV wr w1.heap.size c acc ∧ Rd wr R s (p + n) ∧ Fr R w1 wr ∧ rrL s p = rrF s p f n acc) (fun _ i _ => nv - (intOf i).toNat)
    case atStart => exact ⟨0, 1 + (nv + 3) / 4, nv, [], by omega, by omega, rfl, rfl, by omega, ownV_nil _ _, by rw [← Nat.add_assoc]; exact HR.out, Fr.refl _ _, HL.out⟩
    case round =>
      obtain ⟨k, n, f, acc, hk, hf, rfl, hal, hn, hown, hr2, hf2, hv⟩ := hrel
      have HV : Hid (rrL s p = rrF s p f n acc) := hv
      have HO2 : Hid (ownV wr w1.heap.size _ acc) := hown
      have HR2 : Hid (Rd wr R s (p + n)) := hr2
      have HF2 : Hid (Fr R w1 wr) := hf2
      have HA : Hid (acc.length = k) := hal
      clear hv hown hr2 hf2 hal HR HL
      by_cases h1 : k < nv
      · obtain ⟨f, rfl⟩ : ∃ f', f = f' + 1 := ⟨f - 1, by omega⟩
        have hcx : wr.cell? ⟨g, k, none⟩ = some (.int .i64 (knd s (p + 1) k)) := by
          rw [World.cell?_of_block (w := w1) (HF2.out.rest g hg1 (by omega))]; exact HCS.out k h1
        have HOK : Hid _ := fun h => HV.out.trans (rrF_ok s p f n acc h)
        have HNO : Hid _ := fun h => HV.out.trans (rrF_no s p f n acc h)
        rw [HA.out] at HOK HNO
        have hy4 := knd_lt s (p + 1) k
        clear HV
        have i1 : (k : Int) < (nv : Int) := by omega
        generalize knd s (p + 1) k = y at *
        have hy : y = 0 ∨ y = 1 ∨ y = 2 ∨ y = 3 := by omega
        clear hy4
        rcases hy with rfl | rfl | rfl | rfl
        · -- kind 0
          have HV5 : Hid (rrL s p = rrF s p f (n + 0) (acc ++ [(0, 0, ⟨#[]⟩)])) := HOK.out rfl
          have hin2 : p + n + 0 ≤ s.size := hn
          clear HOK HNO
          go_wp2_with fail
          refine (layE_0 _).mono ?_
          rintro e w4 ⟨rfl, hb4⟩
          have HR4 : Hid (Rd w4 R s (p + n)) := HR2.out.later hb4
          have HF4 : Hid (Fr R w1 w4) := HF2.out.trans (Fr.of (Nat.le_of_lt HR2.out.lt) hb4)
          have HO4 : Hid (ownV w4 w1.heap.size _ acc) := HO2.out.same (fun k hk _ => hb4.block k hk)
          clear hb4 HR2 HF2 HO2 hcx
          go_wp2_with fail
          refine (rdNull_row R s (p + n) w4 HR4.out).mono ?_
          rintro e w5 ⟨hf5, ⟨hc, rfl, hr5⟩ | ⟨hc, rfl⟩⟩
          · skip
            skip
            have HR5 : Hid (Rd w5 R s (p + n + 0)) := hr5
            have HF5 : Hid (Fr R w1 w5) := HF4.out.trans hf5
            have HO5 : Hid (ownV w5 w1.heap.size _ acc) := HO4.out.fr hR1 hf5
            have hB5 : w1.heap.size ≤ w5.heap.size := HF5.out.size
            clear hr5 hf5 HR4 HF4 HO4 hc
            unfold vA
            go_wp2_with (at_builtin; refine app_val (by rfl) _ _ (by rfl) w1.heap.size _ acc (0, 0, ⟨#[]⟩) HO5.out (by rfl) (by rfl) (by have := HA.out; omega) hB5 ?_; intro v' w6 hown6 hbel6; have HO6 : Hid (ownV w6 w1.heap.size v' (acc ++ [(0, 0, ⟨#[]⟩)])) := hown6; have HF6 : Hid (Fr R w1 w6) := HF5.out.grow (Nat.le_of_lt hR1) hbel6; have HR6 : Hid (Rd w6 R s (p + n + 0)) := HR5.out.grow hR1 hbel6; clear hown6 hbel6)
            go_roundw
            case rel => exact ⟨k + 1, _, f, _, by omega, by omega, by go_num, by rw [List.length_append, List.length_singleton, HA.out], by rw [← Nat.add_assoc]; exact hin2, HO6.out, by rw [← Nat.add_assoc]; exact HR6.out, HF6.out, HV5.out⟩
            case measure => simp [intOf]; omega
          · exact absurd rfl hc
        · -- kind 1
          have HVok : Hid ((rbE s (p + n) : Int) = 0 → rrL s p = rrF s p f (n + 1) (acc ++ [(1, rbW s (p + n), ⟨#[]⟩)])) := HOK.out
          have HVno : Hid ((rbE s (p + n) : Int) ≠ 0 → rrL s p = ([], 0, rbE s (p + n))) := HNO.out
          have HIN : Hid ((rbE s (p + n) : Int) = 0 → p + n + 1 ≤ s.size) := fun h => rbE_in h
          clear HOK HNO
          go_wp2_with fail
          refine (layE_1 _).mono ?_
          rintro e w4 ⟨rfl, hb4⟩
          have HR4 : Hid (Rd w4 R s (p + n)) := HR2.out.later hb4
          have HF4 : Hid (Fr R w1 w4) := HF2.out.trans (Fr.of (Nat.le_of_lt HR2.out.lt) hb4)
          have HO4 : Hid (ownV w4 w1.heap.size _ acc) := HO2.out.same (fun k hk _ => hb4.block k hk)
          clear hb4 HR2 HF2 HO2 hcx
          go_wp2_with fail
          refine (rdBool_row R s (p + n) w4 HR4.out hn hs).mono ?_
          rintro e w5 ⟨hf5, ⟨hc, rfl, hr5⟩ | ⟨hc, rfl⟩⟩
          · have HV5 : Hid _ := HVok.out hc
            have hin2 := HIN.out hc
            have HR5 : Hid (Rd w5 R s (p + n + 1)) := hr5
            have HF5 : Hid (Fr R w1 w5) := HF4.out.trans hf5
            have HO5 : Hid (ownV w5 w1.heap.size _ acc) := HO4.out.fr hR1 hf5
            have hB5 : w1.heap.size ≤ w5.heap.size := HF5.out.size
            clear hr5 hf5 HR4 HF4 HO4 HIN HVok HVno hc
            unfold vA
            go_wp2_with (at_builtin; refine app_val (by rfl) _ _ (by rfl) w1.heap.size _ acc (1, rbW s (p + n), ⟨#[]⟩) HO5.out (by rfl) (by rfl) (by have := HA.out; omega) hB5 ?_; intro v' w6 hown6 hbel6; have HO6 : Hid (ownV w6 w1.heap.size v' (acc ++ [(1, rbW s (p + n), ⟨#[]⟩)])) := hown6; have HF6 : Hid (Fr R w1 w6) := HF5.out.grow (Nat.le_of_lt hR1) hbel6; have HR6 : Hid (Rd w6 R s (p + n + 1)) := HR5.out.grow hR1 hbel6; clear hown6 hbel6)
            go_roundw
            case rel => exact ⟨k + 1, _, f, _, by omega, by omega, by go_num, by rw [List.length_append, List.length_singleton, HA.out], by rw [← Nat.add_assoc]; exact hin2, HO6.out, by rw [← Nat.add_assoc]; exact HR6.out, HF6.out, HV5.out⟩
            case measure => simp [intOf]; omega
          · exact ⟨rfl, tookV_e (HVno.out hc) hc (HF0.out.trans (HF4.out.trans hf5))⟩
        · -- kind 2
          have HVok : Hid (((ruV s (p + n)).2.2 : Int) = 0 → rrL s p = rrF s p f (n + (ruV s (p + n)).2.1) (acc ++ [(2, sdec (ruV s (p + n)).1, ⟨#[]⟩)])) := HOK.out
          have HVno : Hid (((ruV s (p + n)).2.2 : Int) ≠ 0 → rrL s p = ([], 0, (ruV s (p + n)).2.2)) := HNO.out
          have HIN : Hid (((ruV s (p + n)).2.2 : Int) = 0 → p + n + (ruV s (p + n)).2.1 ≤ s.size) := fun h => (ruV_bound s (p + n)).2.2.2.2 h
          clear HOK HNO
          go_wp2_with fail
          refine (layE_2 _).mono ?_
          rintro e w4 ⟨rfl, hb4⟩
          have HR4 : Hid (Rd w4 R s (p + n)) := HR2.out.later hb4
          have HF4 : Hid (Fr R w1 w4) := HF2.out.trans (Fr.of (Nat.le_of_lt HR2.out.lt) hb4)
          have HO4 : Hid (ownV w4 w1.heap.size _ acc) := HO2.out.same (fun k hk _ => hb4.block k hk)
          clear hb4 HR2 HF2 HO2 hcx
          go_wp2_with fail
          refine (rdInt_row R s (p + n) w4 HR4.out hn hs).mono ?_
          rintro e w5 ⟨hf5, ⟨hc, rfl, hr5⟩ | ⟨hc, rfl⟩⟩
          · have HV5 : Hid _ := HVok.out hc
            have hin2 := HIN.out hc
            have HR5 : Hid (Rd w5 R s (p + n + (ruV s (p + n)).2.1)) := hr5
            have HF5 : Hid (Fr R w1 w5) := HF4.out.trans hf5
            have HO5 : Hid (ownV w5 w1.heap.size _ acc) := HO4.out.fr hR1 hf5
            have hB5 : w1.heap.size ≤ w5.heap.size := HF5.out.size
            clear hr5 hf5 HR4 HF4 HO4 HIN HVok HVno hc
            unfold vA
            go_wp2_with (at_builtin; refine app_val (by rfl) _ _ (by rfl) w1.heap.size _ acc (2, sdec (ruV s (p + n)).1, ⟨#[]⟩) HO5.out (by rfl) (by rfl) (by have := HA.out; omega) hB5 ?_; intro v' w6 hown6 hbel6; have HO6 : Hid (ownV w6 w1.heap.size v' (acc ++ [(2, sdec (ruV s (p + n)).1, ⟨#[]⟩)])) := hown6; have HF6 : Hid (Fr R w1 w6) := HF5.out.grow (Nat.le_of_lt hR1) hbel6; have HR6 : Hid (Rd w6 R s (p + n + (ruV s (p + n)).2.1)) := HR5.out.grow hR1 hbel6; clear hown6 hbel6)
            go_roundw
            case rel => exact ⟨k + 1, _, f, _, by omega, by omega, by go_num, by rw [List.length_append, List.length_singleton, HA.out], by rw [← Nat.add_assoc]; exact hin2, HO6.out, by rw [← Nat.add_assoc]; exact HR6.out, HF6.out, HV5.out⟩
            case measure => simp [intOf]; omega
          · exact ⟨rfl, tookV_e (HVno.out hc) hc (HF0.out.trans (HF4.out.trans hf5))⟩
        · -- kind 3
          have HVok : Hid (((rbV s (p + n) 4096).2.2 : Int) = 0 → rrL s p = rrF s p f (n + (rbV s (p + n) 4096).2.1) (acc ++ [(3, 0, (rbV s (p + n) 4096).1)])) := HOK.out
          have HVno : Hid (((rbV s (p + n) 4096).2.2 : Int) ≠ 0 → rrL s p = ([], 0, (rbV s (p + n) 4096).2.2)) := HNO.out
          have HIN : Hid (((rbV s (p + n) 4096).2.2 : Int) = 0 → p + n + (rbV s (p + n) 4096).2.1 ≤ s.size) := fun h => rbV_in h
          clear HOK HNO
          go_wp2_with fail
          refine (layE_3 _).mono ?_
          rintro e w4 ⟨rfl, hb4⟩
          have HR4 : Hid (Rd w4 R s (p + n)) := HR2.out.later hb4
          have HF4 : Hid (Fr R w1 w4) := HF2.out.trans (Fr.of (Nat.le_of_lt HR2.out.lt) hb4)
          have HO4 : Hid (ownV w4 w1.heap.size _ acc) := HO2.out.same (fun k hk _ => hb4.block k hk)
          clear hb4 HR2 HF2 HO2 hcx
          go_wp2_with fail
          refine (rdText_row R s (p + n) w4 HR4.out hn hs).mono ?_
          rintro e w5 ⟨hf5, ⟨hc, rfl, hr5⟩ | ⟨hc, rfl⟩⟩
          · have HV5 : Hid _ := HVok.out hc
            have hin2 := HIN.out hc
            have HR5 : Hid (Rd w5 R s (p + n + (rbV s (p + n) 4096).2.1)) := hr5
            have HF5 : Hid (Fr R w1 w5) := HF4.out.trans hf5
            have HO5 : Hid (ownV w5 w1.heap.size _ acc) := HO4.out.fr hR1 hf5
            have hB5 : w1.heap.size ≤ w5.heap.size := HF5.out.size
            clear hr5 hf5 HR4 HF4 HO4 HIN HVok HVno hc
            unfold vA
            go_wp2_with (at_builtin; refine app_val (by rfl) _ _ (by rfl) w1.heap.size _ acc (3, 0, (rbV s (p + n) 4096).1) HO5.out (by rfl) (by rfl) (by have := HA.out; omega) hB5 ?_; intro v' w6 hown6 hbel6; have HO6 : Hid (ownV w6 w1.heap.size v' (acc ++ [(3, 0, (rbV s (p + n) 4096).1)])) := hown6; have HF6 : Hid (Fr R w1 w6) := HF5.out.grow (Nat.le_of_lt hR1) hbel6; have HR6 : Hid (Rd w6 R s (p + n + (rbV s (p + n) 4096).2.1)) := HR5.out.grow hR1 hbel6; clear hown6 hbel6)
            go_roundw
            case rel => exact ⟨k + 1, _, f, _, by omega, by omega, by go_num, by rw [List.length_append, List.length_singleton, HA.out], by rw [← Nat.add_assoc]; exact hin2, HO6.out, by rw [← Nat.add_assoc]; exact HR6.out, HF6.out, HV5.out⟩
            case measure => simp [intOf]; omega
          · exact ⟨rfl, tookV_e (HVno.out hc) hc (HF0.out.trans (HF4.out.trans hf5))⟩
      · have e : f = 0 := by omega
        subst e
        have i1 : True := trivial
        have HVt : Hid (p + n < s.size → rrL s p = ([], 0, 16)) := fun h => HV.out.trans (rrF_tail s p n acc h)
        have HVe : Hid (¬ p + n < s.size → rrL s p = (acc, n, 0)) := fun h => HV.out.trans (rrF_end s p n acc h)
        have ek : k = nv := by omega
        subst ek
        have HW : Hid (w.heap.size ≤ w1.heap.size) := hww
        clear HCS HV HA hin0 hg0 hg1 hcap hnc hn16 hww hf hk h1 i1
        have i1 : ¬ (k : Int) < (k : Int) := by omega
        go_wp2_with fail
        refine (left_any R s (p + n) wr HR2.out hn hs).mono ?_
        rintro e w3 ⟨rfl, nq, rfl⟩
        have HF3 : Hid (Fr R w (wr.drewN nq)) := HF0.out.trans (HF2.out.trans (fr_drewN nq))
        have HR3 : Hid (Rd (wr.drewN nq) R s (p + n)) := HR2.out.drewN nq
        have HO3 : Hid (ownV (wr.drewN nq) w.heap.size _ acc) := (HO2.out.fr hR1 (fr_drewN nq)).down HW.out
        clear HR2 HF2 HO2 HF0
        generalize wr.drewN nq = w3 at *
        by_cases h2 : p + n < s.size
        · have HV3 : Hid (rrL s p = ([], 0, 16)) := HVt.out h2
          have i2 : (0 : Int) < (s.size : Int) - ((p + n : Nat) : Int) := by omega
          clear HVt HVe
          go_wp2
          exact ⟨rfl, tookV_e HV3.out (by decide) HF3.out⟩
        · have HV3 : Hid (rrL s p = (acc, n, 0)) := HVe.out h2
          have i2 : ¬ (0 : Int) < (s.size : Int) - ((p + n : Nat) : Int) := by omega
          clear HVt HVe
          go_wp2
          go_ret
          exact tookV_v HV3.out HF3.out HO3.out HR3.out
  · exact ⟨rfl, tookV_e (by unfold rrL; rw [if_neg hc]) hc hf⟩
end Go.Proofs.YtjcffcpmegpjeaaGreatDoor

namespace Go.Proofs.YtjcffcpmegpjeaaGreatDoor
open Go.ChangeShapes Go.WideShapes Go.ChangeAt Go.RowKit
set_option linter.unusedVariables false
set_option maxRecDepth 100000

set_option maxRecDepth 100000 in
theorem readRow_any (s : ByteArray) (w : World) (hs : s.size ≤ 1125899906842624) :
    Calls Tryz.prog 59 #[.string s] w fun e w' => (((rrL s 0).2.2 = 0 → ∃ v, e = .returned (.tuple #[v, .int .i64 0]) ∧ ownV w' w.heap.size v (rrL s 0).1) ∧ ((rrL s 0).2.2 ≠ 0 → e = .returned (.tuple #[.slice none 0 0, .int .i64 (rrL s 0).2.2]))) ∧ Below w.heap.size w w' := by
  have hC := readW_core s 0 w (rrL s 0) (Nat.zero_le _) hs (fun R w h => row_read R s 0 w h (Nat.zero_le _) hs)
  go_enter Tryz.func59, Tryz.ntmps59
  go_wp2_with fail
  refine hC.mono ?_
  rintro e w1 ⟨⟨h0, h1⟩, hb⟩
  by_cases hc : (rrL s 0).2.2 = 0
  · obtain ⟨v, rfl, hown⟩ := h0 hc
    obtain ⟨va, vn, vc, rfl⟩ := hown.form
    have HO : Hid (ownV w1 w.heap.size (.slice va vn vc) (rrL s 0).1) := hown
    have HB : Hid (Below w.heap.size w w1) := hb
    have HC : Hid ((rrL s 0).2.2 = 0) := hc
    clear hown hb hc h0 h1 hC
    go_wp2
    go_ret2
    exact ⟨⟨fun _ => ⟨_, rfl, HO.out⟩, fun h => absurd HC.out h⟩, HB.out⟩
  · have he := h1 hc
    subst he
    have HB : Hid (Below w.heap.size w w1) := hb
    have HC : Hid ((rrL s 0).2.2 ≠ 0) := hc
    clear hb hc h0 h1 hC
    go_wp2
    go_ret2
    exact ⟨⟨fun h => absurd h HC.out, fun _ => rfl⟩, HB.out⟩
end Go.Proofs.YtjcffcpmegpjeaaGreatDoor
