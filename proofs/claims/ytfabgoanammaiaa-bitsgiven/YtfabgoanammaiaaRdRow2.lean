import Derived.Test.YtfabgoanammaiaaRdRow1
import Derived.Test.YtfabgoanammaiaaRows7
namespace Go.Proofs.Ytfabgoanammaiaa
open Go.ChangeShapes Go.WideShapes Go.ChangeAt Go.RowKit
set_option linter.unusedVariables false

theorem infoK : (Try.prog.info? 43).map (fun i => (i.zero, i.size, i.bytes)) = some (some (.int .i64 0), 1, 8) := by kernel_rfl
/-- The slice value v holds just the kinds ks, in a row of the call's own. -/
def ownK (w : World) (B : Nat) (v : Value) (ks : List Int) : Prop := w.ownsRow B 43 1 v ks.length (ks.map (Value.int .i64))
theorem ownK.at {w : World} {B g n cap : Nat} {ks : List Int} (h : ownK w B (.slice (some ⟨g, 0, none⟩) n cap) ks) (hn : ks.length = n) (j : Nat) (hj : j < n) : w.cell? ⟨g, j, none⟩ = some (.int .i64 (ks[j]'(by omega))) := by
  unfold ownK at h
  rw [hn] at h
  rw [World.ownsRow.cellAt h j (by omega), List.getElem?_map, List.getElem?_eq_getElem (by omega)]
  rfl
theorem ownK.free {w : World} {B g n cap : Nat} {ks : List Int} (h : ownK w B (.slice (some ⟨g, 0, none⟩) n cap) ks) (hn : ks.length = n) (j : Nat) : w.frozen? ⟨g, j, none⟩ = false := by
  unfold ownK at h
  rw [hn] at h
  exact World.ownsRow.frozenAt h j
theorem ownK.put {w : World} {B g n cap : Nat} {ks : List Int} (h : ownK w B (.slice (some ⟨g, 0, none⟩) n cap) ks) (hn : ks.length = n) (j : Nat) (x : Int) : ownK (w.setCell ⟨g, j, none⟩ (.int .i64 x)) B (.slice (some ⟨g, 0, none⟩) n cap) (ks.set j x) := by
  unfold ownK at h ⊢
  rw [hn] at h
  rw [List.length_set, hn, List.map_set]
  exact (World.ownsRow.stored h j (.int .i64 x)).1
/-- The kind of the value i, the bytes of the kinds beginning at p. -/
def knd (s : ByteArray) (p i : Nat) : Nat := if h : p + i / 4 < s.size then s[p + i / 4].toNat / 4 ^ (i % 4) % 4 else 0
/-- The first k kinds, then nothing, n in all. -/
def kndL (s : ByteArray) (p n k : Nat) : List Int := (List.range n).map fun i => if i < k then (knd s p i : Int) else 0
theorem kndL_len (s : ByteArray) (p n k : Nat) : (kndL s p n k).length = n := by simp [kndL]
theorem kndL_zero (s : ByteArray) (p n : Nat) : kndL s p n 0 = List.replicate n 0 := by
  apply List.ext_getElem
  · simp [kndL]
  · intro i h1 h2; simp [kndL]
theorem kndL_get (s : ByteArray) (p n k i : Nat) (h : i < (kndL s p n k).length) : (kndL s p n k)[i] = if i < k then (knd s p i : Int) else 0 := by
  simp [kndL]
theorem kndL_set (s : ByteArray) (p n k : Nat) : (kndL s p n k).set k (knd s p k) = kndL s p n (k + 1) := by
  apply List.ext_getElem
  · rw [List.length_set, kndL_len, kndL_len]
  · intro i h1 h2
    rw [List.getElem_set, kndL_get, kndL_get]
    by_cases e : k = i
    · subst e; rw [if_pos rfl, if_pos (by omega)]
    · rw [if_neg e]
      by_cases h : i < k
      · rw [if_pos h, if_pos (by omega)]
      · rw [if_neg h, if_neg (by omega)]
theorem kind_bits (x k : Nat) (hx : x < 256) : IntKind.i64.wrap (bits .and .u8 ((x : Int) / 2 ^ (((k : Int) % 4 * 2).toNat)) 3) = ((x / 4 ^ (k % 4) % 4 : Nat) : Int) := by
  have e1 : ((k : Int) % 4 * 2).toNat = 2 * (k % 4) := by omega
  have e2 : (2 : Int) ^ (2 * (k % 4)) = ((4 ^ (k % 4) : Nat) : Int) := by rw [Int.pow_mul]; simp
  rw [e1, e2, ← Int.natCast_ediv]
  have hd : x / 4 ^ (k % 4) < 256 := Nat.lt_of_le_of_lt (Nat.div_le_self _ _) hx
  have := u8_and_nat (x / 4 ^ (k % 4)) 3 hd (by omega)
  rw [show ((3 : Nat) : Int) = 3 from rfl] at this
  rw [this, show (3 : Nat) = 2 ^ 2 - 1 from rfl, Nat.and_two_pow_sub_one_eq_mod, IntKind.wrap_i64]
  omega
/-- How many values a row tells of; the error of its kinds. -/
def kdN (s : ByteArray) (p : Nat) : Nat := if h : p < s.size then s[p].toNat else 0
def kdZ (s : ByteArray) (p b n : Nat) : Bool := (List.range n).all fun i => decide (i < b) || knd s p i == 0
def kdE (s : ByteArray) (p : Nat) : Int := if p < s.size then (if 16 < kdN s p then 18 else if s.size < p + 1 + (kdN s p + 3) / 4 then 11 else if kdZ s (p + 1) (kdN s p) (4 * ((kdN s p + 3) / 4)) then 0 else 14) else 11
theorem kdZ_yes {s : ByteArray} {p b n : Nat} (h : ∀ i, b ≤ i → i < n → knd s p i = 0) : kdZ s p b n = true := by
  unfold kdZ
  rw [List.all_eq_true]
  intro i hi
  rw [List.mem_range] at hi
  rcases Nat.lt_or_ge i b with h1 | h1
  · simp [h1]
  · simp [h i h1 hi]
theorem kdZ_no {s : ByteArray} {p b n k : Nat} (h1 : b ≤ k) (h2 : k < n) (h3 : knd s p k ≠ 0) : kdZ s p b n = false := by
  cases hz : kdZ s p b n
  · rfl
  · unfold kdZ at hz
    rw [List.all_eq_true] at hz
    have := hz k (List.mem_range.2 h2)
    simp [h3] at this
    omega
/-- What the reader of a row's kinds comes to. -/
def TookK (R : Nat) (s : ByteArray) (p : Nat) (w : World) (e : Ending) (w' : World) : Prop :=
  Fr R w w' ∧ ((kdE s p = 0 ∧ ∃ g cap, e = .returned (.slice (some ⟨g, 0, none⟩) (kdN s p) cap) ∧ w.heap.size ≤ g ∧ g < w'.heap.size ∧ kdN s p ≤ 16 ∧ kdN s p ≤ cap ∧ cap ≤ 16 ∧ (∀ i, i < kdN s p → w'.cell? ⟨g, i, none⟩ = some (.int .i64 (knd s (p + 1) i))) ∧ Rd w' R s (p + 1 + (kdN s p + 3) / 4)) ∨ (kdE s p ≠ 0 ∧ e = oops (kdE s p)))
theorem tookK_e {R : Nat} {s : ByteArray} {p : Nat} {w w' : World} {c : Int} (h : kdE s p = c) (hc : c ≠ 0) (hf : Fr R w w') : TookK R s p w (oops c) w' := ⟨hf, .inr ⟨by rw [h]; exact hc, by rw [h]⟩⟩
set_option maxRecDepth 100000 in
set_option maxHeartbeats 1600000 in
theorem kinds_read (R : Nat) (s : ByteArray) (p : Nat) (w : World) (h : Rd w R s p) (hp : p ≤ s.size) (hs : s.size ≤ 1125899906842624) :
    Calls Try.prog 37 #[.pointer (some ⟨R, 0, none⟩)] w (TookK R s p w) := by
  have hlt := h.lt
  by_cases hl : p < s.size
  · have HN : Hid (kdN s p = s[p].toNat) := by show _ = _; unfold kdN; rw [dif_pos hl]
    have HE : Hid (kdE s p = if 16 < kdN s p then 18 else if s.size < p + 1 + (kdN s p + 3) / 4 then 11 else if kdZ s (p + 1) (kdN s p) (4 * ((kdN s p + 3) / 4)) then 0 else 14) := by show _ = _; unfold kdE; rw [if_pos hl]
    go_enter Try.func37, Try.ntmps37
    go_wp2_with fail
    refine (byte_some R s p _ h hl hs).mono ?_
    rintro e w1 ⟨rfl, hr, hb⟩
    have HF : Hid (Fr R w w1) := hb
    have HR : Hid (Rd w1 R s (p + 1)) := hr
    have hb8 : s[p].toNat < 256 := s[p].toNat_lt
    clear hb hr
    generalize s[p].toNat = b at *
    rw [HN.out] at HE
    by_cases c1 : 16 < b
    · have t1 : (16 : Int) < (b : Int) := by omega
      rw [if_pos c1] at HE
      go_wp2_with fail
      exact ⟨rfl, tookK_e HE.out (by decide) HF.out⟩
    · have t1 : ¬ (16 : Int) < (b : Int) := by omega
      rw [if_neg c1] at HE
      go_wp2_with fail
      refine (kindBytes_any b _ (by omega)).mono ?_
      rintro e w2 ⟨rfl, rfl⟩
      have hnb : (b + 3) / 4 ≤ 4 := by omega
      have hbn : b ≤ 4 * ((b + 3) / 4) := by omega
      generalize hnbe : (b + 3) / 4 = nb at *
      have HNB : Hid ((b + 3) / 4 = nb) := hnbe
      clear hnbe
      by_cases hk : p + 1 + nb ≤ s.size
      · rw [if_neg (by omega)] at HE
        go_wp2_with fail
        refine (next_some R s (p + 1) nb _ HR.out hs hk).mono ?_
        rintro e w3 ⟨rfl, hr3, hb3⟩
        have HF3 : Hid (Fr R w w3) := HF.out.trans hb3
        have HR3 : Hid (Rd w3 R s (p + 1 + nb)) := hr3
        have hz := ext_size s (p + 1) nb hk
        have HG : Hid (∀ i (hi : i < nb) (hz : i < (s.extract (p + 1) (p + 1 + nb)).size) (h2 : p + 1 + i < s.size), (s.extract (p + 1) (p + 1 + nb))[i]'hz = s[p + 1 + i]'h2) := fun i hi hz h2 => ext_get s (p + 1) nb i hk hi hz h2
        clear hr3 hb3 HF HR
        generalize s.extract (p + 1) (p + 1 + nb) = t at *
        have hB3 : w.heap.size ≤ w3.heap.size := HF3.out.size
        obtain ⟨i0, hi, hz0, hz1, hz2⟩ := info_parts infoK
        obtain ⟨w4, hmk, hown, hgrow⟩ := run_make_full (P := Try.prog) w3 w.heap.size 76 43 i0 (.int .i64 0) 1 Try.underlying76 hi hz0 hz1 .i64 .i64 (4 * nb) (by rw [hz2]; omega) (by unfold maxLen; omega) hB3
        have HO : Hid (ownK w4 w.heap.size (.slice (some ⟨w3.heap.size, 0, none⟩) (4 * nb) (4 * nb)) (kndL s (p + 1) (4 * nb) 0)) := by
          show ownK _ _ _ _
          rw [Nat.mul_one, show (Value.int .i64 0).cells = #[.int .i64 0] from rfl, toList_madeCells_one] at hown
          unfold ownK
          rw [kndL_len, kndL_zero, List.map_replicate]
          exact hown
        have hB4 : Below w3.heap.size w3 w4 := (Below.refl _ _).grown hgrow (Nat.le_refl _) (fun k hk => by cases hk)
        have HF4 : Hid (Fr R w w4) := HF3.out.trans (Fr.of (Nat.le_of_lt HR3.out.lt) hB4)
        have HR4 : Hid (Rd w4 R s (p + 1 + nb)) := HR3.out.later hB4
        have hmk2 : (Instr.makeSlice 76 (.int .i64 (4 * (nb : Int))) (.int .i64 (4 * (nb : Int)))).run Try.prog w3 = .ok (.slice (some ⟨w3.heap.size, 0, none⟩) (4 * nb) (4 * nb)) w4 := by have h8 := hmk; rw [show ((4 * nb : Nat) : Int) = 4 * (nb : Int) from by omega] at h8; exact h8
        clear hmk hown hgrow hB4 hi hz0 hz1 hz2 HF3
        have hRg := HR3.out.lt
        clear HR3
        generalize w3.heap.size = g at *
        go_wp2_with fail
        go_loopw [23] (fun i wr => ∃ k : Nat, k ≤ 4 * nb ∧ i = .int .i64 k ∧ ownK wr w.heap.size (.slice (some ⟨g, 0, none⟩) (4 * nb) (4 * nb)) (kndL s (p + 1) (4 * nb) k) ∧ Rd wr R s (p + 1 + nb) ∧ Fr R w wr ∧ (∀ i, b ≤ i → i < k → knd s (p + 1) i = 0)) (fun i _ => 4 * nb - (intOf i).toNat)
        case atStart => exact ⟨0, by omega, rfl, HO.out, HR4.out, HF4.out, fun i _ h => by omega⟩
        case round =>
          obtain ⟨k, hk4, rfl, hown, hr5, hf5, hzz⟩ := hrel
          have HO5 : Hid (ownK wr w.heap.size (.slice (some ⟨g, 0, none⟩) (4 * nb) (4 * nb)) (kndL s (p + 1) (4 * nb) k)) := hown
          have HR5 : Hid (Rd wr R s (p + 1 + nb)) := hr5
          have HF5 : Hid (Fr R w wr) := hf5
          have HZ : Hid (∀ i, b ≤ i → i < k → knd s (p + 1) i = 0) := hzz
          clear hown hr5 hf5 hzz HO HR4 HF4 hmk2
          by_cases h1 : k < 4 * nb
          · have i1 : (k : Int) < 4 * (nb : Int) := by omega
            have hkt : k / 4 < t.size := by omega
            have hcx := HO5.out.at (kndL_len _ _ _ _) k h1
            have hfx := HO5.out.free (kndL_len _ _ _ _) k
            have HT : Hid (knd s (p + 1) k = t[k / 4].toNat / 4 ^ (k % 4) % 4) := by
              show _ = _
              unfold knd
              rw [dif_pos (by omega), HG.out (k / 4) (by omega) hkt (by omega)]
            obtain ⟨x, hxe⟩ : ∃ x : UInt8, t[k / 4]'hkt = x := ⟨_, rfl⟩
            rw [hxe] at HT
            have hx8 : x.toNat < 256 := x.toNat_lt
            have HX : Hid (IntKind.i64.wrap (bits .and .u8 ((x.toNat : Int) / 2 ^ (((k : Int) % 4 * 2).toNat)) 3) = (knd s (p + 1) k : Int)) := by rw [HT.out]; exact kind_bits x.toNat k hx8
            have hw4 : (k : Int).tdiv 4 = (k : Int) / 4 := Int.tdiv_eq_ediv_of_nonneg (by omega)
            have i2 : (0 : Int) ≤ (k : Int) / 4 := by omega
            have i3 : (k : Int) / 4 < (t.size : Int) := by omega
            have i4 : ((k : Int) / 4).toNat = k / 4 := by omega
            have i5 : (0 : Int) ≤ (k : Int) := by omega
            have hw1 : IntKind.i64.wrap ((k : Int) / 4) = (k : Int) / 4 := by rw [IntKind.wrap_i64]; omega
            go_wp2_with fail
            refine wp_once ?_
            apply Exists.intro
            apply Exists.intro
            constructor
            · go_region_with (first | (go_at_call 25; refine (kindShift_any k _ (by omega)).mono ?_; rintro e w' ⟨rfl, rfl⟩))
              all_goals exact Post1.here _ _
            rw [HX.out]
            have HO6 : Hid (ownK (wr.setCell ⟨g, k, none⟩ (.int .i64 (knd s (p + 1) k : Int))).drew w.heap.size (.slice (some ⟨g, 0, none⟩) (4 * nb) (4 * nb)) (kndL s (p + 1) (4 * nb) (k + 1))) := by
              have h7 := HO5.out.put (kndL_len _ _ _ _) k (knd s (p + 1) k)
              rw [kndL_set] at h7
              exact h7
            have HR6 : Hid (Rd (wr.setCell ⟨g, k, none⟩ (.int .i64 (knd s (p + 1) k : Int))).drew R s (p + 1 + nb)) := by
              have h7 := HR5.out
              show Rd _ _ _ _
              unfold Rd at h7 ⊢
              exact (Below.heap_setCell wr ⟨g, k, none⟩ _ R (Nat.ne_of_lt hRg)).trans h7
            have HF6 : Hid (Fr R w (wr.setCell ⟨g, k, none⟩ (.int .i64 (knd s (p + 1) k : Int))).drew) := (HF5.out.setOwn (Nat.le_of_lt hRg) hB3 _).drew
            have hc6 := HO6.out.at (kndL_len _ _ _ _) k h1
            rw [kndL_get, if_pos (by omega)] at hc6
            generalize (wr.setCell ⟨g, k, none⟩ (.int .i64 (knd s (p + 1) k : Int))).drew = w6 at *
            have hkn : knd s (p + 1) k < 4 := by rw [HT.out]; omega
            clear HT HX hxe hcx hfx HO5 HR5 HF5
            generalize hkk : knd s (p + 1) k = y at *
            have HK : Hid (knd s (p + 1) k = y) := hkk
            clear hkk
            by_cases hc : b ≤ k
            · by_cases hy : y = 0
              · subst hy
                have j1 : (b : Int) ≤ (k : Int) := by omega
                go_wp2
                go_roundw
                case rel => exact ⟨k + 1, by omega, by go_num, HO6.out, HR6.out, HF6.out, fun i a1 a2 => by rcases Nat.lt_or_ge i k with h9 | h9; exact HZ.out i a1 h9; rw [show i = k by omega]; exact HK.out⟩
                case measure => simp [intOf]; omega
              · have j1 : (b : Int) ≤ (k : Int) := by omega
                have j2 : ((y : Int) != 0) = true := by simp; omega
                have HE2 : Hid (kdE s p = 14) := by show _ = _; rw [HE.out, kdZ_no hc h1 (by rw [HK.out]; exact hy)]; rfl
                go_wp2
                exact ⟨rfl, tookK_e HE2.out (by decide) HF6.out⟩
            · have j1 : ¬ (b : Int) ≤ (k : Int) := by omega
              go_wp2
              go_roundw
              case rel => exact ⟨k + 1, by omega, by go_num, HO6.out, HR6.out, HF6.out, fun i a1 a2 => by omega⟩
              case measure => simp [intOf]; omega
          · have e : k = 4 * nb := by omega
            subst e
            have HE2 : Hid (kdE s p = 0) := by show _ = _; rw [HE.out, kdZ_yes HZ.out]; rfl
            have HCS : Hid (∀ i, i < b → wr.cell? ⟨g, i, none⟩ = some (.int .i64 (knd s (p + 1) i))) := by
              intro i hi
              have h7 := HO5.out.at (kndL_len _ _ _ _) i (by omega)
              rw [kndL_get, if_pos (by omega)] at h7
              exact h7
            have hgl := (World.ownsRow.lt HO5.out g rfl).2
            go_wp2
            go_ret
            refine ⟨HF5.out, .inl ⟨HE2.out, g, 4 * nb, ?_⟩⟩
            rw [HN.out]
            refine ⟨rfl, hB3, hgl, by omega, by omega, by omega, HCS.out, ?_⟩
            rw [HNB.out]
            exact HR5.out
      · rw [if_pos (by omega)] at HE
        go_wp2_with fail
        refine (next_short R s (p + 1) nb _ HR.out (by omega) hs (by omega)).mono ?_
        rintro e w3 ⟨rfl, hb3⟩
        exact ⟨rfl, tookK_e HE.out (by decide) (HF.out.trans hb3)⟩
  · have e : p = s.size := by omega
    subst e
    go_enter Try.func37, Try.ntmps37
    go_wp2_with fail
    refine (byte_short R s w h hs).mono ?_
    rintro e w1 ⟨rfl, hb⟩
    exact ⟨rfl, tookK_e (by unfold kdE; rw [if_neg hl]) (by decide) hb⟩
end Go.Proofs.Ytfabgoanammaiaa
