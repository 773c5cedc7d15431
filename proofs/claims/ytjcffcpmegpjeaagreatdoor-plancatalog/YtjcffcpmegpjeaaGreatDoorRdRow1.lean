import Derived.Test.YtjcffcpmegpjeaaGreatDoorRdKey3
import Derived.Test.YtjcffcpmegpjeaaGreatDoorReads2
namespace Go.Proofs.YtjcffcpmegpjeaaGreatDoor
open Go.ChangeShapes Go.WideShapes Go.ChangeAt Go.RowKit
set_option linter.unusedVariables false
set_option maxRecDepth 100000

/-- What stands behind a byte 0. -/
def etE (s : ByteArray) (p : Nat) : Int := if h : p < s.size then (if s[p].toNat = 1 ∨ s[p].toNat = 255 then 0 else 15) else 11
def etV (s : ByteArray) (p : Nat) : Bool := if h : p < s.size then s[p].toNat == 1 else false
set_option maxRecDepth 100000 in
set_option maxHeartbeats 800000 in
theorem ends_text (R : Nat) (s : ByteArray) (p : Nat) (w : World) (h : Rd w R s p) (hp : p ≤ s.size) (hs : s.size ≤ 1125899906842624) :
    Calls Tryz.prog 154 #[.pointer (some ⟨R, 0, none⟩)] w (Took R s p w (.bool (etV s p)) 1 (etE s p)) := by
  by_cases hl : p < s.size
  · have HE : Hid (etE s p = if s[p].toNat = 1 ∨ s[p].toNat = 255 then 0 else 15) := by show _ = _; unfold etE; rw [dif_pos hl]
    have HV : Hid (etV s p = (s[p].toNat == 1)) := by show _ = _; unfold etV; rw [dif_pos hl]
    go_enter Tryz.func154, Tryz.ntmps154
    go_wp2_with fail
    refine (byte_some R s p w h hl hs).mono ?_
    rintro e w1 ⟨rfl, hr, hb⟩
    have HR : Hid (Rd w1 R s (p + 1)) := hr
    have HB : Hid (Fr R w w1) := hb
    have hb8 : s[p].toNat < 256 := s[p].toNat_lt
    clear hr hb h
    generalize s[p].toNat = b at *
    by_cases a1 : b = 1
    · subst a1
      go_wp2
      go_ret
      exact took_v (by rw [HE.out]; rfl) (by rw [HV.out]; rfl) HB.out HR.out
    · have t1 : ((b : Int) == 1) = false := by simp; omega
      by_cases a2 : b = 255
      · subst a2
        go_wp2
        go_ret
        exact took_v (by rw [HE.out]; rfl) (by rw [HV.out]; rfl) HB.out HR.out
      · have t2 : ((b : Int) != 255) = true := by simp; omega
        have t3 : ((b : Int) != 1) = true := by simp; omega
        clear t1
        go_wp2
        exact ⟨rfl, took_e (by rw [HE.out, if_neg (by omega)]) (by decide) HB.out _⟩
  · have e : p = s.size := by omega
    subst e
    go_enter Tryz.func154, Tryz.ntmps154
    go_wp2_with fail
    refine (byte_short R s w h hs).mono ?_
    rintro e w1 ⟨rfl, hb⟩
    exact ⟨rfl, took_e (by unfold etE; rw [dif_neg hl]) (by decide) hb _⟩
theorem ownB.same {w w' : World} {B : Nat} {v : Value} {xs : List Int} (h : ownB w B v xs) (hk : ∀ k, k < w.heap.size → B ≤ k → w'.heap[k]? = w.heap[k]?) : ownB w' B v xs := by
  rcases h with ⟨h1, h2 | ⟨g, cap, cur, rfl, hb, hg, hr⟩⟩
  · exact ⟨h1, .inl h2⟩
  · exact ⟨h1, .inr ⟨g, cap, cur, rfl, hb, by rw [hk g (Array.getElem?_eq_some_iff.1 hg).1 hb]; exact hg, hr⟩⟩
theorem ownB.fr {R : Nat} {w w' : World} {B : Nat} {v : Value} {xs : List Int} (h : ownB w B v xs) (hR : R < B) (hf : Fr R w w') : ownB w' B v xs := h.same fun k hk hb => hf.rest k hk (by omega)
theorem Fr.grow {R : Nat} {a w w' : World} (h : Fr R a w) (hR : R ≤ a.heap.size) (hb : Below a.heap.size w w') : Fr R a w' := ⟨h.toBelow.trans (hb.mono hR), fun k hk hn => (hb.block k hk).trans (h.rest k hk hn)⟩
theorem Rd.grow {R B : Nat} {s : ByteArray} {p : Nat} {w w' : World} (h : Rd w R s p) (hR : R < B) (hb : Below B w w') : Rd w' R s p := by
  unfold Rd at h ⊢; rw [hb.block R hR]; exact h
/-- What is read of a text in a key from byte p on, n bytes of it being taken with the text acc: the text, how many bytes, the error. -/
def rtF (s : ByteArray) (p : Nat) : Nat → Nat → List Int → List Int × Nat × Int
  | 0, _, _ => ([], 0, 11)
  | f + 1, n, acc =>
    if h : p + n < s.size then
      (if s[p + n].toNat = 0 then
        (if etE s (p + n + 1) = 0 then
          (if etV s (p + n + 1) then (acc, n + 2, 0)
           else if acc.length = 4096 then ([], 0, 4) else rtF s p f (n + 2) (acc ++ [0]))
         else ([], 0, etE s (p + n + 1)))
       else if acc.length = 4096 then ([], 0, 4) else rtF s p f (n + 1) (acc ++ [(s[p + n].toNat : Int)]))
    else ([], 0, 11)
def rtV (s : ByteArray) (p : Nat) : List Int × Nat × Int := rtF s p (s.size + 1) 0 []
theorem rtF_short (s : ByteArray) (p f n : Nat) (acc : List Int) (h : ¬ p + n < s.size) : rtF s p (f + 1) n acc = ([], 0, 11) := by
  unfold rtF; rw [dif_neg h]
theorem rtF_err (s : ByteArray) (p f n : Nat) (acc : List Int) (h : p + n < s.size) (h0 : s[p + n].toNat = 0) (he : etE s (p + n + 1) ≠ 0) : rtF s p (f + 1) n acc = ([], 0, etE s (p + n + 1)) := by
  unfold rtF; rw [dif_pos h, if_pos h0, if_neg he]
theorem rtF_end (s : ByteArray) (p f n : Nat) (acc : List Int) (h : p + n < s.size) (h0 : s[p + n].toNat = 0) (he : etE s (p + n + 1) = 0) (hv : etV s (p + n + 1) = true) : rtF s p (f + 1) n acc = (acc, n + 2, 0) := by
  unfold rtF; rw [dif_pos h, if_pos h0, if_pos he, if_pos hv]
theorem rtF_zero (s : ByteArray) (p f n : Nat) (acc : List Int) (h : p + n < s.size) (h0 : s[p + n].toNat = 0) (he : etE s (p + n + 1) = 0) (hv : etV s (p + n + 1) = false) : rtF s p (f + 1) n acc = if acc.length = 4096 then ([], 0, 4) else rtF s p f (n + 2) (acc ++ [0]) := by
  conv => lhs; unfold rtF
  rw [dif_pos h, if_pos h0, if_pos he, if_neg (by rw [hv]; decide)]
theorem rtF_byte (s : ByteArray) (p f n : Nat) (acc : List Int) (h : p + n < s.size) (h0 : s[p + n].toNat ≠ 0) : rtF s p (f + 1) n acc = if acc.length = 4096 then ([], 0, 4) else rtF s p f (n + 1) (acc ++ [(s[p + n].toNat : Int)]) := by
  conv => lhs; unfold rtF
  rw [dif_pos h, if_neg h0]
theorem etE_lt {s : ByteArray} {p : Nat} (h : etE s p = 0) : p < s.size := by
  unfold etE at h
  split at h
  · assumption
  · omega
theorem ownB.len {w : World} {B : Nat} {v : Value} {xs : List Int} (h : ownB w B v xs) : (Builtin.len_ #[72] 3 #[v]).run Tryz.prog w = .ok (.int .i64 xs.length) w := by
  rcases h with ⟨h1, ⟨rfl, h2⟩ | ⟨g, cap, cur, rfl, hb, hg, hr⟩⟩
  · rw [h2]; rfl
  · rfl
/-- Where the reader in block R stands. -/
def posOf (w : World) (R : Nat) : Nat := match w.cell? ⟨R, 1, none⟩ with
  | some v => (intOf v).toNat
  | none => 0
theorem Rd.pos {w : World} {R : Nat} {s : ByteArray} {p : Nat} (h : Rd w R s p) : posOf w R = p := by
  unfold posOf; rw [h.cell1]; simp [intOf]
set_option maxRecDepth 100000 in
set_option maxHeartbeats 1600000 in
theorem rdText_key (R : Nat) (s : ByteArray) (p : Nat) (tag : Int) (w : World) (h : Rd w R s p) (hp : p ≤ s.size) (hs : s.size ≤ 1125899906842624) :
    Calls Tryz.prog 136 #[.pointer (some ⟨R, 0, none⟩), .int .u8 tag] w (Took R s p w (vA 3 0 (strOfNums (rtV s p).1)) (rtV s p).2.1 (rtV s p).2.2) := by
  have hz := h.later (zbelow w)
  have Z := zfr w h
  have hlt := h.lt
  clear h
  go_enter Tryz.func136, Tryz.ntmps136
  go_wp2_with fail
  have HZ : Hid (∀ w1, Fr R (w.alloc (.cells #[.int .i64 0, .int .i64 0, .string ⟨#[]⟩] 59)) w1 → _) := Z
  have hWs : (w.alloc (.cells #[.int .i64 0, .int .i64 0, .string ⟨#[]⟩] 59)).heap.size = w.heap.size + 1 := by show (Array.push _ _).size = _; simp
  clear Z
  generalize hW : w.alloc (.cells #[.int .i64 0, .int .i64 0, .string ⟨#[]⟩] 59) = W at *
  have hRW : R < W.heap.size := by omega
  go_loopw [5] (fun c wr => ∃ (n f : Nat) (acc : List Int), p + n ≤ s.size ∧ s.size < p + n + f ∧ acc.length ≤ 4096 ∧ ownB wr W.heap.size c acc ∧ Rd wr R s (p + n) ∧ Fr R W wr ∧ rtV s p = rtF s p f n acc) (fun _ wr => s.size + 1 - posOf wr R)
  case atStart => exact ⟨0, s.size + 1, [], by omega, by omega, by simp, ownB_nil _ _, hz, Fr.refl _ _, rfl⟩
  case round =>
    obtain ⟨n, f, acc, hn, hf, ha, hown, hr, hfr, hv⟩ := hrel
    obtain ⟨f, rfl⟩ : ∃ f', f = f' + 1 := ⟨f - 1, by omega⟩
    have HV : Hid (rtV s p = rtF s p (f + 1) n acc) := hv
    have HO : Hid (ownB wr W.heap.size _ acc) := hown
    have HR : Hid (Rd wr R s (p + n)) := hr
    have HF : Hid (Fr R W wr) := hfr
    have HP : Hid (posOf wr R = p + n) := hr.pos
    clear hv hown hr hfr hz
    by_cases hl : p + n < s.size
    · go_wp2_with fail
      refine (byte_some R s (p + n) wr HR.out hl hs).mono ?_
      rintro e w1 ⟨rfl, hr1, hb1⟩
      have HR1 : Hid (Rd w1 R s (p + n + 1)) := hr1
      have HF1 : Hid (Fr R W w1) := HF.out.trans hb1
      have HO1 : Hid (ownB w1 W.heap.size _ acc) := HO.out.fr hRW hb1
      clear hr1 hb1 HR HF HO
      by_cases h0 : s[p + n].toNat = 0
      · have h0i : ((s[p + n].toNat : Nat) : Int) = 0 := by omega
        have HVe : Hid (etE s (p + n + 1) ≠ 0 → rtV s p = ([], 0, etE s (p + n + 1))) := fun he => HV.out.trans (rtF_err s p f n acc hl h0 he)
        have HVn : Hid (etE s (p + n + 1) = 0 → etV s (p + n + 1) = true → rtV s p = (acc, n + 2, 0)) := fun he hv => HV.out.trans (rtF_end s p f n acc hl h0 he hv)
        have HVz : Hid (etE s (p + n + 1) = 0 → etV s (p + n + 1) = false → rtV s p = if acc.length = 4096 then ([], 0, 4) else rtF s p f (n + 2) (acc ++ [0])) := fun he hv => HV.out.trans (rtF_zero s p f n acc hl h0 he hv)
        clear HV h0
        rw [h0i]
        clear h0i
        go_wp2_with fail
        refine (ends_text R s (p + n + 1) w1 HR1.out (by omega) hs).mono ?_
        rintro e w2 ⟨hb, ⟨hc, rfl, hr⟩ | ⟨hc, rfl⟩⟩
        · have hin := etE_lt hc
          have HF2 : Hid (Fr R W w2) := HF1.out.trans hb
          have HR2 : Hid (Rd w2 R s (p + n + 1 + 1)) := hr
          have HO2 : Hid (ownB w2 W.heap.size _ acc) := HO1.out.fr hRW hb
          clear hb hr HF1 HR1 HO1
          cases hev : etV s (p + n + 1)
          · have HVb := HVz.out hc hev
            have HVb2 : Hid _ := HVb
            clear HVe HVn HVz hc HVb
            by_cases hm : acc.length = 4096
            · rw [if_pos hm] at HVb2
              have hL := HO2.out.len
              rw [hm] at hL
              go_wp2
              refine ⟨rfl, ?_⟩
              rw [HVb2.out]
              exact took_e rfl (by decide) ((HZ.out w2 HF2.out).1.out) _
            · rw [if_neg hm] at HVb2
              have hL := HO2.out.len
              have t4 : (((acc.length : Nat) : Int) == 4096) = false := by simp; omega
              have hBr : W.heap.size ≤ w2.heap.size := HF2.out.size
              go_wp2_with (at_builtin; refine app_oneL (by rfl) _ _ (by rfl) W.heap.size _ acc _ HO2.out (by rfl) _ (by rfl) (by rfl) (by omega) hBr ?_; intro v' w3 hown3 hbel3 _; have HO3 : Hid (ownB w3 W.heap.size v' (acc ++ [0])) := hown3; have HF3 : Hid (Fr R W w3) := HF2.out.grow (Nat.le_of_lt hRW) hbel3; have HR3 : Hid (Rd w3 R s (p + n + 1 + 1)) := HR2.out.grow hRW hbel3; clear hown3 hbel3)
              refine ⟨⟨n + 2, f, acc ++ [0], by omega, by omega, by rw [List.length_append, List.length_singleton]; omega, HO3.out, by rw [← Nat.add_assoc]; exact HR3.out, HF3.out, HVb2.out⟩, ?_⟩
              rw [HR3.out.pos, HP.out]; omega
          · have HVb2 : Hid _ := HVn.out hc hev
            clear HVe HVn HVz hc
            have hcv := HO2.out.conv
            go_wp2_with fail
            refine (textValue_any (strOfNums acc) w2).mono ?_
            rintro e w3 ⟨rfl, hb3⟩
            obtain ⟨HF, HH, _⟩ := HZ.out w2 HF2.out
            obtain ⟨HH3, c0, c1, c2, f0, f1, f2⟩ := zcells HH.out hb3
            have HF3 : Hid (Fr R w w3) := HF.out.trans (Fr.of (Nat.le_of_lt HR2.out.lt) hb3)
            have HR3 : Hid (Rd w3 R s (p + n + 1 + 1)) := HR2.out.later hb3
            clear hb3 HH HF HR2 HF2
            unfold vA
            go_wp2
            refine bodyPost_ret (ret_val (p := 4) rfl _ _ 3 0 (strOfNums acc) w.heap.size (by rfl) (set3 HH3.out)) rfl ?_
            rw [HVb2.out]
            exact took_v rfl rfl (HF3.out.set3 (Nat.le_of_lt hlt) (Nat.le_refl _)) (by rw [← Nat.add_assoc]; exact HR3.out.set3 (Nat.ne_of_gt hlt))
        · refine ⟨rfl, ?_⟩
          rw [HVe.out hc]
          exact took_e rfl hc ((HZ.out w2 (HF1.out.trans hb)).1.out) _
      · have HVb : Hid (rtV s p = if acc.length = 4096 then ([], 0, 4) else rtF s p f (n + 1) (acc ++ [(s[p + n].toNat : Int)])) := HV.out.trans (rtF_byte s p f n acc hl h0)
        have h8 : s[p + n].toNat < 256 := s[p + n].toNat_lt
        clear HV
        generalize s[p + n].toNat = b at *
        have t0 : ((b : Int) == 0) = false := by simp; omega
        by_cases hm : acc.length = 4096
        · rw [if_pos hm] at HVb
          have hL := HO1.out.len
          rw [hm] at hL
          go_wp2
          refine ⟨rfl, ?_⟩
          rw [HVb.out]
          exact took_e rfl (by decide) ((HZ.out w1 HF1.out).1.out) _
        · rw [if_neg hm] at HVb
          have hL := HO1.out.len
          have t4 : (((acc.length : Nat) : Int) == 4096) = false := by simp; omega
          have hBr : W.heap.size ≤ w1.heap.size := HF1.out.size
          go_wp2_with (at_builtin; refine app_oneL (by rfl) _ _ (by rfl) W.heap.size _ acc _ HO1.out (by rfl) _ (by rfl) (by rfl) (by omega) hBr ?_; intro v' w2 hown2 hbel2 _; have HO2 : Hid (ownB w2 W.heap.size v' (acc ++ [(b : Int)])) := hown2; have HF2 : Hid (Fr R W w2) := HF1.out.grow (Nat.le_of_lt hRW) hbel2; have HR2 : Hid (Rd w2 R s (p + n + 1)) := HR1.out.grow hRW hbel2; clear hown2 hbel2)
          refine ⟨⟨n + 1, f, acc ++ [(b : Int)], by omega, by omega, by rw [List.length_append, List.length_singleton]; omega, HO2.out, by rw [← Nat.add_assoc]; exact HR2.out, HF2.out, HVb.out⟩, ?_⟩
          rw [HR2.out.pos, HP.out]; omega
    · have HVs : Hid (rtV s p = ([], 0, 11)) := HV.out.trans (rtF_short s p f n acc hl)
      have e : p + n = s.size := by omega
      go_wp2_with fail
      refine (byte_short R s wr (by rw [← e]; exact HR.out) hs).mono ?_
      rintro e w1 ⟨rfl, hb⟩
      refine ⟨rfl, ?_⟩
      rw [HVs.out]
      exact took_e rfl (by decide) ((HZ.out w1 (HF.out.trans hb)).1.out) _
end Go.Proofs.YtjcffcpmegpjeaaGreatDoor

namespace Go.Proofs.YtjcffcpmegpjeaaGreatDoor
open Go.ChangeShapes Go.WideShapes Go.ChangeAt Go.RowKit
set_option linter.unusedVariables false
set_option maxRecDepth 100000

/-- What is read of a value behind its tag, from byte p on: the value, how many bytes, the error. -/
def rkV (s : ByteArray) (p : Nat) (tag : Int) : (Int × Int × ByteArray) × Nat × Int :=
  if tag = 16 then ((0, 0, ⟨#[]⟩), 0, 0)
  else if tag = 32 ∨ tag = 33 then ((1, tag - 32, ⟨#[]⟩), 0, 0)
  else if 47 ≤ tag ∧ tag ≤ 64 then ((2, tagV s p tag, ⟨#[]⟩), tagN tag, magE s p (tagT tag) (tagN tag))
  else if tag = 80 then ((3, 0, strOfNums (rtV s p).1), (rtV s p).2.1, (rtV s p).2.2)
  else ((0, 0, ⟨#[]⟩), 0, 14)
/-- What is read of a key, n bytes of it being taken with the values acc: the values or the error. -/
def rkF (s : ByteArray) (p : Nat) : Nat → Nat → List (Int × Int × ByteArray) → List (Int × Int × ByteArray) × Nat × Int
  | 0, _, _ => ([], 0, 11)
  | f + 1, n, acc =>
    if h : p + n < s.size then
      (if acc.length = 16 then ([], 0, 18)
       else if (rkV s (p + n + 1) s[p + n].toNat).2.2 = 0 then rkF s p f (n + 1 + (rkV s (p + n + 1) s[p + n].toNat).2.1) (acc ++ [(rkV s (p + n + 1) s[p + n].toNat).1])
       else ([], 0, (rkV s (p + n + 1) s[p + n].toNat).2.2))
    else (acc, n, 0)
def rkL (s : ByteArray) (p : Nat) : List (Int × Int × ByteArray) × Nat × Int := rkF s p (s.size + 1) 0 []
theorem ownV.len {w : World} {B : Nat} {v : Value} {xs : List (Int × Int × ByteArray)} (h : ownV w B v xs) : (Builtin.len_ #[26] 3 #[v]).run Tryz.prog w = .ok (.int .i64 xs.length) w := by
  rcases h with ⟨h1, ⟨rfl, h2⟩ | ⟨g, cap, cur, rfl, hb, hg, hr⟩⟩
  · rw [h2]; rfl
  · rfl
theorem ownV.same {w w' : World} {B : Nat} {v : Value} {xs : List (Int × Int × ByteArray)} (h : ownV w B v xs) (hk : ∀ k, k < w.heap.size → B ≤ k → w'.heap[k]? = w.heap[k]?) : ownV w' B v xs := by
  rcases h with ⟨h1, h2 | ⟨g, cap, cur, rfl, hb, hg, hr⟩⟩
  · exact ⟨h1, .inl h2⟩
  · exact ⟨h1, .inr ⟨g, cap, cur, rfl, hb, by rw [hk g (Array.getElem?_eq_some_iff.1 hg).1 hb]; exact hg, hr⟩⟩
theorem ownV.fr {R : Nat} {w w' : World} {B : Nat} {v : Value} {xs : List (Int × Int × ByteArray)} (h : ownV w B v xs) (hR : R < B) (hf : Fr R w w') : ownV w' B v xs := h.same fun k hk hb => hf.rest k hk (by omega)
theorem rtF_in (s : ByteArray) (p : Nat) : ∀ (f n : Nat) (acc : List Int), (rtF s p f n acc).2.2 = 0 → p + (rtF s p f n acc).2.1 ≤ s.size ∧ 2 ≤ (rtF s p f n acc).2.1
  | 0, n, acc => by intro h; simp [rtF] at h
  | f + 1, n, acc => by
    by_cases h1 : p + n < s.size
    · by_cases h0 : s[p + n].toNat = 0
      · by_cases he : etE s (p + n + 1) = 0
        · have hin := etE_lt he
          cases hv : etV s (p + n + 1)
          · rw [rtF_zero s p f n acc h1 h0 he hv]
            split
            · intro h; simp at h
            · exact rtF_in s p f _ _
          · rw [rtF_end s p f n acc h1 h0 he hv]
            intro _
            exact ⟨by simp only; omega, by simp only; omega⟩
        · rw [rtF_err s p f n acc h1 h0 he]
          intro h; exact absurd h he
      · rw [rtF_byte s p f n acc h1 h0]
        split
        · intro h; simp at h
        · exact rtF_in s p f _ _
    · rw [rtF_short s p f n acc h1]
      intro h; simp at h
theorem magE_in {s : ByteArray} {p t n : Nat} (h : magE s p t n = 0) : p + n ≤ s.size := by
  unfold magE at h
  split at h
  · omega
  · omega
theorem rkV_in (s : ByteArray) (p : Nat) (tag : Int) (hp : p ≤ s.size) (h : (rkV s p tag).2.2 = 0) : p + (rkV s p tag).2.1 ≤ s.size := by
  unfold rkV at h ⊢
  by_cases a1 : tag = 16
  · rw [if_pos a1]; exact hp
  rw [if_neg a1] at h ⊢
  by_cases a2 : tag = 32 ∨ tag = 33
  · rw [if_pos a2]; exact hp
  rw [if_neg a2] at h ⊢
  by_cases a3 : 47 ≤ tag ∧ tag ≤ 64
  · rw [if_pos a3] at h ⊢; exact magE_in h
  rw [if_neg a3] at h ⊢
  by_cases a4 : tag = 80
  · rw [if_pos a4] at h ⊢; exact (rtF_in s p _ _ _ h).1
  rw [if_neg a4] at h
  simp at h
theorem rkF_end (s : ByteArray) (p f n : Nat) (acc : List (Int × Int × ByteArray)) (h : ¬ p + n < s.size) : rkF s p (f + 1) n acc = (acc, n, 0) := by
  unfold rkF; rw [dif_neg h]
theorem rkF_many (s : ByteArray) (p f n : Nat) (acc : List (Int × Int × ByteArray)) (h : p + n < s.size) (hm : acc.length = 16) : rkF s p (f + 1) n acc = ([], 0, 18) := by
  unfold rkF; rw [dif_pos h, if_pos hm]
theorem rkF_step (s : ByteArray) (p f n : Nat) (acc : List (Int × Int × ByteArray)) (h : p + n < s.size) (hm : acc.length ≠ 16) : rkF s p (f + 1) n acc = if (rkV s (p + n + 1) s[p + n].toNat).2.2 = 0 then rkF s p f (n + 1 + (rkV s (p + n + 1) s[p + n].toNat).2.1) (acc ++ [(rkV s (p + n + 1) s[p + n].toNat).1]) else ([], 0, (rkV s (p + n + 1) s[p + n].toNat).2.2) := by
  conv => lhs; unfold rkF
  rw [dif_pos h, if_neg hm]
/-- What a reader of values comes to. -/
def TookV (R : Nat) (s : ByteArray) (p : Nat) (w : World) (r : List (Int × Int × ByteArray) × Nat × Int) (e : Ending) (w' : World) : Prop :=
  Fr R w w' ∧ ((r.2.2 = 0 ∧ ∃ v, e = .returned v ∧ ownV w' w.heap.size v r.1 ∧ Rd w' R s (p + r.2.1)) ∨ (r.2.2 ≠ 0 ∧ e = oops r.2.2))
theorem tookV_e {R : Nat} {s : ByteArray} {p : Nat} {w w' : World} {r : List (Int × Int × ByteArray) × Nat × Int} {c : Int} (hr : r = ([], 0, c)) (hc : c ≠ 0) (hf : Fr R w w') : TookV R s p w r (oops c) w' := by
  rw [hr]; exact ⟨hf, .inr ⟨hc, rfl⟩⟩
theorem tookV_v {R : Nat} {s : ByteArray} {p n : Nat} {w w' : World} {r : List (Int × Int × ByteArray) × Nat × Int} {vs : List (Int × Int × ByteArray)} {v : Value} (hr : r = (vs, n, 0)) (hf : Fr R w w') (ho : ownV w' w.heap.size v vs) (hrd : Rd w' R s (p + n)) : TookV R s p w r (.returned v) w' := by
  rw [hr]; exact ⟨hf, .inl ⟨rfl, v, rfl, ho, hrd⟩⟩
theorem fld0_2 (w : World) : Sem.run Tryz.prog (Instr.field 129 (.agg #[.func (.func 119) #[] #[], .func (.func 120) #[] #[], .func (.func 121) #[] #[], .func (.func 122) #[] #[], .func (.func 123) #[] #[]]) 2) w = .ok (.func (.func 121) #[] #[]) w := by kernel_rfl
theorem fld0_4 (w : World) : Sem.run Tryz.prog (Instr.field 129 (.agg #[.func (.func 119) #[] #[], .func (.func 120) #[] #[], .func (.func 121) #[] #[], .func (.func 122) #[] #[], .func (.func 123) #[] #[]]) 4) w = .ok (.func (.func 123) #[] #[]) w := by kernel_rfl
theorem fld1_2 (w : World) : Sem.run Tryz.prog (Instr.field 129 (.agg #[.func (.func 124) #[] #[], .func (.func 125) #[] #[], .func (.func 126) #[] #[], .func (.func 127) #[] #[], .func (.func 128) #[] #[]]) 2) w = .ok (.func (.func 126) #[] #[]) w := by kernel_rfl
theorem fld1_4 (w : World) : Sem.run Tryz.prog (Instr.field 129 (.agg #[.func (.func 124) #[] #[], .func (.func 125) #[] #[], .func (.func 126) #[] #[], .func (.func 127) #[] #[], .func (.func 128) #[] #[]]) 4) w = .ok (.func (.func 128) #[] #[]) w := by kernel_rfl
theorem fld2_2 (w : World) : Sem.run Tryz.prog (Instr.field 129 (.agg #[.func (.func 129) #[] #[], .func (.func 130) #[] #[], .func (.func 131) #[] #[], .func (.func 132) #[] #[], .func (.func 133) #[] #[]]) 2) w = .ok (.func (.func 131) #[] #[]) w := by kernel_rfl
theorem fld2_4 (w : World) : Sem.run Tryz.prog (Instr.field 129 (.agg #[.func (.func 129) #[] #[], .func (.func 130) #[] #[], .func (.func 131) #[] #[], .func (.func 132) #[] #[], .func (.func 133) #[] #[]]) 4) w = .ok (.func (.func 133) #[] #[]) w := by kernel_rfl
theorem fld3_2 (w : World) : Sem.run Tryz.prog (Instr.field 129 (.agg #[.func (.func 134) #[] #[], .func (.func 135) #[] #[], .func (.func 136) #[] #[], .func (.func 137) #[] #[], .func (.func 138) #[] #[]]) 2) w = .ok (.func (.func 136) #[] #[]) w := by kernel_rfl
theorem fld3_4 (w : World) : Sem.run Tryz.prog (Instr.field 129 (.agg #[.func (.func 134) #[] #[], .func (.func 135) #[] #[], .func (.func 136) #[] #[], .func (.func 137) #[] #[], .func (.func 138) #[] #[]]) 4) w = .ok (.func (.func 138) #[] #[]) w := by kernel_rfl
attribute [local go_sem] fld0_2 fld1_2 fld2_2 fld3_2
set_option maxRecDepth 100000 in
set_option maxHeartbeats 1600000 in
theorem key_read (R : Nat) (s : ByteArray) (p : Nat) (w : World) (h : Rd w R s p) (hp : p ≤ s.size) (hs : s.size ≤ 1125899906842624) :
    Calls Tryz.prog 110 #[.pointer (some ⟨R, 0, none⟩)] w (TookV R s p w (rkL s p)) := by
  have hlt := h.lt
  go_enter Tryz.func110, Tryz.ntmps110
  go_wp2_with fail
  go_loopw [3] (fun c wr => ∃ (n f : Nat) (acc : List (Int × Int × ByteArray)), p + n ≤ s.size ∧ s.size < p + n + f ∧ acc.length ≤ 16 ∧ ownV wr w.heap.size c acc ∧ Rd wr R s (p + n) ∧ Fr R w wr ∧ rkL s p = rkF s p f n acc) (fun _ wr => s.size + 1 - posOf wr R)
  case atStart => exact ⟨0, s.size + 1, [], by omega, by omega, by simp, ownV_nil _ _, h, Fr.refl _ _, rfl⟩
  case round =>
    obtain ⟨n, f, acc, hn, hf, ha, hown, hr, hfr, hv⟩ := hrel
    obtain ⟨f, rfl⟩ : ∃ f', f = f' + 1 := ⟨f - 1, by omega⟩
    have HV : Hid (rkL s p = rkF s p (f + 1) n acc) := hv
    have HO : Hid (ownV wr w.heap.size _ acc) := hown
    have HR : Hid (Rd wr R s (p + n)) := hr
    have HF : Hid (Fr R w wr) := hfr
    have HP : Hid (posOf wr R = p + n) := hr.pos
    clear hv hown hr hfr h
    by_cases hl : p + n < s.size
    · have hl1 : (0 : Int) < (s.size : Int) - ((p + n : Nat) : Int) := by omega
      go_wp2_with fail
      refine (left_any R s (p + n) wr HR.out hn hs).mono ?_
      rintro e w1 ⟨rfl, nq, rfl⟩
      have HR1 : Hid (Rd (wr.drewN nq) R s (p + n)) := HR.out.drewN nq
      have HF1 : Hid (Fr R w (wr.drewN nq)) := HF.out.trans (fr_drewN nq)
      have HO1 : Hid (ownV (wr.drewN nq) w.heap.size _ acc) := HO.out.fr hlt (fr_drewN nq)
      clear HR HF HO
      generalize wr.drewN nq = w1 at *
      have hL := HO1.out.len
      by_cases hm : acc.length = 16
      · have HVm : Hid (rkL s p = ([], 0, 18)) := HV.out.trans (rkF_many s p f n acc hl hm)
        rw [hm] at hL
        go_wp2
        exact ⟨rfl, tookV_e HVm.out (by decide) HF1.out⟩
      · have HVs : Hid _ := HV.out.trans (rkF_step s p f n acc hl hm)
        have t4 : (((acc.length : Nat) : Int) == 16) = false := by simp; omega
        have h8 : s[p + n].toNat < 256 := s[p + n].toNat_lt
        clear HV
        go_wp2_with fail
        refine (byte_some R s (p + n) w1 HR1.out hl hs).mono ?_
        rintro e w2 ⟨rfl, hr2, hb2⟩
        have HR2 : Hid (Rd w2 R s (p + n + 1)) := hr2
        have HF2 : Hid (Fr R w w2) := HF1.out.trans hb2
        have HO2 : Hid (ownV w2 w.heap.size _ acc) := HO1.out.fr hlt hb2
        clear hr2 hb2 HR1 HF1 HO1 hL t4
        have hb0 : (0 : Int) ≤ ((s[p + n].toNat : Nat) : Int) := by omega
        have hb1 : ((s[p + n].toNat : Nat) : Int) < 256 := by omega
        clear h8
        generalize ((s[p + n].toNat : Nat) : Int) = b at *
        by_cases a1 : b = 16
        · have hE : rkV s (p + n + 1) b = ((0, 0, ⟨#[]⟩), 0, 0) := by unfold rkV; rw [if_pos a1]
          have hin := rkV_in s (p + n + 1) b (by omega)
          rw [hE] at HVs hin
          have HV5 : Hid (rkL s p = rkF s p f (n + 1 + 0) (acc ++ [(0, 0, ⟨#[]⟩)])) := HVs.out.trans (if_pos rfl)
          have hin2 : p + n + 1 + 0 ≤ s.size := hin rfl
          clear hin HVs
          have A : Hid (b = 16) := a1
          clear hE a1
          go_wp2_with fail
          refine (kind_tag b _ hb0 (by omega)).mono ?_
          rintro e w3 ⟨rfl, he⟩
          rw [if_pos A.out] at he
          subst he
          go_wp2_with fail
          refine (layE_0 _).mono ?_
          rintro e w4 ⟨rfl, hb4⟩
          have HR4 : Hid (Rd w4 R s (p + n + 1)) := HR2.out.later hb4
          have HF4 : Hid (Fr R w w4) := HF2.out.trans (Fr.of (Nat.le_of_lt HR2.out.lt) hb4)
          have HO4 : Hid (ownV w4 w.heap.size _ acc) := HO2.out.same (fun k hk _ => hb4.block k hk)
          clear hb4 HR2 HF2 HO2
          go_wp2_with fail
          refine (rdNull_key R s (p + n + 1) b w4 HR4.out).mono ?_
          rintro e w5 ⟨hf5, ⟨hc, rfl, hr5⟩ | ⟨hc, rfl⟩⟩
          · skip
            skip
            have HR5 : Hid (Rd w5 R s (p + n + 1 + 0)) := hr5
            have HF5 : Hid (Fr R w w5) := HF4.out.trans hf5
            have HO5 : Hid (ownV w5 w.heap.size _ acc) := HO4.out.fr hlt hf5
            have hB5 : w.heap.size ≤ w5.heap.size := HF5.out.size
            clear hr5 hf5 HR4 HF4 HO4 hc
            unfold vA
            go_wp2_with (at_builtin; refine app_val (by rfl) _ _ (by rfl) w.heap.size _ acc (0, 0, ⟨#[]⟩) HO5.out (by rfl) (by rfl) (by omega) hB5 ?_; intro v' w6 hown6 hbel6; have HO6 : Hid (ownV w6 w.heap.size v' (acc ++ [(0, 0, ⟨#[]⟩)])) := hown6; have HF6 : Hid (Fr R w w6) := HF5.out.grow (Nat.le_of_lt hlt) hbel6; have HR6 : Hid (Rd w6 R s (p + n + 1 + 0)) := HR5.out.grow hlt hbel6; clear hown6 hbel6)
            refine ⟨⟨_, f, _, ?_, ?_, ?_, HO6.out, ?_, HF6.out, HV5.out⟩, ?_⟩
            · omega
            · omega
            · rw [List.length_append, List.length_singleton]; omega
            · rw [← Nat.add_assoc, ← Nat.add_assoc]; exact HR6.out
            · rw [HR6.out.pos, HP.out]; omega
          · exact absurd rfl hc
        by_cases a2 : b = 32 ∨ b = 33
        · have hE : rkV s (p + n + 1) b = ((1, b - 32, ⟨#[]⟩), 0, 0) := by unfold rkV; rw [if_neg a1, if_pos a2]
          have hin := rkV_in s (p + n + 1) b (by omega)
          rw [hE] at HVs hin
          have HV5 : Hid (rkL s p = rkF s p f (n + 1 + 0) (acc ++ [(1, b - 32, ⟨#[]⟩)])) := HVs.out.trans (if_pos rfl)
          have hin2 : p + n + 1 + 0 ≤ s.size := hin rfl
          clear hin HVs
          have A : Hid (b = 32 ∨ b = 33) := a2
          clear hE a2
          go_wp2_with fail
          refine (kind_tag b _ hb0 (by omega)).mono ?_
          rintro e w3 ⟨rfl, he⟩
          rw [if_neg a1, if_pos A.out] at he
          subst he
          go_wp2_with fail
          refine (layE_1 _).mono ?_
          rintro e w4 ⟨rfl, hb4⟩
          have HR4 : Hid (Rd w4 R s (p + n + 1)) := HR2.out.later hb4
          have HF4 : Hid (Fr R w w4) := HF2.out.trans (Fr.of (Nat.le_of_lt HR2.out.lt) hb4)
          have HO4 : Hid (ownV w4 w.heap.size _ acc) := HO2.out.same (fun k hk _ => hb4.block k hk)
          clear hb4 HR2 HF2 HO2
          go_wp2_with fail
          refine (rdBool_key R s (p + n + 1) b w4 HR4.out (by have := A.out; omega) (by have := A.out; omega)).mono ?_
          rintro e w5 ⟨hf5, ⟨hc, rfl, hr5⟩ | ⟨hc, rfl⟩⟩
          · skip
            skip
            have HR5 : Hid (Rd w5 R s (p + n + 1 + 0)) := hr5
            have HF5 : Hid (Fr R w w5) := HF4.out.trans hf5
            have HO5 : Hid (ownV w5 w.heap.size _ acc) := HO4.out.fr hlt hf5
            have hB5 : w.heap.size ≤ w5.heap.size := HF5.out.size
            clear hr5 hf5 HR4 HF4 HO4 hc
            unfold vA
            go_wp2_with (at_builtin; refine app_val (by rfl) _ _ (by rfl) w.heap.size _ acc (1, b - 32, ⟨#[]⟩) HO5.out (by rfl) (by rfl) (by omega) hB5 ?_; intro v' w6 hown6 hbel6; have HO6 : Hid (ownV w6 w.heap.size v' (acc ++ [(1, b - 32, ⟨#[]⟩)])) := hown6; have HF6 : Hid (Fr R w w6) := HF5.out.grow (Nat.le_of_lt hlt) hbel6; have HR6 : Hid (Rd w6 R s (p + n + 1 + 0)) := HR5.out.grow hlt hbel6; clear hown6 hbel6)
            refine ⟨⟨_, f, _, ?_, ?_, ?_, HO6.out, ?_, HF6.out, HV5.out⟩, ?_⟩
            · omega
            · omega
            · rw [List.length_append, List.length_singleton]; omega
            · rw [← Nat.add_assoc, ← Nat.add_assoc]; exact HR6.out
            · rw [HR6.out.pos, HP.out]; omega
          · exact absurd rfl hc
        by_cases a3 : 47 ≤ b ∧ b ≤ 64
        · have hE : rkV s (p + n + 1) b = ((2, tagV s (p + n + 1) b, ⟨#[]⟩), tagN b, magE s (p + n + 1) (tagT b) (tagN b)) := by unfold rkV; rw [if_neg a1, if_neg a2, if_pos a3]
          have hin := rkV_in s (p + n + 1) b (by omega)
          rw [hE] at HVs hin
          have HVok : Hid ((magE s (p + n + 1) (tagT b) (tagN b) : Int) = 0 → rkL s p = rkF s p f (n + 1 + tagN b) (acc ++ [(2, tagV s (p + n + 1) b, ⟨#[]⟩)])) := fun h => HVs.out.trans (if_pos h)
          have HVno : Hid ((magE s (p + n + 1) (tagT b) (tagN b) : Int) ≠ 0 → rkL s p = ([], 0, magE s (p + n + 1) (tagT b) (tagN b))) := fun h => HVs.out.trans (if_neg h)
          have hinn : (magE s (p + n + 1) (tagT b) (tagN b) : Int) = 0 → p + n + 1 + tagN b ≤ s.size := hin
          have HIN : Hid ((magE s (p + n + 1) (tagT b) (tagN b) : Int) = 0 → p + n + 1 + tagN b ≤ s.size) := hinn
          clear hin hinn HVs
          have A : Hid (47 ≤ b ∧ b ≤ 64) := a3
          clear hE a3
          go_wp2_with fail
          refine (kind_tag b _ hb0 (by omega)).mono ?_
          rintro e w3 ⟨rfl, he⟩
          rw [if_neg a1, if_neg a2, if_pos A.out] at he
          subst he
          go_wp2_with fail
          refine (layE_2 _).mono ?_
          rintro e w4 ⟨rfl, hb4⟩
          have HR4 : Hid (Rd w4 R s (p + n + 1)) := HR2.out.later hb4
          have HF4 : Hid (Fr R w w4) := HF2.out.trans (Fr.of (Nat.le_of_lt HR2.out.lt) hb4)
          have HO4 : Hid (ownV w4 w.heap.size _ acc) := HO2.out.same (fun k hk _ => hb4.block k hk)
          clear hb4 HR2 HF2 HO2
          go_wp2_with fail
          refine (rdInt_key R s (p + n + 1) b w4 HR4.out (by omega) hs A.out.1 A.out.2).mono ?_
          rintro e w5 ⟨hf5, ⟨hc, rfl, hr5⟩ | ⟨hc, rfl⟩⟩
          · have HV5 : Hid _ := HVok.out hc
            have hin2 := HIN.out hc
            have HR5 : Hid (Rd w5 R s (p + n + 1 + tagN b)) := hr5
            have HF5 : Hid (Fr R w w5) := HF4.out.trans hf5
            have HO5 : Hid (ownV w5 w.heap.size _ acc) := HO4.out.fr hlt hf5
            have hB5 : w.heap.size ≤ w5.heap.size := HF5.out.size
            clear hr5 hf5 HR4 HF4 HO4 HIN HVok HVno hc
            unfold vA
            go_wp2_with (at_builtin; refine app_val (by rfl) _ _ (by rfl) w.heap.size _ acc (2, tagV s (p + n + 1) b, ⟨#[]⟩) HO5.out (by rfl) (by rfl) (by omega) hB5 ?_; intro v' w6 hown6 hbel6; have HO6 : Hid (ownV w6 w.heap.size v' (acc ++ [(2, tagV s (p + n + 1) b, ⟨#[]⟩)])) := hown6; have HF6 : Hid (Fr R w w6) := HF5.out.grow (Nat.le_of_lt hlt) hbel6; have HR6 : Hid (Rd w6 R s (p + n + 1 + tagN b)) := HR5.out.grow hlt hbel6; clear hown6 hbel6)
            refine ⟨⟨_, f, _, ?_, ?_, ?_, HO6.out, ?_, HF6.out, HV5.out⟩, ?_⟩
            · omega
            · omega
            · rw [List.length_append, List.length_singleton]; omega
            · rw [← Nat.add_assoc, ← Nat.add_assoc]; exact HR6.out
            · rw [HR6.out.pos, HP.out]; omega
          · exact ⟨rfl, tookV_e (HVno.out hc) hc (HF4.out.trans hf5)⟩
        by_cases a4 : b = 80
        · have hE : rkV s (p + n + 1) b = ((3, 0, strOfNums (rtV s (p + n + 1)).1), (rtV s (p + n + 1)).2.1, (rtV s (p + n + 1)).2.2) := by unfold rkV; rw [if_neg a1, if_neg a2, if_neg a3, if_pos a4]
          have hin := rkV_in s (p + n + 1) b (by omega)
          rw [hE] at HVs hin
          have HVok : Hid (((rtV s (p + n + 1)).2.2 : Int) = 0 → rkL s p = rkF s p f (n + 1 + (rtV s (p + n + 1)).2.1) (acc ++ [(3, 0, strOfNums (rtV s (p + n + 1)).1)])) := fun h => HVs.out.trans (if_pos h)
          have HVno : Hid (((rtV s (p + n + 1)).2.2 : Int) ≠ 0 → rkL s p = ([], 0, (rtV s (p + n + 1)).2.2)) := fun h => HVs.out.trans (if_neg h)
          have hinn : ((rtV s (p + n + 1)).2.2 : Int) = 0 → p + n + 1 + (rtV s (p + n + 1)).2.1 ≤ s.size := hin
          have HIN : Hid (((rtV s (p + n + 1)).2.2 : Int) = 0 → p + n + 1 + (rtV s (p + n + 1)).2.1 ≤ s.size) := hinn
          clear hin hinn HVs
          have A : Hid (b = 80) := a4
          clear hE a4
          go_wp2_with fail
          refine (kind_tag b _ hb0 (by omega)).mono ?_
          rintro e w3 ⟨rfl, he⟩
          rw [if_neg a1, if_neg a2, if_neg a3, if_pos A.out] at he
          subst he
          go_wp2_with fail
          refine (layE_3 _).mono ?_
          rintro e w4 ⟨rfl, hb4⟩
          have HR4 : Hid (Rd w4 R s (p + n + 1)) := HR2.out.later hb4
          have HF4 : Hid (Fr R w w4) := HF2.out.trans (Fr.of (Nat.le_of_lt HR2.out.lt) hb4)
          have HO4 : Hid (ownV w4 w.heap.size _ acc) := HO2.out.same (fun k hk _ => hb4.block k hk)
          clear hb4 HR2 HF2 HO2
          go_wp2_with fail
          refine (rdText_key R s (p + n + 1) b w4 HR4.out (by omega) hs).mono ?_
          rintro e w5 ⟨hf5, ⟨hc, rfl, hr5⟩ | ⟨hc, rfl⟩⟩
          · have HV5 : Hid _ := HVok.out hc
            have hin2 := HIN.out hc
            have HR5 : Hid (Rd w5 R s (p + n + 1 + (rtV s (p + n + 1)).2.1)) := hr5
            have HF5 : Hid (Fr R w w5) := HF4.out.trans hf5
            have HO5 : Hid (ownV w5 w.heap.size _ acc) := HO4.out.fr hlt hf5
            have hB5 : w.heap.size ≤ w5.heap.size := HF5.out.size
            clear hr5 hf5 HR4 HF4 HO4 HIN HVok HVno hc
            unfold vA
            go_wp2_with (at_builtin; refine app_val (by rfl) _ _ (by rfl) w.heap.size _ acc (3, 0, strOfNums (rtV s (p + n + 1)).1) HO5.out (by rfl) (by rfl) (by omega) hB5 ?_; intro v' w6 hown6 hbel6; have HO6 : Hid (ownV w6 w.heap.size v' (acc ++ [(3, 0, strOfNums (rtV s (p + n + 1)).1)])) := hown6; have HF6 : Hid (Fr R w w6) := HF5.out.grow (Nat.le_of_lt hlt) hbel6; have HR6 : Hid (Rd w6 R s (p + n + 1 + (rtV s (p + n + 1)).2.1)) := HR5.out.grow hlt hbel6; clear hown6 hbel6)
            refine ⟨⟨_, f, _, ?_, ?_, ?_, HO6.out, ?_, HF6.out, HV5.out⟩, ?_⟩
            · omega
            · omega
            · rw [List.length_append, List.length_singleton]; omega
            · rw [← Nat.add_assoc, ← Nat.add_assoc]; exact HR6.out
            · rw [HR6.out.pos, HP.out]; omega
          · exact ⟨rfl, tookV_e (HVno.out hc) hc (HF4.out.trans hf5)⟩
        have hE : rkV s (p + n + 1) b = ((0, 0, ⟨#[]⟩), 0, 14) := by unfold rkV; rw [if_neg a1, if_neg a2, if_neg a3, if_neg a4]
        rw [hE] at HVs
        have HV14 : Hid (rkL s p = ([], 0, 14)) := HVs.out.trans (if_neg (by decide))
        clear hE HVs
        go_wp2_with fail
        refine (kind_tag b _ hb0 (by omega)).mono ?_
        rintro e w3 ⟨rfl, he⟩
        rw [if_neg a1, if_neg a2, if_neg a3, if_neg a4] at he
        subst he
        exact ⟨rfl, tookV_e HV14.out (by decide) HF2.out⟩
    · have HVn : Hid (rkL s p = (acc, n, 0)) := HV.out.trans (rkF_end s p f n acc hl)
      have hl1 : ¬ (0 : Int) < (s.size : Int) - ((p + n : Nat) : Int) := by omega
      go_wp2_with fail
      refine (left_any R s (p + n) wr HR.out hn hs).mono ?_
      rintro e w1 ⟨rfl, nq, rfl⟩
      have HR1 : Hid (Rd (wr.drewN nq) R s (p + n)) := HR.out.drewN nq
      have HF1 : Hid (Fr R w (wr.drewN nq)) := HF.out.trans (fr_drewN nq)
      have HO1 : Hid (ownV (wr.drewN nq) w.heap.size _ acc) := HO.out.fr hlt (fr_drewN nq)
      clear HR HF HO
      generalize wr.drewN nq = w1 at *
      go_wp2
      go_ret
      exact tookV_v HVn.out HF1.out HO1.out HR1.out
end Go.Proofs.YtjcffcpmegpjeaaGreatDoor

namespace Go.Proofs.YtjcffcpmegpjeaaGreatDoor
open Go.ChangeShapes Go.WideShapes Go.ChangeAt Go.RowKit
set_option linter.unusedVariables false
set_option maxRecDepth 100000

set_option maxRecDepth 100000 in
set_option maxHeartbeats 800000 in
theorem catchV (c a : Int) (bA bV bN bE : Nat) (x y z : Value) (older : List PanicEntry) (w : World)
    (hA : w.cell? ⟨bA, 0, none⟩ = some (.int .i64 a)) (hV : w.cell? ⟨bV, 0, none⟩ = some x) (hN : w.cell? ⟨bN, 0, none⟩ = some y) (hE : w.cell? ⟨bE, 0, none⟩ = some z)
    (fV : w.frozen? ⟨bV, 0, none⟩ = false) (fN : w.frozen? ⟨bN, 0, none⟩ = false) (fE : w.frozen? ⟨bE, 0, none⟩ = false)
    (n4 : bV ≠ bN) (n5 : bV ≠ bE) (n6 : bN ≠ bE) :
    CallsD Tryz.prog 107 #[.pointer (some ⟨bA, 0, none⟩), .pointer (some ⟨bV, 0, none⟩), .pointer (some ⟨bN, 0, none⟩), .pointer (some ⟨bE, 0, none⟩)] (.panicking ({ v := .iface 29 (.int .i64 c), recovered := false } :: older)) w fun e u' w' =>
      e = .returned (.tuple #[]) ∧ u' = .panicking ({ v := .iface 29 (.int .i64 c), recovered := true } :: older) ∧ w'.cell? ⟨bV, 0, none⟩ = some (.slice none 0 0) ∧ w'.cell? ⟨bN, 0, none⟩ = some (.int .i64 a) ∧ w'.cell? ⟨bE, 0, none⟩ = some (.int .i64 c) ∧ (∀ B, B ≤ bV → B ≤ bN → B ≤ bE → Below B w w') := by
  refine callsD_of_wpS Tryz.func107 rfl fun c₀ cs hu => ?_
  apply wpS_seq
  apply wpS_region
  simp [wpOpsS, go_sem, recoverD, hu, Tryz.ntmps107, Exit.thenS]
  refine wpS_of_wp ?_
  simp only [Array.replicate, List.replicate, List.setIfInBounds_toArray, List.set_cons_zero, List.set_cons_succ, List.append_toArray, List.cons_append, List.nil_append]
  go_wp2
  have hta := assert_errno
  go_region
  change bodyPostS _ _ _ _ _ _ _ _ _
  refine ⟨rfl, _, rfl, _, results_none rfl _ _ _, rfl, rfl, ?_, ?_, ?_, ?_⟩
  · simp [go_sem, hV]
  · simp [go_sem, hN]
  · simp [go_sem, hE]
  · intro B h1 h2 h3
    exact (((Below.refl _ _).setCell h1 _).setCell h2 _).setCell h3 _ |>.drew
theorem idleV (pA pV pN pE : Addr) (w : World) :
    CallsD Tryz.prog 107 #[.pointer (some pA), .pointer (some pV), .pointer (some pN), .pointer (some pE)] .returning w fun e u' w' => e = .returned (.tuple #[]) ∧ u' = .returning ∧ w' = w := by
  refine callsD_of_wpS Tryz.func107 rfl fun c₀ cs hu => ?_
  apply wpS_seq
  apply wpS_region
  simp [wpOpsS, go_sem, recoverD, hu, Tryz.ntmps107, Exit.thenS]
  refine wpS_of_wp ?_
  simp only [Array.replicate, List.replicate, List.setIfInBounds_toArray, List.set_cons_zero, List.set_cons_succ, List.append_toArray, List.cons_append, List.nil_append]
  go_wp2
  change bodyPostS _ _ _ _ _ _ _ _ _
  cases c₀
  simp only at hu
  subst hu
  exact ⟨rfl, _, rfl, _, results_none rfl _ _ _, rfl, rfl, rfl⟩

/-- What lies above the door's own blocks stays when these are stored. -/
def ownH (w : World) (n : Nat) (v : Value) (vs : List (Int × Int × ByteArray)) : Prop := ownV w (n + 5) v vs
theorem ownH.set {w : World} {n : Nat} {v : Value} {vs : List (Int × Int × ByteArray)} (h : ownH w n v vs) {q : Addr} (hq : q.block < n + 5) (u : Value) : ownH (w.setCell q u) n v vs :=
  ownV.same h fun k _ hk => Below.heap_setCell w q u k (by omega)
theorem ownH.drew {w : World} {n : Nat} {v : Value} {vs : List (Int × Int × ByteArray)} (h : ownH w n v vs) : ownH w.drew n v vs := h
theorem ownH.down {w : World} {n : Nat} {v : Value} {vs : List (Int × Int × ByteArray)} (h : ownH w n v vs) : ownV w n v vs := by
  rcases h with ⟨h1, h2 | ⟨g, cap, cur, rfl, hb, hr⟩⟩
  · exact ⟨h1, .inl h2⟩
  · exact ⟨h1, .inr ⟨g, cap, cur, rfl, by omega, hr⟩⟩
theorem ownV.form {w : World} {B : Nat} {v : Value} {vs : List (Int × Int × ByteArray)} (h : ownV w B v vs) : ∃ a n c, v = .slice a n c := by
  rcases h with ⟨h1, ⟨rfl, h2⟩ | ⟨g, cap, cur, rfl, hb, hr⟩⟩
  · exact ⟨_, _, _, rfl⟩
  · exact ⟨_, _, _, rfl⟩
theorem ownV_door {w w1 : World} {v : Value} {vs : List (Int × Int × ByteArray)} {a b c d e : Obj} (h : ownV w1 (((((w.alloc a).alloc b).alloc c).alloc d).alloc e).heap.size v vs) : ownH w1 w.heap.size v vs := by
  unfold ownH; rw [← five_size w a b c d e]; exact h
theorem ownH.four {w : World} {n : Nat} {v : Value} {vs : List (Int × Int × ByteArray)} (h : ownH w n v vs) {q1 q2 q3 q4 : Addr} {u1 u2 u3 u4 : Value} (h1 : q1.block < n + 5 := by simp) (h2 : q2.block < n + 5 := by simp) (h3 : q3.block < n + 5 := by simp) (h4 : q4.block < n + 5 := by simp) : ownV ((((w.setCell q1 u1).setCell q2 u2).setCell q3 u3).setCell q4 u4).drew n v vs :=
  ((((h.set h1 u1).set h2 u2).set h3 u3).set h4 u4).drew.down
set_option maxRecDepth 100000 in
set_option maxHeartbeats 1600000 in
theorem readK_core (s : ByteArray) (p : Nat) (w : World) (r : List (Int × Int × ByteArray) × Nat × Int) (hp : p ≤ s.size) (hs : s.size ≤ 1125899906842624) (HT : Hid (∀ R w, Rd w R s p → Calls Tryz.prog 110 #[.pointer (some ⟨R, 0, none⟩)] w (TookV R s p w r))) :
    Calls Tryz.prog 85 #[.string s, .int .i64 p, .func (.func 110) #[] #[]] w fun e w' => ((r.2.2 = 0 → ∃ v, e = .returned (.tuple #[v, .int .i64 ((p : Int) + r.2.1), .int .i64 0]) ∧ ownV w' w.heap.size v r.1) ∧ (r.2.2 ≠ 0 → e = .returned (.tuple #[.slice none 0 0, .int .i64 p, .int .i64 r.2.2]))) ∧ Below w.heap.size w w' := by
  have hmf : ∀ (fn : Fn) (first cap : Array Value) (w : World), (Instr.makeFunc fn first cap).run Tryz.prog w = .ok (.func fn first cap) w := fun _ _ _ _ => rfl
  go_enter_defers Tryz.func85, Tryz.ntmps85
  go_wp2_with fail
  refine (HT.out (w.heap.size + 1 + 1 + 1 + 1) _ (rd_new _ _ _ _ (by simp))).mono ?_
  rintro e w1 ⟨hb, hto⟩
  have cA : w1.cell? ⟨w.heap.size, 0, none⟩ = some (.int .i64 p) := by rw [hb.cell (by simp <;> omega)]; simp [go_sem]
  have cV : w1.cell? ⟨w.heap.size + 1, 0, none⟩ = some (.slice none 0 0) := by rw [hb.cell (by simp <;> omega)]; simp [go_sem]
  have cN : w1.cell? ⟨w.heap.size + 1 + 1, 0, none⟩ = some (.int .i64 0) := by rw [hb.cell (by simp <;> omega)]; simp [go_sem]
  have cE : w1.cell? ⟨w.heap.size + 1 + 1 + 1, 0, none⟩ = some (.int .i64 0) := by rw [hb.cell (by simp)]; simp [go_sem]
  have fV : w1.frozen? ⟨w.heap.size + 1, 0, none⟩ = false := by rw [hb.frozen (by simp <;> omega)]; simp [go_sem]
  have fN : w1.frozen? ⟨w.heap.size + 1 + 1, 0, none⟩ = false := by rw [hb.frozen (by simp <;> omega)]; simp [go_sem]
  have fE : w1.frozen? ⟨w.heap.size + 1 + 1 + 1, 0, none⟩ = false := by rw [hb.frozen (by simp)]; simp [go_sem]
  have HB : Hid (Below w.heap.size w w1) := Below.of_five hb.toBelow
  clear hb
  rcases hto with ⟨hc0, v, rfl, hown, hr⟩ | ⟨hc, rfl⟩
  · have c1 := hr.cell1
    obtain ⟨va, vn, vc, rfl⟩ := hown.form
    have HO : Hid (ownH _ _ _ _) := ownV_door hown
    have HC : Hid (r.2.2 = 0) := hc0
    clear hr hown hc0
    go_wp2
    go_region
    go_wp2
    refine leaves_cons (f := 107) (args := #[.pointer (some ⟨w.heap.size, 0, none⟩), .pointer (some ⟨w.heap.size + 1, 0, none⟩), .pointer (some ⟨w.heap.size + 1 + 1, 0, none⟩), .pointer (some ⟨w.heap.size + 1 + 1 + 1, 0, none⟩)]) (by simp) (by simp [go_sem]) ?_
    refine (idleV _ _ _ _ _).mono ?_
    rintro e u' w2 ⟨rfl, rfl, rfl⟩
    refine ⟨.tuple #[.slice va vn vc, .int .i64 ((p : Int) + r.2.1), .int .i64 0], by simp [results, Tryz.results85, go_sem, cV, cN, cE], ?_, ?_⟩
    · refine ⟨fun _ => ⟨_, rfl, ?_⟩, fun h => absurd HC.out h⟩
      exact HO.out.four
    · exact ((((HB.out.setCell (by simp) _).setCell (by simp) _).setCell (by simp; omega) _).setCell (by simp; omega) _).drew
  · refine leaves_cons (f := 107) (args := #[.pointer (some ⟨w.heap.size, 0, none⟩), .pointer (some ⟨w.heap.size + 1, 0, none⟩), .pointer (some ⟨w.heap.size + 1 + 1, 0, none⟩), .pointer (some ⟨w.heap.size + 1 + 1 + 1, 0, none⟩)]) (by simp) (by simp [go_sem]) ?_
    refine (catchV r.2.2 p _ _ _ _ _ _ _ [] _ cA cV cN cE fV fN fE (by omega) (by omega) (by omega)).mono ?_
    rintro e u' w2 ⟨rfl, rfl, dV, dN, dE, hb2⟩
    refine ⟨.tuple #[.slice none 0 0, .int .i64 p, .int .i64 r.2.2], by simp [results, Tryz.results85, go_sem, dV, dN, dE], ?_, ?_⟩
    · exact ⟨fun h => absurd h hc, fun _ => rfl⟩
    · exact HB.out.trans (hb2 _ (by omega) (by omega) (by omega))

set_option maxRecDepth 100000 in
set_option maxHeartbeats 1600000 in
theorem readW_core (s : ByteArray) (p : Nat) (w : World) (r : List (Int × Int × ByteArray) × Nat × Int) (hp : p ≤ s.size) (hs : s.size ≤ 1125899906842624) (HT : Hid (∀ R w, Rd w R s p → Calls Tryz.prog 86 #[.pointer (some ⟨R, 0, none⟩)] w (TookV R s p w r))) :
    Calls Tryz.prog 85 #[.string s, .int .i64 p, .func (.func 86) #[] #[]] w fun e w' => ((r.2.2 = 0 → ∃ v, e = .returned (.tuple #[v, .int .i64 ((p : Int) + r.2.1), .int .i64 0]) ∧ ownV w' w.heap.size v r.1) ∧ (r.2.2 ≠ 0 → e = .returned (.tuple #[.slice none 0 0, .int .i64 p, .int .i64 r.2.2]))) ∧ Below w.heap.size w w' := by
  have hmf : ∀ (fn : Fn) (first cap : Array Value) (w : World), (Instr.makeFunc fn first cap).run Tryz.prog w = .ok (.func fn first cap) w := fun _ _ _ _ => rfl
  go_enter_defers Tryz.func85, Tryz.ntmps85
  go_wp2_with fail
  refine (HT.out (w.heap.size + 1 + 1 + 1 + 1) _ (rd_new _ _ _ _ (by simp))).mono ?_
  rintro e w1 ⟨hb, hto⟩
  have cA : w1.cell? ⟨w.heap.size, 0, none⟩ = some (.int .i64 p) := by rw [hb.cell (by simp <;> omega)]; simp [go_sem]
  have cV : w1.cell? ⟨w.heap.size + 1, 0, none⟩ = some (.slice none 0 0) := by rw [hb.cell (by simp <;> omega)]; simp [go_sem]
  have cN : w1.cell? ⟨w.heap.size + 1 + 1, 0, none⟩ = some (.int .i64 0) := by rw [hb.cell (by simp <;> omega)]; simp [go_sem]
  have cE : w1.cell? ⟨w.heap.size + 1 + 1 + 1, 0, none⟩ = some (.int .i64 0) := by rw [hb.cell (by simp)]; simp [go_sem]
  have fV : w1.frozen? ⟨w.heap.size + 1, 0, none⟩ = false := by rw [hb.frozen (by simp <;> omega)]; simp [go_sem]
  have fN : w1.frozen? ⟨w.heap.size + 1 + 1, 0, none⟩ = false := by rw [hb.frozen (by simp <;> omega)]; simp [go_sem]
  have fE : w1.frozen? ⟨w.heap.size + 1 + 1 + 1, 0, none⟩ = false := by rw [hb.frozen (by simp)]; simp [go_sem]
  have HB : Hid (Below w.heap.size w w1) := Below.of_five hb.toBelow
  clear hb
  rcases hto with ⟨hc0, v, rfl, hown, hr⟩ | ⟨hc, rfl⟩
  · have c1 := hr.cell1
    obtain ⟨va, vn, vc, rfl⟩ := hown.form
    have HO : Hid (ownH _ _ _ _) := ownV_door hown
    have HC : Hid (r.2.2 = 0) := hc0
    clear hr hown hc0
    go_wp2
    go_region
    go_wp2
    refine leaves_cons (f := 107) (args := #[.pointer (some ⟨w.heap.size, 0, none⟩), .pointer (some ⟨w.heap.size + 1, 0, none⟩), .pointer (some ⟨w.heap.size + 1 + 1, 0, none⟩), .pointer (some ⟨w.heap.size + 1 + 1 + 1, 0, none⟩)]) (by simp) (by simp [go_sem]) ?_
    refine (idleV _ _ _ _ _).mono ?_
    rintro e u' w2 ⟨rfl, rfl, rfl⟩
    refine ⟨.tuple #[.slice va vn vc, .int .i64 ((p : Int) + r.2.1), .int .i64 0], by simp [results, Tryz.results85, go_sem, cV, cN, cE], ?_, ?_⟩
    · refine ⟨fun _ => ⟨_, rfl, ?_⟩, fun h => absurd HC.out h⟩
      exact HO.out.four
    · exact ((((HB.out.setCell (by simp) _).setCell (by simp) _).setCell (by simp; omega) _).setCell (by simp; omega) _).drew
  · refine leaves_cons (f := 107) (args := #[.pointer (some ⟨w.heap.size, 0, none⟩), .pointer (some ⟨w.heap.size + 1, 0, none⟩), .pointer (some ⟨w.heap.size + 1 + 1, 0, none⟩), .pointer (some ⟨w.heap.size + 1 + 1 + 1, 0, none⟩)]) (by simp) (by simp [go_sem]) ?_
    refine (catchV r.2.2 p _ _ _ _ _ _ _ [] _ cA cV cN cE fV fN fE (by omega) (by omega) (by omega)).mono ?_
    rintro e u' w2 ⟨rfl, rfl, dV, dN, dE, hb2⟩
    refine ⟨.tuple #[.slice none 0 0, .int .i64 p, .int .i64 r.2.2], by simp [results, Tryz.results85, go_sem, dV, dN, dE], ?_, ?_⟩
    · exact ⟨fun h => absurd h hc, fun _ => rfl⟩
    · exact HB.out.trans (hb2 _ (by omega) (by omega) (by omega))

set_option maxRecDepth 100000 in
theorem readKey_any (s : ByteArray) (w : World) (hs : s.size ≤ 1125899906842624) :
    Calls Tryz.prog 92 #[.string s] w fun e w' => (((rkL s 0).2.2 = 0 → ∃ v, e = .returned (.tuple #[v, .int .i64 0]) ∧ ownV w' w.heap.size v (rkL s 0).1) ∧ ((rkL s 0).2.2 ≠ 0 → e = .returned (.tuple #[.slice none 0 0, .int .i64 (rkL s 0).2.2]))) ∧ Below w.heap.size w w' := by
  have hC := readK_core s 0 w (rkL s 0) (Nat.zero_le _) hs (fun R w h => key_read R s 0 w h (Nat.zero_le _) hs)
  go_enter Tryz.func92, Tryz.ntmps92
  go_wp2_with fail
  refine hC.mono ?_
  rintro e w1 ⟨⟨h0, h1⟩, hb⟩
  by_cases hc : (rkL s 0).2.2 = 0
  · obtain ⟨v, rfl, hown⟩ := h0 hc
    obtain ⟨va, vn, vc, rfl⟩ := hown.form
    have HO : Hid (ownV w1 w.heap.size (.slice va vn vc) (rkL s 0).1) := hown
    have HB : Hid (Below w.heap.size w w1) := hb
    have HC : Hid ((rkL s 0).2.2 = 0) := hc
    clear hown hb hc h0 h1 hC
    go_wp2
    go_ret2
    exact ⟨⟨fun _ => ⟨_, rfl, HO.out⟩, fun h => absurd HC.out h⟩, HB.out⟩
  · have he := h1 hc
    subst he
    have HB : Hid (Below w.heap.size w w1) := hb
    have HC : Hid ((rkL s 0).2.2 ≠ 0) := hc
    clear hb hc h0 h1 hC
    go_wp2
    go_ret2
    exact ⟨⟨fun h => absurd h HC.out, fun _ => rfl⟩, HB.out⟩
end Go.Proofs.YtjcffcpmegpjeaaGreatDoor

namespace Go.Proofs.YtjcffcpmegpjeaaGreatDoor
open Go.ChangeShapes Go.WideShapes Go.ChangeAt Go.RowKit
set_option linter.unusedVariables false
set_option maxRecDepth 100000

set_option maxRecDepth 100000 in
theorem rdNull_row (R : Nat) (s : ByteArray) (p : Nat) (w : World) (h : Rd w R s p) :
    Calls Tryz.prog 123 #[.pointer (some ⟨R, 0, none⟩)] w (Took R s p w (vA 0 0 ⟨#[]⟩) 0 0) := by
  go_enter Tryz.func123, Tryz.ntmps123
  go_wp2
  have hb : Below w.heap.size w (w.alloc (.cells #[.int .i64 0, .int .i64 0, .string ⟨#[]⟩] 59)) := (Below.refl _ _).alloc (Nat.le_refl _) _
  exact bodyPost_ret (ret_val (p := 2) rfl _ _ 0 0 ⟨#[]⟩ w.heap.size (by rfl) (heap_alloc_new w _)) rfl (took_v rfl rfl (Fr.of (Nat.le_of_lt h.lt) hb) (h.later hb))
/-- A truth in a row: its worth, its error. -/
def rbW (s : ByteArray) (p : Nat) : Int := if h : p < s.size then (s[p].toNat : Int) else 0
def rbE (s : ByteArray) (p : Nat) : Int := if h : p < s.size then (if 1 < s[p].toNat then 14 else 0) else 11
set_option maxRecDepth 100000 in
set_option maxHeartbeats 800000 in
theorem rdBool_row (R : Nat) (s : ByteArray) (p : Nat) (w : World) (h : Rd w R s p) (hp : p ≤ s.size) (hs : s.size ≤ 1125899906842624) :
    Calls Tryz.prog 128 #[.pointer (some ⟨R, 0, none⟩)] w (Took R s p w (vA 1 (rbW s p) ⟨#[]⟩) 1 (rbE s p)) := by
  have hz := h.later (zbelow w)
  have Z := zfr w h
  have hlt := h.lt
  clear h
  by_cases hl : p < s.size
  · have HW : Hid (rbW s p = (s[p].toNat : Int)) := by show _ = _; unfold rbW; rw [dif_pos hl]
    have HE : Hid (rbE s p = if 1 < s[p].toNat then 14 else 0) := by show _ = _; unfold rbE; rw [dif_pos hl]
    go_enter Tryz.func128, Tryz.ntmps128
    go_wp2_with fail
    refine (byte_some R s p _ hz hl hs).mono ?_
    rintro e w1 ⟨rfl, hr, hb⟩
    obtain ⟨HF, HH, _⟩ := Z w1 hb
    have HR : Hid (Rd w1 R s (p + 1)) := hr
    have hb8 : s[p].toNat < 256 := s[p].toNat_lt
    clear hb hr Z hz
    generalize s[p].toNat = b at *
    by_cases c1 : 1 < b
    · rw [if_pos c1] at HE
      have t1 : (1 : Int) < (b : Int) := by omega
      go_wp2
      exact ⟨rfl, took_e HE.out (by decide) HF.out _⟩
    · rw [if_neg c1] at HE
      have t1 : ¬ (1 : Int) < (b : Int) := by omega
      go_wp2_with fail
      refine (boolValue_any (b : Int) w1 (by omega) (by omega)).mono ?_
      rintro e w2 ⟨rfl, hb2⟩
      obtain ⟨HH2, c0, c1, c2, f0, f1, f2⟩ := zcells HH.out hb2
      have HF2 : Hid (Fr R w w2) := HF.out.trans (Fr.of (Nat.le_of_lt HR.out.lt) hb2)
      have HR2 : Hid (Rd w2 R s (p + 1)) := HR.out.later hb2
      clear hb2 HH HF HR
      unfold vA
      go_wp2
      exact bodyPost_ret (ret_val (p := 2) rfl _ _ 1 (b : Int) ⟨#[]⟩ w.heap.size (by rfl) (set3 HH2.out)) rfl (took_v HE.out (by rw [HW.out]) (HF2.out.set3 (Nat.le_of_lt hlt) (Nat.le_refl _)) (HR2.out.set3 (Nat.ne_of_gt hlt)))
  · have e : p = s.size := by omega
    subst e
    go_enter Tryz.func128, Tryz.ntmps128
    go_wp2_with fail
    refine (byte_short R s _ hz hs).mono ?_
    rintro e w1 ⟨rfl, hb⟩
    exact ⟨rfl, took_e (by unfold rbE; rw [dif_neg hl]) (by decide) (Z w1 hb).1.out _⟩
set_option maxRecDepth 100000 in
set_option maxHeartbeats 800000 in
theorem rdInt_row (R : Nat) (s : ByteArray) (p : Nat) (w : World) (h : Rd w R s p) (hp : p ≤ s.size) (hs : s.size ≤ 1125899906842624) :
    Calls Tryz.prog 133 #[.pointer (some ⟨R, 0, none⟩)] w (Took R s p w (vA 2 (sdec (ruV s p).1) ⟨#[]⟩) (ruV s p).2.1 (ruV s p).2.2) := by
  have hM := svarint_read R s p _ (h.later (zbelow w)) hp hs
  have Z := zfr w h
  have hlt := h.lt
  clear h
  generalize sdec (ruV s p).1 = A at *
  generalize (ruV s p).2.1 = m at *
  generalize (ruV s p).2.2 = ec at *
  go_enter Tryz.func133, Tryz.ntmps133
  go_wp2_with fail
  refine hM.mono ?_
  rintro e w1 ⟨hb, ⟨hc, rfl, hr⟩ | ⟨hc, rfl⟩⟩
  · have HC : Hid (ec = 0) := hc
    have HR : Hid (Rd w1 R s (p + m)) := hr
    obtain ⟨HF, HH, _⟩ := Z w1 hb
    clear hc hr hb hM Z
    go_wp2_with fail
    refine (intValue_any A w1).mono ?_
    rintro e w2 ⟨rfl, hb2⟩
    obtain ⟨HH2, c0, c1, c2, f0, f1, f2⟩ := zcells HH.out hb2
    have HF2 : Hid (Fr R w w2) := HF.out.trans (Fr.of (Nat.le_of_lt HR.out.lt) hb2)
    have HR2 : Hid (Rd w2 R s (p + m)) := HR.out.later hb2
    clear hb2 HH HF HR
    unfold vA
    go_wp2
    exact bodyPost_ret (ret_val (p := 2) rfl _ _ 2 A ⟨#[]⟩ w.heap.size (by rfl) (set3 HH2.out)) rfl (took_v HC.out rfl (HF2.out.set3 (Nat.le_of_lt hlt) (Nat.le_refl _)) (HR2.out.set3 (Nat.ne_of_gt hlt)))
  · exact ⟨rfl, took_e rfl hc (Z w1 hb).1.out _⟩
set_option maxRecDepth 100000 in
set_option maxHeartbeats 800000 in
theorem rdText_row (R : Nat) (s : ByteArray) (p : Nat) (w : World) (h : Rd w R s p) (hp : p ≤ s.size) (hs : s.size ≤ 1125899906842624) :
    Calls Tryz.prog 138 #[.pointer (some ⟨R, 0, none⟩)] w (Took R s p w (vA 3 0 (rbV s p 4096).1) (rbV s p 4096).2.1 (rbV s p 4096).2.2) := by
  have hM := blob_read R s p 4096 _ (h.later (zbelow w)) hp (by omega) hs
  have Z := zfr w h
  have hlt := h.lt
  clear h
  generalize (rbV s p 4096).1 = A at *
  generalize (rbV s p 4096).2.1 = m at *
  generalize (rbV s p 4096).2.2 = ec at *
  go_enter Tryz.func138, Tryz.ntmps138
  go_wp2_with fail
  refine hM.mono ?_
  rintro e w1 ⟨hb, ⟨hc, rfl, hr⟩ | ⟨hc, rfl⟩⟩
  · have HC : Hid (ec = 0) := hc
    have HR : Hid (Rd w1 R s (p + m)) := hr
    obtain ⟨HF, HH, _⟩ := Z w1 hb
    clear hc hr hb hM Z
    go_wp2_with fail
    refine (textValue_any A w1).mono ?_
    rintro e w2 ⟨rfl, hb2⟩
    obtain ⟨HH2, c0, c1, c2, f0, f1, f2⟩ := zcells HH.out hb2
    have HF2 : Hid (Fr R w w2) := HF.out.trans (Fr.of (Nat.le_of_lt HR.out.lt) hb2)
    have HR2 : Hid (Rd w2 R s (p + m)) := HR.out.later hb2
    clear hb2 HH HF HR
    unfold vA
    go_wp2
    exact bodyPost_ret (ret_val (p := 2) rfl _ _ 3 0 A w.heap.size (by rfl) (set3 HH2.out)) rfl (took_v HC.out rfl (HF2.out.set3 (Nat.le_of_lt hlt) (Nat.le_refl _)) (HR2.out.set3 (Nat.ne_of_gt hlt)))
  · exact ⟨rfl, took_e rfl hc (Z w1 hb).1.out _⟩
end Go.Proofs.YtjcffcpmegpjeaaGreatDoor
