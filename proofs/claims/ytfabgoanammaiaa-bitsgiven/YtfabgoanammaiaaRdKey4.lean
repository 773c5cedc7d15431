import Derived.Test.YtfabgoanammaiaaRdKey3
namespace Go.Proofs.Ytfabgoanammaiaa
open Go.ChangeShapes Go.WideShapes Go.ChangeAt Go.RowKit
set_option linter.unusedVariables false

/-- What stands behind a byte 0. -/
def etE (s : ByteArray) (p : Nat) : Int := if h : p < s.size then (if s[p].toNat = 1 ∨ s[p].toNat = 255 then 0 else 15) else 11
def etV (s : ByteArray) (p : Nat) : Bool := if h : p < s.size then s[p].toNat == 1 else false
set_option maxRecDepth 100000 in
set_option maxHeartbeats 800000 in
theorem ends_text (R : Nat) (s : ByteArray) (p : Nat) (w : World) (h : Rd w R s p) (hp : p ≤ s.size) (hs : s.size ≤ 1125899906842624) :
    Calls Try.prog 73 #[.pointer (some ⟨R, 0, none⟩)] w (Took R s p w (.bool (etV s p)) 1 (etE s p)) := by
  by_cases hl : p < s.size
  · have HE : Hid (etE s p = if s[p].toNat = 1 ∨ s[p].toNat = 255 then 0 else 15) := by show _ = _; unfold etE; rw [dif_pos hl]
    have HV : Hid (etV s p = (s[p].toNat == 1)) := by show _ = _; unfold etV; rw [dif_pos hl]
    go_enter Try.func73, Try.ntmps73
    go_wp2_with fail
    refine (byte_some R s p w h hl hs).mono ?_
    rintro e w1 ⟨rfl, hr, hb⟩
    have HR : Hid (Rd w1 R s (p + 1)) := hr
    have HB : Hid (Fr R w w1) := hb
    have hb8 : s[p].toNat < 256 := s[p].toNat_lt
    clear hr hb h
    generalize s[p].toNat = b at *
    by_cases a1 : b = 1
    · subst a1
      go_wp2
      go_ret
      exact took_v (by rw [HE.out]; rfl) (by rw [HV.out]; rfl) HB.out HR.out
    · have t1 : ((b : Int) == 1) = false := by simp; omega
      by_cases a2 : b = 255
      · subst a2
        go_wp2
        go_ret
        exact took_v (by rw [HE.out]; rfl) (by rw [HV.out]; rfl) HB.out HR.out
      · have t2 : ((b : Int) != 255) = true := by simp; omega
        have t3 : ((b : Int) != 1) = true := by simp; omega
        clear t1
        go_wp2
        exact ⟨rfl, took_e (by rw [HE.out, if_neg (by omega)]) (by decide) HB.out _⟩
  · have e : p = s.size := by omega
    subst e
    go_enter Try.func73, Try.ntmps73
    go_wp2_with fail
    refine (byte_short R s w h hs).mono ?_
    rintro e w1 ⟨rfl, hb⟩
    exact ⟨rfl, took_e (by unfold etE; rw [dif_neg hl]) (by decide) hb _⟩
theorem ownB.same {w w' : World} {B : Nat} {v : Value} {xs : List Int} (h : ownB w B v xs) (hk : ∀ k, k < w.heap.size → B ≤ k → w'.heap[k]? = w.heap[k]?) : ownB w' B v xs := by
  rcases h with ⟨h1, h2 | ⟨g, cap, cur, rfl, hb, hg, hr⟩⟩
  · exact ⟨h1, .inl h2⟩
  · exact ⟨h1, .inr ⟨g, cap, cur, rfl, hb, by rw [hk g (Array.getElem?_eq_some_iff.1 hg).1 hb]; exact hg, hr⟩⟩
theorem ownB.fr {R : Nat} {w w' : World} {B : Nat} {v : Value} {xs : List Int} (h : ownB w B v xs) (hR : R < B) (hf : Fr R w w') : ownB w' B v xs := h.same fun k hk hb => hf.rest k hk (by omega)
theorem Fr.grow {R : Nat} {a w w' : World} (h : Fr R a w) (hR : R ≤ a.heap.size) (hb : Below a.heap.size w w') : Fr R a w' := ⟨h.toBelow.trans (hb.mono hR), fun k hk hn => (hb.block k hk).trans (h.rest k hk hn)⟩
theorem Rd.grow {R B : Nat} {s : ByteArray} {p : Nat} {w w' : World} (h : Rd w R s p) (hR : R < B) (hb : Below B w w') : Rd w' R s p := by
  unfold Rd at h ⊢; rw [hb.block R hR]; exact h
/-- What is read of a text in a key from byte p on, n bytes of it being taken with the text acc: the text, how many bytes, the error. -/
def rtF (s : ByteArray) (p : Nat) : Nat → Nat → List Int → List Int × Nat × Int
  | 0, _, _ => ([], 0, 11)
  | f + 1, n, acc =>
    if h : p + n < s.size then
      (if s[p + n].toNat = 0 then
        (if etE s (p + n + 1) = 0 then
          (if etV s (p + n + 1) then (acc, n + 2, 0)
           else if acc.length = 4096 then ([], 0, 4) else rtF s p f (n + 2) (acc ++ [0]))
         else ([], 0, etE s (p + n + 1)))
       else if acc.length = 4096 then ([], 0, 4) else rtF s p f (n + 1) (acc ++ [(s[p + n].toNat : Int)]))
    else ([], 0, 11)
def rtV (s : ByteArray) (p : Nat) : List Int × Nat × Int := rtF s p (s.size + 1) 0 []
theorem rtF_short (s : ByteArray) (p f n : Nat) (acc : List Int) (h : ¬ p + n < s.size) : rtF s p (f + 1) n acc = ([], 0, 11) := by
  unfold rtF; rw [dif_neg h]
theorem rtF_err (s : ByteArray) (p f n : Nat) (acc : List Int) (h : p + n < s.size) (h0 : s[p + n].toNat = 0) (he : etE s (p + n + 1) ≠ 0) : rtF s p (f + 1) n acc = ([], 0, etE s (p + n + 1)) := by
  unfold rtF; rw [dif_pos h, if_pos h0, if_neg he]
theorem rtF_end (s : ByteArray) (p f n : Nat) (acc : List Int) (h : p + n < s.size) (h0 : s[p + n].toNat = 0) (he : etE s (p + n + 1) = 0) (hv : etV s (p + n + 1) = true) : rtF s p (f + 1) n acc = (acc, n + 2, 0) := by
  unfold rtF; rw [dif_pos h, if_pos h0, if_pos he, if_pos hv]
theorem rtF_zero (s : ByteArray) (p f n : Nat) (acc : List Int) (h : p + n < s.size) (h0 : s[p + n].toNat = 0) (he : etE s (p + n + 1) = 0) (hv : etV s (p + n + 1) = false) : rtF s p (f + 1) n acc = if acc.length = 4096 then ([], 0, 4) else rtF s p f (n + 2) (acc ++ [0]) := by
  conv => lhs; unfold rtF
  rw [dif_pos h, if_pos h0, if_pos he, if_neg (by rw [hv]; decide)]
theorem rtF_byte (s : ByteArray) (p f n : Nat) (acc : List Int) (h : p + n < s.size) (h0 : s[p + n].toNat ≠ 0) : rtF s p (f + 1) n acc = if acc.length = 4096 then ([], 0, 4) else rtF s p f (n + 1) (acc ++ [(s[p + n].toNat : Int)]) := by
  conv => lhs; unfold rtF
  rw [dif_pos h, if_neg h0]
theorem etE_lt {s : ByteArray} {p : Nat} (h : etE s p = 0) : p < s.size := by
  unfold etE at h
  split at h
  · assumption
  · omega
theorem ownB.len {w : World} {B : Nat} {v : Value} {xs : List Int} (h : ownB w B v xs) : (Builtin.len_ #[47] 3 #[v]).run Try.prog w = .ok (.int .i64 xs.length) w := by
  rcases h with ⟨h1, ⟨rfl, h2⟩ | ⟨g, cap, cur, rfl, hb, hg, hr⟩⟩
  · rw [h2]; rfl
  · rfl
/-- Where the reader in block R stands. -/
def posOf (w : World) (R : Nat) : Nat := match w.cell? ⟨R, 1, none⟩ with
  | some v => (intOf v).toNat
  | none => 0
theorem Rd.pos {w : World} {R : Nat} {s : ByteArray} {p : Nat} (h : Rd w R s p) : posOf w R = p := by
  unfold posOf; rw [h.cell1]; simp [intOf]
set_option maxRecDepth 100000 in
set_option maxHeartbeats 1600000 in
theorem rdText_key (R : Nat) (s : ByteArray) (p : Nat) (tag : Int) (w : World) (h : Rd w R s p) (hp : p ≤ s.size) (hs : s.size ≤ 1125899906842624) :
    Calls Try.prog 60 #[.pointer (some ⟨R, 0, none⟩), .int .u8 tag] w (Took R s p w (vA 3 0 (strOfNums (rtV s p).1)) (rtV s p).2.1 (rtV s p).2.2) := by
  have hz := h.later (zbelow w)
  have Z := zfr w h
  have hlt := h.lt
  clear h
  go_enter Try.func60, Try.ntmps60
  go_wp2_with fail
  have HZ : Hid (∀ w1, Fr R (w.alloc (.cells #[.int .i64 0, .int .i64 0, .string ⟨#[]⟩] 45)) w1 → _) := Z
  have hWs : (w.alloc (.cells #[.int .i64 0, .int .i64 0, .string ⟨#[]⟩] 45)).heap.size = w.heap.size + 1 := by show (Array.push _ _).size = _; simp
  clear Z
  generalize hW : w.alloc (.cells #[.int .i64 0, .int .i64 0, .string ⟨#[]⟩] 45) = W at *
  have hRW : R < W.heap.size := by omega
  go_loopw [5] (fun c wr => ∃ (n f : Nat) (acc : List Int), p + n ≤ s.size ∧ s.size < p + n + f ∧ acc.length ≤ 4096 ∧ ownB wr W.heap.size c acc ∧ Rd wr R s (p + n) ∧ Fr R W wr ∧ rtV s p = rtF s p f n acc) (fun _ wr => s.size + 1 - posOf wr R)
  case atStart => exact ⟨0, s.size + 1, [], by omega, by omega, by simp, ownB_nil _ _, hz, Fr.refl _ _, rfl⟩
  case round =>
    obtain ⟨n, f, acc, hn, hf, ha, hown, hr, hfr, hv⟩ := hrel
    obtain ⟨f, rfl⟩ : ∃ f', f = f' + 1 := ⟨f - 1, by omega⟩
    have HV : Hid (rtV s p = rtF s p (f + 1) n acc) := hv
    have HO : Hid (ownB wr W.heap.size _ acc) := hown
    have HR : Hid (Rd wr R s (p + n)) := hr
    have HF : Hid (Fr R W wr) := hfr
    have HP : Hid (posOf wr R = p + n) := hr.pos
    clear hv hown hr hfr hz
    by_cases hl : p + n < s.size
    · go_wp2_with fail
      refine (byte_some R s (p + n) wr HR.out hl hs).mono ?_
      rintro e w1 ⟨rfl, hr1, hb1⟩
      have HR1 : Hid (Rd w1 R s (p + n + 1)) := hr1
      have HF1 : Hid (Fr R W w1) := HF.out.trans hb1
      have HO1 : Hid (ownB w1 W.heap.size _ acc) := HO.out.fr hRW hb1
      clear hr1 hb1 HR HF HO
      by_cases h0 : s[p + n].toNat = 0
      · have h0i : ((s[p + n].toNat : Nat) : Int) = 0 := by omega
        have HVe : Hid (etE s (p + n + 1) ≠ 0 → rtV s p = ([], 0, etE s (p + n + 1))) := fun he => HV.out.trans (rtF_err s p f n acc hl h0 he)
        have HVn : Hid (etE s (p + n + 1) = 0 → etV s (p + n + 1) = true → rtV s p = (acc, n + 2, 0)) := fun he hv => HV.out.trans (rtF_end s p f n acc hl h0 he hv)
        have HVz : Hid (etE s (p + n + 1) = 0 → etV s (p + n + 1) = false → rtV s p = if acc.length = 4096 then ([], 0, 4) else rtF s p f (n + 2) (acc ++ [0])) := fun he hv => HV.out.trans (rtF_zero s p f n acc hl h0 he hv)
        clear HV h0
        rw [h0i]
        clear h0i
        go_wp2_with fail
        refine (ends_text R s (p + n + 1) w1 HR1.out (by omega) hs).mono ?_
        rintro e w2 ⟨hb, ⟨hc, rfl, hr⟩ | ⟨hc, rfl⟩⟩
        · have hin := etE_lt hc
          have HF2 : Hid (Fr R W w2) := HF1.out.trans hb
          have HR2 : Hid (Rd w2 R s (p + n + 1 + 1)) := hr
          have HO2 : Hid (ownB w2 W.heap.size _ acc) := HO1.out.fr hRW hb
          clear hb hr HF1 HR1 HO1
          cases hev : etV s (p + n + 1)
          · have HVb := HVz.out hc hev
            have HVb2 : Hid _ := HVb
            clear HVe HVn HVz hc HVb
            by_cases hm : acc.length = 4096
            · rw [if_pos hm] at HVb2
              have hL := HO2.out.len
              rw [hm] at hL
              go_wp2
              refine ⟨rfl, ?_⟩
              rw [HVb2.out]
              exact took_e rfl (by decide) ((HZ.out w2 HF2.out).1.out) _
            · rw [if_neg hm] at HVb2
              have hL := HO2.out.len
              have t4 : (((acc.length : Nat) : Int) == 4096) = false := by simp; omega
              have hBr : W.heap.size ≤ w2.heap.size := HF2.out.size
              go_wp2_with (at_builtin; refine app_oneL (by rfl) _ _ (by rfl) W.heap.size _ acc _ HO2.out (by rfl) _ (by rfl) (by rfl) (by omega) hBr ?_; intro v' w3 hown3 hbel3 _; have HO3 : Hid (ownB w3 W.heap.size v' (acc ++ [0])) := hown3; have HF3 : Hid (Fr R W w3) := HF2.out.grow (Nat.le_of_lt hRW) hbel3; have HR3 : Hid (Rd w3 R s (p + n + 1 + 1)) := HR2.out.grow hRW hbel3; clear hown3 hbel3)
              refine ⟨⟨n + 2, f, acc ++ [0], by omega, by omega, by rw [List.length_append, List.length_singleton]; omega, HO3.out, by rw [← Nat.add_assoc]; exact HR3.out, HF3.out, HVb2.out⟩, ?_⟩
              rw [HR3.out.pos, HP.out]; omega
          · have HVb2 : Hid _ := HVn.out hc hev
            clear HVe HVn HVz hc
            have hcv := HO2.out.conv
            go_wp2_with fail
            refine (textValue_any (strOfNums acc) w2).mono ?_
            rintro e w3 ⟨rfl, hb3⟩
            obtain ⟨HF, HH, _⟩ := HZ.out w2 HF2.out
            obtain ⟨HH3, c0, c1, c2, f0, f1, f2⟩ := zcells HH.out hb3
            have HF3 : Hid (Fr R w w3) := HF.out.trans (Fr.of (Nat.le_of_lt HR2.out.lt) hb3)
            have HR3 : Hid (Rd w3 R s (p + n + 1 + 1)) := HR2.out.later hb3
            clear hb3 HH HF HR2 HF2
            unfold vA
            go_wp2
            refine bodyPost_ret (ret_val (p := 4) rfl _ _ 3 0 (strOfNums acc) w.heap.size (by rfl) (set3 HH3.out)) rfl ?_
            rw [HVb2.out]
            exact took_v rfl rfl (HF3.out.set3 (Nat.le_of_lt hlt) (Nat.le_refl _)) (by rw [← Nat.add_assoc]; exact HR3.out.set3 (Nat.ne_of_gt hlt))
        · refine ⟨rfl, ?_⟩
          rw [HVe.out hc]
          exact took_e rfl hc ((HZ.out w2 (HF1.out.trans hb)).1.out) _
      · have HVb : Hid (rtV s p = if acc.length = 4096 then ([], 0, 4) else rtF s p f (n + 1) (acc ++ [(s[p + n].toNat : Int)])) := HV.out.trans (rtF_byte s p f n acc hl h0)
        have h8 : s[p + n].toNat < 256 := s[p + n].toNat_lt
        clear HV
        generalize s[p + n].toNat = b at *
        have t0 : ((b : Int) == 0) = false := by simp; omega
        by_cases hm : acc.length = 4096
        · rw [if_pos hm] at HVb
          have hL := HO1.out.len
          rw [hm] at hL
          go_wp2
          refine ⟨rfl, ?_⟩
          rw [HVb.out]
          exact took_e rfl (by decide) ((HZ.out w1 HF1.out).1.out) _
        · rw [if_neg hm] at HVb
          have hL := HO1.out.len
          have t4 : (((acc.length : Nat) : Int) == 4096) = false := by simp; omega
          have hBr : W.heap.size ≤ w1.heap.size := HF1.out.size
          go_wp2_with (at_builtin; refine app_oneL (by rfl) _ _ (by rfl) W.heap.size _ acc _ HO1.out (by rfl) _ (by rfl) (by rfl) (by omega) hBr ?_; intro v' w2 hown2 hbel2 _; have HO2 : Hid (ownB w2 W.heap.size v' (acc ++ [(b : Int)])) := hown2; have HF2 : Hid (Fr R W w2) := HF1.out.grow (Nat.le_of_lt hRW) hbel2; have HR2 : Hid (Rd w2 R s (p + n + 1)) := HR1.out.grow hRW hbel2; clear hown2 hbel2)
          refine ⟨⟨n + 1, f, acc ++ [(b : Int)], by omega, by omega, by rw [List.length_append, List.length_singleton]; omega, HO2.out, by rw [← Nat.add_assoc]; exact HR2.out, HF2.out, HVb.out⟩, ?_⟩
          rw [HR2.out.pos, HP.out]; omega
    · have HVs : Hid (rtV s p = ([], 0, 11)) := HV.out.trans (rtF_short s p f n acc hl)
      have e : p + n = s.size := by omega
      go_wp2_with fail
      refine (byte_short R s wr (by rw [← e]; exact HR.out) hs).mono ?_
      rintro e w1 ⟨rfl, hb⟩
      refine ⟨rfl, ?_⟩
      rw [HVs.out]
      exact took_e rfl (by decide) ((HZ.out w1 (HF.out.trans hb)).1.out) _
end Go.Proofs.Ytfabgoanammaiaa
