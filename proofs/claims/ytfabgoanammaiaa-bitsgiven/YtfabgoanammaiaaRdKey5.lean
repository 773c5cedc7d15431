import Derived.Test.YtfabgoanammaiaaRdKey4
namespace Go.Proofs.Ytfabgoanammaiaa
open Go.ChangeShapes Go.WideShapes Go.ChangeAt Go.RowKit
set_option linter.unusedVariables false

/-- What is read of a value behind its tag, from byte p on: the value, how many bytes, the error. -/
def rkV (s : ByteArray) (p : Nat) (tag : Int) : (Int × Int × ByteArray) × Nat × Int :=
  if tag = 16 then ((0, 0, ⟨#[]⟩), 0, 0)
  else if tag = 32 ∨ tag = 33 then ((1, tag - 32, ⟨#[]⟩), 0, 0)
  else if 47 ≤ tag ∧ tag ≤ 64 then ((2, tagV s p tag, ⟨#[]⟩), tagN tag, magE s p (tagT tag) (tagN tag))
  else if tag = 80 then ((3, 0, strOfNums (rtV s p).1), (rtV s p).2.1, (rtV s p).2.2)
  else ((0, 0, ⟨#[]⟩), 0, 14)
/-- What is read of a key, n bytes of it being taken with the values acc: the values or the error. -/
def rkF (s : ByteArray) (p : Nat) : Nat → Nat → List (Int × Int × ByteArray) → List (Int × Int × ByteArray) × Nat × Int
  | 0, _, _ => ([], 0, 11)
  | f + 1, n, acc =>
    if h : p + n < s.size then
      (if acc.length = 16 then ([], 0, 18)
       else if (rkV s (p + n + 1) s[p + n].toNat).2.2 = 0 then rkF s p f (n + 1 + (rkV s (p + n + 1) s[p + n].toNat).2.1) (acc ++ [(rkV s (p + n + 1) s[p + n].toNat).1])
       else ([], 0, (rkV s (p + n + 1) s[p + n].toNat).2.2))
    else (acc, n, 0)
def rkL (s : ByteArray) (p : Nat) : List (Int × Int × ByteArray) × Nat × Int := rkF s p (s.size + 1) 0 []
theorem ownV.len {w : World} {B : Nat} {v : Value} {xs : List (Int × Int × ByteArray)} (h : ownV w B v xs) : (Builtin.len_ #[22] 3 #[v]).run Try.prog w = .ok (.int .i64 xs.length) w := by
  rcases h with ⟨h1, ⟨rfl, h2⟩ | ⟨g, cap, cur, rfl, hb, hg, hr⟩⟩
  · rw [h2]; rfl
  · rfl
theorem ownV.same {w w' : World} {B : Nat} {v : Value} {xs : List (Int × Int × ByteArray)} (h : ownV w B v xs) (hk : ∀ k, k < w.heap.size → B ≤ k → w'.heap[k]? = w.heap[k]?) : ownV w' B v xs := by
  rcases h with ⟨h1, h2 | ⟨g, cap, cur, rfl, hb, hg, hr⟩⟩
  · exact ⟨h1, .inl h2⟩
  · exact ⟨h1, .inr ⟨g, cap, cur, rfl, hb, by rw [hk g (Array.getElem?_eq_some_iff.1 hg).1 hb]; exact hg, hr⟩⟩
theorem ownV.fr {R : Nat} {w w' : World} {B : Nat} {v : Value} {xs : List (Int × Int × ByteArray)} (h : ownV w B v xs) (hR : R < B) (hf : Fr R w w') : ownV w' B v xs := h.same fun k hk hb => hf.rest k hk (by omega)
theorem rtF_in (s : ByteArray) (p : Nat) : ∀ (f n : Nat) (acc : List Int), (rtF s p f n acc).2.2 = 0 → p + (rtF s p f n acc).2.1 ≤ s.size ∧ 2 ≤ (rtF s p f n acc).2.1
  | 0, n, acc => by intro h; simp [rtF] at h
  | f + 1, n, acc => by
    by_cases h1 : p + n < s.size
    · by_cases h0 : s[p + n].toNat = 0
      · by_cases he : etE s (p + n + 1) = 0
        · have hin := etE_lt he
          cases hv : etV s (p + n + 1)
          · rw [rtF_zero s p f n acc h1 h0 he hv]
            split
            · intro h; simp at h
            · exact rtF_in s p f _ _
          · rw [rtF_end s p f n acc h1 h0 he hv]
            intro _
            exact ⟨by simp only; omega, by simp only; omega⟩
        · rw [rtF_err s p f n acc h1 h0 he]
          intro h; exact absurd h he
      · rw [rtF_byte s p f n acc h1 h0]
        split
        · intro h; simp at h
        · exact rtF_in s p f _ _
    · rw [rtF_short s p f n acc h1]
      intro h; simp at h
theorem magE_in {s : ByteArray} {p t n : Nat} (h : magE s p t n = 0) : p + n ≤ s.size := by
  unfold magE at h
  split at h
  · omega
  · omega
theorem rkV_in (s : ByteArray) (p : Nat) (tag : Int) (hp : p ≤ s.size) (h : (rkV s p tag).2.2 = 0) : p + (rkV s p tag).2.1 ≤ s.size := by
  unfold rkV at h ⊢
  by_cases a1 : tag = 16
  · rw [if_pos a1]; exact hp
  rw [if_neg a1] at h ⊢
  by_cases a2 : tag = 32 ∨ tag = 33
  · rw [if_pos a2]; exact hp
  rw [if_neg a2] at h ⊢
  by_cases a3 : 47 ≤ tag ∧ tag ≤ 64
  · rw [if_pos a3] at h ⊢; exact magE_in h
  rw [if_neg a3] at h ⊢
  by_cases a4 : tag = 80
  · rw [if_pos a4] at h ⊢; exact (rtF_in s p _ _ _ h).1
  rw [if_neg a4] at h
  simp at h
theorem rkF_end (s : ByteArray) (p f n : Nat) (acc : List (Int × Int × ByteArray)) (h : ¬ p + n < s.size) : rkF s p (f + 1) n acc = (acc, n, 0) := by
  unfold rkF; rw [dif_neg h]
theorem rkF_many (s : ByteArray) (p f n : Nat) (acc : List (Int × Int × ByteArray)) (h : p + n < s.size) (hm : acc.length = 16) : rkF s p (f + 1) n acc = ([], 0, 18) := by
  unfold rkF; rw [dif_pos h, if_pos hm]
theorem rkF_step (s : ByteArray) (p f n : Nat) (acc : List (Int × Int × ByteArray)) (h : p + n < s.size) (hm : acc.length ≠ 16) : rkF s p (f + 1) n acc = if (rkV s (p + n + 1) s[p + n].toNat).2.2 = 0 then rkF s p f (n + 1 + (rkV s (p + n + 1) s[p + n].toNat).2.1) (acc ++ [(rkV s (p + n + 1) s[p + n].toNat).1]) else ([], 0, (rkV s (p + n + 1) s[p + n].toNat).2.2) := by
  conv => lhs; unfold rkF
  rw [dif_pos h, if_neg hm]
/-- What a reader of values comes to. -/
def TookV (R : Nat) (s : ByteArray) (p : Nat) (w : World) (r : List (Int × Int × ByteArray) × Nat × Int) (e : Ending) (w' : World) : Prop :=
  Fr R w w' ∧ ((r.2.2 = 0 ∧ ∃ v, e = .returned v ∧ ownV w' w.heap.size v r.1 ∧ Rd w' R s (p + r.2.1)) ∨ (r.2.2 ≠ 0 ∧ e = oops r.2.2))
theorem tookV_e {R : Nat} {s : ByteArray} {p : Nat} {w w' : World} {r : List (Int × Int × ByteArray) × Nat × Int} {c : Int} (hr : r = ([], 0, c)) (hc : c ≠ 0) (hf : Fr R w w') : TookV R s p w r (oops c) w' := by
  rw [hr]; exact ⟨hf, .inr ⟨hc, rfl⟩⟩
theorem tookV_v {R : Nat} {s : ByteArray} {p n : Nat} {w w' : World} {r : List (Int × Int × ByteArray) × Nat × Int} {vs : List (Int × Int × ByteArray)} {v : Value} (hr : r = (vs, n, 0)) (hf : Fr R w w') (ho : ownV w' w.heap.size v vs) (hrd : Rd w' R s (p + n)) : TookV R s p w r (.returned v) w' := by
  rw [hr]; exact ⟨hf, .inl ⟨rfl, v, rfl, ho, hrd⟩⟩
theorem fld0_2 (w : World) : Sem.run Try.prog (Instr.field 53 (.agg #[.func (.func 43) #[] #[], .func (.func 44) #[] #[], .func (.func 45) #[] #[], .func (.func 46) #[] #[], .func (.func 47) #[] #[]]) 2) w = .ok (.func (.func 45) #[] #[]) w := by kernel_rfl
theorem fld0_4 (w : World) : Sem.run Try.prog (Instr.field 53 (.agg #[.func (.func 43) #[] #[], .func (.func 44) #[] #[], .func (.func 45) #[] #[], .func (.func 46) #[] #[], .func (.func 47) #[] #[]]) 4) w = .ok (.func (.func 47) #[] #[]) w := by kernel_rfl
theorem fld1_2 (w : World) : Sem.run Try.prog (Instr.field 53 (.agg #[.func (.func 48) #[] #[], .func (.func 49) #[] #[], .func (.func 50) #[] #[], .func (.func 51) #[] #[], .func (.func 52) #[] #[]]) 2) w = .ok (.func (.func 50) #[] #[]) w := by kernel_rfl
theorem fld1_4 (w : World) : Sem.run Try.prog (Instr.field 53 (.agg #[.func (.func 48) #[] #[], .func (.func 49) #[] #[], .func (.func 50) #[] #[], .func (.func 51) #[] #[], .func (.func 52) #[] #[]]) 4) w = .ok (.func (.func 52) #[] #[]) w := by kernel_rfl
theorem fld2_2 (w : World) : Sem.run Try.prog (Instr.field 53 (.agg #[.func (.func 53) #[] #[], .func (.func 54) #[] #[], .func (.func 55) #[] #[], .func (.func 56) #[] #[], .func (.func 57) #[] #[]]) 2) w = .ok (.func (.func 55) #[] #[]) w := by kernel_rfl
theorem fld2_4 (w : World) : Sem.run Try.prog (Instr.field 53 (.agg #[.func (.func 53) #[] #[], .func (.func 54) #[] #[], .func (.func 55) #[] #[], .func (.func 56) #[] #[], .func (.func 57) #[] #[]]) 4) w = .ok (.func (.func 57) #[] #[]) w := by kernel_rfl
theorem fld3_2 (w : World) : Sem.run Try.prog (Instr.field 53 (.agg #[.func (.func 58) #[] #[], .func (.func 59) #[] #[], .func (.func 60) #[] #[], .func (.func 61) #[] #[], .func (.func 62) #[] #[]]) 2) w = .ok (.func (.func 60) #[] #[]) w := by kernel_rfl
theorem fld3_4 (w : World) : Sem.run Try.prog (Instr.field 53 (.agg #[.func (.func 58) #[] #[], .func (.func 59) #[] #[], .func (.func 60) #[] #[], .func (.func 61) #[] #[], .func (.func 62) #[] #[]]) 4) w = .ok (.func (.func 62) #[] #[]) w := by kernel_rfl
attribute [local go_sem] fld0_2 fld1_2 fld2_2 fld3_2
set_option maxRecDepth 100000 in
set_option maxHeartbeats 1600000 in
theorem key_read (R : Nat) (s : ByteArray) (p : Nat) (w : World) (h : Rd w R s p) (hp : p ≤ s.size) (hs : s.size ≤ 1125899906842624) :
    Calls Try.prog 23 #[.pointer (some ⟨R, 0, none⟩)] w (TookV R s p w (rkL s p)) := by
  have hlt := h.lt
  go_enter Try.func23, Try.ntmps23
  go_wp2_with fail
  go_loopw [3] (fun c wr => ∃ (n f : Nat) (acc : List (Int × Int × ByteArray)), p + n ≤ s.size ∧ s.size < p + n + f ∧ acc.length ≤ 16 ∧ ownV wr w.heap.size c acc ∧ Rd wr R s (p + n) ∧ Fr R w wr ∧ rkL s p = rkF s p f n acc) (fun _ wr => s.size + 1 - posOf wr R)
  case atStart => exact ⟨0, s.size + 1, [], by omega, by omega, by simp, ownV_nil _ _, h, Fr.refl _ _, rfl⟩
  case round =>
    obtain ⟨n, f, acc, hn, hf, ha, hown, hr, hfr, hv⟩ := hrel
    obtain ⟨f, rfl⟩ : ∃ f', f = f' + 1 := ⟨f - 1, by omega⟩
    have HV : Hid (rkL s p = rkF s p (f + 1) n acc) := hv
    have HO : Hid (ownV wr w.heap.size _ acc) := hown
    have HR : Hid (Rd wr R s (p + n)) := hr
    have HF : Hid (Fr R w wr) := hfr
    have HP : Hid (posOf wr R = p + n) := hr.pos
    clear hv hown hr hfr h
    by_cases hl : p + n < s.size
    · have hl1 : (0 : Int) < (s.size : Int) - ((p + n : Nat) : Int) := by omega
      go_wp2_with fail
      refine (left_any R s (p + n) wr HR.out hn hs).mono ?_
      rintro e w1 ⟨rfl, nq, rfl⟩
      have HR1 : Hid (Rd (wr.drewN nq) R s (p + n)) := HR.out.drewN nq
      have HF1 : Hid (Fr R w (wr.drewN nq)) := HF.out.trans (fr_drewN nq)
      have HO1 : Hid (ownV (wr.drewN nq) w.heap.size _ acc) := HO.out.fr hlt (fr_drewN nq)
      clear HR HF HO
      generalize wr.drewN nq = w1 at *
      have hL := HO1.out.len
      by_cases hm : acc.length = 16
      · have HVm : Hid (rkL s p = ([], 0, 18)) := HV.out.trans (rkF_many s p f n acc hl hm)
        rw [hm] at hL
        go_wp2
        exact ⟨rfl, tookV_e HVm.out (by decide) HF1.out⟩
      · have HVs : Hid _ := HV.out.trans (rkF_step s p f n acc hl hm)
        have t4 : (((acc.length : Nat) : Int) == 16) = false := by simp; omega
        have h8 : s[p + n].toNat < 256 := s[p + n].toNat_lt
        clear HV
        go_wp2_with fail
        refine (byte_some R s (p + n) w1 HR1.out hl hs).mono ?_
        rintro e w2 ⟨rfl, hr2, hb2⟩
        have HR2 : Hid (Rd w2 R s (p + n + 1)) := hr2
        have HF2 : Hid (Fr R w w2) := HF1.out.trans hb2
        have HO2 : Hid (ownV w2 w.heap.size _ acc) := HO1.out.fr hlt hb2
        clear hr2 hb2 HR1 HF1 HO1 hL t4
        have hb0 : (0 : Int) ≤ ((s[p + n].toNat : Nat) : Int) := by omega
        have hb1 : ((s[p + n].toNat : Nat) : Int) < 256 := by omega
        clear h8
        generalize ((s[p + n].toNat : Nat) : Int) = b at *
        by_cases a1 : b = 16
        · have hE : rkV s (p + n + 1) b = ((0, 0, ⟨#[]⟩), 0, 0) := by unfold rkV; rw [if_pos a1]
          have hin := rkV_in s (p + n + 1) b (by omega)
          rw [hE] at HVs hin
          have HV5 : Hid (rkL s p = rkF s p f (n + 1 + 0) (acc ++ [(0, 0, ⟨#[]⟩)])) := HVs.out.trans (if_pos rfl)
          have hin2 : p + n + 1 + 0 ≤ s.size := hin rfl
          clear hin HVs
          have A : Hid (b = 16) := a1
          clear hE a1
          go_wp2_with fail
          refine (kind_tag b _ hb0 (by omega)).mono ?_
          rintro e w3 ⟨rfl, he⟩
          rw [if_pos A.out] at he
          subst he
          go_wp2_with fail
          refine (layE_0 _).mono ?_
          rintro e w4 ⟨rfl, hb4⟩
          have HR4 : Hid (Rd w4 R s (p + n + 1)) := HR2.out.later hb4
          have HF4 : Hid (Fr R w w4) := HF2.out.trans (Fr.of (Nat.le_of_lt HR2.out.lt) hb4)
          have HO4 : Hid (ownV w4 w.heap.size _ acc) := HO2.out.same (fun k hk _ => hb4.block k hk)
          clear hb4 HR2 HF2 HO2
          go_wp2_with fail
          refine (rdNull_key R s (p + n + 1) b w4 HR4.out).mono ?_
          rintro e w5 ⟨hf5, ⟨hc, rfl, hr5⟩ | ⟨hc, rfl⟩⟩
          · skip
            skip
            have HR5 : Hid (Rd w5 R s (p + n + 1 + 0)) := hr5
            have HF5 : Hid (Fr R w w5) := HF4.out.trans hf5
            have HO5 : Hid (ownV w5 w.heap.size _ acc) := HO4.out.fr hlt hf5
            have hB5 : w.heap.size ≤ w5.heap.size := HF5.out.size
            clear hr5 hf5 HR4 HF4 HO4 hc
            unfold vA
            go_wp2_with (at_builtin; refine app_val (by rfl) _ _ (by rfl) w.heap.size _ acc (0, 0, ⟨#[]⟩) HO5.out (by rfl) (by rfl) (by omega) hB5 ?_; intro v' w6 hown6 hbel6; have HO6 : Hid (ownV w6 w.heap.size v' (acc ++ [(0, 0, ⟨#[]⟩)])) := hown6; have HF6 : Hid (Fr R w w6) := HF5.out.grow (Nat.le_of_lt hlt) hbel6; have HR6 : Hid (Rd w6 R s (p + n + 1 + 0)) := HR5.out.grow hlt hbel6; clear hown6 hbel6)
            refine ⟨⟨_, f, _, ?_, ?_, ?_, HO6.out, ?_, HF6.out, HV5.out⟩, ?_⟩
            · omega
            · omega
            · rw [List.length_append, List.length_singleton]; omega
            · rw [← Nat.add_assoc, ← Nat.add_assoc]; exact HR6.out
            · rw [HR6.out.pos, HP.out]; omega
          · exact absurd rfl hc
        by_cases a2 : b = 32 ∨ b = 33
        · have hE : rkV s (p + n + 1) b = ((1, b - 32, ⟨#[]⟩), 0, 0) := by unfold rkV; rw [if_neg a1, if_pos a2]
          have hin := rkV_in s (p + n + 1) b (by omega)
          rw [hE] at HVs hin
          have HV5 : Hid (rkL s p = rkF s p f (n + 1 + 0) (acc ++ [(1, b - 32, ⟨#[]⟩)])) := HVs.out.trans (if_pos rfl)
          have hin2 : p + n + 1 + 0 ≤ s.size := hin rfl
          clear hin HVs
          have A : Hid (b = 32 ∨ b = 33) := a2
          clear hE a2
          go_wp2_with fail
          refine (kind_tag b _ hb0 (by omega)).mono ?_
          rintro e w3 ⟨rfl, he⟩
          rw [if_neg a1, if_pos A.out] at he
          subst he
          go_wp2_with fail
          refine (layE_1 _).mono ?_
          rintro e w4 ⟨rfl, hb4⟩
          have HR4 : Hid (Rd w4 R s (p + n + 1)) := HR2.out.later hb4
          have HF4 : Hid (Fr R w w4) := HF2.out.trans (Fr.of (Nat.le_of_lt HR2.out.lt) hb4)
          have HO4 : Hid (ownV w4 w.heap.size _ acc) := HO2.out.same (fun k hk _ => hb4.block k hk)
          clear hb4 HR2 HF2 HO2
          go_wp2_with fail
          refine (rdBool_key R s (p + n + 1) b w4 HR4.out (by have := A.out; omega) (by have := A.out; omega)).mono ?_
          rintro e w5 ⟨hf5, ⟨hc, rfl, hr5⟩ | ⟨hc, rfl⟩⟩
          · skip
            skip
            have HR5 : Hid (Rd w5 R s (p + n + 1 + 0)) := hr5
            have HF5 : Hid (Fr R w w5) := HF4.out.trans hf5
            have HO5 : Hid (ownV w5 w.heap.size _ acc) := HO4.out.fr hlt hf5
            have hB5 : w.heap.size ≤ w5.heap.size := HF5.out.size
            clear hr5 hf5 HR4 HF4 HO4 hc
            unfold vA
            go_wp2_with (at_builtin; refine app_val (by rfl) _ _ (by rfl) w.heap.size _ acc (1, b - 32, ⟨#[]⟩) HO5.out (by rfl) (by rfl) (by omega) hB5 ?_; intro v' w6 hown6 hbel6; have HO6 : Hid (ownV w6 w.heap.size v' (acc ++ [(1, b - 32, ⟨#[]⟩)])) := hown6; have HF6 : Hid (Fr R w w6) := HF5.out.grow (Nat.le_of_lt hlt) hbel6; have HR6 : Hid (Rd w6 R s (p + n + 1 + 0)) := HR5.out.grow hlt hbel6; clear hown6 hbel6)
            refine ⟨⟨_, f, _, ?_, ?_, ?_, HO6.out, ?_, HF6.out, HV5.out⟩, ?_⟩
            · omega
            · omega
            · rw [List.length_append, List.length_singleton]; omega
            · rw [← Nat.add_assoc, ← Nat.add_assoc]; exact HR6.out
            · rw [HR6.out.pos, HP.out]; omega
          · exact absurd rfl hc
        by_cases a3 : 47 ≤ b ∧ b ≤ 64
        · have hE : rkV s (p + n + 1) b = ((2, tagV s (p + n + 1) b, ⟨#[]⟩), tagN b, magE s (p + n + 1) (tagT b) (tagN b)) := by unfold rkV; rw [if_neg a1, if_neg a2, if_pos a3]
          have hin := rkV_in s (p + n + 1) b (by omega)
          rw [hE] at HVs hin
          have HVok : Hid ((magE s (p + n + 1) (tagT b) (tagN b) : Int) = 0 → rkL s p = rkF s p f (n + 1 + tagN b) (acc ++ [(2, tagV s (p + n + 1) b, ⟨#[]⟩)])) := fun h => HVs.out.trans (if_pos h)
          have HVno : Hid ((magE s (p + n + 1) (tagT b) (tagN b) : Int) ≠ 0 → rkL s p = ([], 0, magE s (p + n + 1) (tagT b) (tagN b))) := fun h => HVs.out.trans (if_neg h)
          have hinn : (magE s (p + n + 1) (tagT b) (tagN b) : Int) = 0 → p + n + 1 + tagN b ≤ s.size := hin
          have HIN : Hid ((magE s (p + n + 1) (tagT b) (tagN b) : Int) = 0 → p + n + 1 + tagN b ≤ s.size) := hinn
          clear hin hinn HVs
          have A : Hid (47 ≤ b ∧ b ≤ 64) := a3
          clear hE a3
          go_wp2_with fail
          refine (kind_tag b _ hb0 (by omega)).mono ?_
          rintro e w3 ⟨rfl, he⟩
          rw [if_neg a1, if_neg a2, if_pos A.out] at he
          subst he
          go_wp2_with fail
          refine (layE_2 _).mono ?_
          rintro e w4 ⟨rfl, hb4⟩
          have HR4 : Hid (Rd w4 R s (p + n + 1)) := HR2.out.later hb4
          have HF4 : Hid (Fr R w w4) := HF2.out.trans (Fr.of (Nat.le_of_lt HR2.out.lt) hb4)
          have HO4 : Hid (ownV w4 w.heap.size _ acc) := HO2.out.same (fun k hk _ => hb4.block k hk)
          clear hb4 HR2 HF2 HO2
          go_wp2_with fail
          refine (rdInt_key R s (p + n + 1) b w4 HR4.out (by omega) hs A.out.1 A.out.2).mono ?_
          rintro e w5 ⟨hf5, ⟨hc, rfl, hr5⟩ | ⟨hc, rfl⟩⟩
          · have HV5 : Hid _ := HVok.out hc
            have hin2 := HIN.out hc
            have HR5 : Hid (Rd w5 R s (p + n + 1 + tagN b)) := hr5
            have HF5 : Hid (Fr R w w5) := HF4.out.trans hf5
            have HO5 : Hid (ownV w5 w.heap.size _ acc) := HO4.out.fr hlt hf5
            have hB5 : w.heap.size ≤ w5.heap.size := HF5.out.size
            clear hr5 hf5 HR4 HF4 HO4 HIN HVok HVno hc
            unfold vA
            go_wp2_with (at_builtin; refine app_val (by rfl) _ _ (by rfl) w.heap.size _ acc (2, tagV s (p + n + 1) b, ⟨#[]⟩) HO5.out (by rfl) (by rfl) (by omega) hB5 ?_; intro v' w6 hown6 hbel6; have HO6 : Hid (ownV w6 w.heap.size v' (acc ++ [(2, tagV s (p + n + 1) b, ⟨#[]⟩)])) := hown6; have HF6 : Hid (Fr R w w6) := HF5.out.grow (Nat.le_of_lt hlt) hbel6; have HR6 : Hid (Rd w6 R s (p + n + 1 + tagN b)) := HR5.out.grow hlt hbel6; clear hown6 hbel6)
            refine ⟨⟨_, f, _, ?_, ?_, ?_, HO6.out, ?_, HF6.out, HV5.out⟩, ?_⟩
            · omega
            · omega
            · rw [List.length_append, List.length_singleton]; omega
            · rw [← Nat.add_assoc, ← Nat.add_assoc]; exact HR6.out
            · rw [HR6.out.pos, HP.out]; omega
          · exact ⟨rfl, tookV_e (HVno.out hc) hc (HF4.out.trans hf5)⟩
        by_cases a4 : b = 80
        · have hE : rkV s (p + n + 1) b = ((3, 0, strOfNums (rtV s (p + n + 1)).1), (rtV s (p + n + 1)).2.1, (rtV s (p + n + 1)).2.2) := by unfold rkV; rw [if_neg a1, if_neg a2, if_neg a3, if_pos a4]
          have hin := rkV_in s (p + n + 1) b (by omega)
          rw [hE] at HVs hin
          have HVok : Hid (((rtV s (p + n + 1)).2.2 : Int) = 0 → rkL s p = rkF s p f (n + 1 + (rtV s (p + n + 1)).2.1) (acc ++ [(3, 0, strOfNums (rtV s (p + n + 1)).1)])) := fun h => HVs.out.trans (if_pos h)
          have HVno : Hid (((rtV s (p + n + 1)).2.2 : Int) ≠ 0 → rkL s p = ([], 0, (rtV s (p + n + 1)).2.2)) := fun h => HVs.out.trans (if_neg h)
          have hinn : ((rtV s (p + n + 1)).2.2 : Int) = 0 → p + n + 1 + (rtV s (p + n + 1)).2.1 ≤ s.size := hin
          have HIN : Hid (((rtV s (p + n + 1)).2.2 : Int) = 0 → p + n + 1 + (rtV s (p + n + 1)).2.1 ≤ s.size) := hinn
          clear hin hinn HVs
          have A : Hid (b = 80) := a4
          clear hE a4
          go_wp2_with fail
          refine (kind_tag b _ hb0 (by omega)).mono ?_
          rintro e w3 ⟨rfl, he⟩
          rw [if_neg a1, if_neg a2, if_neg a3, if_pos A.out] at he
          subst he
          go_wp2_with fail
          refine (layE_3 _).mono ?_
          rintro e w4 ⟨rfl, hb4⟩
          have HR4 : Hid (Rd w4 R s (p + n + 1)) := HR2.out.later hb4
          have HF4 : Hid (Fr R w w4) := HF2.out.trans (Fr.of (Nat.le_of_lt HR2.out.lt) hb4)
          have HO4 : Hid (ownV w4 w.heap.size _ acc) := HO2.out.same (fun k hk _ => hb4.block k hk)
          clear hb4 HR2 HF2 HO2
          go_wp2_with fail
          refine (rdText_key R s (p + n + 1) b w4 HR4.out (by omega) hs).mono ?_
          rintro e w5 ⟨hf5, ⟨hc, rfl, hr5⟩ | ⟨hc, rfl⟩⟩
          · have HV5 : Hid _ := HVok.out hc
            have hin2 := HIN.out hc
            have HR5 : Hid (Rd w5 R s (p + n + 1 + (rtV s (p + n + 1)).2.1)) := hr5
            have HF5 : Hid (Fr R w w5) := HF4.out.trans hf5
            have HO5 : Hid (ownV w5 w.heap.size _ acc) := HO4.out.fr hlt hf5
            have hB5 : w.heap.size ≤ w5.heap.size := HF5.out.size
            clear hr5 hf5 HR4 HF4 HO4 HIN HVok HVno hc
            unfold vA
            go_wp2_with (at_builtin; refine app_val (by rfl) _ _ (by rfl) w.heap.size _ acc (3, 0, strOfNums (rtV s (p + n + 1)).1) HO5.out (by rfl) (by rfl) (by omega) hB5 ?_; intro v' w6 hown6 hbel6; have HO6 : Hid (ownV w6 w.heap.size v' (acc ++ [(3, 0, strOfNums (rtV s (p + n + 1)).1)])) := hown6; have HF6 : Hid (Fr R w w6) := HF5.out.grow (Nat.le_of_lt hlt) hbel6; have HR6 : Hid (Rd w6 R s (p + n + 1 + (rtV s (p + n + 1)).2.1)) := HR5.out.grow hlt hbel6; clear hown6 hbel6)
            refine ⟨⟨_, f, _, ?_, ?_, ?_, HO6.out, ?_, HF6.out, HV5.out⟩, ?_⟩
            · omega
            · omega
            · rw [List.length_append, List.length_singleton]; omega
            · rw [← Nat.add_assoc, ← Nat.add_assoc]; exact HR6.out
            · rw [HR6.out.pos, HP.out]; omega
          · exact ⟨rfl, tookV_e (HVno.out hc) hc (HF4.out.trans hf5)⟩
        have hE : rkV s (p + n + 1) b = ((0, 0, ⟨#[]⟩), 0, 14) := by unfold rkV; rw [if_neg a1, if_neg a2, if_neg a3, if_neg a4]
        rw [hE] at HVs
        have HV14 : Hid (rkL s p = ([], 0, 14)) := HVs.out.trans (if_neg (by decide))
        clear hE HVs
        go_wp2_with fail
        refine (kind_tag b _ hb0 (by omega)).mono ?_
        rintro e w3 ⟨rfl, he⟩
        rw [if_neg a1, if_neg a2, if_neg a3, if_neg a4] at he
        subst he
        exact ⟨rfl, tookV_e HV14.out (by decide) HF2.out⟩
    · have HVn : Hid (rkL s p = (acc, n, 0)) := HV.out.trans (rkF_end s p f n acc hl)
      have hl1 : ¬ (0 : Int) < (s.size : Int) - ((p + n : Nat) : Int) := by omega
      go_wp2_with fail
      refine (left_any R s (p + n) wr HR.out hn hs).mono ?_
      rintro e w1 ⟨rfl, nq, rfl⟩
      have HR1 : Hid (Rd (wr.drewN nq) R s (p + n)) := HR.out.drewN nq
      have HF1 : Hid (Fr R w (wr.drewN nq)) := HF.out.trans (fr_drewN nq)
      have HO1 : Hid (ownV (wr.drewN nq) w.heap.size _ acc) := HO.out.fr hlt (fr_drewN nq)
      clear HR HF HO
      generalize wr.drewN nq = w1 at *
      go_wp2
      go_ret
      exact tookV_v HVn.out HF1.out HO1.out HR1.out
end Go.Proofs.Ytfabgoanammaiaa
