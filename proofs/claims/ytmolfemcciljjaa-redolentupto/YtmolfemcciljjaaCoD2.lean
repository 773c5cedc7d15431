import Derived.Test.YtmolfemcciljjaaCoD1
namespace Go.Proofs.Ytmolfemcciljjaa
open Go.ChangeShapes Go.WideShapes Go.ChangeAt Go.RowKit
set_option linter.unusedVariables false
set_option maxRecDepth 100000
theorem byteC (R : Nat) (s : ByteArray) (p : Nat) (w : World) (h : RdC w R s p) (hp : p ≤ s.size) (hs : s.size ≤ 1125899906842624) :
    Calls Try.prog 34 #[.pointer (some ⟨R, 0, none⟩)] w (TookC R s p w (.int .u8 (bytA s p)) (if p < s.size then some (p + 1) else none)) := by
  have HR : Hid (RdC w R s p) := h
  have hR : R ≤ w.heap.size := Nat.le_of_lt h.lt
  clear h
  by_cases hlt : p < s.size
  · rw [if_pos hlt]
    have HA : Hid (bytA s p = (s[p].toNat : Int)) := by show _ = _; unfold bytA; rw [dif_pos hlt]
    have hl := leftC R s p w HR.out hs
    rw [decide_eq_true hlt] at hl
    have HL : Hid (∀ _ : Unit, _) := fun _ => hl
    clear hl
    go_enter Try.func34, Try.ntmps34
    go_wp2_with fail
    refine (HL.out ()).mono ?_
    rintro e w1 ⟨rfl, nq, rfl⟩
    have HR1 := HR.out.drewN nq
    have HF : Hid (Fr R w (w.drewN nq)) := fr_drewN nq
    generalize w.drewN nq = w1 at *
    have c0 := HR1.cell0
    have c1 := HR1.cell1
    have f1 := HR1.free 1
    have HR2 : Hid (RdC (w1.setCell ⟨R, 1, none⟩ (.int .i64 ((p : Int) + 1))) R s (p + 1)) := by
      have := HR1.move (p + 1)
      rw [Int.natCast_add] at this
      exact this
    clear HR1 HL
    have HF2 : Hid (Fr R w (w1.setCell ⟨R, 1, none⟩ (.int .i64 ((p : Int) + 1)))) := HF.out.setCell rfl _
    go_wp2
    go_quiet (fail)
    go_wp2
    go_ret
    refine ⟨HF2.out.trans (fr_drewN _), .inl ⟨p + 1, rfl, ?_, HR2.out.drewN _⟩⟩
    rw [HA.out]
    rfl
  · rw [if_neg hlt]
    have hl := leftC R s p w HR.out hs
    rw [decide_eq_false hlt] at hl
    have HL : Hid (∀ _ : Unit, _) := fun _ => hl
    clear hl
    go_enter Try.func34, Try.ntmps34
    go_wp2_with fail
    refine (HL.out ()).mono ?_
    rintro e w1 ⟨rfl, nq, rfl⟩
    go_wp2
    exact ⟨rfl, fr_drewN nq, .inr ⟨rfl, rfl⟩⟩
/-- A write in a block of its own. -/
def Wr3 (W : World) (g : Nat) (a b c : Value) : Prop := W.heap[g]? = some (.cells #[a, b, c] 47 (0, 0))
theorem Wr3.c0 {W : World} {g : Nat} {a b c : Value} (h : Wr3 W g a b c) : W.cell? ⟨g, 0, none⟩ = some a := by
  unfold Wr3 at h
  simp [World.cell?, h]
theorem Wr3.c1 {W : World} {g : Nat} {a b c : Value} (h : Wr3 W g a b c) : W.cell? ⟨g, 1, none⟩ = some b := by
  unfold Wr3 at h
  simp [World.cell?, h]
theorem Wr3.c2 {W : World} {g : Nat} {a b c : Value} (h : Wr3 W g a b c) : W.cell? ⟨g, 2, none⟩ = some c := by
  unfold Wr3 at h
  simp [World.cell?, h]
theorem Wr3.free {W : World} {g : Nat} {a b c : Value} (h : Wr3 W g a b c) (j : Nat) : W.frozen? ⟨g, j, none⟩ = false := by
  unfold Wr3 at h
  simp [World.frozen?, h]
theorem Wr3.set {W : World} {g : Nat} {a b c : Value} (h : Wr3 W g a b c) (a' b' c' : Value) : Wr3 (((W.setCell ⟨g, 0, none⟩ a').setCell ⟨g, 1, none⟩ b').setCell ⟨g, 2, none⟩ c') g a' b' c' := by
  unfold Wr3 at h ⊢
  simp [World.setCell, Array.getElem?_modify, h]
theorem Wr3.set2 {W : World} {g : Nat} {a b c : Value} (h : Wr3 W g a b c) (c' : Value) : Wr3 (W.setCell ⟨g, 2, none⟩ c') g a b c' := by
  unfold Wr3 at h ⊢
  simp [World.setCell, Array.getElem?_modify, h]
theorem Wr3.lt {W : World} {g : Nat} {a b c : Value} (h : Wr3 W g a b c) : g < W.heap.size := by
  rcases Nat.lt_or_ge g W.heap.size with h1 | h1
  · exact h1
  · unfold Wr3 at h
    rw [Array.getElem?_eq_none h1] at h
    cases h
theorem Wr3.fr {W W' : World} {g R : Nat} {a b c : Value} (h : Wr3 W g a b c) (hf : Fr R W W') (hn : g ≠ R) : Wr3 W' g a b c := (hf.rest g h.lt hn).trans h
theorem Wr3.other {W : World} {g : Nat} {a b c : Value} (h : Wr3 W g a b c) {p : Addr} (v : Value) (hp : g ≠ p.block) : Wr3 (W.setCell p v) g a b c := (Below.heap_setCell W p v g hp).trans h
theorem RdC.other {W : World} {R : Nat} {s : ByteArray} {q : Nat} (h : RdC W R s q) {p : Addr} (v : Value) (hp : R ≠ p.block) : RdC (W.setCell p v) R s q := (Below.heap_setCell W p v R hp).trans h
theorem infoWr : (Try.prog.info? 47).map (·.size) = some 3 := by kernel_rfl
theorem ret_write {fn : Func} {p : Tmp} (h : fn.results = #[.cell p 47]) (tmps : Array Value) (w : World) (k : Int) (a t : ByteArray) (g : Nat) (hp : tmps.getD p undef = .pointer (some ⟨g, 0, none⟩)) (hg : Wr3 w g (.int .i64 k) (.string a) (.string t)) :
    (results fn tmps).run Try.prog w = .ok (.agg #[.int .i64 k, .string a, .string t]) w := by
  have hp' : tmps[p]?.getD undef = .pointer (some ⟨g, 0, none⟩) := by simpa using hp
  unfold Wr3 at hg
  simp [results, h, hp', asAddr, run_loadVar_row w g 47 47 _ (0, 0) _ hg Try.underlying47 rfl infoWr]
/-- A write is read: the write, and the reader behind it; or the reading gives up. -/
def WrC (R : Nat) (s : ByteArray) (p : Nat) (w : World) (e : Ending) (w' : World) : Prop :=
  Fr R w w' ∧ match rdWr s p with
    | some (v, q) => e = .returned (.agg #[.int .i64 v.1, .string v.2.1, .string v.2.2]) ∧ RdC w' R s q
    | none => e = oops 112
theorem WrC.no {R : Nat} {s : ByteArray} {p : Nat} {w w' : World} (hf : Fr R w w') (h : rdWr s p = none) : WrC R s p w (oops 112) w' := ⟨hf, by rw [h]⟩
theorem WrC.yes {R : Nat} {s : ByteArray} {p q : Nat} {w w' : World} {v : W3} (hf : Fr R w w') (h : rdWr s p = some (v, q)) (hr : RdC w' R s q) : WrC R s p w (.returned (.agg #[.int .i64 v.1, .string v.2.1, .string v.2.2])) w' := ⟨hf, by rw [h]; exact ⟨rfl, hr⟩⟩
set_option maxHeartbeats 1600000 in
theorem writeC (R : Nat) (s : ByteArray) (p : Nat) (w : World) (h : RdC w R s p) (hp : p ≤ s.size) (hs : s.size ≤ 1125899906842624) :
    Calls Try.prog 25 #[.pointer (some ⟨R, 0, none⟩)] w (WrC R s p w) := by
  have hR := h.lt
  have HZ : Hid (Wr3 (w.alloc (.cells #[.int .i64 0, .string ⟨#[]⟩, .string ⟨#[]⟩] 47)) w.heap.size (.int .i64 0) (.string ⟨#[]⟩) (.string ⟨#[]⟩)) := heap_alloc_new w _
  have HF : Hid (Fr R w (w.alloc (.cells #[.int .i64 0, .string ⟨#[]⟩, .string ⟨#[]⟩] 47))) := (Fr.refl R w).alloc (Nat.le_of_lt hR) _
  have HR : Hid (RdC (w.alloc (.cells #[.int .i64 0, .string ⟨#[]⟩, .string ⟨#[]⟩] 47)) R s p) := h.later ((Below.refl _ _).alloc (Nat.le_refl _) _)
  clear h
  by_cases c1 : p < s.size
  · have hb := byteC R s p _ HR.out hp hs
    rw [if_pos c1] at hb
    have HBy : Hid (∀ _ : Unit, _) := fun _ => hb
    have hA : bytA s p = (s[p].toNat : Int) := by unfold bytA; rw [dif_pos c1]
    have h256 := s[p].toNat_lt
    have hw : IntKind.i64.wrap (bytA s p) = bytA s p := by rw [IntKind.wrap_i64, hA]; omega
    have HY : Hid (rdWr s p = if (rbV s (p + 1) 1048576).2.2 = 0 then
      if bytA s p = 1 then
        if (rbV s (p + 1 + (rbV s (p + 1) 1048576).2.1) 1048576).2.2 = 0 then some ((1, (rbV s (p + 1) 1048576).1, (rbV s (p + 1 + (rbV s (p + 1) 1048576).2.1) 1048576).1), p + 1 + (rbV s (p + 1) 1048576).2.1 + (rbV s (p + 1 + (rbV s (p + 1) 1048576).2.1) 1048576).2.1)
        else none
      else some ((bytA s p, (rbV s (p + 1) 1048576).1, ⟨#[]⟩), p + 1 + (rbV s (p + 1) 1048576).2.1)
    else none) := by
      show _ = _
      unfold rdWr
      rw [if_pos c1]
    clear hb hA h256
    generalize bytA s p = kb at *
    go_enter Try.func25, Try.ntmps25
    go_wp2_with fail
    refine (HBy.out ()).mono ?_
    rintro e w1 ⟨hf1, ⟨n1, hn1, rfl, hr1⟩ | ⟨hn1, rfl⟩⟩
    · obtain rfl : p + 1 = n1 := Option.some.inj hn1
      have H1 : Hid (Fr R w w1) := HF.out.trans hf1
      have HZ1 : Hid (Wr3 w1 w.heap.size (.int .i64 0) (.string ⟨#[]⟩) (.string ⟨#[]⟩)) := HZ.out.fr hf1 (by omega)
      have HR1 : Hid (RdC w1 R s (p + 1)) := hr1
      clear hf1 hr1 hn1 HBy HF HZ HR
      have hT := takeB R s (p + 1) w1 HR1.out (by omega) hs
      by_cases c2 : (rbV s (p + 1) 1048576).2.2 = 0
      · have hin := (rb_form s (p + 1) 1048576 c2).2.2.2
        rw [if_pos c2] at HY
        rw [if_pos c2] at hT
        have HT : Hid (∀ _ : Unit, _) := fun _ => hT
        clear hT c2
        generalize (rbV s (p + 1) 1048576).1 = ky at *
        generalize (rbV s (p + 1) 1048576).2.1 = n at *
        go_wp2_with fail
        refine (HT.out ()).mono ?_
        rintro e w2 ⟨hf2, ⟨n2, hn2, rfl, hr2⟩ | ⟨hn2, rfl⟩⟩
        · obtain rfl : p + 1 + n = n2 := Option.some.inj hn2
          have HBs : Hid (w.heap.size < w2.heap.size) := Nat.lt_of_lt_of_le HZ1.out.lt hf2.size
          have HZ2 : Hid (Wr3 w2 w.heap.size (.int .i64 0) (.string ⟨#[]⟩) (.string ⟨#[]⟩)) := HZ1.out.fr hf2 (by omega)
          have H2 : Hid (Fr R w w2) := H1.out.trans hf2
          have HR2 : Hid (RdC w2 R s (p + 1 + n)) := hr2
          clear hf2 hr2 hn2 HZ1 H1 HR1
          by_cases ck : kb = 1
          · rw [if_pos ck] at HY
            subst ck
            -- the data too
            have HV : Hid (Wr3 (w2.alloc (.cells #[.int .i64 1, .string ky, .string ⟨#[]⟩] 47)) w2.heap.size (.int .i64 1) (.string ky) (.string ⟨#[]⟩)) := heap_alloc_new w2 _
            have H3 : Hid (Fr R w (w2.alloc (.cells #[.int .i64 1, .string ky, .string ⟨#[]⟩] 47))) := H2.out.alloc (Nat.le_of_lt HR2.out.lt) _
            have hb3 : Below w2.heap.size w2 (w2.alloc (.cells #[.int .i64 1, .string ky, .string ⟨#[]⟩] 47)) := (Below.refl _ _).alloc (Nat.le_refl _) _
            have HZ3 : Hid (Wr3 (w2.alloc (.cells #[.int .i64 1, .string ky, .string ⟨#[]⟩] 47)) w.heap.size (.int .i64 0) (.string ⟨#[]⟩) (.string ⟨#[]⟩)) := (hb3.block _ HBs.out).trans HZ2.out
            have HR3 : Hid (RdC (w2.alloc (.cells #[.int .i64 1, .string ky, .string ⟨#[]⟩] 47)) R s (p + 1 + n)) := HR2.out.later hb3
            have HBs2 : Hid (w.heap.size < w2.heap.size) := HBs.out
            have HRl : Hid (R < w2.heap.size) := HR2.out.lt
            clear hb3 HZ2 H2 HR2
            have hT := takeB R s (p + 1 + n) _ HR3.out hin hs
            go_wp2_with fail
            generalize w2.alloc (.cells #[.int .i64 1, .string ky, .string ⟨#[]⟩] 47) = W2 at *
            by_cases c3 : (rbV s (p + 1 + n) 1048576).2.2 = 0
            · rw [if_pos c3] at HY
              rw [if_pos c3] at hT
              clear c3
              generalize (rbV s (p + 1 + n) 1048576).1 = dt at *
              generalize (rbV s (p + 1 + n) 1048576).2.1 = m at *
              refine hT.mono ?_
              clear hT
              rintro e w3 ⟨hf3, ⟨n3, hn3, rfl, hr3⟩ | ⟨hn3, rfl⟩⟩
              · obtain rfl : p + 1 + n + m = n3 := Option.some.inj hn3
                have hne1 : w2.heap.size ≠ R := by have := HRl.out; omega
                have hne2 : w.heap.size ≠ R := by omega
                have hne3 : w.heap.size ≠ w2.heap.size := by have := HBs2.out; omega
                have HV4 : Hid (Wr3 w3 w2.heap.size (.int .i64 1) (.string ky) (.string ⟨#[]⟩)) := HV.out.fr hf3 hne1
                have HZ4 : Hid (Wr3 w3 w.heap.size (.int .i64 0) (.string ⟨#[]⟩) (.string ⟨#[]⟩)) := HZ3.out.fr hf3 hne2
                have H4 : Hid (Fr R w w3) := H3.out.trans hf3
                have HR4 : Hid (RdC w3 R s (p + 1 + n + m)) := hr3
                have HBs3 : Hid (w.heap.size < w2.heap.size) := HBs2.out
                clear hf3 hr3 hn3 HV HZ3 H3 HR3
                have v0 := HV4.out.c0
                have v1 := HV4.out.c1
                have v2 := HV4.out.c2
                have x2 := HV4.out.free 2
                have z0 := HZ4.out.c0
                have z1 := HZ4.out.c1
                have z2 := HZ4.out.c2
                have y0 := HZ4.out.free 0
                have y1 := HZ4.out.free 1
                have y2 := HZ4.out.free 2
                have Hne1 : Hid (R ≠ w2.heap.size) := Ne.symm hne1
                have Hne2 : Hid (R ≠ w.heap.size) := Ne.symm hne2
                have Hne3 : Hid (w.heap.size ≠ w2.heap.size) := hne3
                generalize w2.heap.size = g2 at *
                generalize hg0 : w.heap.size = g0 at *
                have hle2 : g0 ≤ g2 := Nat.le_of_lt HBs3.out
                clear HBs HBs2 HRl
                go_wp2
                refine bodyPost_ret (ret_write rfl _ _ _ _ _ g0 (by rfl) ((HZ4.out.other (p := ⟨g2, 2, none⟩) _ Hne3.out).set _ _ _)) rfl (WrC.yes ?_ HY.out ?_)
                · exact (((H4.out.setOwn (p := ⟨g2, 2, none⟩) (by simp only; omega) (by simp only; omega) _).setOwn (p := ⟨g0, 0, none⟩) (by simp only; omega) (by simp only; omega) _).setOwn (p := ⟨g0, 1, none⟩) (by simp only; omega) (by simp only; omega) _).setOwn (p := ⟨g0, 2, none⟩) (by simp only; omega) (by simp only; omega) _
                · exact (((HR4.out.other (p := ⟨g2, 2, none⟩) _ Hne1.out).other (p := ⟨g0, 0, none⟩) _ Hne2.out).other (p := ⟨g0, 1, none⟩) _ Hne2.out).other (p := ⟨g0, 2, none⟩) _ Hne2.out
              · cases hn3
            · rw [if_neg c3] at HY
              rw [if_neg c3] at hT
              refine hT.mono ?_
              clear hT
              rintro e w3 ⟨hf3, ⟨n3, hn3, rfl, hr3⟩ | ⟨hn3, rfl⟩⟩
              · cases hn3
              · exact ⟨rfl, WrC.no (H3.out.trans hf3) HY.out⟩
          · rw [if_neg ck] at HY
            have ck' : (kb == 1) = false := by simpa using ck
            have Hne2 : Hid (R ≠ w.heap.size) := by show _ ≠ _; omega
            have hb3 : Below w2.heap.size w2 (w2.alloc (.cells #[.int .i64 kb, .string ky, .string ⟨#[]⟩] 47)) := (Below.refl _ _).alloc (Nat.le_refl _) _
            have H3 : Hid (Fr R w (w2.alloc (.cells #[.int .i64 kb, .string ky, .string ⟨#[]⟩] 47))) := H2.out.alloc (Nat.le_of_lt HR2.out.lt) _
            have HZ3 : Hid (Wr3 (w2.alloc (.cells #[.int .i64 kb, .string ky, .string ⟨#[]⟩] 47)) w.heap.size (.int .i64 0) (.string ⟨#[]⟩) (.string ⟨#[]⟩)) := (hb3.block _ HBs.out).trans HZ2.out
            have HR3 : Hid (RdC (w2.alloc (.cells #[.int .i64 kb, .string ky, .string ⟨#[]⟩] 47)) R s (p + 1 + n)) := HR2.out.later hb3
            have z0 := HZ3.out.c0
            have z1 := HZ3.out.c1
            have z2 := HZ3.out.c2
            have y0 := HZ3.out.free 0
            have y1 := HZ3.out.free 1
            have y2 := HZ3.out.free 2
            have hne : w.heap.size ≠ w2.heap.size := by have := HBs.out; omega
            clear hb3 ck
            have u0 : (w2.alloc (.cells #[.int .i64 kb, .string ky, .string ⟨#[]⟩] 47)).cell? ⟨w2.heap.size, 0, none⟩ = some (.int .i64 kb) := by simp [go_sem]
            have u1 : (w2.alloc (.cells #[.int .i64 kb, .string ky, .string ⟨#[]⟩] 47)).cell? ⟨w2.heap.size, 1, none⟩ = some (.string ky) := by simp [go_sem]
            have u2 : (w2.alloc (.cells #[.int .i64 kb, .string ky, .string ⟨#[]⟩] 47)).cell? ⟨w2.heap.size, 2, none⟩ = some (.string ⟨#[]⟩) := by simp [go_sem]
            have hss : (w2.alloc (.cells #[.int .i64 kb, .string ky, .string ⟨#[]⟩] 47)).heap.size = w2.heap.size + 1 := by simp
            go_wp2
            refine bodyPost_ret (ret_write rfl _ _ _ _ _ w.heap.size (by rfl) (HZ3.out.set _ _ _)) rfl (WrC.yes ?_ HY.out ?_)
            · exact ((H3.out.setOwn (p := ⟨w.heap.size, 0, none⟩) (by simp only; omega) (by simp only; omega) _).setOwn (p := ⟨w.heap.size, 1, none⟩) (by simp only; omega) (by simp only; omega) _).setOwn (p := ⟨w.heap.size, 2, none⟩) (by simp only; omega) (by simp only; omega) _
            · exact ((HR3.out.other (p := ⟨w.heap.size, 0, none⟩) _ Hne2.out).other (p := ⟨w.heap.size, 1, none⟩) _ Hne2.out).other (p := ⟨w.heap.size, 2, none⟩) _ Hne2.out
        · cases hn2
      · rw [if_neg c2] at HY
        rw [if_neg c2] at hT
        have HT : Hid (∀ _ : Unit, _) := fun _ => hT
        clear hT c2
        go_wp2_with fail
        refine (HT.out ()).mono ?_
        rintro e w2 ⟨hf2, ⟨n2, hn2, rfl, hr2⟩ | ⟨hn2, rfl⟩⟩
        · cases hn2
        · exact ⟨rfl, WrC.no (H1.out.trans hf2) HY.out⟩
    · cases hn1
  · have hb := byteC R s p _ HR.out hp hs
    rw [if_neg c1] at hb
    have HBy : Hid (∀ _ : Unit, _) := fun _ => hb
    have HE : Hid (rdWr s p = none) := by show _ = _; unfold rdWr; rw [if_neg c1]
    clear hb
    go_enter Try.func25, Try.ntmps25
    go_wp2_with fail
    refine (HBy.out ()).mono ?_
    rintro e w1 ⟨hf1, ⟨n1, hn1, rfl, hr1⟩ | ⟨hn1, rfl⟩⟩
    · cases hn1
    · exact ⟨rfl, WrC.no (HF.out.trans hf1) HE.out⟩
end Go.Proofs.Ytmolfemcciljjaa
