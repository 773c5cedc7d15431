import Derived.Test.YtlidkdnfibfnfaaGreatDoorLxS13
namespace Go.Proofs.YtlidkdnfibfnfaaGreatDoor
open Go.ChangeShapes Go.WideShapes Go.ChangeAt Go.RowKit
set_option linter.unusedVariables false
set_option maxRecDepth 100000
theorem tok_name {s : ByteArray} {p : Nat} (h1 : ¬ ((bA s p = 120 ∨ bA s p = 88) ∧ bA s (p + 1) = 39)) (h2 : ¬ isLt (bA s p)) (h3 : ¬ isDg (bA s p)) (h4 : bA s p = 34) : tokP s p = match quoP s 34 (p + 1) [] with | none => .error 151 | some (l, j) => if l.length < 1 ∨ 32 < l.length then .error 153 else .ok (⟨1, ⟨l.toArray⟩, 0, p⟩, j) := by
  unfold tokP
  rw [if_neg h1, if_neg h2, if_neg h3, if_pos h4]
  cases quoP s 34 (p + 1) [] <;> rfl
theorem tok_text {s : ByteArray} {p : Nat} (h1 : ¬ ((bA s p = 120 ∨ bA s p = 88) ∧ bA s (p + 1) = 39)) (h2 : ¬ isLt (bA s p)) (h3 : ¬ isDg (bA s p)) (h4 : ¬ bA s p = 34) (h5 : bA s p = 39) : tokP s p = match quoP s 39 (p + 1) [] with | none => .error 151 | some (l, j) => if 4096 < l.length then .error 4 else .ok (⟨4, ⟨l.toArray⟩, 0, p⟩, j) := by
  unfold tokP
  rw [if_neg h1, if_neg h2, if_neg h3, if_neg h4, if_pos h5]
  cases quoP s 39 (p + 1) [] <;> rfl
set_option maxHeartbeats 6400000 in
theorem tokenT (R : Nat) (s : ByteArray) (p : Nat) (w : World) (h : Sc w R s p) (hs : s.size ≤ 65536) (hp : p < s.size) (hg : GX w) (hR : 11 ≤ R) :
    Calls Tryz.prog 14 #[.pointer (some ⟨R, 0, none⟩)] w fun e w' => TokR R s p (tokP s p) e w' ∧ Fr R w w' := by
  have HT : Hid (TkS R s w (w.alloc (.cells tkZ 30)) p) := TkS.new h
  have HG : Hid (GX w) := hg
  have hes : (s.extract p s.size).size = s.size - p := by rw [ByteArray.size_extract]; omega
  have hes2 : (s.extract p s.size).size ≤ 65536 := by omega
  have HP1 : Hid (∀ W : World, _) := fun W => preT (s.extract p s.size) ⟨#[120, 39]⟩ W (by decide) hes2
  have HP2 : Hid (∀ W : World, _) := fun W => preT (s.extract p s.size) ⟨#[88, 39]⟩ W (by decide) hes2
  rw [rest_two 120 39 (Nat.le_of_lt hp), show (120 : UInt8).toNat = 120 from rfl, show (39 : UInt8).toNat = 39 from rfl] at HP1
  rw [rest_two 88 39 (Nat.le_of_lt hp), show (88 : UInt8).toNat = 88 from rfl, show (39 : UInt8).toNat = 39 from rfl] at HP2
  have hlt0 : 0 < (s.extract p s.size).size := by omega
  have HC0 : Hid ((s.extract p s.size)[0].toNat = bA s p) := by
    show (s.extract p s.size)[0].toNat = bA s p
    rw [ByteArray.getElem_extract, bA_of hp]
    rfl
  have HL : Hid (∀ W : World, _) := fun W => letT (s.extract p s.size)[0].toNat W (s.extract p s.size)[0].toNat_lt
  have HDg : Hid (∀ W : World, _) := fun W => digT (s.extract p s.size)[0].toNat W (s.extract p s.size)[0].toNat_lt
  rw [HC0.out] at HL HDg
  clear h hg hes hes2
  generalize hV : s.extract p s.size = V at *
  go_enter Tryz.func14, Tryz.ntmps14
  go_wp2_with fail
  refine (restT R s p _ HT.out.sc hs (Nat.le_of_lt hp)).mono ?_
  rintro e w1 ⟨rfl, hd⟩
  have HT1 : Hid (TkS R s w w1 p) := HT.out.next (drewN_fr hd) (HT.out.sc.step hd)
  clear hd HT
  rw [hV]
  clear hV
  have HGX : Hid (GX w1) := HT1.out.gx HG.out hR
  go_wp2_with fail
  refine (HP1.out _).mono ?_
  rintro e w2 ⟨rfl, rfl⟩
  have hc0 := HC0.out
  by_cases hx : bA s p = 120 ∧ bA s (p + 1) = 39
  · rw [decide_eq_true hx]
    have hp2 : p + 2 ≤ s.size := by
      have : p + 1 < s.size := bA_lt (by rw [hx.2]; decide)
      omega
    have HEq0 : Hid (tokP s p = hexT s p) := tokP_hex ⟨.inl hx.1, hx.2⟩
    clear hx hc0 HC0
    have HCT : Hid (∀ _ : Unit, _) := fun _ => hexTT R s p w2 HT1.out.sc hs hp2 HGX.out hR
    go_wp2_with fail
    refine (HCT.out ()).mono ?_
    rintro e w9 ⟨hr, hf⟩
    rw [← HEq0.out] at hr
    unfold TokR at hr
    rcases htk : tokP s p with ec | ⟨tk, q⟩
    · rw [htk] at hr
      dsimp only at hr
      subst hr
      have HE : Hid (tokP s p = .error ec) := htk
      have HF : Hid (Fr R w w9) := HT1.out.fr.trans hf
      clear htk hf HCT
      unfold gaveUp
      go_wp2
      exact ⟨rfl, by unfold TokR; rw [HE.out]; rfl, HF.out⟩
    · rw [htk] at hr
      obtain ⟨rfl, hsc⟩ := hr
      have HE : Hid (tokP s p = .ok (tk, q)) := htk
      have HT9 : Hid (TkS R s w w9 q) := HT1.out.next hf hsc
      clear htk hf hsc HCT HT1
      obtain ⟨d0, d1, d2, d3, f10, f11, f12, f13⟩ := zTk HT9.out.bx
      unfold tkC
      dsimp only
      obtain ⟨tkk, tkt, tkn, tka⟩ := tk
      dsimp only
      go_wp2
      refine bodyPost_ret (results_cell_row rfl _ _ w.heap.size _ _ (0, 0) _ (by rfl) (set4 HT9.out.bx) Tryz.underlying30 rfl infoTk) rfl ⟨?_, (HT9.out.done _ _ _ _).2⟩
      unfold TokR
      rw [HE.out]
      exact ⟨rfl, (HT9.out.done _ _ _ _).1⟩
  · rw [decide_eq_false hx]
    have HNX : Hid (¬ (bA s p = 120 ∧ bA s (p + 1) = 39)) := hx
    clear hx hc0
    go_wp2_with fail
    refine (HP2.out _).mono ?_
    rintro e w3 ⟨rfl, rfl⟩
    by_cases hx2 : bA s p = 88 ∧ bA s (p + 1) = 39
    · rw [decide_eq_true hx2]
      have hp2 : p + 2 ≤ s.size := by
        have : p + 1 < s.size := bA_lt (by rw [hx2.2]; decide)
        omega
      have HEq0 : Hid (tokP s p = hexT s p) := tokP_hex ⟨.inr hx2.1, hx2.2⟩
      clear hx2 HC0
      have HCT : Hid (∀ _ : Unit, _) := fun _ => hexTT R s p w3 HT1.out.sc hs hp2 HGX.out hR
      go_wp2_with fail
      refine (HCT.out ()).mono ?_
      rintro e w9 ⟨hr, hf⟩
      rw [← HEq0.out] at hr
      unfold TokR at hr
      rcases htk : tokP s p with ec | ⟨tk, q⟩
      · rw [htk] at hr
        dsimp only at hr
        subst hr
        have HE : Hid (tokP s p = .error ec) := htk
        have HF : Hid (Fr R w w9) := HT1.out.fr.trans hf
        clear htk hf HCT
        unfold gaveUp
        go_wp2
        exact ⟨rfl, by unfold TokR; rw [HE.out]; rfl, HF.out⟩
      · rw [htk] at hr
        obtain ⟨rfl, hsc⟩ := hr
        have HE : Hid (tokP s p = .ok (tk, q)) := htk
        have HT9 : Hid (TkS R s w w9 q) := HT1.out.next hf hsc
        clear htk hf hsc HCT HT1
        obtain ⟨d0, d1, d2, d3, f10, f11, f12, f13⟩ := zTk HT9.out.bx
        unfold tkC
        dsimp only
        obtain ⟨tkk, tkt, tkn, tka⟩ := tk
        dsimp only
        go_wp2
        refine bodyPost_ret (results_cell_row rfl _ _ w.heap.size _ _ (0, 0) _ (by rfl) (set4 HT9.out.bx) Tryz.underlying30 rfl infoTk) rfl ⟨?_, (HT9.out.done _ _ _ _).2⟩
        unfold TokR
        rw [HE.out]
        exact ⟨rfl, (HT9.out.done _ _ _ _).1⟩
    · rw [decide_eq_false hx2]
      have HN1 : Hid (¬ ((bA s p = 120 ∨ bA s p = 88) ∧ bA s (p + 1) = 39)) := fun h => by
        rcases h with ⟨h1 | h1, h2⟩
        · exact HNX.out ⟨h1, h2⟩
        · exact hx2 ⟨h1, h2⟩
      clear hx2 HNX
      go_wp2_with fail
      rw [HC0.out]
      refine (HL.out _).mono ?_
      rintro e w4 ⟨rfl, rfl⟩
      by_cases h2 : isLt (bA s p)
      · rw [decide_eq_true h2]
        have HEq0 : Hid (tokP s p = wordP s p) := tokP_word HN1.out h2
        have HCT : Hid (∀ _ : Unit, _) := fun _ => wordT R s p w4 HT1.out.sc hs hp h2 HGX.out hR
        go_wp2_with fail
        refine (HCT.out ()).mono ?_
        rintro e w9 ⟨hr, hf⟩
        rw [← HEq0.out] at hr
        unfold TokR at hr
        rcases htk : tokP s p with ec | ⟨tk, q⟩
        · rw [htk] at hr
          dsimp only at hr
          subst hr
          have HE : Hid (tokP s p = .error ec) := htk
          have HF : Hid (Fr R w w9) := HT1.out.fr.trans hf
          clear htk hf HCT
          unfold gaveUp
          go_wp2
          exact ⟨rfl, by unfold TokR; rw [HE.out]; rfl, HF.out⟩
        · rw [htk] at hr
          obtain ⟨rfl, hsc⟩ := hr
          have HE : Hid (tokP s p = .ok (tk, q)) := htk
          have HT9 : Hid (TkS R s w w9 q) := HT1.out.next hf hsc
          clear htk hf hsc HCT HT1
          obtain ⟨d0, d1, d2, d3, f10, f11, f12, f13⟩ := zTk HT9.out.bx
          unfold tkC
          dsimp only
          obtain ⟨tkk, tkt, tkn, tka⟩ := tk
          dsimp only
          go_wp2
          refine bodyPost_ret (results_cell_row rfl _ _ w.heap.size _ _ (0, 0) _ (by rfl) (set4 HT9.out.bx) Tryz.underlying30 rfl infoTk) rfl ⟨?_, (HT9.out.done _ _ _ _).2⟩
          unfold TokR
          rw [HE.out]
          exact ⟨rfl, (HT9.out.done _ _ _ _).1⟩
      · rw [decide_eq_false h2]
        have HN2 : Hid (¬ isLt (bA s p)) := h2
        clear h2
        go_wp2_with fail
        refine (HDg.out _).mono ?_
        rintro e w5 ⟨rfl, rfl⟩
        by_cases h3 : isDg (bA s p)
        · rw [decide_eq_true h3]
          have HEq0 : Hid (tokP s p = intP s p) := tokP_num HN1.out HN2.out h3
          have HCT : Hid (∀ _ : Unit, _) := fun _ => integerT R s p w5 HT1.out.sc hs hp h3 HGX.out hR
          go_wp2_with fail
          refine (HCT.out ()).mono ?_
          rintro e w9 ⟨hr, hf⟩
          rw [← HEq0.out] at hr
          unfold TokR at hr
          rcases htk : tokP s p with ec | ⟨tk, q⟩
          · rw [htk] at hr
            dsimp only at hr
            subst hr
            have HE : Hid (tokP s p = .error ec) := htk
            have HF : Hid (Fr R w w9) := HT1.out.fr.trans hf
            clear htk hf HCT
            unfold gaveUp
            go_wp2
            exact ⟨rfl, by unfold TokR; rw [HE.out]; rfl, HF.out⟩
          · rw [htk] at hr
            obtain ⟨rfl, hsc⟩ := hr
            have HE : Hid (tokP s p = .ok (tk, q)) := htk
            have HT9 : Hid (TkS R s w w9 q) := HT1.out.next hf hsc
            clear htk hf hsc HCT HT1
            obtain ⟨d0, d1, d2, d3, f10, f11, f12, f13⟩ := zTk HT9.out.bx
            unfold tkC
            dsimp only
            obtain ⟨tkk, tkt, tkn, tka⟩ := tk
            dsimp only
            go_wp2
            refine bodyPost_ret (results_cell_row rfl _ _ w.heap.size _ _ (0, 0) _ (by rfl) (set4 HT9.out.bx) Tryz.underlying30 rfl infoTk) rfl ⟨?_, (HT9.out.done _ _ _ _).2⟩
            unfold TokR
            rw [HE.out]
            exact ⟨rfl, (HT9.out.done _ _ _ _).1⟩
        · rw [decide_eq_false h3]
          have HN3 : Hid (¬ isDg (bA s p)) := h3
          clear h3
          by_cases h4 : bA s p = 34
          · have hc4 : bA s p = 34 := h4
            have HEq0 : Hid _ := tok_name HN1.out HN2.out HN3.out h4
            have k1 : ((bA s p : Int) == 34) = true := by rw [hc4]; rfl
            have k2 : (bA s p : Int) = 34 := by rw [hc4]; rfl
            clear h4 hc4 HC0
            have HCT : Hid (∀ _ : Unit, _) := fun _ => quotedNameT R s p w5 HT1.out.sc hs hp HGX.out hR (tokP s p) HEq0.out
            go_wp2_with fail
            refine (HCT.out ()).mono ?_
            rintro e w9 ⟨hr, hf⟩
            unfold TokR at hr
            rcases htk : tokP s p with ec | ⟨tk, q⟩
            · rw [htk] at hr
              dsimp only at hr
              subst hr
              have HE : Hid (tokP s p = .error ec) := htk
              have HF : Hid (Fr R w w9) := HT1.out.fr.trans hf
              clear htk hf HCT
              unfold gaveUp
              go_wp2
              exact ⟨rfl, by unfold TokR; rw [HE.out]; rfl, HF.out⟩
            · rw [htk] at hr
              obtain ⟨rfl, hsc⟩ := hr
              have HE : Hid (tokP s p = .ok (tk, q)) := htk
              have HT9 : Hid (TkS R s w w9 q) := HT1.out.next hf hsc
              clear htk hf hsc HCT HT1
              obtain ⟨d0, d1, d2, d3, f10, f11, f12, f13⟩ := zTk HT9.out.bx
              unfold tkC
              dsimp only
              obtain ⟨tkk, tkt, tkn, tka⟩ := tk
              dsimp only
              go_wp2
              refine bodyPost_ret (results_cell_row rfl _ _ w.heap.size _ _ (0, 0) _ (by rfl) (set4 HT9.out.bx) Tryz.underlying30 rfl infoTk) rfl ⟨?_, (HT9.out.done _ _ _ _).2⟩
              unfold TokR
              rw [HE.out]
              exact ⟨rfl, (HT9.out.done _ _ _ _).1⟩
          · by_cases h5 : bA s p = 39
            · have hc5 : bA s p = 39 := h5
              have HEq0 : Hid _ := tok_text HN1.out HN2.out HN3.out h4 h5
              have k0 : ((bA s p : Int) == 34) = false := by rw [hc5]; rfl
              have k00 : ¬ (bA s p : Int) = 34 := by rw [hc5]; decide
              have k1 : ((bA s p : Int) == 39) = true := by rw [hc5]; rfl
              have k2 : (bA s p : Int) = 39 := by rw [hc5]; rfl
              clear h4 h5 hc5 HC0
              have HCT : Hid (∀ _ : Unit, _) := fun _ => quotedTextT R s p w5 HT1.out.sc hs hp HGX.out hR (tokP s p) HEq0.out
              go_wp2_with fail
              refine (HCT.out ()).mono ?_
              rintro e w9 ⟨hr, hf⟩
              unfold TokR at hr
              rcases htk : tokP s p with ec | ⟨tk, q⟩
              · rw [htk] at hr
                dsimp only at hr
                subst hr
                have HE : Hid (tokP s p = .error ec) := htk
                have HF : Hid (Fr R w w9) := HT1.out.fr.trans hf
                clear htk hf HCT
                unfold gaveUp
                go_wp2
                exact ⟨rfl, by unfold TokR; rw [HE.out]; rfl, HF.out⟩
              · rw [htk] at hr
                obtain ⟨rfl, hsc⟩ := hr
                have HE : Hid (tokP s p = .ok (tk, q)) := htk
                have HT9 : Hid (TkS R s w w9 q) := HT1.out.next hf hsc
                clear htk hf hsc HCT HT1
                obtain ⟨d0, d1, d2, d3, f10, f11, f12, f13⟩ := zTk HT9.out.bx
                unfold tkC
                dsimp only
                obtain ⟨tkk, tkt, tkn, tka⟩ := tk
                dsimp only
                go_wp2
                refine bodyPost_ret (results_cell_row rfl _ _ w.heap.size _ _ (0, 0) _ (by rfl) (set4 HT9.out.bx) Tryz.underlying30 rfl infoTk) rfl ⟨?_, (HT9.out.done _ _ _ _).2⟩
                unfold TokR
                rw [HE.out]
                exact ⟨rfl, (HT9.out.done _ _ _ _).1⟩
            · have HEq0 : Hid (tokP s p = signP s p) := tokP_sign HN1.out HN2.out HN3.out h4 h5
              have k00 : ¬ (bA s p : Int) = 34 := by omega
              have k0 : ((bA s p : Int) == 34) = false := by rw [beq_eq_false_iff_ne]; exact k00
              have k10 : ¬ (bA s p : Int) = 39 := by omega
              have k1 : ((bA s p : Int) == 39) = false := by rw [beq_eq_false_iff_ne]; exact k10
              clear h4 h5 HC0
              have HCT : Hid (∀ _ : Unit, _) := fun _ => signT R s p w5 HT1.out.sc hs hp HGX.out hR
              go_wp2_with fail
              refine (HCT.out ()).mono ?_
              rintro e w9 ⟨hr, hf⟩
              rw [← HEq0.out] at hr
              unfold TokR at hr
              rcases htk : tokP s p with ec | ⟨tk, q⟩
              · rw [htk] at hr
                dsimp only at hr
                subst hr
                have HE : Hid (tokP s p = .error ec) := htk
                have HF : Hid (Fr R w w9) := HT1.out.fr.trans hf
                clear htk hf HCT
                unfold gaveUp
                go_wp2
                exact ⟨rfl, by unfold TokR; rw [HE.out]; rfl, HF.out⟩
              · rw [htk] at hr
                obtain ⟨rfl, hsc⟩ := hr
                have HE : Hid (tokP s p = .ok (tk, q)) := htk
                have HT9 : Hid (TkS R s w w9 q) := HT1.out.next hf hsc
                clear htk hf hsc HCT HT1
                obtain ⟨d0, d1, d2, d3, f10, f11, f12, f13⟩ := zTk HT9.out.bx
                unfold tkC
                dsimp only
                obtain ⟨tkk, tkt, tkn, tka⟩ := tk
                dsimp only
                go_wp2
                refine bodyPost_ret (results_cell_row rfl _ _ w.heap.size _ _ (0, 0) _ (by rfl) (set4 HT9.out.bx) Tryz.underlying30 rfl infoTk) rfl ⟨?_, (HT9.out.done _ _ _ _).2⟩
                unfold TokR
                rw [HE.out]
                exact ⟨rfl, (HT9.out.done _ _ _ _).1⟩
end Go.Proofs.YtlidkdnfibfnfaaGreatDoor
