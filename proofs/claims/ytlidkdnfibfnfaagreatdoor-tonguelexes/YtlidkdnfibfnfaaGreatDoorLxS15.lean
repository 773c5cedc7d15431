import Derived.Test.YtlidkdnfibfnfaaGreatDoorLxS14
namespace Go.Proofs.YtlidkdnfibfnfaaGreatDoor
open Go.ChangeShapes Go.WideShapes Go.ChangeAt Go.RowKit
set_option linter.unusedVariables false
set_option maxRecDepth 100000
theorem tok_at {s : ByteArray} {p q : Nat} {t : TK} (h : tokP s p = .ok (t, q)) : t.at_ = (p : Int) := by
  by_cases h1 : (bA s p = 120 ∨ bA s p = 88) ∧ bA s (p + 1) = 39
  · rw [tokP_hex h1] at h
    unfold hexT at h
    split at h
    · cases h
    · split at h
      · cases h
      · rcases hr : hexP s (apoP s (p + 2)) (p + 2) [] with _ | l
        · rw [hr] at h; cases h
        · rw [hr] at h
          dsimp only at h
          split at h
          · cases h
          · injection h with h; injection h with h _; rw [← h]
  · by_cases h2 : isLt (bA s p)
    · rw [tokP_word h1 h2] at h
      unfold wordP at h
      split at h
      · injection h with h; injection h with h _; rw [← h]
      · split at h
        · cases h
        · injection h with h; injection h with h _; rw [← h]
    · by_cases h3 : isDg (bA s p)
      · rw [tokP_num h1 h2 h3] at h
        unfold intP at h
        rcases hr : numP s p 0 with _ | ⟨v, j⟩
        · rw [hr] at h; cases h
        · rw [hr] at h
          dsimp only at h
          split at h
          · cases h
          · injection h with h; injection h with h _; rw [← h]
      · by_cases h4 : bA s p = 34
        · rw [tok_name h1 h2 h3 h4] at h
          rcases hr : quoP s 34 (p + 1) [] with _ | ⟨l, j⟩
          · rw [hr] at h; cases h
          · rw [hr] at h
            dsimp only at h
            split at h
            · cases h
            · injection h with h; injection h with h _; rw [← h]
        · by_cases h5 : bA s p = 39
          · rw [tok_text h1 h2 h3 h4 h5] at h
            rcases hr : quoP s 39 (p + 1) [] with _ | ⟨l, j⟩
            · rw [hr] at h; cases h
            · rw [hr] at h
              dsimp only at h
              split at h
              · cases h
              · injection h with h; injection h with h _; rw [← h]
          · rw [tokP_sign h1 h2 h3 h4 h5] at h
            unfold signP at h
            dsimp only at h
            repeat' split at h
            all_goals first | (cases h; done) | (cases h; rfl)
theorem hideG {P : Prop} (h : Hid P) : P := h.out
/-- How reading all tokens ends. -/
def TksR (B : Nat) (r : Except (Int × Nat) (List TK)) (e : Ending) (w' : World) : Prop := match r with
  | .ok ts => ∃ v, e = .returned v ∧ ownT w' B v ts
  | .error (er, p) => e = gaveUp er p
theorem ownT.keep {w w' : World} {B : Nat} {v : Value} {ts : List TK} (h : ownT w B v ts) (hk : ∀ k, B ≤ k → k < w.heap.size → w'.heap[k]? = w.heap[k]?) : ownT w' B v ts := by
  refine ⟨h.1, ?_⟩
  rcases h.2 with h1 | ⟨g, cap, cur, rfl, h1, h2, h3⟩
  · exact .inl h1
  · exact .inr ⟨g, cap, cur, rfl, h1, (hk g h1 (Array.getElem?_eq_some_iff.1 h2).1).trans h2, h3⟩
theorem ownT.fr {w w' : World} {R : Nat} {v : Value} {ts : List TK} (h : ownT w (R + 1) v ts) (hf : Fr R w w') : ownT w' (R + 1) v ts := h.keep (fun k h1 h2 => hf.rest k h2 (by omega))
theorem ownT.down {w : World} {B C : Nat} {v : Value} {ts : List TK} (h : ownT w B v ts) (hc : C ≤ B) : ownT w C v ts := by
  refine ⟨h.1, ?_⟩
  rcases h.2 with h1 | ⟨g, cap, cur, e, h1, h2⟩
  · exact .inl h1
  · exact .inr ⟨g, cap, cur, e, Nat.le_trans hc h1, h2⟩
theorem ownT.form {w : World} {B : Nat} {v : Value} {ts : List TK} (h : ownT w B v ts) : ∃ a cap, v = .slice a ts.length cap := by
  rcases h.2 with ⟨rfl, hn⟩ | ⟨g, cap, cur, rfl, _⟩
  · exact ⟨none, 0, by rw [hn]⟩
  · exact ⟨_, cap, rfl⟩
set_option maxHeartbeats 6400000 in
theorem tokensOfT (s : ByteArray) (w : World) (hz : s.size ≤ 140737488355328) (hg : GX w) :
    Calls Tryz.prog 9 #[.string s] w fun e w' => TksR w.heap.size (lexA s) e w' ∧ Below w.heap.size w w' := by
  by_cases hbig : 65536 < s.size
  · have hb' : (65536 : Int) < (s.size : Int) := by omega
    have HL : Hid (lexA s = .error (4, 0)) := if_pos hbig
    go_enter Tryz.func9, Tryz.ntmps9
    go_wp2
    exact ⟨rfl, by rw [HL.out]; rfl, Below.refl _ _⟩
  · have hb' : ¬ (65536 : Int) < (s.size : Int) := by omega
    have hs : s.size ≤ 65536 := by omega
    have HL : Hid (lexA s = lexP s (s.size + 1) 0 []) := if_neg hbig
    have HG : Hid (GX w) := hg
    have hR : 11 ≤ w.heap.size := hg.few
    have HS : Hid (Sc (w.alloc (.cells #[.string s, .int .i64 ((0 : Nat) : Int)] 42)) w.heap.size s 0) := heap_alloc_new w _
    have HBA : Hid (Below w.heap.size w (w.alloc (.cells #[.string s, .int .i64 ((0 : Nat) : Int)] 42))) := (Below.refl _ _).alloc (Nat.le_refl _) _
    have HPS : Hid (∀ _ : Unit, _) := fun _ => passT w.heap.size s 0 (w.alloc (.cells #[.string s, .int .i64 ((0 : Nat) : Int)] 42)) HS.out hs (Nat.zero_le _) (HG.out.later HBA.out hR) hR
    clear hg hbig
    go_enter Tryz.func9, Tryz.ntmps9
    go_wp2_with fail
    refine (HPS.out ()).mono ?_
    rintro e w1 ⟨hpr, hf1⟩
    have HB1 : Hid (Below w.heap.size w w1) := HBA.out.trans hf1.toBelow
    have hs1 : w.heap.size + 1 ≤ w1.heap.size := by
      have := hf1.toBelow.size
      rw [sizeAl] at this
      exact this
    clear HPS HBA HS
    unfold PassR at hpr
    rcases hgp : gapP s 0 with q | j
    · rw [hgp] at hpr
      dsimp only at hpr
      subst hpr
      have HE : Hid (lexA s = .error (151, q)) := HL.out.trans (lexP_gapE hgp)
      clear hgp hf1
      unfold gaveUp
      go_wp2
      exact ⟨rfl, by rw [HE.out]; rfl, HB1.out⟩
    · rw [hgp] at hpr
      obtain ⟨rfl, hsc1⟩ := hpr
      have hadv := gapP_adv s 0 j (Nat.zero_le _) hgp
      have HS1 : Hid (Sc w1 w.heap.size s j) := hsc1
      have HGP : Hid (gapP s 0 = .ok j) := hgp
      clear hsc1 hgp hf1
      go_wp2_with fail
      go_loopw [4, 5, 6] (fun l _ _ wr => ∃ (n i j : Nat) (ts : List TK), i ≤ j ∧ j ≤ s.size ∧ s.size < n + 1 + i ∧ ts.length ≤ i ∧ gapP s i = .ok j ∧ lexA s = lexP s (n + 1) i ts ∧ Sc wr w.heap.size s j ∧ ownT wr (w.heap.size + 1) l ts ∧ Below w.heap.size w wr) (fun _ _ _ wr => s.size + 1 - atOf w.heap.size wr)
      case atStart => exact ⟨s.size, 0, j, [], by omega, by omega, by omega, Nat.le_refl _, HGP.out, HL.out, HS1.out, ownT_nil _ _, HB1.out⟩
      case round =>
        clear HS1 HGP HB1 hadv hs1
        obtain ⟨n, i, j, ts, hij, hj, hn, hts, hgp, hlx, hsc, how, hbel⟩ := hrel
        obtain ⟨la, lc, rfl⟩ := how.form
        have HGP : Hid (gapP s i = .ok j) := hgp
        have HLX : Hid (lexA s = lexP s (n + 1) i ts) := hlx
        have HSc : Hid (Sc wr w.heap.size s j) := hsc
        have HO : Hid (ownT wr (w.heap.size + 1) (.slice la ts.length lc) ts) := how
        have HB : Hid (Below w.heap.size w wr) := hbel
        have HAt : Hid (atOf w.heap.size wr = j) := hsc.at
        have hlt : w.heap.size + 1 ≤ wr.heap.size := hsc.lt
        have c1 := hsc.cell1
        clear hgp hlx hsc how hbel
        by_cases hjl : j < s.size
        · have hji : (j : Int) < (s.size : Int) := by omega
          have HTT : Hid (∀ _ : Unit, _) := fun _ => tokenT w.heap.size s j wr HSc.out hs hjl (HG.out.later HB.out hR) hR
          go_wp2_with fail
          refine (HTT.out ()).mono ?_
          rintro e w2 ⟨htr, hf2⟩
          have HB2 : Hid (Below w.heap.size w w2) := HB.out.trans hf2.toBelow
          have HO2 : Hid (ownT w2 (w.heap.size + 1) (.slice la ts.length lc) ts) := HO.out.fr hf2
          have hs2 : w.heap.size + 1 ≤ w2.heap.size := Nat.le_trans hlt hf2.toBelow.size
          clear hf2 HTT c1
          unfold TokR at htr
          rcases htk : tokP s j with er | ⟨t, k⟩
          · rw [htk] at htr
            dsimp only at htr
            subst htr
            have HE : Hid (lexA s = .error (er, j)) := HLX.out.trans (lexP_tokE HGP.out hjl htk)
            clear htk
            unfold gaveUp
            go_wp2
            exact ⟨rfl, by rw [HE.out]; rfl, HB2.out⟩
          · rw [htk] at htr
            obtain ⟨rfl, hsc2⟩ := htr
            have hadk := tokP_adv hjl htk
            have hat := tok_at htk
            have HE : Hid (lexA s = lexP s n k (ts ++ [t])) := HLX.out.trans (lexP_tok HGP.out hjl htk)
            have HS2 : Hid (Sc w2 w.heap.size s k) := hsc2
            clear htk hsc2
            obtain ⟨tk, tt, tn, ta⟩ := t
            dsimp only at hat
            subst hat
            have HBl : Hid (Below w2.heap.size w2 (w2.alloc (.cells #[.int .i64 tk, .string tt, .int .i64 tn, .int .i64 (j : Int)] 30))) := (Below.refl _ _).alloc (Nat.le_refl _) _
            have HO3 : Hid (ownT (w2.alloc (.cells #[.int .i64 tk, .string tt, .int .i64 tn, .int .i64 (j : Int)] 30)) (w.heap.size + 1) (.slice la ts.length lc) ts) := HO2.out.later HBl.out
            have HS3 : Hid (Sc (w2.alloc (.cells #[.int .i64 tk, .string tt, .int .i64 tn, .int .i64 (j : Int)] 30)) w.heap.size s k) := HS2.out.later HBl.out
            have HB3 : Hid (Below w.heap.size w (w2.alloc (.cells #[.int .i64 tk, .string tt, .int .i64 tn, .int .i64 (j : Int)] 30))) := HB2.out.trans (HBl.out.mono (by omega))
            have hs3 := HBl.out.size
            have hszA : (w2.alloc (.cells #[.int .i64 tk, .string tt, .int .i64 tn, .int .i64 (j : Int)] 30)).heap.size = w2.heap.size + 1 := sizeAl _ _
            clear HO2 HS2 HB2 HBl
            unfold tkC
            go_wp2_with (at_builtin; refine hideG ?_)
            change wpList _ _ _ _ _ _
            generalize w2.alloc (.cells #[.int .i64 tk, .string tt, .int .i64 tn, .int .i64 (j : Int)] 30) = W3 at *
            refine app_tok (by rfl) _ _ (by rfl) (w.heap.size + 1) _ ts ⟨tk, tt, tn, (j : Int)⟩ HO3.out (by rfl) (w2.heap.size + 1) hszA.symm (by rfl) (by omega) (by omega) ?_
            intro v4 w4 ho4 hb4
            obtain ⟨a4, c4, rfl⟩ := ho4.form
            have hl4 : (ts ++ [(⟨tk, tt, tn, (j : Int)⟩ : TK)]).length = ts.length + 1 := by rw [List.length_append]; rfl
            have HO4 : Hid (ownT w4 (w.heap.size + 1) (.slice a4 (ts ++ [(⟨tk, tt, tn, (j : Int)⟩ : TK)]).length c4) (ts ++ [⟨tk, tt, tn, (j : Int)⟩])) := ho4
            have HS4 : Hid (Sc w4 w.heap.size s k) := (hb4.block _ (by omega)).trans HS3.out
            have HB4 : Hid (Below w.heap.size w w4) := HB3.out.trans (hb4.mono (by omega))
            have HPS : Hid (∀ _ : Unit, _) := fun _ => passT w.heap.size s k w4 HS4.out hs hadk.2 (HG.out.later HB4.out hR) hR
            rw [hl4] at HO4 ⊢
            clear ho4 hb4 HO3 HS3 HB3
            obtain ⟨n, rfl⟩ : ∃ m, n = m + 1 := ⟨n - 1, by omega⟩
            go_wp2_with fail
            refine (HPS.out ()).mono ?_
            rintro e w5 ⟨hpr, hf5⟩
            have HB5 : Hid (Below w.heap.size w w5) := HB4.out.trans hf5.toBelow
            have HO5 : Hid (ownT w5 (w.heap.size + 1) (.slice a4 (ts.length + 1) c4) (ts ++ [⟨tk, tt, tn, (j : Int)⟩])) := HO4.out.fr hf5
            clear HPS hf5 HO4 HB4
            unfold PassR at hpr
            rcases hgp : gapP s k with q | j2
            · rw [hgp] at hpr
              dsimp only at hpr
              subst hpr
              have HE2 : Hid (lexA s = .error (151, q)) := HE.out.trans (lexP_gapE hgp)
              clear hgp
              unfold gaveUp
              go_wp2
              exact ⟨rfl, by rw [HE2.out]; rfl, HB5.out⟩
            · rw [hgp] at hpr
              obtain ⟨rfl, hsc5⟩ := hpr
              have hadv := gapP_adv s k j2 hadk.2 hgp
              have HS5 : Hid (Sc w5 w.heap.size s j2) := hsc5
              have HG2 : Hid (gapP s k = .ok j2) := hgp
              clear hgp hsc5
              go_wp2
              go_roundw
              case rel => exact ⟨n, k, j2, ts ++ [⟨tk, tt, tn, (j : Int)⟩], by omega, by omega, by omega, by omega, HG2.out, HE.out, HS5.out, HO5.out, HB5.out⟩
              case measure => rw [HS5.out.at, HAt.out]; omega
        · have hji : ¬ (j : Int) < (s.size : Int) := by omega
          have HE : Hid (lexA s = .ok (ts ++ [⟨0, ⟨#[]⟩, 0, s.size⟩])) := HLX.out.trans (lexP_end HGP.out (by omega))
          go_wp2_with (at_builtin; refine app_tok (by rfl) _ _ (by rfl) (w.heap.size + 1) _ ts ⟨0, ⟨#[]⟩, 0, s.size⟩ HO.out (by rfl) _ rfl (by rfl) (by omega) hlt ?_; intro v' w4 hown4 hbel4; have HO4 : Hid (ownT w4 (w.heap.size + 1) v' (ts ++ [⟨0, ⟨#[]⟩, 0, s.size⟩])) := hown4; have HB4 : Hid (Below (w.heap.size + 1) wr w4) := hbel4; clear hown4 hbel4)
          go_ret
          refine ⟨?_, HB.out.trans (HB4.out.mono (by omega))⟩
          rw [HE.out]
          exact ⟨_, rfl, HO4.out.down (by omega)⟩
end Go.Proofs.YtlidkdnfibfnfaaGreatDoor
