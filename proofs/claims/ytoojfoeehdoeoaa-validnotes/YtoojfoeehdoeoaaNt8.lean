import Derived.Test.YtoojfoeehdoeoaaNt7
namespace Go.Proofs.Ytoojfoeehdoeoaa
open Go.ChangeShapes Go.WideShapes Go.ChangeAt Go.RowKit Go.Maps
set_option linter.unusedVariables false
set_option maxRecDepth 100000
/-- What of one range is new, behind k looks. -/
def frR (xs : List R2) (x : R2) (k : Nat) : List R2 := if k = 0 then [] else if isInR xs x then [] else [x]
theorem frR_zero (xs : List R2) (x : R2) : frR xs x 0 = [] := rfl
theorem frR_old {xs : List R2} {x : R2} (h : isInR xs x = true) : frR xs x 1 = [] := by simp [frR, h]
theorem frR_new {xs : List R2} {x : R2} (h : isInR xs x = false) : frR xs x 1 = [x] := by simp [frR, h]
theorem insR_nil (x : R2) : insR [] x = [x] := by simp [insR, isInR]
def stL (xs : List R2) (x : R2) (k : Nat) : List R2 := if k = 0 then xs else insR xs x
def addLR (xs : List R2) (x : R2) : List R2 := if (insR xs x).length ≤ 64 then insR xs x else xs
def addER (xs : List R2) (x : R2) : Int := if (insR xs x).length ≤ 64 then 0 else 4
theorem addR_len {xs : List R2} (x : R2) (h : xs.length ≤ 64) : (addLR xs x).length ≤ 64 := by
  unfold addLR; split
  · assumption
  · exact h
theorem addR_ok {xs : List R2} {x : R2} (h : ∀ y ∈ xs, okR y) (hx : okR x) : ∀ y ∈ addLR xs x, okR y := by
  have hi : ∀ y ∈ insR xs x, okR y := by
    unfold insR
    intro y hy
    split at hy
    · exact h y hy
    · rcases List.mem_append.1 hy with h1 | h1
      · exact h y h1
      · simp at h1; subst h1; exact hx
  unfold addLR
  intro y hy
  split at hy
  · exact hi y hy
  · exact h y hy
theorem addR_fits {xs : List R2} {x : R2} (h : xs.length + (frR xs x 1).length ≤ 64) : addER xs x = 0 ∧ addLR xs x = stL xs x (frR xs x 1).length := by
  unfold addER addLR stL
  cases e : isInR xs x
  · rw [frR_new e] at h ⊢
    rw [insR_new e]
    simp at h ⊢
    omega
  · rw [frR_old e] at h ⊢
    rw [insR_old e]
    simp at h ⊢
    omega
theorem frR_one (xs : List R2) (x : R2) : frR xs x 1 = [] ∨ frR xs x 1 = [x] := by
  cases e : isInR xs x
  · exact Or.inr (frR_new e)
  · exact Or.inl (frR_old e)
theorem on_newR (w : World) : OnR (w.alloc (.cells #[.slice none 0 0, .map none] 41)) w.heap.size 0 (.slice none 0 0) none (fun _ => False) [] where
  c0 := by simp
  c1 := by simp
  f0 := by simp
  f1 := by simp
  row := World.ownsRow_nil _ _ _ _
  inF := fun b hb => by cases hb
  map := Or.inl ⟨rfl, rfl⟩
  off := fun h => h
  lt := fun b h => h.elim
theorem OnR.form {w : World} {g o : Nat} {v : Value} {m : Option Nat} {F : Nat → Prop} {xs : List R2} (h : OnR w g o v m F xs) : ∃ sp cap, v = .slice sp xs.length cap ∧ (sp = none → xs = [] ∧ cap = 0) ∧ ∀ i (hi : i < xs.length), ∃ b, sp = some ⟨b, 0, none⟩ ∧ F b ∧ w.cell? ⟨b, i * 2, none⟩ = some (.string xs[i].1) ∧ w.cell? ⟨b, i * 2 + 1, none⟩ = some (.string xs[i].2) := by
  rcases h.row.2 with ⟨rfl, hn⟩ | ⟨b, cap, cur, rfl, h1, h2, h3⟩
  · exact ⟨none, 0, by rw [hn], fun _ => ⟨List.eq_nil_of_length_eq_zero hn, rfl⟩, fun i hi => by omega⟩
  · refine ⟨some ⟨b, 0, none⟩, cap, rfl, (fun e => by cases e), fun i hi => ⟨b, rfl, h.inF b rfl, ?_⟩⟩
    have e0 := World.ownsRow.cellAt (g := b) (cap := cap) h.row (i * 2) (by omega)
    have e1 := World.ownsRow.cellAt (g := b) (cap := cap) h.row (i * 2 + 1) (by omega)
    obtain ⟨c0, c1⟩ := cellsR_get xs i hi
    exact ⟨e0.trans c0, e1.trans c1⟩
set_option maxHeartbeats 3200000 in
theorem addR_any (w : World) (g o : Nat) (v : Value) (m : Option Nat) (F : Nat → Prop) (xs : List R2) (ab : Nat) (cap : Nat) (x : R2) (h : OnR w g o v m F xs) (hl : xs.length ≤ 64) (hx : okR x) (hxs : ∀ y ∈ xs, okR y) (hab : ab < w.heap.size)
    (hc0 : w.cell? ⟨ab, 0, none⟩ = some (.string x.1)) (hc1 : w.cell? ⟨ab, 1, none⟩ = some (.string x.2)) :
    Calls Try.prog 21 #[.pointer (some ⟨g, o, none⟩), .slice (some ⟨ab, 0, none⟩) 1 cap] w fun e w' => e = .returned (.int .i64 (addER xs x)) ∧ PutRg w g o F (addLR xs x) w' := by
  obtain ⟨a, b⟩ := x
  obtain ⟨vs, vc, rfl, hvc, hve⟩ := h.form
  have HH : Hid (OnR w g o _ m F xs) := h
  have HV : Hid _ := hve
  have HXO : Hid _ := hxs
  clear h hvc hve hxs
  go_enter Try.func21, Try.ntmps21
  go_wp2
  go_loopw [12] (fun i wr => ∃ k : Nat, k ≤ 1 ∧ i = .int .i64 k ∧ ∃ vf mf Ff, OnR wr w.heap.size 0 vf mf Ff (frR xs (a, b) k) ∧ (∀ b, Ff b → w.heap.size < b) ∧ Below w.heap.size w wr ∧ xs.length + (frR xs (a, b) k).length ≤ 64)
    (fun i _ => 1 - (intOf i).toNat)
  case atStart => exact ⟨0, Nat.zero_le _, rfl, _, _, _, on_newR w, (fun b h => h.elim), (Below.refl _ _).alloc (Nat.le_refl _) _, by simp [frR]; omega⟩
  case round =>
    obtain ⟨k, hk, rfl, vf, mf, Ff, hfr, hFf, hbel, hle⟩ := hrel
    have hset := HH.out.later hbel
    rcases Nat.lt_or_ge k 1 with hkl | hkl
    · obtain rfl : k = 0 := by omega
      have hcx := (hbel.cell (p := ⟨ab, 0, none⟩) hab).trans hc0
      have hcy := (hbel.cell (p := ⟨ab, 1, none⟩) hab).trans hc1
      have HFR : Hid _ := hfr
      have HFF : Hid _ := hFf
      have HBE : Hid _ := hbel
      have HSE : Hid _ := hset
      have HLE : Hid _ := hle
      clear hfr hFf hbel hset hle
      have hba : Below w.heap.size w (wr.alloc (.cells #[.string a, .string b] 60)) := HBE.out.alloc HBE.out.size _
      have hbr : Below wr.heap.size wr (wr.alloc (.cells #[.string a, .string b] 60)) := (Below.refl _ _).alloc (Nat.le_refl _) _
      have HBA : Hid _ := hba
      have HBR : Hid _ := hbr
      clear hba hbr
      go_wp2_with fail
      refine (hasR_any _ g o _ m F xs (a, b) (HSE.out.later HBR.out) hx HXO.out).mono ?_
      rintro _ w1 ⟨rfl, hb1⟩
      have hn : wr.heap.size < (wr.alloc (.cells #[.string a, .string b] 60)).heap.size := by simp
      have e0 : w1.cell? ⟨wr.heap.size, 0, none⟩ = some (.string a) := (hb1.cell (p := ⟨wr.heap.size, 0, none⟩) hn).trans (cell_two_new wr _ _ _).1
      have e1 : w1.cell? ⟨wr.heap.size, 1, none⟩ = some (.string b) := (hb1.cell (p := ⟨wr.heap.size, 1, none⟩) hn).trans (cell_two_new wr _ _ _).2
      have HB1 : Hid (Below wr.heap.size wr w1) := HBR.out.trans (hb1.mono HBR.out.size)
      have HBW : Hid (Below w.heap.size w w1) := HBA.out.trans (hb1.mono HBA.out.size)
      clear hb1 hn
      cases hin : isInR xs (a, b)
      · have HIN : Hid _ := hin
        clear hin
        go_wp2_with fail
        refine (putR_any w1 w.heap.size 0 vf mf Ff [] (a, b) (HFR.out.later HB1.out) hx (by simp) (by simp)).mono ?_
        rintro _ w2 ⟨rfl, v2, m2, F2, on2, sub2, keep2, oth2⟩
        have hb1 := HB1.out
        have hbw := HBW.out
        have hgl := cell_lt HH.out.c0
        have hsz := HBE.out.size
        rw [insR_nil] at on2
        have HON : Hid (OnR w2 w.heap.size 0 v2 m2 F2 [(a, b)]) := on2
        have HS2 : Hid (OnR w2 g o (.slice vs xs.length vc) m F xs) := (HSE.out.later hb1).keeps keep2 (fun e => by
          rcases e with e | e
          · omega
          · have := HFF.out g e; omega) (fun b hF e => by
          have h1 := HH.out.lt b hF
          rcases e with e | e
          · omega
          · have := HFF.out b e; omega)
        have HF2 : Hid (∀ b, F2 b → w.heap.size < b) := fun b hb => by
          rcases sub2 b hb with e | e
          · exact HFF.out b e
          · have := hb1.size; have := cell_lt HFR.out.c0; omega
        have HB2 : Hid (Below w.heap.size w w2) := hbw.trans (keep2.below hbw.size (fun b hb e => by
          rcases e with e | e
          · omega
          · have := HFF.out b e; omega))
        clear on2 sub2 keep2 oth2 hb1 hbw HB1 HFR HSE HBE HFF hcx hcy HBA HBR HBW e0 e1 hsz
        obtain ⟨sp2, cp2, rfl, _⟩ := HON.out.form
        have c0 := HS2.out.c0
        have d0 := HON.out.c0
        have d0' : w2.cell? ⟨w.heap.size, 0, none⟩ = some (.slice sp2 1 cp2) := d0
        clear d0
        generalize hn1 : xs.length = n1 at c0 hl HLE
        have HN1 : Hid _ := hn1
        clear hn1
        go_wp2
        go_region
        go_wp2
        · go_ret
          have hb2 := HB2.out
          have hlt : ¬ (insR xs (a, b)).length ≤ 64 := by rw [insR_new HIN.out]; simp; have := HN1.out; omega
          refine ⟨by unfold addER; rw [if_neg hlt]; rfl, ?_⟩
          unfold addLR
          rw [if_neg hlt]
          exact Put.same HH.out hb2.drew
        · go_roundw
          case rel => exact ⟨1, by omega, by go_num, _, _, _, by rw [frR_new HIN.out]; exact HON.out.drew, HF2.out, HB2.out.drew, by rw [frR_new HIN.out, HN1.out]; simp; omega⟩
          case measure => simp [intOf]
      · have HIN : Hid _ := hin
        clear hin
        have HON : Hid (OnR w1 w.heap.size 0 vf mf Ff []) := HFR.out.later HB1.out
        have HS2 : Hid (OnR w1 g o (.slice vs xs.length vc) m F xs) := HSE.out.later HB1.out
        clear HFR HSE HBE hcx hcy HBA HBR e0 e1 HB1
        obtain ⟨sp2, cp2, rfl, _⟩ := HON.out.form
        have c0 := HS2.out.c0
        have d0 := HON.out.c0
        have d0' : w1.cell? ⟨w.heap.size, 0, none⟩ = some (.slice sp2 0 cp2) := d0
        clear d0
        generalize hn1 : xs.length = n1 at c0 hl HLE
        have HN1 : Hid _ := hn1
        clear hn1
        go_wp2
        go_region
        go_wp2
        go_roundw
        case rel => exact ⟨1, by omega, by go_num, _, _, _, by rw [frR_old HIN.out]; exact HON.out.drew, HFF.out, HBW.out.drew, by rw [frR_old HIN.out, HN1.out]; simp; omega⟩
        case measure => simp [intOf]
    · have hk1 : k = 1 := by omega
      rw [hk1] at hfr hle
      clear hk1 hc0 hc1 hab
      have HFT : Hid _ := addR_fits hle
      have hfl : ∀ i (hi : i < (frR xs (a, b) 1).length), i = 0 ∧ (frR xs (a, b) 1)[i] = (a, b) := fun i hi => by
        rcases frR_one xs (a, b) with e | e
        · rw [e] at hi; simp at hi
        · have h0 : i = 0 := by rw [e] at hi; simpa using hi
          subst h0
          exact ⟨rfl, by simp [e]⟩
      have HFL : Hid _ := hfl
      obtain ⟨sp2, cp2, rfl, _, hcells⟩ := hfr.form
      have HFR : Hid _ := hfr
      have HFF : Hid _ := hFf
      have HBE : Hid _ := hbel
      have HSE : Hid _ := hset
      have HCE : Hid _ := hcells
      have d0 := hfr.c0
      clear hfr hFf hbel hset hcells hfl
      generalize frR xs (a, b) 1 = fr at *
      obtain ⟨w0, hw0⟩ : ∃ w0, w0 = wr := ⟨_, rfl⟩
      subst hw0
      go_wp2
      go_loopw [36] (fun i wq => ∃ k : Nat, k ≤ fr.length ∧ i = .int .i64 k ∧ ∃ v' m' F', OnR wq g o v' m' F' (stL xs (a, b) k) ∧ (∀ b, F' b → F b ∨ w0.heap.size ≤ b) ∧ Keeps (fun b => b = g ∨ F b) w wq ∧ (∀ j, j ≠ o → j ≠ o + 1 → wq.cell? ⟨g, j, none⟩ = w.cell? ⟨g, j, none⟩ ∧ wq.frozen? ⟨g, j, none⟩ = w.frozen? ⟨g, j, none⟩) ∧ (∀ b, Ff b → wq.heap[b]? = w0.heap[b]?) ∧ w0.heap.size ≤ wq.heap.size)
        (fun i _ => fr.length - (intOf i).toNat)
      case atStart =>
        have hbe := HBE.out
        exact ⟨0, Nat.zero_le _, rfl, _, _, _, HSE.out, fun b hb => Or.inl hb, Below.keeps hbe _, fun j _ _ => ⟨hbe.cell (cell_lt HH.out.c0), World.frozen?_of_block (w := w) (hbe.block g (cell_lt HH.out.c0))⟩, fun _ _ => rfl, Nat.le_refl _⟩
      case round =>
        obtain ⟨k, hk, rfl, v', m', F', hon, hF', hkp, hoth, hfre, hsz⟩ := hrel
        by_cases hkl : k < fr.length
        · obtain ⟨bb, hsp, hFb, hc, hd⟩ := HCE.out k hkl
          obtain ⟨rfl, hval⟩ := HFL.out k hkl
          rw [hval] at hc hd
          have hcx : _ = some (Value.string a) := (World.cell?_of_block (a := ⟨bb, 0 * 2, none⟩) (hfre bb hFb)).trans hc
          have hdx : _ = some (Value.string b) := (World.cell?_of_block (a := ⟨bb, 0 * 2 + 1, none⟩) (hfre bb hFb)).trans hd
          have hcx' : wr.cell? ⟨bb, 0, none⟩ = some (Value.string a) := hcx
          have hdx' : wr.cell? ⟨bb, 1, none⟩ = some (Value.string b) := hdx
          have HO : Hid (OnR wr g o v' m' F' xs) := hon
          have HFP : Hid _ := hF'
          have HKP : Hid _ := hkp
          have HOT : Hid _ := hoth
          have HFE : Hid _ := hfre
          clear hon hF' hkp hoth hfre hc hd hcx hdx hval
          subst hsp
          have HBR : Hid (Below wr.heap.size wr (wr.alloc (.cells #[.string a, .string b] 60))) := (Below.refl _ _).alloc (Nat.le_refl _) _
          go_wp2_with fail
          refine (putR_any _ g o v' m' F' xs (a, b) (HO.out.later HBR.out) hx HXO.out (by omega)).mono ?_
          rintro _ w2 ⟨rfl, v2, m2, F2, on2, sub2, keep2, oth2⟩
          have HO2 : Hid _ := on2
          have HSU : Hid (∀ b, F2 b → F' b ∨ wr.heap.size ≤ b) := fun b hb => (sub2 b hb).imp id (fun e => by simp at e; omega)
          have HK2 : Hid (Keeps (fun b => b = g ∨ F' b) wr w2) := (Below.keeps HBR.out _).trans keep2
          have HO3 : Hid (∀ j, j ≠ o → j ≠ o + 1 → w2.cell? ⟨g, j, none⟩ = wr.cell? ⟨g, j, none⟩ ∧ w2.frozen? ⟨g, j, none⟩ = wr.frozen? ⟨g, j, none⟩) := fun j h1 h2 => ⟨(oth2 j h1 h2).1.trans (cell_al wr _ (cell_lt HO.out.c0)), (oth2 j h1 h2).2.trans (frozen_al wr _ (cell_lt HO.out.c0))⟩
          clear on2 sub2 keep2 oth2
          go_wp2
          go_roundw
          case rel =>
            have hbe := HBE.out
            have hs1 := hbe.size
            have hk2 := HK2.out
            refine ⟨0 + 1, by omega, by go_num, v2, m2, F2, HO2.out, fun c hc => ?_, ?_, fun j h1 h2 => ⟨(HO3.out j h1 h2).1.trans (HOT.out j h1 h2).1, (HO3.out j h1 h2).2.trans (HOT.out j h1 h2).2⟩, fun c hc => ?_, ?_⟩
            · rcases HSU.out c hc with e | e
              · exact HFP.out c e
              · right; omega
            · have hkp := HKP.out
              refine ⟨hk2.os.trans hkp.os, hk2.tape.trans hkp.tape, hk2.output.trans hkp.output, Nat.le_trans hkp.size hk2.size, fun c hc hn => (hk2.block c (Nat.lt_of_lt_of_le hc hkp.size) (fun e => ?_)).trans (hkp.block c hc hn)⟩
              rcases e with e | e
              · exact hn (Or.inl e)
              · rcases HFP.out c e with e | e
                · exact hn (Or.inr e)
                · omega
            · have h1 := HFF.out c hc
              have h2 := HFR.out.lt c hc
              have h3 := cell_lt HH.out.c0
              refine (hk2.block c (by omega) (fun e => ?_)).trans (HFE.out c hc)
              rcases e with e | e
              · omega
              · rcases HFP.out c e with e | e
                · have := HH.out.lt c e; omega
                · omega
            · have := hk2.size; omega
          case measure => simp [intOf]; omega
        · have hke : k = fr.length := by omega
          subst hke
          have HO : Hid _ := hon
          have HFP : Hid _ := hF'
          have HKP : Hid _ := hkp
          have HOT : Hid _ := hoth
          clear hon hF' hkp hoth hfre
          go_wp2
          go_ret
          refine ⟨by rw [HFT.out.1]; rfl, ?_⟩
          rw [HFT.out.2]
          exact ⟨v', m', F', HO.out, fun c hc => (HFP.out c hc).imp id (fun e => Nat.le_trans HBE.out.size e), HKP.out, HOT.out⟩
end Go.Proofs.Ytoojfoeehdoeoaa
