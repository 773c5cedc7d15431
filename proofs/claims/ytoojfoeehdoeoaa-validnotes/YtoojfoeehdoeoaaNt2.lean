import Derived.Test.YtoojfoeehdoeoaaNt1
namespace Go.Proofs.Ytoojfoeehdoeoaa
open Go.ChangeShapes Go.WideShapes Go.ChangeAt Go.RowKit Go.Maps
set_option linter.unusedVariables false
set_option maxRecDepth 100000
/-- What of ys is neither in xs nor there yet. -/
def insF (xs fr : List Int) (y : Int) : List Int := if isIn xs y then fr else ins fr y
theorem isIn_iff (xs : List Int) (x : Int) : isIn xs x = true ↔ x ∈ xs := by simp [isIn]
theorem isIn_app (xs ys : List Int) (x : Int) : isIn (xs ++ ys) x = (isIn xs x || isIn ys x) := by
  rw [Bool.eq_iff_iff]; simp [isIn_iff]
theorem ins_app (xs fr : List Int) (y : Int) : ins (xs ++ fr) y = xs ++ insF xs fr y := by
  unfold insF ins
  rw [isIn_app]
  cases isIn xs y <;> cases isIn fr y <;> simp
theorem foldl_app (xs : List Int) : ∀ (ys fr : List Int), ys.foldl ins (xs ++ fr) = xs ++ ys.foldl (insF xs) fr
  | [], fr => rfl
  | y :: ys, fr => by simp only [List.foldl_cons]; rw [ins_app, foldl_app xs ys]
theorem ins_len (xs : List Int) (x : Int) : xs.length ≤ (ins xs x).length ∧ (ins xs x).length ≤ xs.length + 1 := by
  unfold ins; split <;> simp
theorem insF_len (xs fr : List Int) (y : Int) : fr.length ≤ (insF xs fr y).length := by
  unfold insF; split
  · exact Nat.le_refl _
  · exact (ins_len fr y).1
theorem foldF_len (xs : List Int) : ∀ (ys fr : List Int), fr.length ≤ (ys.foldl (insF xs) fr).length
  | [], fr => Nat.le_refl _
  | y :: ys, fr => Nat.le_trans (insF_len xs fr y) (foldF_len xs ys _)
def Ap (xs fr : List Int) : Prop := fr.Nodup ∧ ∀ y ∈ fr, y ∉ xs
theorem Ap.step {xs fr : List Int} (h : Ap xs fr) (y : Int) : Ap xs (insF xs fr y) := by
  unfold insF
  cases hx : isIn xs y
  · rw [if_neg (by simp)]
    unfold ins
    cases hf : isIn fr y
    · rw [if_neg (by simp)]
      have h1 : y ∉ fr := fun h => by rw [(isIn_iff fr y).2 h] at hf; cases hf
      have h2 : y ∉ xs := fun h => by rw [(isIn_iff xs y).2 h] at hx; cases hx
      refine ⟨?_, ?_⟩
      · rw [List.nodup_append]
        refine ⟨h.1, by simp, ?_⟩
        intro a ha b hb
        simp at hb
        subst hb
        exact fun e => h1 (e ▸ ha)
      · intro z hz
        rcases List.mem_append.1 hz with h3 | h3
        · exact h.2 z h3
        · simp at h3; subst h3; exact h2
    · rw [if_pos rfl]; exact h
  · rw [if_pos rfl]; exact h
theorem Ap.fold {xs : List Int} : ∀ (ys : List Int) {fr : List Int}, Ap xs fr → Ap xs (ys.foldl (insF xs) fr)
  | [], _, h => h
  | y :: ys, _, h => Ap.fold ys (h.step y)
theorem foldl_ap : ∀ (fr xs : List Int), Ap xs fr → fr.foldl ins xs = xs ++ fr
  | [], xs, _ => by simp
  | y :: fr, xs, h => by
    have hy : isIn xs y = false := by
      cases e : isIn xs y
      · rfl
      · exact absurd ((isIn_iff xs y).1 e) (h.2 y (by simp))
    simp only [List.foldl_cons]
    rw [ins_new hy, foldl_ap fr (xs ++ [y]) ⟨(List.nodup_cons.1 h.1).2, fun z hz hm => by
      rcases List.mem_append.1 hm with h1 | h1
      · exact h.2 z (by simp [hz]) h1
      · simp at h1; subst h1; exact (List.nodup_cons.1 h.1).1 hz⟩]
    simp
/-- The new ones of ys. -/
def frs (xs ys : List Int) : List Int := ys.foldl (insF xs) []
theorem frs_app (xs ys : List Int) : xs ++ frs xs ys = ys.foldl ins xs := by
  have := foldl_app xs ys []
  rw [List.append_nil] at this
  exact this.symm
theorem frs_put (xs ys : List Int) : (frs xs ys).foldl ins xs = ys.foldl ins xs := by
  have h : Ap xs (frs xs ys) := Ap.fold ys ⟨by simp, by simp⟩
  rw [foldl_ap _ _ h, frs_app]
theorem frs_take (xs ys : List Int) (k : Nat) (hk : k < ys.length) : frs xs (ys.take (k + 1)) = insF xs (frs xs (ys.take k)) ys[k] := by
  unfold frs
  rw [List.take_succ_eq_append_getElem hk, List.foldl_append]
  rfl
theorem frs_mono (xs ys : List Int) (k : Nat) : (frs xs (ys.take k)).length ≤ (frs xs ys).length := by
  have : frs xs ys = (ys.drop k).foldl (insF xs) (frs xs (ys.take k)) := by
    unfold frs
    rw [← List.foldl_append, List.take_append_drop]
  rw [this]
  exact foldF_len xs _ _
theorem insF_old {xs fr : List Int} {y : Int} (h : isIn xs y = true) : insF xs fr y = fr := by unfold insF; rw [if_pos h]
theorem insF_new {xs fr : List Int} {y : Int} (h : isIn xs y = false) : insF xs fr y = ins fr y := by unfold insF; rw [if_neg (by rw [h]; simp)]
theorem put_len (xs : List Int) : ∀ (ys : List Int), (ys.foldl ins xs).length ≤ xs.length + ys.length := by
  intro ys
  induction ys generalizing xs with
  | nil => simp
  | cons y ys ih =>
    have := ih (ins xs y)
    have := (ins_len xs y).2
    simp only [List.foldl_cons, List.length_cons]
    omega
theorem foldF_sub (xs : List Int) : ∀ (ys fr : List Int) (P : Int → Prop), (∀ y ∈ ys, P y) → (∀ y ∈ fr, P y) → ∀ y ∈ ys.foldl (insF xs) fr, P y
  | [], fr, P, _, h => h
  | y :: ys, fr, P, h1, h2 => foldF_sub xs ys _ P (fun z hz => h1 z (by simp [hz])) (fun z hz => by
    unfold insF ins at hz
    split at hz
    · exact h2 z hz
    · split at hz
      · exact h2 z hz
      · rcases List.mem_append.1 hz with h3 | h3
        · exact h2 z h3
        · simp at h3; subst h3; exact h1 z (by simp))
theorem fold_take (xs fr : List Int) (k : Nat) (hk : k < fr.length) : (fr.take (k + 1)).foldl ins xs = ins ((fr.take k).foldl ins xs) fr[k] := by
  rw [List.take_succ_eq_append_getElem hk, List.foldl_append]
  rfl
/-- The numbers ys lie at ao, in blocks below B. -/
def SeesN (w : World) (B : Nat) (ao : Option Addr) (ys : List Int) : Prop := ∀ i (hi : i < ys.length), ∃ b off, ao = some ⟨b, off, none⟩ ∧ b < B ∧ w.cell? ⟨b, off + i, none⟩ = some (.int .i64 ys[i])
theorem On.form {w : World} {g o : Nat} {v : Value} {m : Option Nat} {F : Nat → Prop} {xs : List Int} (h : OnI w g o v m F xs) : ∃ sp cap, v = .slice sp xs.length cap ∧ ∀ i (hi : i < xs.length), ∃ b, sp = some ⟨b, 0, none⟩ ∧ F b ∧ w.cell? ⟨b, i, none⟩ = some (.int .i64 xs[i]) := by
  rcases h.row.2 with ⟨rfl, hn⟩ | ⟨b, cap, cur, rfl, h1, h2, h3⟩
  · exact ⟨none, 0, by rw [hn], fun i hi => by omega⟩
  · refine ⟨some ⟨b, 0, none⟩, cap, rfl, fun i hi => ⟨b, rfl, h.inF b rfl, ?_⟩⟩
    have := World.ownsRow.cellAt (g := b) (cap := cap) h.row i (by omega)
    rw [this]
    simp [cellsI, List.getElem?_eq_getElem hi]
theorem on_new (w : World) : OnI (w.alloc (.cells #[.slice none 0 0, .map none] 35)) w.heap.size 0 (.slice none 0 0) none (fun _ => False) [] where
  c0 := by simp
  c1 := by simp
  f0 := by simp
  f1 := by simp
  row := World.ownsRow_nil _ _ _ _
  inF := fun b hb => by cases hb
  map := Or.inl ⟨rfl, rfl⟩
  off := fun h => h
  lt := fun b h => h.elim
def addL (xs ys : List Int) : List Int := if (ys.foldl ins xs).length ≤ 64 then ys.foldl ins xs else xs
def addE (xs ys : List Int) : Int := if (ys.foldl ins xs).length ≤ 64 then 0 else 4
theorem add_long {xs ys : List Int} {k : Nat} (h : 64 < xs.length + (frs xs (ys.take k)).length) : addE xs ys = 4 ∧ addL xs ys = xs := by
  have h1 := frs_mono xs ys k
  have h2 : (ys.foldl ins xs).length = xs.length + (frs xs ys).length := by rw [← frs_app]; simp
  have h3 : ¬ (ys.foldl ins xs).length ≤ 64 := by omega
  exact ⟨by unfold addE; rw [if_neg h3], by unfold addL; rw [if_neg h3]⟩
theorem add_fits {xs ys : List Int} (h : xs.length + (frs xs ys).length ≤ 64) : addE xs ys = 0 ∧ addL xs ys = (frs xs ys).foldl ins xs := by
  have h2 : (ys.foldl ins xs).length = xs.length + (frs xs ys).length := by rw [← frs_app]; simp
  have h3 : (ys.foldl ins xs).length ≤ 64 := by omega
  exact ⟨by unfold addE; rw [if_pos h3], by unfold addL; rw [if_pos h3, frs_put]⟩
set_option maxHeartbeats 3200000 in
theorem addI_any (w : World) (g o : Nat) (v : Value) (m : Option Nat) (F : Nat → Prop) (xs : List Int) (ao : Option Addr) (cap : Nat) (ys : List Int) (h : OnI w g o v m F xs) (hl : xs.length ≤ 64) (hs : SeesN w w.heap.size ao ys) (hy : ys.length ≤ 140737488355328) (hw : ∀ y ∈ ys, (Lit.int .i64 y).wf = true) :
    Calls Try.prog 19 #[.pointer (some ⟨g, o, none⟩), .slice ao ys.length cap] w fun e w' => e = .returned (.int .i64 (addE xs ys)) ∧ PutI w g o F (addL xs ys) w' := by
  obtain ⟨vs, vc, rfl, hvc⟩ := h.form
  have HH : Hid (OnI w g o _ m F xs) := h
  have HV : Hid _ := hvc
  have HS : Hid _ := hs
  have HW : Hid _ := hw
  clear h hvc hs hw
  go_enter Try.func19, Try.ntmps19
  go_wp2
  go_loopw [12] (fun i wr => ∃ k : Nat, k ≤ ys.length ∧ i = .int .i64 k ∧ ∃ vf mf Ff, OnI wr w.heap.size 0 vf mf Ff (frs xs (ys.take k)) ∧ (∀ b, Ff b → w.heap.size < b) ∧ Below w.heap.size w wr ∧ xs.length + (frs xs (ys.take k)).length ≤ 64)
    (fun i _ => ys.length - (intOf i).toNat)
  case atStart => exact ⟨0, Nat.zero_le _, rfl, _, _, _, on_new w, (fun b h => h.elim), (Below.refl _ _).alloc (Nat.le_refl _) _, by simp [frs]; omega⟩
  case round =>
    obtain ⟨k, hk, rfl, vf, mf, Ff, hfr, hFf, hbel, hle⟩ := hrel
    have hset := HH.out.later hbel
    by_cases hkl : k < ys.length
    · obtain ⟨b, off, hao, hb, hc⟩ := HS.out k hkl
      have hcx := (hbel.cell (p := ⟨b, off + k, none⟩) hb).trans hc
      have hwy := HW.out _ (List.getElem_mem hkl)
      have hstep := frs_take xs ys k hkl
      have HST : Hid _ := hstep
      generalize ys[k] = y at hcx hwy HST
      clear hstep hc
      have HFR : Hid _ := hfr
      have HFF : Hid _ := hFf
      have HBE : Hid _ := hbel
      have HSE : Hid _ := hset
      have HLE : Hid _ := hle
      clear hfr hFf hbel hset hle
      generalize hfrk : frs xs (ys.take k) = fr at HFR HST HLE
      clear hfrk
      subst hao
      go_wp2_with fail
      refine (hasI_any wr g o _ m F xs y HSE.out hwy).mono ?_
      rintro _ w1 ⟨rfl, hb1⟩
      have HB1 : Hid _ := hb1
      clear hb1
      cases hin : isIn xs y
      · have HIN : Hid _ := hin
        clear hin
        go_wp2_with fail
        refine (putI_any w1 w.heap.size 0 vf mf Ff fr y (HFR.out.later HB1.out) hwy (by have := HLE.out; omega)).mono ?_
        rintro _ w2 ⟨rfl, v2, m2, F2, on2, sub2, keep2, oth2⟩
        have hb1 := HB1.out
        have hbe := HBE.out
        have hgl := cell_lt HH.out.c0
        have HON : Hid (OnI w2 w.heap.size 0 v2 m2 F2 (ins fr y)) := on2
        have HS2 : Hid (OnI w2 g o (.slice vs xs.length vc) m F xs) := (HSE.out.later hb1).keeps keep2 (fun e => by
          rcases e with e | e
          · omega
          · have := HFF.out g e; omega) (fun b hF e => by
          have h1 := HH.out.lt b hF
          rcases e with e | e
          · omega
          · have := HFF.out b e; omega)
        have HF2 : Hid (∀ b, F2 b → w.heap.size < b) := fun b hb => by
          rcases sub2 b hb with e | e
          · exact HFF.out b e
          · have := hb1.size; have := cell_lt HFR.out.c0; omega
        have HB2 : Hid (Below w.heap.size w w2) := (hbe.trans (hb1.mono hbe.size)).trans (keep2.below (Nat.le_trans hbe.size hb1.size) (fun b hb e => by
          rcases e with e | e
          · omega
          · have := HFF.out b e; omega))
        have HNL : Hid (fr.length ≤ (ins fr y).length ∧ (ins fr y).length ≤ fr.length + 1) := ins_len fr y
        rw [insF_new HIN.out] at HST
        generalize ins fr y = frn at HON HNL HST
        clear on2 sub2 keep2 oth2 hb1 hbe HB1 HFR HSE HBE HFF hcx HS HIN HW
        have hN : fr.length ≤ frn.length ∧ frn.length ≤ fr.length + 1 := HNL.out
        have hle := HLE.out
        obtain ⟨sp2, cp2, rfl, _⟩ := HON.out.form
        have c0 := HS2.out.c0
        have d0 := HON.out.c0
        generalize hn2 : frn.length = n2 at d0 hN
        generalize hn1 : xs.length = n1 at c0 hl hle
        have HN1 : Hid _ := hn1
        have HN2 : Hid _ := hn2
        clear hn1 hn2
        go_wp2
        go_region
        go_wp2
        · go_ret
          have hb2 := HB2.out
          have hlt : 64 < n1 + n2 := by omega
          have hh := add_long (xs := xs) (ys := ys) (k := k + 1) (by rw [HST.out, HN1.out, HN2.out]; exact hlt)
          refine ⟨by rw [hh.1]; rfl, ?_⟩
          rw [hh.2]
          exact Put.same HH.out hb2.drew
        · go_roundw
          case rel => exact ⟨k + 1, by omega, by go_num, _, _, _, by rw [HST.out]; exact HON.out.drew, HF2.out, HB2.out.drew, by rw [HST.out, HN1.out, HN2.out]; omega⟩
          case measure => simp [intOf]; omega
      · have hb1 := HB1.out
        have hbe := HBE.out
        have HON : Hid (OnI w1 w.heap.size 0 vf mf Ff fr) := HFR.out.later hb1
        have HS2 : Hid (OnI w1 g o (.slice vs xs.length vc) m F xs) := HSE.out.later hb1
        have HB2 : Hid (Below w.heap.size w w1) := hbe.trans (hb1.mono hbe.size)
        have HNL : Hid (fr.length ≤ fr.length ∧ fr.length ≤ fr.length + 1) := ⟨Nat.le_refl _, Nat.le_succ _⟩
        rw [insF_old hin] at HST
        have HF2 := HFF
        clear hb1 hbe HB1 HFR HSE HBE HFF hcx HS hin HW
        have hN : fr.length ≤ fr.length ∧ fr.length ≤ fr.length + 1 := HNL.out
        have hle := HLE.out
        obtain ⟨sp2, cp2, rfl, _⟩ := HON.out.form
        have c0 := HS2.out.c0
        have d0 := HON.out.c0
        generalize hn2 : fr.length = n2 at d0 hN hle
        generalize hn1 : xs.length = n1 at c0 hl hle
        have HN1 : Hid _ := hn1
        have HN2 : Hid _ := hn2
        clear hn1 hn2
        go_wp2
        go_region
        go_wp2
        go_roundw
        case rel => exact ⟨k + 1, by omega, by go_num, _, _, _, by rw [HST.out]; exact HON.out.drew, HF2.out, HB2.out.drew, by rw [HST.out, HN1.out, HN2.out]; omega⟩
        case measure => simp [intOf]; omega
    · have hke : k = ys.length := by omega
      subst hke
      rw [List.take_length] at hfr hle
      have hfit := add_fits hle
      have HFT : Hid _ := hfit
      obtain ⟨sp2, cp2, rfl, hcells⟩ := hfr.form
      have HFR : Hid _ := hfr
      have HFF : Hid _ := hFf
      have HBE : Hid _ := hbel
      have HSE : Hid _ := hset
      have HCE : Hid _ := hcells
      have d0 := hfr.c0
      clear hfr hFf hbel hset hcells hfit hk hkl
      have HWF : Hid (∀ y ∈ frs xs ys, (Lit.int .i64 y).wf = true) := foldF_sub xs ys [] _ HW.out (by simp)
      clear HW HS
      generalize frs xs ys = fr at *
      obtain ⟨w0, hw0⟩ : ∃ w0, w0 = wr := ⟨_, rfl⟩
      subst hw0
      go_wp2
      go_loopw [36] (fun i wq => ∃ k : Nat, k ≤ fr.length ∧ i = .int .i64 k ∧ ∃ v' m' F', OnI wq g o v' m' F' ((fr.take k).foldl ins xs) ∧ (∀ b, F' b → F b ∨ w0.heap.size ≤ b) ∧ Keeps (fun b => b = g ∨ F b) w wq ∧ (∀ j, j ≠ o → j ≠ o + 1 → wq.cell? ⟨g, j, none⟩ = w.cell? ⟨g, j, none⟩ ∧ wq.frozen? ⟨g, j, none⟩ = w.frozen? ⟨g, j, none⟩) ∧ (∀ b, Ff b → wq.heap[b]? = w0.heap[b]?) ∧ w0.heap.size ≤ wq.heap.size)
        (fun i _ => fr.length - (intOf i).toNat)
      case atStart =>
        have hbe := HBE.out
        exact ⟨0, Nat.zero_le _, rfl, _, _, _, HSE.out, fun b hb => Or.inl hb, Below.keeps hbe _, fun j _ _ => ⟨hbe.cell (cell_lt HH.out.c0), World.frozen?_of_block (w := w) (hbe.block g (cell_lt HH.out.c0))⟩, fun _ _ => rfl, Nat.le_refl _⟩
      case round =>
        obtain ⟨k, hk, rfl, v', m', F', hon, hF', hkp, hoth, hfre, hsz⟩ := hrel
        by_cases hkl : k < fr.length
        · obtain ⟨b, hsp, hFb, hc⟩ := HCE.out k hkl
          have hcx := (World.cell?_of_block (a := ⟨b, k, none⟩) (hfre b hFb)).trans hc
          have hwy := HWF.out _ (List.getElem_mem hkl)
          have HST : Hid _ := fold_take xs fr k hkl
          have HLN : Hid _ := put_len xs (fr.take k)
          generalize fr[k] = y at hcx hwy HST
          have HO : Hid _ := hon
          have HFP : Hid _ := hF'
          have HKP : Hid _ := hkp
          have HOT : Hid _ := hoth
          have HFE : Hid _ := hfre
          clear hon hF' hkp hoth hfre hc
          subst hsp
          go_wp2_with fail
          refine (putI_any _ g o v' m' F' _ y HO.out hwy (by have := HLN.out; simp only [List.length_take] at this; omega)).mono ?_
          rintro _ w2 ⟨rfl, v2, m2, F2, on2, sub2, keep2, oth2⟩
          have HO2 : Hid _ := on2
          have HSU : Hid _ := sub2
          have HK2 : Hid _ := keep2
          have HO3 : Hid _ := oth2
          clear on2 sub2 keep2 oth2
          go_wp2
          go_roundw
          case rel =>
            have hbe := HBE.out
            have hs1 := hbe.size
            have hk2 := HK2.out
            refine ⟨k + 1, by omega, by go_num, v2, m2, F2, by rw [HST.out]; exact HO2.out, fun c hc => ?_, ?_, fun j h1 h2 => ⟨(HO3.out j h1 h2).1.trans (HOT.out j h1 h2).1, (HO3.out j h1 h2).2.trans (HOT.out j h1 h2).2⟩, fun c hc => ?_, ?_⟩
            · rcases HSU.out c hc with e | e
              · exact HFP.out c e
              · right; omega
            · have hkp := HKP.out
              refine ⟨hk2.os.trans hkp.os, hk2.tape.trans hkp.tape, hk2.output.trans hkp.output, Nat.le_trans hkp.size hk2.size, fun c hc hn => (hk2.block c (Nat.lt_of_lt_of_le hc hkp.size) (fun e => ?_)).trans (hkp.block c hc hn)⟩
              rcases e with e | e
              · exact hn (Or.inl e)
              · rcases HFP.out c e with e | e
                · exact hn (Or.inr e)
                · omega
            · have h1 := HFF.out c hc
              have h2 := HFR.out.lt c hc
              have h3 := cell_lt HH.out.c0
              refine (hk2.block c (by omega) (fun e => ?_)).trans (HFE.out c hc)
              rcases e with e | e
              · omega
              · rcases HFP.out c e with e | e
                · have := HH.out.lt c e; omega
                · omega
            · have := hk2.size; omega
          case measure => simp [intOf]; omega
        · have hke : k = fr.length := by omega
          subst hke
          have HO : Hid _ := hon
          have HFP : Hid _ := hF'
          have HKP : Hid _ := hkp
          have HOT : Hid _ := hoth
          clear hon hF' hkp hoth hfre
          go_wp2
          go_ret
          refine ⟨by rw [HFT.out.1]; rfl, ?_⟩
          rw [HFT.out.2]
          have ho := HO.out
          rw [List.take_length] at ho
          exact ⟨v', m', F', ho, fun c hc => (HFP.out c hc).imp id (fun e => Nat.le_trans HBE.out.size e), HKP.out, HOT.out⟩
end Go.Proofs.Ytoojfoeehdoeoaa
