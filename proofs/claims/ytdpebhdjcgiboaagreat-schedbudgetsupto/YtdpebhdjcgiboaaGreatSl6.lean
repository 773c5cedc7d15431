import Derived.Test.YtdpebhdjcgiboaaGreatSl4
namespace Go.Proofs.YtdpebhdjcgiboaaGreat
set_option linter.unusedSimpArgs false
open Go.ChangeShapes Go.WideShapes Go.ChangeAt Go.RowKit Go.MuLone Go.RwLone
set_option linter.unusedVariables false
set_option maxRecDepth 100000
set_option maxHeartbeats 3200000
/-- The bench's thread of that number. -/
def thO (B : Bd) (x : Int) : Option Addr := if 0 ≤ x ∧ x < (B.n : Int) then some ⟨B.T x.toNat, 0, none⟩ else none
theorem bthread (w : World) (B : Bd) (bb hb : Nat) (tv : Value) (hbe : w.heap[bb]? = some (.cells (beA B.L tv hb) 146)) (ot : OwT w 0 tv ((List.range B.n).map B.T)) (x : Int) :
    Calls Tryz.prog 39 #[.pointer (some ⟨bb, 0, none⟩), .int .i64 x] w fun e w' => e = .returned (.pointer (thO B x)) ∧ w' = w := by
  obtain ⟨ta, tc, htv⟩ := ot.form
  rw [List.length_map, List.length_range] at htv
  have c2 : w.cell? ⟨bb, 2, none⟩ = some (.slice ta B.n tc) := by
    have := (cell?_heap hbe 2).trans rfl
    rw [← htv]
    exact this
  by_cases hx : 0 ≤ x ∧ x < (B.n : Int)
  · obtain ⟨i, rfl⟩ : ∃ i : Nat, x = (i : Int) := ⟨x.toNat, by omega⟩
    have hi : i < B.n := by omega
    have hto : thO B (i : Int) = some ⟨B.T i, 0, none⟩ := by unfold thO; rw [if_pos hx, Int.toNat_natCast]
    rw [hto]
    obtain ⟨gt, ct, e, -, -⟩ := owG_some ot (by intro e; have := congrArg List.length e; simp at this; omega)
    rw [List.length_map, List.length_range] at e
    rw [htv] at e ot
    injection e with e1 e2 e3
    subst e1 e3
    have cT : w.cell? ⟨gt, i, none⟩ = some (.pointer (some ⟨B.T i, 0, none⟩)) := by
      have ot' : OwG thC 31 1 w 0 (.slice (some ⟨gt, 0, none⟩) ((List.range B.n).map B.T).length tc) ((List.range B.n).map B.T) := by rw [List.length_map, List.length_range]; exact ot
      rw [World.ownsRow.cellAt ot' i (by simpa using hi)]
      have := flat_get thC 1 (fun _ => rfl) ((List.range B.n).map B.T) i (by simpa using hi) 0 (by decide)
      rw [Nat.mul_one, Nat.add_zero] at this
      rw [this]
      simp [thC]
    have i0 : (0 : Int) ≤ (i : Int) := Int.natCast_nonneg _
    have i1 : (i : Int) < (B.n : Int) := by omega
    have i2 : ¬ (i : Int) < 0 := by omega
    have i3 : ¬ (i : Int) ≥ (B.n : Int) := by omega
    clear ot hbe hx htv e2 hto
    generalize B.n = n at *
    go_enter Tryz.func39, Tryz.ntmps39
    go_wp2
    go_ret
    exact ⟨rfl, rfl⟩
  · have hto : thO B x = none := by unfold thO; rw [if_neg hx]
    rw [hto]
    clear ot hbe htv hto
    generalize B.n = n at *
    by_cases h0 : x < 0
    · go_enter Tryz.func39, Tryz.ntmps39
      go_wp2
      go_ret
      exact ⟨rfl, rfl⟩
    · have h1 : x ≥ (n : Int) := by omega
      go_enter Tryz.func39, Tryz.ntmps39
      go_wp2
      go_ret
      exact ⟨rfl, rfl⟩
theorem eqNilW (w : World) (a : Option Addr) (n c n' c' : Nat) : (binOp .eql 46 (.slice a n c) (.slice none n' c')).run Tryz.prog w = .ok (.bool a.isNone) w := Lib.run_eql_slice_nil w _ _ a n c n' c' Tryz.underlying46
/-- A list of words copied. -/
theorem cloneW (w : World) (C : Nat) (ad : Addr) (cap : Nat) (xs : List Int) (h : InG wdC w C (.slice (some ad) xs.length cap) xs) (hC : C ≤ w.heap.size) (hl : xs.length ≤ 1000) :
    Calls Tryz.prog 118 #[.slice (some ad) xs.length cap] w fun e w' => ∃ v, e = .returned v ∧ OwW w' w.heap.size v xs ∧ Keeps (fun _ => False) w w' := by
  have q := eqNilW
  have HI : Hid (InG wdC (w.alloc (.cells #[] 55)) C (.slice (some ad) xs.length cap) xs) := h.later ((Below.refl _ _).alloc hC _)
  have HO : Hid (OwG wdC 55 1 (w.alloc (.cells #[] 55)) w.heap.size (.slice (some ⟨w.heap.size, 0, none⟩) 0 0) []) := OwG.made _ _ _ _ _ (Nat.le_refl _)
  clear h
  go_enter Tryz.func118, Tryz.ntmps118
  go_wp2_with (at_builtin; refine app_more (by rfl) _ _ 46 55 (by rfl) Tryz.underlying46 infoU64 rfl (by decide) (fun _ => rfl) w.heap.size _ [] HO.out (by rfl) _ _ xs (by rfl) HI.out (fun y _ => wdC_one y) (by unfold maxLen; simp; omega) (by simp; omega) (by simp) ?_; intro v' w1 ho hb hk; rw [List.nil_append] at ho; obtain ⟨va, vc, rfl⟩ := ho.form; have HX : Hid (OwW w1 w.heap.size (.slice va xs.length vc) xs ∧ Below w.heap.size w w1) := ⟨ho, ((Below.refl _ _).alloc (Nat.le_refl _) _).trans hb⟩; clear ho hb hk)
  go_ret
  exact ⟨_, rfl, HX.out.1, Below.keeps HX.out.2 _⟩
/-- A thread's registers. -/
theorem tregs (w : World) (T : Nat) (L : Lay) (ia : Option Addr) (m cap : Nat) (rg : Nat → Int) (pl : Nat) (h : Tg w T L ia m cap rg pl) :
    Calls Tryz.prog 78 #[.pointer (some ⟨T, 0, none⟩)] w fun e w' => ∃ v, e = .returned v ∧ OwW w' w.heap.size v [rg 0, rg 1, rg 2, rg 3] ∧ Keeps (fun _ => False) w w' := by
  have HC : Hid (∀ _ : Unit, _) := fun _ => cloneW w w.heap.size ⟨T, 3, none⟩ 4 [rg 0, rg 1, rg 2, rg 3] (regs_in h) (Nat.le_refl _) (by simp)
  clear h
  go_enter Tryz.func78, Tryz.ntmps78
  go_wp2_with fail
  refine (HC.out ()).mono ?_
  rintro e w1 ⟨v, rfl, ho, k⟩
  have HX : Hid (OwW w1 w.heap.size v [rg 0, rg 1, rg 2, rg 3] ∧ Keeps (fun _ => False) w w1) := ⟨ho, k⟩
  clear ho k
  go_wp2
  go_ret
  exact ⟨_, rfl, HX.out⟩
end Go.Proofs.YtdpebhdjcgiboaaGreat

namespace Go.Proofs.YtdpebhdjcgiboaaGreat
set_option linter.unusedSimpArgs false
open Go.ChangeShapes Go.WideShapes Go.ChangeAt Go.RowKit Go.MuLone Go.RwLone
set_option linter.unusedVariables false
set_option maxRecDepth 100000
set_option maxHeartbeats 3200000
def inZ (x : Int) : List Value := [.int .i64 x]
/-- Those of the numbers that are threads. -/
def mfil (n : Nat) (ks : List Int) : List Nat := ks.filterMap (fun x => if 0 ≤ x ∧ x < (n : Int) then some x.toNat else none)
theorem mfil_yes {n : Nat} {ks : List Int} {t : Nat} (ht : t < ks.length) {i : Nat} (hx : ks[t] = (i : Int)) (hi : i < n) : mfil n (ks.take (t + 1)) = mfil n (ks.take t) ++ [i] := by
  unfold mfil
  rw [List.take_succ_eq_append_getElem ht, List.filterMap_append, hx]
  simp [hi]
theorem mfil_no {n : Nat} {ks : List Int} {t : Nat} (ht : t < ks.length) (hx : ¬ (0 ≤ ks[t] ∧ ks[t] < (n : Int))) : mfil n (ks.take (t + 1)) = mfil n (ks.take t) := by
  unfold mfil
  rw [List.take_succ_eq_append_getElem ht, List.filterMap_append]
  simp [hx]
theorem mfil_len (n : Nat) (ks : List Int) : (mfil n ks).length ≤ ks.length := List.length_filterMap_le _ _
theorem mfil_lt {n : Nat} {ks : List Int} : ∀ m ∈ mfil n ks, m < n := by
  intro m hm
  unfold mfil at hm
  obtain ⟨x, _, hx⟩ := List.mem_filterMap.1 hm
  split at hx
  · rename_i h
    have := Option.some.inj hx
    omega
  · cases hx
theorem inR_one (x : Nat) : ∀ u ∈ inR x, u.oneCell' = true := by
  intro u hu
  simp [inR] at hu
  subst hu
  rfl
theorem thC_one (x : Nat) : ∀ u ∈ thC x, u.oneCell' = true := by
  intro u hu
  simp [thC] at hu
  subst hu
  rfl
theorem keeps_below {w a b : World} (k : Keeps (fun _ => False) w a) (h : Below w.heap.size a b) : Keeps (fun _ => False) w b := ⟨h.os.trans k.os, h.tape.trans k.tape, h.output.trans k.output, Nat.le_trans k.size h.size, fun x hx _ => (h.block x hx).trans (k.block x hx (fun e => e))⟩
/-- The side's block. -/
abbrev sdC (hb bb rb pb : Nat) : Array Value := #[.pointer (some ⟨hb, 0, none⟩), .pointer (some ⟨bb, 0, none⟩), .pointer (some ⟨rb, 0, none⟩), .pointer (some ⟨pb, 0, none⟩)]
/-- threads: the numbers that are threads, and the threads. -/
theorem threads_any (w : World) (sd hb bb rb : Nat) (R : Rd) (hsd : w.heap[sd]? = some (.cells (sdC hb bb rb R.bk) 90)) (s : Ls) (hR : RP R w s) (B : Bd) (b1 : Nat) (tv : Value) (hbe : w.heap[bb]? = some (.cells (beA B.L tv b1) 146)) (ot : OwT w 0 tv ((List.range B.n).map B.T)) (hn : B.n = R.n) (C : Nat) (ka : Option Addr) (kc : Nat) (ks : List Int) (hk : InG inZ w C (.slice ka ks.length kc) ks) (hC : C ≤ w.heap.size) (hl : ks.length ≤ 1048576) :
    Calls Tryz.prog 63 #[.pointer (some ⟨sd, 0, none⟩), .slice ka ks.length kc] w fun e w' => ∃ v1 v2, e = .returned (.tuple #[v1, v2, .bool true]) ∧ OwI w' w.heap.size v1 (mfil R.n ks) ∧ OwT w' w.heap.size v2 ((mfil R.n ks).map B.T) ∧ Keeps (fun _ => False) w w' := by
  have HF : Hid (∀ W, Keeps (fun _ => False) w W → W.cell? ⟨sd, 1, none⟩ = some (.pointer (some ⟨bb, 0, none⟩)) ∧ W.cell? ⟨sd, 3, none⟩ = some (.pointer (some ⟨R.bk, 0, none⟩)) ∧ W.cell? ⟨R.bk, 1, none⟩ = some (.slice (some ⟨R.tb, 0, none⟩) R.n R.tc) ∧ InG inZ W C (.slice ka ks.length kc) ks) := fun W k => by
    have e : W.heap[sd]? = some (.cells (sdC hb bb rb R.bk) 90) := (k.block _ (Array.getElem?_eq_some_iff.1 hsd).1 (fun e => e)).trans hsd
    exact ⟨(cell?_heap e 1).trans rfl, (cell?_heap e 3).trans rfl, (hR.still k).p1, hk.later (k.below hC (fun _ _ e => e))⟩
  have HT : Hid (∀ W, Keeps (fun _ => False) w W → ∀ x, Calls Tryz.prog 39 #[.pointer (some ⟨bb, 0, none⟩), .int .i64 x] W fun e w' => e = .returned (.pointer (thO B x)) ∧ w' = W) := fun W k x => bthread W B bb b1 tv ((k.block _ (Array.getElem?_eq_some_iff.1 hbe).1 (fun e => e)).trans hbe) (owK ot k (fun _ _ e => e)) x
  have HN : Hid (B.n = R.n) := hn
  clear hsd hR hbe ot hk hn
  generalize R.n = n at *
  go_enter Tryz.func63, Tryz.ntmps63
  go_wp2_with fail
  go_loopw [9, 7, 8] (fun c9 c7 c8 wr => ∃ t : Nat, c9 = .int .i64 t ∧ t ≤ ks.length ∧ OwI wr w.heap.size c7 (mfil n (ks.take t)) ∧ OwT wr w.heap.size c8 ((mfil n (ks.take t)).map B.T) ∧ Keeps (fun _ => False) w wr) (fun c9 _ _ _ => ks.length - (intOf c9).toNat)
  case atStart => exact ⟨0, rfl, by omega, OwG.nil _ _ _ _ _, OwG.nil _ _ _ _ _, Keeps.refl _ _⟩
  case round =>
    obtain ⟨t, rfl, ht, ho1, ho2, hkk⟩ := hrel
    obtain ⟨na, nc, hna⟩ := ho1.form
    obtain ⟨ma, mc, hma⟩ := ho2.form
    rw [List.length_map] at hma
    subst hna hma
    have HQ : Hid (OwI wr w.heap.size (.slice na (mfil n (ks.take t)).length nc) (mfil n (ks.take t)) ∧ OwT wr w.heap.size (.slice ma (mfil n (ks.take t)).length mc) ((mfil n (ks.take t)).map B.T) ∧ Keeps (fun _ => False) w wr) := ⟨ho1, ho2, hkk⟩
    have hml : (mfil n (ks.take t)).length ≤ 1048576 := by have := mfil_len n (ks.take t); rw [List.length_take] at this; omega
    by_cases h5 : t < ks.length
    · have t0 : (0 : Int) ≤ (t : Int) := Int.natCast_nonneg _
      have t1 : (t : Int) < (ks.length : Int) := by omega
      have HD : Hid (Keeps (fun _ => False) w wr.drew) := hkk.drew
      obtain ⟨f1, f3, f2, f4⟩ := HF.out wr.drew HD.out
      obtain ⟨kb, ko, rfl, -, hck⟩ := InG.cell (cs := inZ) (n := 1) (fun _ => rfl) f4 t h5 (by decide)
      have ck : wr.drew.cell? ⟨kb, ko + t, none⟩ = some (.int .i64 ks[t]) := by
        have := hck 0 (by decide)
        rw [Nat.mul_one, Nat.add_zero] at this
        exact this
      obtain ⟨x, hx⟩ : ∃ x, ks[t] = x := ⟨_, rfl⟩
      have HX : Hid (ks[t] = x) := hx
      rw [hx] at ck
      clear ho1 ho2 hkk hck f4 hx
      by_cases hx0 : x ≥ 0
      · by_cases hxn : x < (n : Int)
        · obtain ⟨i, rfl⟩ : ∃ i : Nat, x = (i : Int) := ⟨x.toNat, by omega⟩
          have HY : Hid (mfil n (ks.take (t + 1)) = mfil n (ks.take t) ++ [i]) := mfil_yes h5 HX.out (by omega)
          have hth : thO B (i : Int) = some ⟨B.T i, 0, none⟩ := by unfold thO; rw [HN.out, if_pos ⟨by omega, hxn⟩, Int.toNat_natCast]
          have HTH : Hid (thO B (i : Int) = some ⟨B.T i, 0, none⟩) := hth
          have ck2 : wr.cell? ⟨kb, ko + t, none⟩ = some (.int .i64 (i : Int)) := ck
          clear hth
          generalize mfil n (ks.take t) = ms at *
          go_wp2_with fail
          (refine wp_region_held_drew (S := (fun W => W.cell? ⟨kb, ko + t, none⟩ = some (.int .i64 (i : Int)) ∧ W.cell? ⟨sd, 3, none⟩ = some (.pointer (some ⟨R.bk, 0, none⟩)) ∧ W.cell? ⟨R.bk, 1, none⟩ = some (.slice (some ⟨R.tb, 0, none⟩) n R.tc))) (by kernel_rfl) ⟨ck, f3, f2⟩ (fun hHeld => ?_); simp only [List.size_toArray, List.length_cons, List.length_nil, Nat.reduceAdd, Array.replicate_succ, Array.replicate_zero, List.push_toArray, List.append_toArray, List.nil_append, List.cons_append])
          refine rgT 0 (h := ?_)
          refine rgT 1 (h := ?_)
          refine rgT 2 (h := ?_)
          refine rgT 3 (h := ?_)
          refine rgT 4 (h := ?_)
          refine rgT 5 (h := ?_)
          refine rgT 6 (h := ?_)
          refine rgT 7 (h := ?_)
          refine rgT 8 (h := ?_)
          refine rgT 9 (h := ?_)
          refine rgT 10 (h := ?_)
          refine rgT 11 (h := ?_)
          refine rgT 12 (h := ?_)
          refine rgT 13 (h := ?_)
          refine rgT 14 (h := ?_)
          refine rgT 15 (h := ?_)
          refine rgT 16 (h := ?_)
          refine rgT 17 (h := ?_)
          refine rgT 18 (h := ?_)
          refine rgT 19 (h := ?_)
          refine rgT 20 (h := ?_)
          refine wpAnyH_done (by kernel_rfl) ?_ _
          go_wp2_with fail
          (refine wp_region_held_drew (S := (fun W => W.cell? ⟨sd, 1, none⟩ = some (.pointer (some ⟨bb, 0, none⟩)) ∧ W.cell? ⟨kb, ko + t, none⟩ = some (.int .i64 (i : Int)))) (by kernel_rfl) ⟨f1, ck⟩ (fun hHeld => ?_); simp only [List.size_toArray, List.length_cons, List.length_nil, Nat.reduceAdd, Array.replicate_succ, Array.replicate_zero, List.push_toArray, List.append_toArray, List.nil_append, List.cons_append])
          refine rgT 0 (h := ?_)
          refine rgT 1 (h := ?_)
          refine rgT 2 (h := ?_)
          refine rgT 3 (h := ?_)
          refine rgT 4 (h := ?_)
          refine rgT 5 (h := ?_)
          refine rgT 6 (h := ?_)
          refine rgT 7 (h := ?_)
          (refine rgS 8 (h := fun K hK => ?_); go_simp)
          refine (HT.out _ HD.out.drew (i : Int)).mono ?_
          rintro e w2 ⟨rfl, rfl⟩
          rw [HTH.out]
          (refine hK.out _ _ ⟨f1, ck⟩ (fun hHeld => ?_); clear hK K; try simp only [Act.put, List.setIfInBounds_toArray, List.set_cons_zero, List.set_cons_succ])
          refine rgT 9 (h := ?_)
          refine wpAnyH_done (by kernel_rfl) ?_ _
          have HQ2 : Hid (OwI wr.drew.drew w.heap.size (.slice na ms.length nc) ms ∧ OwT wr.drew.drew w.heap.size (.slice ma ms.length mc) (ms.map B.T) ∧ Keeps (fun _ => False) w wr.drew.drew) := ⟨owK HQ.out.1 (Keeps.refl (fun _ => False) _).drew.drew (fun _ _ e => e), owK HQ.out.2.1 (Keeps.refl (fun _ => False) _).drew.drew (fun _ _ e => e), HQ.out.2.2.drew.drew⟩
          have ck3 : wr.drew.drew.cell? ⟨kb, ko + t, none⟩ = some (.int .i64 (i : Int)) := ck
          clear f1 f2 f3 ck ck2 HQ
          generalize wr.drew.drew = W2 at *
          go_wp2_with (at_builtin; refine hideG ?_)
          change wpList _ _ _ _ _ _
          refine app_one (cs := inR) (wr := W2) (by rfl) _ _ 91 3 (by rfl) Tryz.underlying91 infoInt1 rfl (by decide) (fun _ => rfl) w.heap.size _ ms i HQ2.out.1 (by rfl) W2.heap.size rfl (by rfl) (inR_one _) _ rfl (by unfold maxLen; omega) (by omega) HQ2.out.2.2.size ?_
          intro v' w3 ho3 hb3 hk3
          obtain ⟨pa, pc, hpa⟩ := ho3.form
          subst hpa
          have HQ3 : Hid (OwI w3 w.heap.size (.slice pa (ms ++ [i]).length pc) (ms ++ [i]) ∧ OwT w3 w.heap.size (.slice ma ms.length mc) (ms.map B.T) ∧ Keeps (fun _ => False) w w3) := ⟨ho3, HQ2.out.2.1.kept hk3 (by decide), keeps_below HQ2.out.2.2 hb3⟩
          clear ho3 hb3 hk3 HQ2 ck3
          generalize hlen : (ms ++ [i]).length = L at *
          go_wp2_with (at_builtin; refine hideG ?_)
          change wpList _ _ _ _ _ _
          refine app_one (cs := thC) (wr := w3) (by rfl) _ _ 42 31 (by rfl) Tryz.underlying42 infoTh rfl (by decide) (fun _ => rfl) w.heap.size _ (ms.map B.T) (B.T i) HQ3.out.2.1 (by rfl) w3.heap.size rfl (by rfl) (thC_one _) _ rfl (by rw [List.length_map]; unfold maxLen; omega) (by rw [List.length_map]; omega) HQ3.out.2.2.size ?_
          intro v4 w4 ho4 hb4 hk4
          have HN4 : Hid (OwI w4 w.heap.size (.slice pa L pc) (mfil n (ks.take (t + 1))) ∧ OwT w4 w.heap.size v4 ((mfil n (ks.take (t + 1))).map B.T) ∧ Keeps (fun _ => False) w w4) := by
            show _ ∧ _
            rw [HY.out]
            refine ⟨HQ3.out.1.kept hk4 (by decide), ?_, keeps_below HQ3.out.2.2 hb4⟩
            rw [List.map_append]
            exact ho4
          clear ho4 hb4 hk4 HQ3
          go_wp2
          go_roundw
          case rel => exact ⟨t + 1, by go_num, by omega, HN4.out⟩
          case measure => simp [intOf]; omega
        · have HY : Hid (mfil n (ks.take (t + 1)) = mfil n (ks.take t)) := mfil_no h5 (by rw [HX.out]; omega)
          have HN4 : Hid (OwI wr.drew w.heap.size (.slice na (mfil n (ks.take t)).length nc) (mfil n (ks.take (t + 1))) ∧ OwT wr.drew w.heap.size (.slice ma (mfil n (ks.take t)).length mc) ((mfil n (ks.take (t + 1))).map B.T) ∧ Keeps (fun _ => False) w wr.drew) := by
            show _ ∧ _
            rw [HY.out]
            exact ⟨owK HQ.out.1 (Keeps.refl (fun _ => False) _).drew (fun _ _ e => e), owK HQ.out.2.1 (Keeps.refl (fun _ => False) _).drew (fun _ _ e => e), HQ.out.2.2.drew⟩
          generalize (mfil n (ks.take t)).length = L at *
          go_wp2_with fail
          (refine wp_region_held_drew (S := (fun W => W.cell? ⟨kb, ko + t, none⟩ = some (.int .i64 x) ∧ W.cell? ⟨sd, 3, none⟩ = some (.pointer (some ⟨R.bk, 0, none⟩)) ∧ W.cell? ⟨R.bk, 1, none⟩ = some (.slice (some ⟨R.tb, 0, none⟩) n R.tc))) (by kernel_rfl) ⟨ck, f3, f2⟩ (fun hHeld => ?_); simp only [List.size_toArray, List.length_cons, List.length_nil, Nat.reduceAdd, Array.replicate_succ, Array.replicate_zero, List.push_toArray, List.append_toArray, List.nil_append, List.cons_append])
          refine rgT 0 (h := ?_)
          refine rgT 1 (h := ?_)
          refine rgT 2 (h := ?_)
          refine rgT 3 (h := ?_)
          refine rgT 4 (h := ?_)
          refine rgT 5 (h := ?_)
          refine rgT 6 (h := ?_)
          refine rgT 7 (h := ?_)
          refine rgT 8 (h := ?_)
          refine rgT 9 (h := ?_)
          refine rgT 10 (h := ?_)
          refine rgT 11 (h := ?_)
          refine rgT 12 (h := ?_)
          refine rgT 13 (h := ?_)
          refine rgT 14 (h := ?_)
          refine rgT 15 (h := ?_)
          refine rgT 16 (h := ?_)
          refine rgT 17 (h := ?_)
          refine rgT 18 (h := ?_)
          refine rgT 19 (h := ?_)
          refine rgT 20 (h := ?_)
          refine wpAnyH_done (by kernel_rfl) ?_ _
          clear f1 f2 f3 ck HQ
          go_wp2
          go_roundw
          case rel => exact ⟨t + 1, by go_num, by omega, HN4.out⟩
          case measure => simp [intOf]; omega
      · have HY : Hid (mfil n (ks.take (t + 1)) = mfil n (ks.take t)) := mfil_no h5 (by rw [HX.out]; omega)
        have HN4 : Hid (OwI wr.drew w.heap.size (.slice na (mfil n (ks.take t)).length nc) (mfil n (ks.take (t + 1))) ∧ OwT wr.drew w.heap.size (.slice ma (mfil n (ks.take t)).length mc) ((mfil n (ks.take (t + 1))).map B.T) ∧ Keeps (fun _ => False) w wr.drew) := by
          show _ ∧ _
          rw [HY.out]
          exact ⟨owK HQ.out.1 (Keeps.refl (fun _ => False) _).drew (fun _ _ e => e), owK HQ.out.2.1 (Keeps.refl (fun _ => False) _).drew (fun _ _ e => e), HQ.out.2.2.drew⟩
        generalize (mfil n (ks.take t)).length = L at *
        have hx2 : x < 0 := by omega
        have hx3 : (0 ≤ x) = False := by simp; omega
        have hx4 : decide (0 ≤ x) = false := by simp; omega
        clear hx0
        go_wp2_with fail
        (refine wp_region_held_drew (S := (fun W => W.cell? ⟨kb, ko + t, none⟩ = some (.int .i64 x))) (by kernel_rfl) ck (fun hHeld => ?_); simp only [List.size_toArray, List.length_cons, List.length_nil, Nat.reduceAdd, Array.replicate_succ, Array.replicate_zero, List.push_toArray, List.append_toArray, List.nil_append, List.cons_append])
        refine rgT 0 (h := ?_)
        refine rgT 1 (h := ?_)
        refine rgT 2 (h := ?_)
        refine rgT 3 (h := ?_)
        refine rgT 4 (h := ?_)
        refine rgT 5 (h := ?_)
        refine rgK 6 (h := ?_)
        refine rgK 7 (h := ?_)
        refine rgK 8 (h := ?_)
        refine rgK 9 (h := ?_)
        refine rgK 10 (h := ?_)
        refine rgK 11 (h := ?_)
        refine rgK 12 (h := ?_)
        refine rgK 13 (h := ?_)
        refine rgK 14 (h := ?_)
        refine rgK 15 (h := ?_)
        refine rgK 16 (h := ?_)
        refine rgK 17 (h := ?_)
        refine rgK 18 (h := ?_)
        refine rgK 19 (h := ?_)
        refine rgT 20 (h := ?_)
        refine wpAnyH_done (by kernel_rfl) ?_ _
        clear f1 f2 f3 ck HQ
        go_wp2
        go_roundw
        case rel => exact ⟨t + 1, by go_num, by omega, HN4.out⟩
        case measure => simp [intOf]; omega
    · have hte : ks.take t = ks := List.take_of_length_le (by omega)
      have HQ5 : Hid (OwI wr w.heap.size (.slice na (mfil n ks).length nc) (mfil n ks) ∧ OwT wr w.heap.size (.slice ma (mfil n ks).length mc) ((mfil n ks).map B.T) ∧ Keeps (fun _ => False) w wr) := by
        have := HQ.out
        rw [hte] at this
        exact this
      rw [hte]
      clear ho1 ho2 hkk HQ hte
      go_wp2
      refine bodyPost_ret (v := .tuple #[.slice na (mfil n ks).length nc, .slice ma (mfil n ks).length mc, .bool true]) ?_ rfl ⟨_, _, rfl, HQ5.out⟩
      simp [results, Tryz.results63]
end Go.Proofs.YtdpebhdjcgiboaaGreat
