import Derived.Test.YtoojfoeehdoeoaaNt3
namespace Go.Proofs.Ytoojfoeehdoeoaa
open Go.ChangeShapes Go.WideShapes Go.ChangeAt Go.RowKit Go.Maps
set_option linter.unusedVariables false
set_option maxRecDepth 100000
/-- The document's list of numbers, in the first cell of its set in block r; its row lies in a block of F. -/
structure Rn (w : World) (r : Nat) (v : Value) (F : Nat → Prop) (xs : List Int) : Prop where
  c0 : w.cell? ⟨r, 0, none⟩ = some v
  f0 : w.frozen? ⟨r, 0, none⟩ = false
  row : ownI w 0 v xs
  inF : ∀ b, v.ownBlock = some b → F b
  off : ¬ F r
  lt : ∀ b, F b → b < w.heap.size
theorem Rn.keeps {w w' : World} {r : Nat} {v : Value} {F B : Nat → Prop} {xs : List Int} (h : Rn w r v F xs) (hk : Keeps B w w') (hg : ¬ B r) (hF : ∀ b, F b → ¬ B b) : Rn w' r v F xs where
  c0 := (hk.cell (cell_lt h.c0) hg).trans h.c0
  f0 := (hk.frozen (cell_lt h.c0) hg).trans h.f0
  row := ownsRow_of_block h.row (fun b hb => hk.block b (h.lt b (h.inF b hb)) (hF b (h.inF b hb)))
  inF := h.inF
  off := h.off
  lt := fun b hb => Nat.lt_of_lt_of_le (h.lt b hb) hk.size
theorem Rn.later {w w' : World} {r : Nat} {v : Value} {F : Nat → Prop} {xs : List Int} (h : Rn w r v F xs) (hb : Below w.heap.size w w') : Rn w' r v F xs :=
  h.keeps (Below.keeps hb (fun _ => False)) (fun h => h) (fun _ _ h => h)
theorem ownI.seesN {w : World} {B : Nat} {v : Value} {xs : List Int} (h : ownI w B v xs) : ∃ sp cap, v = .slice sp xs.length cap ∧ (sp = none → xs = [] ∧ cap = 0) ∧ SeesN w w.heap.size sp xs := by
  rcases h.2 with ⟨rfl, hn⟩ | ⟨b, cap, cur, rfl, h1, h2, h3⟩
  · exact ⟨none, 0, by rw [hn], fun _ => ⟨List.eq_nil_of_length_eq_zero hn, rfl⟩, fun i hi => by omega⟩
  · refine ⟨some ⟨b, 0, none⟩, cap, rfl, (fun e => by cases e), fun i hi => ⟨b, 0, rfl, (World.ownsRow.lt h b rfl).2, ?_⟩⟩
    have := World.ownsRow.cellAt (g := b) (cap := cap) h i (by omega)
    rw [Nat.zero_add, this]
    simp [cellsI, List.getElem?_eq_getElem hi]
theorem isIn_take {ys : List Int} {k : Nat} {x : Int} (h : isIn (ys.take k) x = false) (hk : k < ys.length) (hy : ys[k] ≠ x) : isIn (ys.take (k + 1)) x = false := by
  rw [List.take_succ_eq_append_getElem hk, isIn_app, h]
  cases e : isIn [ys[k]] x
  · rfl
  · have := (isIn_iff _ _).1 e
    simp at this
    exact absurd this.symm hy
theorem isIn_at {ys : List Int} {k : Nat} {x : Int} (hk : k < ys.length) (hy : ys[k] = x) : isIn ys x = true := (isIn_iff ys x).2 (hy ▸ List.getElem_mem hk)
set_option maxHeartbeats 1600000 in
theorem refHas_any (w : World) (ao : Option Addr) (cap : Nat) (ys : List Int) (x : Int) (hs : SeesN w w.heap.size ao ys) (hy : ys.length ≤ 140737488355328) :
    Calls Try.prog 20 #[.slice ao ys.length cap, .int .i64 x] w fun e w' => e = .returned (.bool (isIn ys x)) ∧ w' = w := by
  have HS : Hid _ := hs
  clear hs
  go_enter Try.func20, Try.ntmps20
  go_wp2
  go_loopw [5] (fun i wr => ∃ k : Nat, k ≤ ys.length ∧ i = .int .i64 k ∧ wr = w ∧ isIn (ys.take k) x = false) (fun i _ => ys.length - (intOf i).toNat)
  case atStart => exact ⟨0, Nat.zero_le _, rfl, rfl, by simp [isIn]⟩
  case round =>
    obtain ⟨k, hk, rfl, rfl, hno⟩ := hrel
    have HNO : Hid _ := hno
    clear hno
    by_cases hkl : k < ys.length
    · obtain ⟨b, off, hao, hb, hc⟩ := HS.out k hkl
      by_cases hyx : ys[k] = x
      · have HY : Hid _ := isIn_at hkl hyx
        rw [hyx] at hc
        clear hyx
        subst hao
        go_wp2
        go_ret
        exact ⟨by rw [HY.out]; rfl, rfl⟩
      · have HY : Hid _ := isIn_take HNO.out hkl hyx
        generalize ys[k] = y at hc hyx
        subst hao
        go_wp2
        go_roundw
        case rel => exact ⟨k + 1, by omega, by go_num, by first | rfl | trivial, HY.out⟩
        case measure => simp [intOf]; omega
    · have hke : k = ys.length := by omega
      subst hke
      go_wp2
      go_ret
      exact ⟨by have := HNO.out; rw [List.take_length] at this; rw [this]; rfl, rfl⟩
/-- What comes of the document's set of numbers. -/
def PutR (w : World) (r : Nat) (F : Nat → Prop) (xs' : List Int) (w' : World) : Prop :=
  ∃ v' F', Rn w' r v' F' xs' ∧ (∀ b, F' b → F b ∨ w.heap.size ≤ b) ∧ Keeps (fun b => b = r) w w' ∧ ∀ j, j ≠ 0 → w'.cell? ⟨r, j, none⟩ = w.cell? ⟨r, j, none⟩ ∧ w'.frozen? ⟨r, j, none⟩ = w.frozen? ⟨r, j, none⟩
theorem PutR.same {w w1 : World} {r : Nat} {v : Value} {F : Nat → Prop} {xs : List Int} (h : Rn w r v F xs) (hb : Below w.heap.size w w1) : PutR w r F xs w1 :=
  ⟨v, F, h.later hb, fun b hb => Or.inl hb, Below.keeps hb _, fun j _ => ⟨hb.cell (cell_lt h.c0), World.frozen?_of_block (w := w) (hb.block r (cell_lt h.c0))⟩⟩
theorem PutR.store {w wr : World} {r : Nat} {v v' : Value} {F : Nat → Prop} {xs acc : List Int} (h : Rn w r v F xs) (hb : Below w.heap.size w wr) (ho : ownI wr w.heap.size v' acc) : PutR w r F acc (wr.setCell ⟨r, 0, none⟩ v') := by
  have hr := cell_lt h.c0
  have hlo := fun b hb => World.ownsRow.lt ho b hb
  refine ⟨v', fun b => v'.ownBlock = some b, ⟨?_, ?_, ?_, fun b hb => hb, ?_, ?_⟩, fun b hb => Or.inr (hlo b hb).1, Keeps.setCell (B := fun b => b = r) (Below.keeps hb _) (p := ⟨r, 0, none⟩) rfl _, fun j hj => ⟨?_, ?_⟩⟩
  · exact World.cell?_setCell_same _ _ _ ((hb.cell (p := ⟨r, 0, none⟩) hr).trans h.c0)
  · rw [World.frozen?_setCell]; exact (World.frozen?_of_block (w := w) (hb.block r hr)).trans h.f0
  · refine ownsRow_of_block (w := wr) ?_ (fun b hb => Below.heap_setCell _ _ _ _ (fun (e : b = r) => by have := (hlo b hb).1; omega))
    refine ⟨ho.1, ?_⟩
    rcases ho.2 with h1 | ⟨g, cap, cur, h1, h2, h3⟩
    · exact Or.inl h1
    · exact Or.inr ⟨g, cap, cur, h1, Nat.zero_le _, h3⟩
  · intro e; have := (hlo r e).1; omega
  · intro b hb; rw [World.size_setCell]; exact (hlo b hb).2
  · exact (cell_setOther _ _ (addr_ne (fun e => hj e.symm))).trans (hb.cell (p := ⟨r, j, none⟩) hr)
  · rw [World.frozen?_setCell]; exact World.frozen?_of_block (w := w) (hb.block r hr)
theorem app_oneI {wr : World} {ops : Array Oper} {rest : List Oper} {o : Oper} {a : Act} {Q : Exit → Act → World → Prop} (hgd : o.guard = none) (s x : Operand)
    (ho : o.op = .call { callee := .builtin .append, args := #[s, x], argTypes := #[28, 28] })
    (B : Nat) (v : Value) (xs : List Int) (c : Int) (hown : ownI wr B v xs) (hs : a.eval s = v) (hx : a.eval x = .slice (some ⟨wr.heap.size, 0, none⟩) 1 1)
    (hlen : (xs.length + 1) * 8 ≤ 140737488355328) (hB : B ≤ wr.heap.size)
    (h : ∀ v' w', ownI w' B v' (xs ++ [c]) → Below B wr w' → wpList Try.prog ops Q rest (a.put o.dst v') w') :
    wpList Try.prog ops Q (o :: rest) a (wr.alloc (.cells #[.int .i64 c] 3)) := by
  obtain ⟨i0, hi, hz0, hz1, hz2⟩ := info_parts infoI0
  refine wpList_append_own _ hgd s x 28 ho B 3 i0 (.int .i64 0) 1 8 Try.underlying28 hi hz0 hz1 hz2 rfl (by decide) v xs.length _ hs (World.ownsRow.alloc hown _)
    ⟨wr.heap.size, 0, none⟩ 1 1 [.int .i64 c] hx rfl (cell_one_new _ _ _) (ints_oneCell .i64 [c]) (by unfold maxLen; omega) (by omega) (by simp; omega) ?_
  intro v' w' hown' hgrow _
  refine h v' w' ?_ ?_
  · have : (xs ++ [c]).length = xs.length + 1 := by simp
    unfold ownI; rw [this, cellsI_snoc]; exact hown'
  · exact ((Below.refl _ _).alloc hB _).grown hgrow (by simp; omega) (fun k hk => (World.ownsRow.lt hown k hk).1)
set_option maxHeartbeats 3200000 in
theorem refRead_any (w : World) (r : Nat) (v : Value) (F : Nat → Prop) (xs : List Int) (ao : Option Addr) (cap : Nat) (ys : List Int) (h : Rn w r v F xs) (hl : xs.length ≤ 64) (hs : SeesN w w.heap.size ao ys) (hy : (ys.length + 65) * 8 ≤ 140737488355328) :
    Calls Try.prog 10 #[.pointer (some ⟨r, 0, none⟩), .slice ao ys.length cap] w fun e w' => e = .returned (.int .i64 (addE xs ys)) ∧ PutR w r F (addL xs ys) w' := by
  have HH : Hid (Rn w r v F xs) := h
  obtain ⟨vs, vc, rfl, hvc, hvs⟩ := h.row.seesN
  have HV : Hid (SeesN w w.heap.size vs xs) := hvs
  have HC : Hid (vs = none → xs = [] ∧ vc = 0) := hvc
  have HS : Hid (SeesN w w.heap.size ao ys) := hs
  have c0 := h.c0
  have c0a := (cell_al w (.cells #[] 3) (p := ⟨r, 0, none⟩) (cell_lt h.c0)).trans h.c0
  clear h hvc hvs hs
  go_enter Try.func10, Try.ntmps10
  go_wp2_with (at_builtin; refine app_ints (by rfl) _ _ (by rfl) w.heap.size w.heap.size _ [] (own_lit0 w) (by rfl) vs vc xs (by rfl) (SeesN.al (w := w) HV.out (Nat.le_refl _)) HC.out (by simp; omega) (by simp) ?_; intro v' w1 hown1 hgrow1; obtain ⟨av, lv, cv, rfl⟩ := row_slice hown1; have HO : Hid _ := hown1; have HG : Hid _ := hgrow1; clear hown1 hgrow1)
  have HB1 : Hid (Below w.heap.size w w1) := ((Below.refl _ _).alloc (Nat.le_refl _) _).grown HG.out (by simp) (fun k hk => by
      have : w.heap.size = k := by simpa [Value.ownBlock] using hk
      omega)
  go_loopw [5, 6] (fun l i wr => ∃ k : Nat, k ≤ ys.length ∧ i = .int .i64 k ∧ ownI wr w.heap.size l ((ys.take k).foldl ins xs) ∧ Below w.heap.size w wr) (fun _ i _ => ys.length - (intOf i).toNat)
  case atStart => exact ⟨0, Nat.zero_le _, rfl, by have := HO.out; rw [List.nil_append] at this; exact this, HB1.out⟩
  case round =>
    obtain ⟨k, hk, rfl, hown, hbel⟩ := hrel
    have hln := put_len xs (ys.take k)
    simp only [List.length_take] at hln
    have HOW : Hid _ := hown
    have HBE : Hid (Below w.heap.size w wr) := hbel
    obtain ⟨ls, lc, rfl, hlc, hlsee⟩ := hown.seesN
    have HLS : Hid (SeesN wr wr.heap.size ls _) := hlsee
    clear hown hbel hlc hlsee
    by_cases hkl : k < ys.length
    · obtain ⟨b, off, hao, hb, hc⟩ := HS.out k hkl
      have hcx := (HBE.out.cell (p := ⟨b, off + k, none⟩) hb).trans hc
      have HST : Hid _ := fold_take xs ys k hkl
      generalize ys[k] = y at hcx HST
      generalize (ys.take k).foldl ins xs = acc at HOW HLS HST hln
      clear hc
      subst hao
      go_wp2_with fail
      refine (refHas_any wr ls lc acc y HLS.out (by omega)).mono ?_
      rintro _ w2 ⟨rfl, hw2⟩
      subst hw2
      cases hin : isIn acc y
      · have HIN : Hid _ := hin
        clear hin
        go_wp2_with (at_builtin; refine app_oneI (by rfl) _ _ (by rfl) w.heap.size _ acc y HOW.out (by rfl) (by rfl) (by omega) HBE.out.size ?_; intro v3 w3 hown3 hb3; obtain ⟨av3, lv3, cv3, rfl⟩ := row_slice hown3; have HO3 : Hid _ := hown3; have HB3 : Hid _ := hb3; clear hown3 hb3)
        go_roundw
        case rel => exact ⟨k + 1, by omega, by go_num, by rw [HST.out, ins_new HIN.out]; exact HO3.out, HBE.out.trans HB3.out⟩
        case measure => simp [intOf]; omega
      · have HIN : Hid _ := hin
        clear hin
        go_wp2
        go_roundw
        case rel => exact ⟨k + 1, by omega, by go_num, by rw [HST.out, ins_old HIN.out]; exact HOW.out, HBE.out⟩
        case measure => simp [intOf]; omega
    · have hke : k = ys.length := by omega
      subst hke
      rw [List.take_length] at HOW HLS
      simp only [List.take_length] at *
      have c0r := (HBE.out.cell (p := ⟨r, 0, none⟩) (cell_lt c0)).trans c0
      have f0r := (World.frozen?_of_block (a := ⟨r, 0, none⟩) (HBE.out.block r (cell_lt c0))).trans HH.out.f0
      generalize hacc : ys.foldl ins xs = acc at HOW HLS hln
      have HAC : Hid _ := hacc
      clear hacc
      by_cases h64 : acc.length ≤ 64
      · have HAE : Hid (addE xs ys = 0 ∧ addL xs ys = acc) := by
          unfold addE addL; rw [HAC.out]; exact ⟨if_pos h64, if_pos h64⟩
        go_wp2
        go_ret
        refine ⟨by rw [HAE.out.1]; rfl, ?_⟩
        rw [HAE.out.2]
        exact PutR.store HH.out HBE.out HOW.out
      · have HAE : Hid (addE xs ys = 4 ∧ addL xs ys = xs) := by
          unfold addE addL; rw [HAC.out]; exact ⟨if_neg h64, if_neg h64⟩
        go_wp2
        go_ret
        refine ⟨by rw [HAE.out.1]; rfl, ?_⟩
        rw [HAE.out.2]
        exact PutR.same HH.out HBE.out
set_option maxHeartbeats 1600000 in
theorem refSlots_any (w : World) (r : Nat) (v : Value) (F : Nat → Prop) (xs : List Int) (h : Rn w r v F xs) (hl : xs.length ≤ 64) :
    Calls Try.prog 16 #[.pointer (some ⟨r, 0, none⟩)] w fun e w' => ∃ v', e = .returned v' ∧ ownI w' w.heap.size v' xs ∧ Below w.heap.size w w' := by
  obtain ⟨vs, vc, rfl, hvc, hvs⟩ := h.row.seesN
  have HV : Hid (SeesN w w.heap.size vs xs) := hvs
  have HC : Hid (vs = none → xs = [] ∧ vc = 0) := hvc
  have c0a := (cell_al w (.cells #[] 3) (p := ⟨r, 0, none⟩) (cell_lt h.c0)).trans h.c0
  clear h hvc hvs
  go_enter Try.func16, Try.ntmps16
  go_wp2_with (at_builtin; refine app_ints (by rfl) _ _ (by rfl) w.heap.size w.heap.size _ [] (own_lit0 w) (by rfl) vs vc xs (by rfl) (SeesN.al (w := w) HV.out (Nat.le_refl _)) HC.out (by simp; omega) (by simp) ?_; intro v' w1 hown1 hgrow1; obtain ⟨av, lv, cv, rfl⟩ := row_slice hown1; have HO : Hid _ := hown1; have HG : Hid _ := hgrow1; clear hown1 hgrow1)
  go_ret
  refine ⟨_, rfl, by have := HO.out; rw [List.nil_append] at this; exact this, ?_⟩
  exact ((Below.refl _ _).alloc (Nat.le_refl _) _).grown HG.out (by simp) (fun k hk => by
      have : w.heap.size = k := by simpa [Value.ownBlock] using hk
      omega)
set_option maxHeartbeats 1600000 in
theorem refHasS_any (w : World) (r : Nat) (v : Value) (F : Nat → Prop) (xs : List Int) (x : Int) (h : Rn w r v F xs) (hl : xs.length ≤ 64) :
    Calls Try.prog 14 #[.pointer (some ⟨r, 0, none⟩), .int .i64 x] w fun e w' => e = .returned (.bool (isIn xs x)) ∧ w' = w := by
  obtain ⟨vs, vc, rfl, hvc, hvs⟩ := h.row.seesN
  have HV : Hid (SeesN w w.heap.size vs xs) := hvs
  have c0 := h.c0
  clear h hvc hvs
  go_enter Try.func14, Try.ntmps14
  go_wp2_with fail
  refine (refHas_any w vs vc xs x HV.out (by omega)).mono ?_
  rintro _ w2 ⟨rfl, hw2⟩
  subst hw2
  go_wp2
  go_ret
  exact ⟨rfl, rfl⟩
end Go.Proofs.Ytoojfoeehdoeoaa
