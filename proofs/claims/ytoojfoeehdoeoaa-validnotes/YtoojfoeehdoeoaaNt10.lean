import Derived.Test.YtoojfoeehdoeoaaNt9
namespace Go.Proofs.Ytoojfoeehdoeoaa
open Go.ChangeShapes Go.WideShapes Go.ChangeAt Go.RowKit Go.Maps
set_option linter.unusedVariables false
set_option maxRecDepth 100000
/-- The document's list of ranges, in the second cell of its set in block r; its row lies in a block of F. -/
structure Rr (w : World) (r : Nat) (v : Value) (F : Nat → Prop) (xs : List R2) : Prop where
  c0 : w.cell? ⟨r, 1, none⟩ = some v
  f0 : w.frozen? ⟨r, 1, none⟩ = false
  row : ownRg 61 w 0 v xs
  inF : ∀ b, v.ownBlock = some b → F b
  off : ¬ F r
  lt : ∀ b, F b → b < w.heap.size
theorem Rr.keeps {w w' : World} {r : Nat} {v : Value} {F B : Nat → Prop} {xs : List R2} (h : Rr w r v F xs) (hk : Keeps B w w') (hg : ¬ B r) (hF : ∀ b, F b → ¬ B b) : Rr w' r v F xs where
  c0 := (hk.cell (cell_lt h.c0) hg).trans h.c0
  f0 := (hk.frozen (cell_lt h.c0) hg).trans h.f0
  row := ownsRow_of_block h.row (fun b hb => hk.block b (h.lt b (h.inF b hb)) (hF b (h.inF b hb)))
  inF := h.inF
  off := h.off
  lt := fun b hb => Nat.lt_of_lt_of_le (h.lt b hb) hk.size
theorem Rr.later {w w' : World} {r : Nat} {v : Value} {F : Nat → Prop} {xs : List R2} (h : Rr w r v F xs) (hb : Below w.heap.size w w') : Rr w' r v F xs :=
  h.keeps (Below.keeps hb (fun _ => False)) (fun h => h) (fun _ _ h => h)
/-- What comes of the document's set of ranges. -/
def PutRr (w : World) (r : Nat) (F : Nat → Prop) (xs' : List R2) (w' : World) : Prop :=
  ∃ v' F', Rr w' r v' F' xs' ∧ (∀ b, F' b → F b ∨ w.heap.size ≤ b) ∧ Keeps (fun b => b = r ∨ F b) w w' ∧ ∀ j, j ≠ 1 → w'.cell? ⟨r, j, none⟩ = w.cell? ⟨r, j, none⟩ ∧ w'.frozen? ⟨r, j, none⟩ = w.frozen? ⟨r, j, none⟩
theorem PutRr.same {w w1 : World} {r : Nat} {v : Value} {F : Nat → Prop} {xs : List R2} (h : Rr w r v F xs) (hb : Below w.heap.size w w1) : PutRr w r F xs w1 :=
  ⟨v, F, h.later hb, fun b hb => Or.inl hb, Below.keeps hb _, fun j _ => ⟨hb.cell (cell_lt h.c0), World.frozen?_of_block (w := w) (hb.block r (cell_lt h.c0))⟩⟩
theorem isInR_take {ys : List R2} {k : Nat} {x : R2} (h : isInR (ys.take k) x = false) (hk : k < ys.length) (hy : ¬ (ys[k].1 = x.1 ∧ ys[k].2 = x.2)) : isInR (ys.take (k + 1)) x = false := by
  rw [List.take_succ_eq_append_getElem hk]
  unfold isInR at h ⊢
  rw [List.any_append, h]
  simp
  intro e1 e2
  exact hy ⟨e1, e2⟩
theorem isInR_at {ys : List R2} {k : Nat} {x : R2} (hk : k < ys.length) (h1 : ys[k].1 = x.1) (h2 : ys[k].2 = x.2) : isInR ys x = true := (isInR_iff ys x).2 ((Prod.ext h1 h2 : ys[k] = x) ▸ List.getElem_mem hk)
theorem bytes_ne {a b : ByteArray} (h : ¬ a = b) : ¬ a.toList = b.toList := by
  rw [ByteArray.toList_eq, ByteArray.toList_eq]
  exact fun e => h (ByteArray.ext (Array.toList_inj.1 e))
theorem ownRg.lower {t : TypeId} {w : World} {B : Nat} {v : Value} {xs : List R2} (h : ownRg t w B v xs) : ownRg t w 0 v xs := by
  refine ⟨h.1, ?_⟩
  rcases h.2 with h1 | ⟨g, cap, cur, h1, h2, h3⟩
  · exact Or.inl h1
  · exact Or.inr ⟨g, cap, cur, h1, Nat.zero_le _, h3⟩
theorem PutRr.store {w w1 : World} {r : Nat} {v v' : Value} {F : Nat → Prop} {xs acc : List R2} {ob : Obj} (h : Rr w r v F xs) (hg : (w.alloc ob).grownBy w1 v.ownBlock) (ho : ownRg 61 w1 0 v' acc) (hloc : v'.ownBlock = v.ownBlock ∨ v'.ownBlock = some (w.alloc ob).heap.size) : PutRr w r F acc (w1.setCell ⟨r, 1, none⟩ v') := by
  have hr := cell_lt h.c0
  have hvr : v.ownBlock ≠ some r := fun e => h.off (h.inF r e)
  have hs := hg.size
  simp only [World.size_alloc] at hs hloc
  have hbr : w1.heap[r]? = w.heap[r]? := (hg.block r (by simp; omega) (fun e => hvr e.symm)).trans (Below.heap_alloc w ob r hr)
  have hv'r : v'.ownBlock ≠ some r := by
    rcases hloc with e | e <;> rw [e]
    · exact hvr
    · intro h; injection h with h; omega
  refine ⟨v', fun b => v'.ownBlock = some b, ⟨?_, ?_, ?_, fun b hb => hb, hv'r, ?_⟩, fun b hb => ?_, Keeps.setCell (B := fun b => b = r ∨ F b) (((Keeps.refl (fun b => b = r ∨ F b) w).alloc ob).grown hg (fun k hk => Or.inl (Or.inr (h.inF k hk)))) (p := ⟨r, 1, none⟩) (Or.inl rfl) _, fun j hj => ⟨?_, ?_⟩⟩
  · exact World.cell?_setCell_same _ _ _ ((World.cell?_of_block (a := ⟨r, 1, none⟩) hbr).trans h.c0)
  · rw [World.frozen?_setCell]; exact (World.frozen?_of_block (w := w) hbr).trans h.f0
  · exact ownsRow_of_block (w := w1) ho (fun b hb => Below.heap_setCell _ _ _ _ (fun (e : b = r) => hv'r (e ▸ hb)))
  · intro b hb; rw [World.size_setCell]; exact (World.ownsRow.lt ho b hb).2
  · rcases hloc with e | e
    · exact Or.inl (h.inF b (e ▸ hb))
    · have : some b = some (w.heap.size + 1) := hb.symm.trans e
      injection this with this
      right; omega
  · exact (cell_setOther _ _ (addr_ne (fun e => hj e.symm))).trans (World.cell?_of_block (w := w) hbr)
  · rw [World.frozen?_setCell]; exact World.frozen?_of_block (w := w) hbr
set_option maxHeartbeats 1600000 in
theorem refRanges_any (w : World) (r : Nat) (v : Value) (F : Nat → Prop) (xs : List R2) (h : Rr w r v F xs) (hl : xs.length ≤ 64) :
    Calls Try.prog 18 #[.pointer (some ⟨r, 0, none⟩)] w fun e w' => ∃ v', e = .returned v' ∧ ownRg 61 w' w.heap.size v' xs ∧ Below w.heap.size w w' := by
  obtain ⟨vs, vc, rfl, hvc, hvs⟩ := h.row.seesR
  have HP : Hid _ := h.row.plain vs xs.length vc rfl
  have HV : Hid (SeesR w w.heap.size vs xs) := hvs
  have HC : Hid (vs = none → xs = [] ∧ vc = 0) := hvc
  have c0a := (cell_al w (.cells #[] 61) (p := ⟨r, 1, none⟩) (cell_lt h.c0)).trans h.c0
  clear h hvc hvs
  go_enter Try.func18, Try.ntmps18
  go_wp2_with (at_builtin; refine app_rgs isRr (by rfl) _ _ (by rfl) w.heap.size w.heap.size _ [] (own_litR0 61 w) (by rfl) vs vc xs (by rfl) (SeesR.al (w := w) HV.out (Nat.le_refl _)) HC.out HP.out (by simp; omega) (by simp) ?_; intro v' w1 hown1 hgrow1; obtain ⟨av, lv, cv, rfl⟩ := row_slice hown1; have HO : Hid _ := hown1; have HG : Hid _ := hgrow1; clear hown1 hgrow1)
  go_ret
  refine ⟨_, rfl, by have := HO.out; rw [List.nil_append] at this; exact this, ?_⟩
  exact ((Below.refl _ _).alloc (Nat.le_refl _) _).grown HG.out (by simp) (fun k hk => by
      have : w.heap.size = k := by simpa [Value.ownBlock] using hk
      omega)
set_option maxHeartbeats 3200000 in
theorem refLook_any (w : World) (r : Nat) (v : Value) (F : Nat → Prop) (xs : List R2) (a b : ByteArray) (h : Rr w r v F xs) (hl : xs.length ≤ 64) :
    Calls Try.prog 12 #[.pointer (some ⟨r, 0, none⟩), .string a, .string b] w fun e w' => e = .returned (.int .i64 (addER xs (a, b))) ∧ PutRr w r F (addLR xs (a, b)) w' := by
  have HH : Hid (Rr w r v F xs) := h
  obtain ⟨vs, vc, rfl, hvc, hvs⟩ := h.row.seesR
  have HV : Hid (SeesR w w.heap.size vs xs) := hvs
  have c0 := h.c0
  have hrl := cell_lt h.c0
  clear h hvc hvs
  go_enter Try.func12, Try.ntmps12
  go_wp2
  go_loopw [7] (fun i wr => ∃ k : Nat, k ≤ xs.length ∧ i = .int .i64 k ∧ wr = w ∧ isInR (xs.take k) (a, b) = false) (fun i _ => xs.length - (intOf i).toNat)
  case atStart => exact ⟨0, Nat.zero_le _, rfl, rfl, by simp [isInR]⟩
  case round =>
    obtain ⟨k, hk, rfl, rfl, hno⟩ := hrel
    have HNO : Hid _ := hno
    clear hno
    by_cases hkl : k < xs.length
    · obtain ⟨bb, off, hao, hb, hc, hd⟩ := HV.out k hkl
      by_cases hy1 : xs[k].1 = a
      · by_cases hy2 : xs[k].2 = b
        · have HY : Hid (isInR xs (a, b) = true) := isInR_at hkl hy1 hy2
          rw [hy1] at hc
          rw [hy2] at hd
          clear hy1 hy2
          subst hao
          go_wp2
          go_ret
          have hi := insR_old HY.out
          have hn : (insR xs (a, b)).length ≤ 64 := by rw [hi]; exact hl
          refine ⟨by unfold addER; rw [if_pos hn]; rfl, ?_⟩
          unfold addLR
          rw [if_pos hn, hi]
          exact PutRr.same HH.out (Below.refl _ _)
        · have HY : Hid _ := isInR_take (x := (a, b)) HNO.out hkl (fun h => hy2 h.2)
          rw [hy1] at hc
          clear hy1
          generalize xs[k].2 = y2 at hd hy2
          have hy2b : (y2.toList == b.toList) = false := by simpa using bytes_ne hy2
          clear hy2
          subst hao
          go_wp2
          go_roundw
          case rel => exact ⟨k + 1, by omega, by go_num, by first | rfl | trivial, HY.out⟩
          case measure => simp [intOf]; omega
      · have HY : Hid _ := isInR_take (x := (a, b)) HNO.out hkl (fun h => hy1 h.1)
        generalize xs[k].1 = y1 at hc hy1
        replace hy1 := bytes_ne hy1
        generalize xs[k].2 = y2 at hd
        subst hao
        go_wp2
        go_roundw
        case rel => exact ⟨k + 1, by omega, by go_num, by first | rfl | trivial, HY.out⟩
        case measure => simp [intOf]; omega
    · have hke : k = xs.length := by omega
      subst hke
      have hno := HNO.out
      rw [List.take_length] at hno
      have HIN : Hid _ := hno
      clear hno HNO
      by_cases h64 : xs.length < 64
      · have HAE : Hid (addER xs (a, b) = 0 ∧ addLR xs (a, b) = xs ++ [(a, b)]) := by
          have hn : (insR xs (a, b)).length ≤ 64 := by rw [insR_new HIN.out]; simp; omega
          unfold addER addLR
          rw [if_pos hn, if_pos hn, insR_new HIN.out]
          exact ⟨rfl, rfl⟩
        obtain ⟨i0, hi, hz0, hz1, hz2⟩ := info_parts isRr.info
        obtain ⟨v4, w4, hrun4, hrow4, hgrow4, hnil4, hloc4⟩ := run_append_own_at (P := Try.prog) (w := wr.alloc (.cells #[.string a, .string b] 61)) 0 46 46 61 i0 _ 2 32 Try.underlying46 hi hz0 hz1 hz2 rfl (by decide) _ xs.length _ (World.ownsRow.alloc HH.out.row _) ⟨wr.heap.size, 0, none⟩ 1 1 [.string a, .string b] rfl (fun j u hj => by
          match j, hj with
          | 0, hj => simp at hj; subst hj; exact (cell_two_new wr _ _ _).1
          | 1, hj => simp at hj; subst hj; exact (cell_two_new wr _ _ _).2) (by intro u hu; simp at hu; rcases hu with rfl | rfl <;> rfl) (by unfold maxLen; omega) (by omega) (Nat.zero_le _)
        obtain ⟨sp4, l4, c4, rfl⟩ := row_slice hrow4
        have HFIN : Hid (PutRr wr r F (addLR xs (a, b)) (w4.setCell ⟨r, 1, none⟩ (.slice sp4 l4 c4))) := by
          rw [HAE.out.2]
          refine PutRr.store HH.out hgrow4 ?_ hloc4
          unfold ownRg
          rw [cellsR_app, List.length_append]
          exact hrow4
        have hgr := hgrow4.block r (by simp; omega) (fun e => HH.out.off (HH.out.inF r e.symm))
        have c04 : w4.cell? ⟨r, 1, none⟩ = some (.slice vs xs.length vc) := (World.cell?_of_block (a := ⟨r, 1, none⟩) hgr).trans ((cell_al wr _ hrl).trans c0)
        have f04 : w4.frozen? ⟨r, 1, none⟩ = false := (World.frozen?_of_block (a := ⟨r, 1, none⟩) hgr).trans ((frozen_al wr _ hrl).trans HH.out.f0)
        clear hrow4 hgrow4 hnil4 hloc4 hgr hz0 hz1 hz2
        go_wp2_with (at_builtin; refine wpList_plain (by rfl) fun _ hK => ?_; refine wp_app_run _ _ 46 (by rfl) (by rfl) (by rfl) hrun4 ?_; refine hK _ _ ?_)
        go_ret
        exact ⟨by rw [HAE.out.1]; rfl, HFIN.out⟩
      · have HAE : Hid (addER xs (a, b) = 4 ∧ addLR xs (a, b) = xs) := by
          have hn : ¬ (insR xs (a, b)).length ≤ 64 := by rw [insR_new HIN.out]; simp; omega
          unfold addER addLR
          rw [if_neg hn, if_neg hn]
          exact ⟨rfl, rfl⟩
        go_wp2
        go_ret
        refine ⟨by rw [HAE.out.1]; rfl, ?_⟩
        rw [HAE.out.2]
        exact PutRr.same HH.out (Below.refl _ _)
end Go.Proofs.Ytoojfoeehdoeoaa
