import Derived.Test.YtoojfoeehdoeoaaNt6
namespace Go.Proofs.Ytoojfoeehdoeoaa
set_option linter.unusedSimpArgs false
open Go.ChangeShapes Go.WideShapes Go.ChangeAt Go.RowKit Go.Maps
set_option linter.unusedVariables false
set_option maxRecDepth 100000
def insR (xs : List R2) (x : R2) : List R2 := if isInR xs x then xs else xs ++ [x]
theorem insR_old {xs : List R2} {x : R2} (h : isInR xs x = true) : insR xs x = xs := by unfold insR; rw [if_pos h]
theorem insR_new {xs : List R2} {x : R2} (h : isInR xs x = false) : insR xs x = xs ++ [x] := by unfold insR; rw [if_neg (by rw [h]; simp)]
theorem infoR0 : (Try.prog.info? 60).map (fun i => (i.zero, i.size, i.bytes)) = some (some (.agg #[.string ⟨#[]⟩, .string ⟨#[]⟩]), 2, 32) := by kernel_rfl
abbrev PutRg := Put (α := R2) 60 60 2 cellsR litR
theorem nilN_yes (w : World) : (binOp BinOp.eql 39 (Value.map none) (Value.map none)).run Try.prog w = .ok (.bool true) w := by kernel_rfl
theorem nilN_no (mb : Nat) (w : World) : (binOp BinOp.eql 39 (Value.map (some mb)) (Value.map none)).run Try.prog w = .ok (.bool false) w := by kernel_rfl
theorem cell_two_new (w : World) (x y : Value) (t : TypeId) : (w.alloc (.cells #[x, y] t)).cell? ⟨w.heap.size, 0, none⟩ = some x ∧ (w.alloc (.cells #[x, y] t)).cell? ⟨w.heap.size, 1, none⟩ = some y := by simp
theorem wp_app_run {w : World} {o : Oper} {a : Act} {K : Act → World → Prop} {Q : Exit → Act → World → Prop} (s x : Operand) (t : TypeId) (ho : o.op = .call { callee := .builtin .append, args := #[s, x], argTypes := #[t, t] }) {v xv v' : Value} {w' : World} (hs : a.eval s = v) (hx : a.eval x = xv)
    (hrun : (Builtin.append_ #[t, t] o.type #[v, xv]).run Try.prog w = .ok v' w') (h : K (a.put o.dst v') w') : o.wp Try.prog a w K Q := by
  unfold Oper.wp
  simp [execOp, ho, resolve, invoke, builtin, hs, hx, hrun, Result.andThen]
  exact h
theorem On.drewE {α : Type} {e k : TypeId} {size : Nat} {cs : List α → List Value} {lit : α → Lit} {w : World} {g o : Nat} {v : Value} {m : Option Nat} {F : Nat → Prop} {xs : List α} (h : On e k size cs lit w g o v m F xs) : On e k size cs lit w.drew g o v m F xs := h.drew
set_option maxHeartbeats 3200000 in
theorem putR_any (w : World) (g o : Nat) (v : Value) (m : Option Nat) (F : Nat → Prop) (xs : List R2) (x : R2) (h : OnR w g o v m F xs) (hx : okR x) (hxs : ∀ y ∈ xs, okR y) (hl : xs.length ≤ 1000) :
    Calls Try.prog 27 #[.pointer (some ⟨g, o, none⟩), .agg #[.string x.1, .string x.2]] w fun e w' => e = .returned (.tuple #[]) ∧ PutRg w g o F (insR xs x) w' := by
  have hmm := @run_makeMap Try.prog
  obtain ⟨i0, hi, hz0, hz1, hz2⟩ := info_parts infoR0
  obtain ⟨a, b⟩ := x
  have hb0 : Below w.heap.size w (w.alloc (.cells #[.string a, .string b] 60)) := (Below.refl _ _).alloc (Nat.le_refl _) _
  have HB0 : Hid _ := hb0
  have HH : Hid (OnR w g o v m F xs) := h
  have HK : Hid _ := litR_of hx
  clear h hb0
  show Calls Try.prog 27 #[.pointer (some ⟨g, o, none⟩), .agg #[.string a, .string b]] w _
  go_enter Try.func27, Try.ntmps27
  go_wp2_with fail
  refine (hasR_any _ g o v m F xs (a, b) (HH.out.later HB0.out) hx hxs).mono ?_
  rintro _ w1 ⟨rfl, hb1⟩
  have hbw : Below w.heap.size w w1 := HB0.out.trans (hb1.mono HB0.out.size)
  have hn : w.heap.size < (w.alloc (.cells #[.string a, .string b] 60)).heap.size := by simp
  have hx1 : w1.heap[w.heap.size]? = some (.cells #[.string a, .string b] 60 (0, 0)) := (hb1.block _ hn).trans (by show (w.heap.push _)[w.heap.size]? = _; exact Array.getElem?_push_size)
  have hsz := hb1.size
  have hlt1 : w.heap.size < w1.heap.size := by omega
  have h1 := HH.out.later hbw
  have HBW : Hid _ := hbw
  have HX1 : Hid _ := hx1
  clear hb1 hbw hx1 hsz hn hxs
  cases hin : isInR xs (a, b)
  · have HIN : Hid _ := hin
    clear hin
    cases m with
    | none =>
      have hxs : xs = [] := by
        rcases h1.map with ⟨_, e⟩ | ⟨_, e, _⟩
        · exact e
        · cases e
      subst hxs
      have hgl := cell_lt HH.out.c0
      have c1 := h1.c1
      have c1a := (cell_al w1 (.map #[] 0) (p := ⟨g, o + 1, none⟩) (cell_lt c1)).trans c1
      have f1a := (frozen_al w1 (.map #[] 0) (p := ⟨g, o + 1, none⟩) (cell_lt c1)).trans h1.f1
      have c1m := h1.made.c1
      have hny := nilN_yes
      have hnm : w.heap.size ≠ w1.heap.size := by omega
      go_wp2
      obtain ⟨wm, hwm⟩ : ∃ wm, wm = (w1.alloc (.map #[] 0)).setCell ⟨g, o + 1, none⟩ (.map (some w1.heap.size)) := ⟨_, rfl⟩
      have hbw := HBW.out
      have HM0 := h1.made
      have hltm : w.heap.size < wm.heap.size := by rw [hwm]; simp; omega
      have HXM : Hid (wm.heap[w.heap.size]? = some (.cells #[.string a, .string b] 60 (0, 0))) := by
        rw [hwm]
        exact (Below.heap_setCell _ _ _ _ (fun (e : w.heap.size = g) => by omega)).trans ((Below.heap_alloc w1 _ _ hlt1).trans HX1.out)
      have HKP : Hid (Keeps (fun b => b = g ∨ F b) w wm) := by
        rw [hwm]
        exact Keeps.setCell (B := fun b => b = g ∨ F b) ((Below.keeps hbw _).alloc _) (p := ⟨g, o + 1, none⟩) (Or.inl rfl) _
      have HF2 : Hid (∀ b, (F b ∨ b = w1.heap.size) → F b ∨ w.heap.size ≤ b) := fun b hb => hb.imp id (fun e => by omega)
      have HFN : Hid (∀ b, (F b ∨ b = w1.heap.size) → b ≠ w.heap.size) := fun b hb => by
        rcases hb with e | e
        · have := HH.out.lt b e; omega
        · omega
      have HOT : Hid (∀ j, j ≠ o → j ≠ o + 1 → wm.cell? ⟨g, j, none⟩ = w.cell? ⟨g, j, none⟩ ∧ wm.frozen? ⟨g, j, none⟩ = w.frozen? ⟨g, j, none⟩) := fun j hj0 hj1 => by
        rw [hwm]
        refine ⟨?_, ?_⟩
        · exact (cell_setOther _ _ (addr_ne (fun e => hj1 e.symm))).trans ((cell_al w1 _ (cell_lt h1.c0)).trans (hbw.cell (cell_lt HH.out.c0)))
        · rw [World.frozen?_setCell]; exact (frozen_al w1 _ (cell_lt h1.c0)).trans (World.frozen?_of_block (w := w) (hbw.block g (cell_lt HH.out.c0)))
      rw [← hwm] at HM0 c1m ⊢
      have HM : Hid (OnR wm g o v (some w1.heap.size) (fun b => F b ∨ b = w1.heap.size) []) := HM0
      replace c1 := c1m
      generalize w1.heap.size = mb at *
      clear h1 hbw hlt1 HM0 c1a f1a c1m hwm HBW HX1
      obtain ⟨w3, hrun3, hown3, hgrow3⟩ := HM.out.drew.inM.2.2.update lawR Try.underlying39 (by unfold maxLen; omega) HK.out unitElem_mk
      have hrun3' : (Instr.mapUpdate 39 (.map (some mb)) (.agg #[.string a, .string b]) (.agg #[])).run Try.prog wm.drew = .ok () w3 := hrun3
      have x3 : w3.heap[w.heap.size]? = some (.cells #[.string a, .string b] 60 (0, 0)) := (hgrow3.block _ hltm (fun e => by injection e with e; exact hnm e)).trans HXM.out
      have c13 := (World.cell?_of_block (a := ⟨g, o + 1, none⟩) (HM.out.drew.g3 hgrow3)).trans c1
      have c03 := (World.cell?_of_block (a := ⟨g, o, none⟩) (HM.out.drew.g3 hgrow3)).trans HM.out.drew.c0
      have d0 : wm.cell? ⟨w.heap.size, 0, none⟩ = some (.string a) := by have := HXM.out; simp [World.cell?, this]
      have d1 : wm.cell? ⟨w.heap.size, 1, none⟩ = some (.string b) := by have := HXM.out; simp [World.cell?, this]
      have d03 : w3.cell? ⟨w.heap.size, 0, none⟩ = some (.string a) := by simp [World.cell?, x3]
      have d13 : w3.cell? ⟨w.heap.size, 1, none⟩ = some (.string b) := by simp [World.cell?, x3]
      have HO3 : Hid _ := hown3
      have HG3 : Hid _ := hgrow3
      clear hrun3 hown3 hgrow3 x3
      (refine wp_region_held_drew (S := (fun W => W.cell? ⟨g, o + 1, none⟩ = some (.map (some mb)) ∧ W.cell? ⟨w.heap.size, 0, none⟩ = some (.string a) ∧ W.cell? ⟨w.heap.size, 1, none⟩ = some (.string b))) (by kernel_rfl) ⟨c1, d0, d1⟩ (fun hHeld => ?_); simp only [List.size_toArray, List.length_cons, List.length_nil, Nat.reduceAdd, Array.replicate_succ, Array.replicate_zero, List.push_toArray, List.append_toArray, List.nil_append, List.cons_append])
      (refine tk0 (v := ?_) (by kernel_rfl) (by kernel_rfl) (by kernel_rfl) (fun _ _ _ h => h) (Or.inl ⟨by rfl, ?_⟩) (by assumption) ?_; rotate_left; (focus (intro w hSw; (try dsimp only at hSw); go_simp; (try first | (rw [dif_pos (by omega)]; simp only [Result.andThen_ok]) | rw [if_pos (by omega)]); (try with_reducible rfl); done)); try simp only [Act.put, List.setIfInBounds_toArray, List.set_cons_zero, List.set_cons_succ])
      (refine tk1 (v := ?_) (by kernel_rfl) (by kernel_rfl) (by kernel_rfl) (fun _ _ _ h => h) (Or.inl ⟨by rfl, ?_⟩) (by assumption) ?_; rotate_left; (focus (intro w hSw; (try dsimp only at hSw); go_simp; (try first | (rw [dif_pos (by omega)]; simp only [Result.andThen_ok]) | rw [if_pos (by omega)]); (try with_reducible rfl); done)); try simp only [Act.put, List.setIfInBounds_toArray, List.set_cons_zero, List.set_cons_succ])
      (refine tk2 (v := ?_) (by kernel_rfl) (by kernel_rfl) (by kernel_rfl) (fun _ _ _ h => h) (Or.inl ⟨by rfl, ?_⟩) (by assumption) ?_; rotate_left; (focus (intro w hSw; (try dsimp only at hSw); go_simp; (try first | (rw [dif_pos (by omega)]; simp only [Result.andThen_ok]) | rw [if_pos (by omega)]); (try with_reducible rfl); done)); try simp only [Act.put, List.setIfInBounds_toArray, List.set_cons_zero, List.set_cons_succ])
      (refine tk3 (v := ?_) (by kernel_rfl) (by kernel_rfl) (by kernel_rfl) (fun _ _ _ h => h) (Or.inl ⟨by rfl, ?_⟩) (by assumption) ?_; rotate_left; (focus (intro w hSw; (try dsimp only at hSw); go_simp; (try first | (rw [dif_pos (by omega)]; simp only [Result.andThen_ok]) | rw [if_pos (by omega)]); (try with_reducible rfl); done)); try simp only [Act.put, List.setIfInBounds_toArray, List.set_cons_zero, List.set_cons_succ])
      (refine tk4 (v := ?_) (by kernel_rfl) (by kernel_rfl) (by kernel_rfl) (fun _ _ _ h => h) (Or.inl ⟨by rfl, ?_⟩) (by assumption) ?_; rotate_left; (focus (intro w hSw; (try dsimp only at hSw); go_simp; (try first | (rw [dif_pos (by omega)]; simp only [Result.andThen_ok]) | rw [if_pos (by omega)]); (try with_reducible rfl); done)); try simp only [Act.put, List.setIfInBounds_toArray, List.set_cons_zero, List.set_cons_succ])
      (refine tk5 (v := ?_) (by kernel_rfl) (by kernel_rfl) (by kernel_rfl) (fun _ _ _ h => h) (Or.inl ⟨by rfl, ?_⟩) (by assumption) ?_; rotate_left; (focus (intro w hSw; (try dsimp only at hSw); go_simp; (try first | (rw [dif_pos (by omega)]; simp only [Result.andThen_ok]) | rw [if_pos (by omega)]); (try with_reducible rfl); done)); try simp only [Act.put, List.setIfInBounds_toArray, List.set_cons_zero, List.set_cons_succ])
      (refine wpAnyH_ready (rs := [6]) (by kernel_rfl) (by simp) ?_; refine ar6 (fun K hK => ?_) AllReadyH.nil; go_simp)
      (refine hK.out _ _ ⟨c13, d03, d13⟩ (fun hHeld => ?_); clear hK K; try simp only [Act.put, List.setIfInBounds_toArray, List.set_cons_zero, List.set_cons_succ])
      refine wpAnyH_done (by kernel_rfl) ?_ _
      have hrow3 := HM.out.drew.row3 HG3.out
      obtain ⟨v4, w4, hrun4, hrow4, hgrow4, hnil4, hloc4⟩ := run_append_own_at (P := Try.prog) (w := w3.drew.alloc (.cells #[.string a, .string b] 60)) 0 38 38 60 i0 _ 2 32 Try.underlying38 hi hz0 hz1 hz2 rfl (by decide) v ([] : List R2).length _ ((World.ownsRow.drew hrow3).alloc _) ⟨w3.heap.size, 0, none⟩ 1 1 [.string a, .string b] rfl (fun j u hj => by
        match j, hj with
        | 0, hj => simp at hj; subst hj; exact (cell_two_new w3.drew _ _ _).1
        | 1, hj => simp at hj; subst hj; exact (cell_two_new w3.drew _ _ _).2) (by intro u hu; simp at hu; rcases hu with rfl | rfl <;> rfl) (by unfold maxLen; omega) (by omega) (Nat.zero_le _)
      obtain ⟨sp4, l4, c4, rfl⟩ := row_slice hrow4
      have hg4 : (w3.alloc (.cells #[.string a, .string b] 60)).grownBy w4 v.ownBlock := ⟨hgrow4.os, hgrow4.tape, hgrow4.output, hgrow4.size, hgrow4.block⟩
      have HFIN : Hid (PutRg w g o F (insR ([] : List R2) (a, b)) (w4.setCell ⟨g, o, none⟩ (.slice sp4 l4 c4))) := by
        rw [insR_new HIN.out]
        exact (HM.out.drew.push HO3.out HG3.out (by rw [cellsR_app]; exact hrow4) hg4 hloc4).after HKP.out.drew HF2.out HOT.out
      have c04 := (World.cell?_of_block (a := ⟨g, o, none⟩) (HM.out.drew.g4 HG3.out hg4)).trans HM.out.drew.c0
      have f04 := (World.frozen?_of_block (a := ⟨g, o, none⟩) (HM.out.drew.g4 HG3.out hg4)).trans HM.out.drew.f0
      have hgn : g < w.heap.size := cell_lt HH.out.c0
      have x4 : w4.heap[w.heap.size]? = (w3.alloc (.cells #[.string a, .string b] 60)).heap[w.heap.size]? := hg4.block _ (by have := HG3.out.size; have e : wm.drew.heap.size = wm.heap.size := rfl; simp; omega) (fun e => HFN.out _ (HM.out.inF _ e.symm) rfl)
      have hn3 : w.heap.size < w3.heap.size := by have := HG3.out.size; have e : wm.drew.heap.size = wm.heap.size := rfl; omega
      have a03 : (w3.drew.alloc (.cells #[.string a, .string b] 60)).cell? ⟨w.heap.size, 0, none⟩ = some (.string a) := (cell_al _ _ hn3).trans d03
      have a13 : (w3.drew.alloc (.cells #[.string a, .string b] 60)).cell? ⟨w.heap.size, 1, none⟩ = some (.string b) := (cell_al _ _ hn3).trans d13
      have a0g : (w3.drew.alloc (.cells #[.string a, .string b] 60)).cell? ⟨g, o, none⟩ = some v := (cell_al _ _ (by show g < w3.heap.size; omega)).trans c03
      have a0h : (w3.alloc (.cells #[.string a, .string b] 60)).cell? ⟨g, o, none⟩ = some v := a0g
      have b03 : w4.cell? ⟨w.heap.size, 0, none⟩ = some (.string a) := (World.cell?_of_block (a := ⟨w.heap.size, 0, none⟩) x4).trans ((cell_al _ _ hn3).trans d03)
      have b13 : w4.cell? ⟨w.heap.size, 1, none⟩ = some (.string b) := (World.cell?_of_block (a := ⟨w.heap.size, 1, none⟩) x4).trans ((cell_al _ _ hn3).trans d13)
      have s03 : (w4.setCell ⟨g, o, none⟩ (.slice sp4 l4 c4)).cell? ⟨w.heap.size, 0, none⟩ = some (.string a) := (World.cell?_setCell_far w4 ⟨g, o, none⟩ ⟨w.heap.size, 0, none⟩ _ (Nat.ne_of_lt hgn)).trans b03
      have s13 : (w4.setCell ⟨g, o, none⟩ (.slice sp4 l4 c4)).cell? ⟨w.heap.size, 1, none⟩ = some (.string b) := (World.cell?_setCell_far w4 ⟨g, o, none⟩ ⟨w.heap.size, 1, none⟩ _ (Nat.ne_of_lt hgn)).trans b13
      clear hrow3 hrow4 hgrow4 hnil4 hloc4 hg4 x4 hn3 hHeld
      go_wp2
      (refine wp_region_held_drew (S := (fun W => W.cell? ⟨w.heap.size, 0, none⟩ = some (.string a) ∧ W.cell? ⟨w.heap.size, 1, none⟩ = some (.string b))) (by kernel_rfl) ⟨d03, d13⟩ (fun hHeld => ?_); simp only [List.size_toArray, List.length_cons, List.length_nil, Nat.reduceAdd, Array.replicate_succ, Array.replicate_zero, List.push_toArray, List.append_toArray, List.nil_append, List.cons_append])
      (refine tk0 (v := ?_) (by kernel_rfl) (by kernel_rfl) (by kernel_rfl) (fun _ _ _ h => h) (Or.inl ⟨by rfl, ?_⟩) (by assumption) ?_; rotate_left; (focus (intro w hSw; (try dsimp only at hSw); go_simp; (try first | (rw [dif_pos (by omega)]; simp only [Result.andThen_ok]) | rw [if_pos (by omega)]); (try with_reducible rfl); done)); try simp only [Act.put, List.setIfInBounds_toArray, List.set_cons_zero, List.set_cons_succ])
      (refine tk1 (v := ?_) (by kernel_rfl) (by kernel_rfl) (by kernel_rfl) (fun _ _ _ h => h) (Or.inl ⟨by rfl, ?_⟩) (by assumption) ?_; rotate_left; (focus (intro w hSw; (try dsimp only at hSw); go_simp; (try first | (rw [dif_pos (by omega)]; simp only [Result.andThen_ok]) | rw [if_pos (by omega)]); (try with_reducible rfl); done)); try simp only [Act.put, List.setIfInBounds_toArray, List.set_cons_zero, List.set_cons_succ])
      (refine tk2 (v := ?_) (by kernel_rfl) (by kernel_rfl) (by kernel_rfl) (fun _ _ _ h => h) (Or.inl ⟨by rfl, ?_⟩) (by assumption) ?_; rotate_left; (focus (intro w hSw; (try dsimp only at hSw); go_simp; (try first | (rw [dif_pos (by omega)]; simp only [Result.andThen_ok]) | rw [if_pos (by omega)]); (try with_reducible rfl); done)); try simp only [Act.put, List.setIfInBounds_toArray, List.set_cons_zero, List.set_cons_succ])
      (refine tk3 (v := ?_) (by kernel_rfl) (by kernel_rfl) (by kernel_rfl) (fun _ _ _ h => h) (Or.inl ⟨by rfl, ?_⟩) (by assumption) ?_; rotate_left; (focus (intro w hSw; (try dsimp only at hSw); go_simp; (try first | (rw [dif_pos (by omega)]; simp only [Result.andThen_ok]) | rw [if_pos (by omega)]); (try with_reducible rfl); done)); try simp only [Act.put, List.setIfInBounds_toArray, List.set_cons_zero, List.set_cons_succ])
      (refine tk5 (v := ?_) (by kernel_rfl) (by kernel_rfl) (by kernel_rfl) (fun _ _ _ h => h) (Or.inl ⟨by rfl, ?_⟩) (by assumption) ?_; rotate_left; (focus (intro w hSw; (try dsimp only at hSw); go_simp; (try first | (rw [dif_pos (by omega)]; simp only [Result.andThen_ok]) | rw [if_pos (by omega)]); (try with_reducible rfl); done)); try simp only [Act.put, List.setIfInBounds_toArray, List.set_cons_zero, List.set_cons_succ])
      (refine wpAnyH_ready (rs := [4, 6]) (by kernel_rfl) (by simp) ?_; refine ar4 (fun K hK => ?_) (ar6 (fun K hK => ?_) AllReadyH.nil) <;> go_simp)
      · (refine hK.out _ _ ⟨d03, d13⟩ (fun hHeld => ?_); clear hK K; try simp only [Act.put, List.setIfInBounds_toArray, List.set_cons_zero, List.set_cons_succ])
        (refine wpAnyH_ready (rs := [6]) (by kernel_rfl) (by simp) ?_; refine ar6 (fun K hK => ?_) AllReadyH.nil; go_simp)
        (refine hK.out _ _ ⟨a03, a13⟩ (fun hHeld => ?_); clear hK K; try simp only [Act.put, List.setIfInBounds_toArray, List.set_cons_zero, List.set_cons_succ])
        (refine wpAnyH_ready (rs := [7]) (by kernel_rfl) (by simp) ?_; refine ar7 (fun K hK => ?_) AllReadyH.nil; rw [if_pos (by rfl)])
        refine wp_app_run (.tmp 26) (.tmp 28) 38 (by rfl) (by rfl) (by rfl) hrun4 ?_
        (refine hK.out _ _ ⟨b03, b13⟩ (fun hHeld => ?_); clear hK K; try simp only [Act.put, List.setIfInBounds_toArray, List.set_cons_zero, List.set_cons_succ])
        (refine tk8 (v := ?_) (by kernel_rfl) (by kernel_rfl) (by kernel_rfl) (fun _ _ _ h => h) (Or.inl ⟨by rfl, ?_⟩) (by assumption) ?_; rotate_left; (focus (intro w hSw; (try dsimp only at hSw); go_simp; (try first | (rw [dif_pos (by omega)]; simp only [Result.andThen_ok]) | rw [if_pos (by omega)]); (try with_reducible rfl); done)); try simp only [Act.put, List.setIfInBounds_toArray, List.set_cons_zero, List.set_cons_succ])
        (refine tk9 (v := ?_) (by kernel_rfl) (by kernel_rfl) (by kernel_rfl) (fun _ _ _ h => h) (Or.inl ⟨by rfl, ?_⟩) (by assumption) ?_; rotate_left; (focus (intro w hSw; (try dsimp only at hSw); go_simp; (try first | (rw [dif_pos (by omega)]; simp only [Result.andThen_ok]) | rw [if_pos (by omega)]); (try with_reducible rfl); done)); try simp only [Act.put, List.setIfInBounds_toArray, List.set_cons_zero, List.set_cons_succ])
        (refine wpAnyH_ready (rs := [10]) (by kernel_rfl) (by simp) ?_; refine ar10 (fun K hK => ?_) AllReadyH.nil; go_simp)
        (refine hK.out _ _ ⟨s03, s13⟩ (fun hHeld => ?_); clear hK K; try simp only [Act.put, List.setIfInBounds_toArray, List.set_cons_zero, List.set_cons_succ])
        refine wpAnyH_done (by kernel_rfl) ?_ _
        go_wp2
        refine bodyPost_end (results_none rfl _ _ _) rfl ⟨rfl, ?_⟩
        exact HFIN.out
      · (refine hK.out _ _ ⟨a03, a13⟩ (fun hHeld => ?_); clear hK K; try simp only [Act.put, List.setIfInBounds_toArray, List.set_cons_zero, List.set_cons_succ])
        (refine wpAnyH_ready (rs := [4]) (by kernel_rfl) (by simp) ?_; refine ar4 (fun K hK => ?_) AllReadyH.nil; go_simp)
        (refine hK.out _ _ ⟨a03, a13⟩ (fun hHeld => ?_); clear hK K; try simp only [Act.put, List.setIfInBounds_toArray, List.set_cons_zero, List.set_cons_succ])
        (refine wpAnyH_ready (rs := [7]) (by kernel_rfl) (by simp) ?_; refine ar7 (fun K hK => ?_) AllReadyH.nil; rw [if_pos (by rfl)])
        refine wp_app_run (.tmp 26) (.tmp 28) 38 (by rfl) (by rfl) (by rfl) hrun4 ?_
        (refine hK.out _ _ ⟨b03, b13⟩ (fun hHeld => ?_); clear hK K; try simp only [Act.put, List.setIfInBounds_toArray, List.set_cons_zero, List.set_cons_succ])
        (refine tk8 (v := ?_) (by kernel_rfl) (by kernel_rfl) (by kernel_rfl) (fun _ _ _ h => h) (Or.inl ⟨by rfl, ?_⟩) (by assumption) ?_; rotate_left; (focus (intro w hSw; (try dsimp only at hSw); go_simp; (try first | (rw [dif_pos (by omega)]; simp only [Result.andThen_ok]) | rw [if_pos (by omega)]); (try with_reducible rfl); done)); try simp only [Act.put, List.setIfInBounds_toArray, List.set_cons_zero, List.set_cons_succ])
        (refine tk9 (v := ?_) (by kernel_rfl) (by kernel_rfl) (by kernel_rfl) (fun _ _ _ h => h) (Or.inl ⟨by rfl, ?_⟩) (by assumption) ?_; rotate_left; (focus (intro w hSw; (try dsimp only at hSw); go_simp; (try first | (rw [dif_pos (by omega)]; simp only [Result.andThen_ok]) | rw [if_pos (by omega)]); (try with_reducible rfl); done)); try simp only [Act.put, List.setIfInBounds_toArray, List.set_cons_zero, List.set_cons_succ])
        (refine wpAnyH_ready (rs := [10]) (by kernel_rfl) (by simp) ?_; refine ar10 (fun K hK => ?_) AllReadyH.nil; go_simp)
        (refine hK.out _ _ ⟨s03, s13⟩ (fun hHeld => ?_); clear hK K; try simp only [Act.put, List.setIfInBounds_toArray, List.set_cons_zero, List.set_cons_succ])
        refine wpAnyH_done (by kernel_rfl) ?_ _
        go_wp2
        refine bodyPost_end (results_none rfl _ _ _) rfl ⟨rfl, ?_⟩
        exact HFIN.out
    | some mb =>
      have c1 := h1.c1
      have hny := nilN_no mb
      have hnm : w.heap.size ≠ mb := by have := HH.out.lt mb h1.inM.1; omega
      have hltm := hlt1
      go_wp2
      obtain ⟨wm, hwm⟩ : ∃ wm, wm = w1 := ⟨_, rfl⟩
      subst hwm
      have hbw := HBW.out
      have HM : Hid (OnR wm g o v (some mb) F xs) := h1
      have HXM := HX1
      have HKP : Hid (Keeps (fun b => b = g ∨ F b) w wm) := Below.keeps hbw _
      have HF2 : Hid (∀ b, F b → F b ∨ w.heap.size ≤ b) := fun b hb => Or.inl hb
      have HFN : Hid (∀ b, F b → b ≠ w.heap.size) := fun b hb => by have := HH.out.lt b hb; omega
      have HOT : Hid (∀ j, j ≠ o → j ≠ o + 1 → wm.cell? ⟨g, j, none⟩ = w.cell? ⟨g, j, none⟩ ∧ wm.frozen? ⟨g, j, none⟩ = w.frozen? ⟨g, j, none⟩) := fun j _ _ => ⟨hbw.cell (cell_lt HH.out.c0), World.frozen?_of_block (w := w) (hbw.block g (cell_lt HH.out.c0))⟩
      clear h1 hbw hlt1
      obtain ⟨w3, hrun3, hown3, hgrow3⟩ := HM.out.drew.inM.2.2.update lawR Try.underlying39 (by unfold maxLen; omega) HK.out unitElem_mk
      have hrun3' : (Instr.mapUpdate 39 (.map (some mb)) (.agg #[.string a, .string b]) (.agg #[])).run Try.prog wm.drew = .ok () w3 := hrun3
      have x3 : w3.heap[w.heap.size]? = some (.cells #[.string a, .string b] 60 (0, 0)) := (hgrow3.block _ hltm (fun e => by injection e with e; exact hnm e)).trans HXM.out
      have c13 := (World.cell?_of_block (a := ⟨g, o + 1, none⟩) (HM.out.drew.g3 hgrow3)).trans c1
      have c03 := (World.cell?_of_block (a := ⟨g, o, none⟩) (HM.out.drew.g3 hgrow3)).trans HM.out.drew.c0
      have d0 : wm.cell? ⟨w.heap.size, 0, none⟩ = some (.string a) := by have := HXM.out; simp [World.cell?, this]
      have d1 : wm.cell? ⟨w.heap.size, 1, none⟩ = some (.string b) := by have := HXM.out; simp [World.cell?, this]
      have d03 : w3.cell? ⟨w.heap.size, 0, none⟩ = some (.string a) := by simp [World.cell?, x3]
      have d13 : w3.cell? ⟨w.heap.size, 1, none⟩ = some (.string b) := by simp [World.cell?, x3]
      have HO3 : Hid _ := hown3
      have HG3 : Hid _ := hgrow3
      clear hrun3 hown3 hgrow3 x3
      (refine wp_region_held_drew (S := (fun W => W.cell? ⟨g, o + 1, none⟩ = some (.map (some mb)) ∧ W.cell? ⟨w.heap.size, 0, none⟩ = some (.string a) ∧ W.cell? ⟨w.heap.size, 1, none⟩ = some (.string b))) (by kernel_rfl) ⟨c1, d0, d1⟩ (fun hHeld => ?_); simp only [List.size_toArray, List.length_cons, List.length_nil, Nat.reduceAdd, Array.replicate_succ, Array.replicate_zero, List.push_toArray, List.append_toArray, List.nil_append, List.cons_append])
      (refine tk0 (v := ?_) (by kernel_rfl) (by kernel_rfl) (by kernel_rfl) (fun _ _ _ h => h) (Or.inl ⟨by rfl, ?_⟩) (by assumption) ?_; rotate_left; (focus (intro w hSw; (try dsimp only at hSw); go_simp; (try first | (rw [dif_pos (by omega)]; simp only [Result.andThen_ok]) | rw [if_pos (by omega)]); (try with_reducible rfl); done)); try simp only [Act.put, List.setIfInBounds_toArray, List.set_cons_zero, List.set_cons_succ])
      (refine tk1 (v := ?_) (by kernel_rfl) (by kernel_rfl) (by kernel_rfl) (fun _ _ _ h => h) (Or.inl ⟨by rfl, ?_⟩) (by assumption) ?_; rotate_left; (focus (intro w hSw; (try dsimp only at hSw); go_simp; (try first | (rw [dif_pos (by omega)]; simp only [Result.andThen_ok]) | rw [if_pos (by omega)]); (try with_reducible rfl); done)); try simp only [Act.put, List.setIfInBounds_toArray, List.set_cons_zero, List.set_cons_succ])
      (refine tk2 (v := ?_) (by kernel_rfl) (by kernel_rfl) (by kernel_rfl) (fun _ _ _ h => h) (Or.inl ⟨by rfl, ?_⟩) (by assumption) ?_; rotate_left; (focus (intro w hSw; (try dsimp only at hSw); go_simp; (try first | (rw [dif_pos (by omega)]; simp only [Result.andThen_ok]) | rw [if_pos (by omega)]); (try with_reducible rfl); done)); try simp only [Act.put, List.setIfInBounds_toArray, List.set_cons_zero, List.set_cons_succ])
      (refine tk3 (v := ?_) (by kernel_rfl) (by kernel_rfl) (by kernel_rfl) (fun _ _ _ h => h) (Or.inl ⟨by rfl, ?_⟩) (by assumption) ?_; rotate_left; (focus (intro w hSw; (try dsimp only at hSw); go_simp; (try first | (rw [dif_pos (by omega)]; simp only [Result.andThen_ok]) | rw [if_pos (by omega)]); (try with_reducible rfl); done)); try simp only [Act.put, List.setIfInBounds_toArray, List.set_cons_zero, List.set_cons_succ])
      (refine tk4 (v := ?_) (by kernel_rfl) (by kernel_rfl) (by kernel_rfl) (fun _ _ _ h => h) (Or.inl ⟨by rfl, ?_⟩) (by assumption) ?_; rotate_left; (focus (intro w hSw; (try dsimp only at hSw); go_simp; (try first | (rw [dif_pos (by omega)]; simp only [Result.andThen_ok]) | rw [if_pos (by omega)]); (try with_reducible rfl); done)); try simp only [Act.put, List.setIfInBounds_toArray, List.set_cons_zero, List.set_cons_succ])
      (refine tk5 (v := ?_) (by kernel_rfl) (by kernel_rfl) (by kernel_rfl) (fun _ _ _ h => h) (Or.inl ⟨by rfl, ?_⟩) (by assumption) ?_; rotate_left; (focus (intro w hSw; (try dsimp only at hSw); go_simp; (try first | (rw [dif_pos (by omega)]; simp only [Result.andThen_ok]) | rw [if_pos (by omega)]); (try with_reducible rfl); done)); try simp only [Act.put, List.setIfInBounds_toArray, List.set_cons_zero, List.set_cons_succ])
      (refine wpAnyH_ready (rs := [6]) (by kernel_rfl) (by simp) ?_; refine ar6 (fun K hK => ?_) AllReadyH.nil; go_simp)
      (refine hK.out _ _ ⟨c13, d03, d13⟩ (fun hHeld => ?_); clear hK K; try simp only [Act.put, List.setIfInBounds_toArray, List.set_cons_zero, List.set_cons_succ])
      refine wpAnyH_done (by kernel_rfl) ?_ _
      have hrow3 := HM.out.drew.row3 HG3.out
      obtain ⟨v4, w4, hrun4, hrow4, hgrow4, hnil4, hloc4⟩ := run_append_own_at (P := Try.prog) (w := w3.drew.alloc (.cells #[.string a, .string b] 60)) 0 38 38 60 i0 _ 2 32 Try.underlying38 hi hz0 hz1 hz2 rfl (by decide) v xs.length _ ((World.ownsRow.drew hrow3).alloc _) ⟨w3.heap.size, 0, none⟩ 1 1 [.string a, .string b] rfl (fun j u hj => by
        match j, hj with
        | 0, hj => simp at hj; subst hj; exact (cell_two_new w3.drew _ _ _).1
        | 1, hj => simp at hj; subst hj; exact (cell_two_new w3.drew _ _ _).2) (by intro u hu; simp at hu; rcases hu with rfl | rfl <;> rfl) (by unfold maxLen; omega) (by omega) (Nat.zero_le _)
      obtain ⟨sp4, l4, c4, rfl⟩ := row_slice hrow4
      have hg4 : (w3.alloc (.cells #[.string a, .string b] 60)).grownBy w4 v.ownBlock := ⟨hgrow4.os, hgrow4.tape, hgrow4.output, hgrow4.size, hgrow4.block⟩
      have HFIN : Hid (PutRg w g o F (insR xs (a, b)) (w4.setCell ⟨g, o, none⟩ (.slice sp4 l4 c4))) := by
        rw [insR_new HIN.out]
        exact (HM.out.drew.push HO3.out HG3.out (by rw [cellsR_app]; exact hrow4) hg4 hloc4).after HKP.out.drew HF2.out HOT.out
      have c04 := (World.cell?_of_block (a := ⟨g, o, none⟩) (HM.out.drew.g4 HG3.out hg4)).trans HM.out.drew.c0
      have f04 := (World.frozen?_of_block (a := ⟨g, o, none⟩) (HM.out.drew.g4 HG3.out hg4)).trans HM.out.drew.f0
      have hgn : g < w.heap.size := cell_lt HH.out.c0
      have x4 : w4.heap[w.heap.size]? = (w3.alloc (.cells #[.string a, .string b] 60)).heap[w.heap.size]? := hg4.block _ (by have := HG3.out.size; have e : wm.drew.heap.size = wm.heap.size := rfl; simp; omega) (fun e => HFN.out _ (HM.out.inF _ e.symm) rfl)
      have hn3 : w.heap.size < w3.heap.size := by have := HG3.out.size; have e : wm.drew.heap.size = wm.heap.size := rfl; omega
      have a03 : (w3.drew.alloc (.cells #[.string a, .string b] 60)).cell? ⟨w.heap.size, 0, none⟩ = some (.string a) := (cell_al _ _ hn3).trans d03
      have a13 : (w3.drew.alloc (.cells #[.string a, .string b] 60)).cell? ⟨w.heap.size, 1, none⟩ = some (.string b) := (cell_al _ _ hn3).trans d13
      have a0g : (w3.drew.alloc (.cells #[.string a, .string b] 60)).cell? ⟨g, o, none⟩ = some v := (cell_al _ _ (by show g < w3.heap.size; omega)).trans c03
      have a0h : (w3.alloc (.cells #[.string a, .string b] 60)).cell? ⟨g, o, none⟩ = some v := a0g
      have b03 : w4.cell? ⟨w.heap.size, 0, none⟩ = some (.string a) := (World.cell?_of_block (a := ⟨w.heap.size, 0, none⟩) x4).trans ((cell_al _ _ hn3).trans d03)
      have b13 : w4.cell? ⟨w.heap.size, 1, none⟩ = some (.string b) := (World.cell?_of_block (a := ⟨w.heap.size, 1, none⟩) x4).trans ((cell_al _ _ hn3).trans d13)
      have s03 : (w4.setCell ⟨g, o, none⟩ (.slice sp4 l4 c4)).cell? ⟨w.heap.size, 0, none⟩ = some (.string a) := (World.cell?_setCell_far w4 ⟨g, o, none⟩ ⟨w.heap.size, 0, none⟩ _ (Nat.ne_of_lt hgn)).trans b03
      have s13 : (w4.setCell ⟨g, o, none⟩ (.slice sp4 l4 c4)).cell? ⟨w.heap.size, 1, none⟩ = some (.string b) := (World.cell?_setCell_far w4 ⟨g, o, none⟩ ⟨w.heap.size, 1, none⟩ _ (Nat.ne_of_lt hgn)).trans b13
      clear hrow3 hrow4 hgrow4 hnil4 hloc4 hg4 x4 hn3 hHeld
      go_wp2
      (refine wp_region_held_drew (S := (fun W => W.cell? ⟨w.heap.size, 0, none⟩ = some (.string a) ∧ W.cell? ⟨w.heap.size, 1, none⟩ = some (.string b))) (by kernel_rfl) ⟨d03, d13⟩ (fun hHeld => ?_); simp only [List.size_toArray, List.length_cons, List.length_nil, Nat.reduceAdd, Array.replicate_succ, Array.replicate_zero, List.push_toArray, List.append_toArray, List.nil_append, List.cons_append])
      (refine tk0 (v := ?_) (by kernel_rfl) (by kernel_rfl) (by kernel_rfl) (fun _ _ _ h => h) (Or.inl ⟨by rfl, ?_⟩) (by assumption) ?_; rotate_left; (focus (intro w hSw; (try dsimp only at hSw); go_simp; (try first | (rw [dif_pos (by omega)]; simp only [Result.andThen_ok]) | rw [if_pos (by omega)]); (try with_reducible rfl); done)); try simp only [Act.put, List.setIfInBounds_toArray, List.set_cons_zero, List.set_cons_succ])
      (refine tk1 (v := ?_) (by kernel_rfl) (by kernel_rfl) (by kernel_rfl) (fun _ _ _ h => h) (Or.inl ⟨by rfl, ?_⟩) (by assumption) ?_; rotate_left; (focus (intro w hSw; (try dsimp only at hSw); go_simp; (try first | (rw [dif_pos (by omega)]; simp only [Result.andThen_ok]) | rw [if_pos (by omega)]); (try with_reducible rfl); done)); try simp only [Act.put, List.setIfInBounds_toArray, List.set_cons_zero, List.set_cons_succ])
      (refine tk2 (v := ?_) (by kernel_rfl) (by kernel_rfl) (by kernel_rfl) (fun _ _ _ h => h) (Or.inl ⟨by rfl, ?_⟩) (by assumption) ?_; rotate_left; (focus (intro w hSw; (try dsimp only at hSw); go_simp; (try first | (rw [dif_pos (by omega)]; simp only [Result.andThen_ok]) | rw [if_pos (by omega)]); (try with_reducible rfl); done)); try simp only [Act.put, List.setIfInBounds_toArray, List.set_cons_zero, List.set_cons_succ])
      (refine tk3 (v := ?_) (by kernel_rfl) (by kernel_rfl) (by kernel_rfl) (fun _ _ _ h => h) (Or.inl ⟨by rfl, ?_⟩) (by assumption) ?_; rotate_left; (focus (intro w hSw; (try dsimp only at hSw); go_simp; (try first | (rw [dif_pos (by omega)]; simp only [Result.andThen_ok]) | rw [if_pos (by omega)]); (try with_reducible rfl); done)); try simp only [Act.put, List.setIfInBounds_toArray, List.set_cons_zero, List.set_cons_succ])
      (refine tk5 (v := ?_) (by kernel_rfl) (by kernel_rfl) (by kernel_rfl) (fun _ _ _ h => h) (Or.inl ⟨by rfl, ?_⟩) (by assumption) ?_; rotate_left; (focus (intro w hSw; (try dsimp only at hSw); go_simp; (try first | (rw [dif_pos (by omega)]; simp only [Result.andThen_ok]) | rw [if_pos (by omega)]); (try with_reducible rfl); done)); try simp only [Act.put, List.setIfInBounds_toArray, List.set_cons_zero, List.set_cons_succ])
      (refine wpAnyH_ready (rs := [4, 6]) (by kernel_rfl) (by simp) ?_; refine ar4 (fun K hK => ?_) (ar6 (fun K hK => ?_) AllReadyH.nil) <;> go_simp)
      · (refine hK.out _ _ ⟨d03, d13⟩ (fun hHeld => ?_); clear hK K; try simp only [Act.put, List.setIfInBounds_toArray, List.set_cons_zero, List.set_cons_succ])
        (refine wpAnyH_ready (rs := [6]) (by kernel_rfl) (by simp) ?_; refine ar6 (fun K hK => ?_) AllReadyH.nil; go_simp)
        (refine hK.out _ _ ⟨a03, a13⟩ (fun hHeld => ?_); clear hK K; try simp only [Act.put, List.setIfInBounds_toArray, List.set_cons_zero, List.set_cons_succ])
        (refine wpAnyH_ready (rs := [7]) (by kernel_rfl) (by simp) ?_; refine ar7 (fun K hK => ?_) AllReadyH.nil; rw [if_pos (by rfl)])
        refine wp_app_run (.tmp 26) (.tmp 28) 38 (by rfl) (by rfl) (by rfl) hrun4 ?_
        (refine hK.out _ _ ⟨b03, b13⟩ (fun hHeld => ?_); clear hK K; try simp only [Act.put, List.setIfInBounds_toArray, List.set_cons_zero, List.set_cons_succ])
        (refine tk8 (v := ?_) (by kernel_rfl) (by kernel_rfl) (by kernel_rfl) (fun _ _ _ h => h) (Or.inl ⟨by rfl, ?_⟩) (by assumption) ?_; rotate_left; (focus (intro w hSw; (try dsimp only at hSw); go_simp; (try first | (rw [dif_pos (by omega)]; simp only [Result.andThen_ok]) | rw [if_pos (by omega)]); (try with_reducible rfl); done)); try simp only [Act.put, List.setIfInBounds_toArray, List.set_cons_zero, List.set_cons_succ])
        (refine tk9 (v := ?_) (by kernel_rfl) (by kernel_rfl) (by kernel_rfl) (fun _ _ _ h => h) (Or.inl ⟨by rfl, ?_⟩) (by assumption) ?_; rotate_left; (focus (intro w hSw; (try dsimp only at hSw); go_simp; (try first | (rw [dif_pos (by omega)]; simp only [Result.andThen_ok]) | rw [if_pos (by omega)]); (try with_reducible rfl); done)); try simp only [Act.put, List.setIfInBounds_toArray, List.set_cons_zero, List.set_cons_succ])
        (refine wpAnyH_ready (rs := [10]) (by kernel_rfl) (by simp) ?_; refine ar10 (fun K hK => ?_) AllReadyH.nil; go_simp)
        (refine hK.out _ _ ⟨s03, s13⟩ (fun hHeld => ?_); clear hK K; try simp only [Act.put, List.setIfInBounds_toArray, List.set_cons_zero, List.set_cons_succ])
        refine wpAnyH_done (by kernel_rfl) ?_ _
        go_wp2
        refine bodyPost_end (results_none rfl _ _ _) rfl ⟨rfl, ?_⟩
        exact HFIN.out
      · (refine hK.out _ _ ⟨a03, a13⟩ (fun hHeld => ?_); clear hK K; try simp only [Act.put, List.setIfInBounds_toArray, List.set_cons_zero, List.set_cons_succ])
        (refine wpAnyH_ready (rs := [4]) (by kernel_rfl) (by simp) ?_; refine ar4 (fun K hK => ?_) AllReadyH.nil; go_simp)
        (refine hK.out _ _ ⟨a03, a13⟩ (fun hHeld => ?_); clear hK K; try simp only [Act.put, List.setIfInBounds_toArray, List.set_cons_zero, List.set_cons_succ])
        (refine wpAnyH_ready (rs := [7]) (by kernel_rfl) (by simp) ?_; refine ar7 (fun K hK => ?_) AllReadyH.nil; rw [if_pos (by rfl)])
        refine wp_app_run (.tmp 26) (.tmp 28) 38 (by rfl) (by rfl) (by rfl) hrun4 ?_
        (refine hK.out _ _ ⟨b03, b13⟩ (fun hHeld => ?_); clear hK K; try simp only [Act.put, List.setIfInBounds_toArray, List.set_cons_zero, List.set_cons_succ])
        (refine tk8 (v := ?_) (by kernel_rfl) (by kernel_rfl) (by kernel_rfl) (fun _ _ _ h => h) (Or.inl ⟨by rfl, ?_⟩) (by assumption) ?_; rotate_left; (focus (intro w hSw; (try dsimp only at hSw); go_simp; (try first | (rw [dif_pos (by omega)]; simp only [Result.andThen_ok]) | rw [if_pos (by omega)]); (try with_reducible rfl); done)); try simp only [Act.put, List.setIfInBounds_toArray, List.set_cons_zero, List.set_cons_succ])
        (refine tk9 (v := ?_) (by kernel_rfl) (by kernel_rfl) (by kernel_rfl) (fun _ _ _ h => h) (Or.inl ⟨by rfl, ?_⟩) (by assumption) ?_; rotate_left; (focus (intro w hSw; (try dsimp only at hSw); go_simp; (try first | (rw [dif_pos (by omega)]; simp only [Result.andThen_ok]) | rw [if_pos (by omega)]); (try with_reducible rfl); done)); try simp only [Act.put, List.setIfInBounds_toArray, List.set_cons_zero, List.set_cons_succ])
        (refine wpAnyH_ready (rs := [10]) (by kernel_rfl) (by simp) ?_; refine ar10 (fun K hK => ?_) AllReadyH.nil; go_simp)
        (refine hK.out _ _ ⟨s03, s13⟩ (fun hHeld => ?_); clear hK K; try simp only [Act.put, List.setIfInBounds_toArray, List.set_cons_zero, List.set_cons_succ])
        refine wpAnyH_done (by kernel_rfl) ?_ _
        go_wp2
        refine bodyPost_end (results_none rfl _ _ _) rfl ⟨rfl, ?_⟩
        exact HFIN.out
  · go_wp2
    refine bodyPost_ret (results_none rfl _ _ _) rfl ⟨rfl, ?_⟩
    rw [insR_old hin]
    exact Put.same HH.out HBW.out
end Go.Proofs.Ytoojfoeehdoeoaa
