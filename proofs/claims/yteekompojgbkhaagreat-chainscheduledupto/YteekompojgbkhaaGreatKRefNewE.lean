import Derived.Test.YteekompojgbkhaaGreatKReJ
import Derived.Test.YteekompojgbkhaaGreatKReF
import Derived.Test.YteekompojgbkhaaGreatKOwnIE
namespace Go.Proofs.YteekompojgbkhaaGreat
set_option linter.unusedSimpArgs false
open Go.ChangeShapes Go.WideShapes Go.ChangeAt Go.RowKit Go.MuLone Go.RwLone
set_option linter.unusedVariables false
set_option maxRecDepth 100000
set_option maxHeartbeats 6400000
theorem arn_told (L : Lay) (S : AS) (w : World) (h : Holds w L S) (hg : S.g0 = 0) (hr : S.rc = 0) : Calls Tryz.prog 123 #[.pointer (some ⟨L.b, 0, none⟩), .pointer (some ⟨L.b, 14, none⟩)] w fun e w' => e = .returned (.int .i64 S.acc) ∧ Holds w' L { S with g0 := 0, rc := 0 } ∧ Keeps L.has w w' := by
  have H : Hid (Holds w L S) := h
  clear h
  go_enter_defers Tryz.func123, Tryz.ntmps123
  go_wp2_with fail
  refine (gate_lock H.out hg hr).mono ?_
  rintro e w1 ⟨rfl, h1, k1⟩
  have H1 : Hid (Holds w1 L { S with g0 := 1, rc := -1073741824 } ∧ Keeps L.has w w1) := ⟨h1, k1⟩
  have HA : Hid (∀ _ : Unit, _) := fun _ => i64_load ⟨L.b, 14, none⟩ S.acc w1 h1.c14
  clear h1 k1 H
  go_wp2_with fail
  refine (HA.out ()).mono ?_
  rintro e w2 ⟨rfl, rfl⟩
  go_wp2_with fail
  refine leaves_cons (f := 129) (args := #[.pointer (some ⟨L.b, 3, none⟩)]) (by simp) (by simp [go_sem]) ?_
  refine (gate_unlockD H1.out.1 rfl rfl .returning).mono ?_
  rintro e u' w3 ⟨rfl, rfl, h3, k3⟩
  exact ⟨_, results_tmp rfl _ _ _, rfl, h3, H1.out.2.trans k3⟩
theorem arn_shape (L : Lay) (S : AS) (w : World) (h : Holds w L S) : Calls Tryz.prog 58 #[.pointer (some ⟨L.b, 0, none⟩)] w fun e w' => e = .returned (.tuple #[.int .i64 (S.n : Int), .int .i64 (S.wd : Int)]) ∧ w' = w.drew := by
  have HM : Hid (∀ _ : Unit, _) := fun _ => missing_holds2 h
  have sx : w.drew.cell? ⟨L.b, 1, none⟩ = some (.slice (some ⟨L.s, 0, none⟩) S.n S.n) ∧ w.drew.cell? ⟨L.b, 0, none⟩ = some (.int .i64 (S.wd : Int)) := ⟨h.c1, h.c0⟩
  clear h
  go_enter Tryz.func58, Tryz.ntmps58
  go_wp2_with fail
  refine (HM.out ()).mono ?_
  rintro e w1 ⟨rfl, hw1⟩
  rw [hw1]
  clear hw1 w1 HM
  go_wp2_with fail
  (refine wp_region_held_drew (S := (fun Z => Z.cell? ⟨L.b, 1, none⟩ = some (.slice (some ⟨L.s, 0, none⟩) S.n S.n) ∧ Z.cell? ⟨L.b, 0, none⟩ = some (.int .i64 (S.wd : Int)))) (by kernel_rfl) sx (fun hHeld => ?_); simp only [List.size_toArray, List.length_cons, List.length_nil, Nat.reduceAdd, Array.replicate_succ, Array.replicate_zero, List.push_toArray, List.append_toArray, List.nil_append, List.cons_append])
  clear sx
  refine rgT 0 (h := ?_)
  refine rgT 1 (h := ?_)
  refine rgT 2 (h := ?_)
  refine rgT 3 (h := ?_)
  refine rgT 4 (h := ?_)
  refine rgT 5 (h := ?_)
  refine rgT 6 (h := ?_)
  refine rgT 7 (h := ?_)
  refine rgT 8 (h := ?_)
  refine rgT 9 (h := ?_)
  refine rgT 10 (h := ?_)
  refine wpAnyH_done (by kernel_rfl) ?_ _
  clear hHeld
  go_wp2
  go_ret2
  exact ⟨rfl, rfl⟩
theorem ix_new_b0 (L : Lay) (S : AS) (w : World) (h : Holds w L S) (c b : Int) (hc0 : ¬ c < 0) (hc : ¬ c ≥ (S.wd : Int)) (hb : b < 1) : Calls Tryz.prog 35 #[.pointer (some ⟨L.b, 0, none⟩), .int .i64 c, .int .i64 b] w fun e w' => e = .returned (.tuple #[.pointer none, .int .i64 40]) ∧ w' = w.drew := by
  have HS : Hid (∀ _ : Unit, _) := fun _ => arn_shape L S w h
  clear h
  go_enter Tryz.func35, Tryz.ntmps35
  go_wp2_with fail
  refine (HS.out ()).mono ?_
  rintro e w1 ⟨rfl, hw1⟩
  rw [hw1]
  clear hw1 w1 HS
  go_wp2
  go_ret2
  exact ⟨rfl, rfl⟩
/-- An index just made. -/
def hdZ (j : Nat) : Int := 2 * (4097 + (j : Int))
def freshX (c nb : Nat) : XS := ⟨c, nb, hdZ, 0⟩
def midX (c nb t : Nat) : XS := ⟨c, nb, fun j => if j < t then hdZ j else 0, 0⟩
theorem ix_new (L : Lay) (S : AS) (w : World) (h : Holds w L S) (c nb : Nat) (hc : c < S.wd) (hb : 1 ≤ nb ∧ nb ≤ 256) : Calls Tryz.prog 35 #[.pointer (some ⟨L.b, 0, none⟩), .int .i64 (c : Int), .int .i64 (nb : Int)] w fun e w' => ∃ X : XL, e = .returned (.tuple #[.pointer (some ⟨X.x, 0, none⟩), .int .i64 0]) ∧ (w.heap.size ≤ X.x ∧ w.heap.size ≤ X.h) ∧ IxH w' L.b X (freshX c nb) ∧ Below w.heap.size w w' := by
  have HS : Hid (∀ _ : Unit, _) := fun _ => arn_shape L S w h
  have c0 : ¬ (c : Int) < 0 := by omega
  have c1 : ¬ (c : Int) ≥ (S.wd : Int) := by omega
  have b0 : ¬ (nb : Int) < 1 := by omega
  have b1 : ¬ (nb : Int) > 256 := by omega
  have hmk := run_make_any (P := Tryz.prog) 122 148 _ 1 8 Tryz.underlying122 infoU nb (by omega) (by omega) w.drew
  rw [Nat.mul_one] at hmk
  obtain ⟨W1, hW1⟩ : ∃ W, ((w.alloc (arU nb)).alloc (.cells #[.pointer (some ⟨L.b, 0, none⟩), .int .i64 (c : Int), .slice (some ⟨w.heap.size, 0, none⟩) nb nb, .int .i64 0] 146)).drew = W := ⟨_, rfl⟩
  have H1 : Hid (IxH W1 L.b ⟨w.heap.size + 1, w.heap.size⟩ (midX c nb 0) ∧ Below w.heap.size w W1) := by
    have g1 := heap_alloc_new w (arU nb)
    have g2 := heap_alloc_new (w.alloc (arU nb)) (.cells #[.pointer (some ⟨L.b, 0, none⟩), .int .i64 (c : Int), .slice (some ⟨w.heap.size, 0, none⟩) nb nb, .int .i64 0] 146)
    have e1 : (w.alloc (arU nb)).heap.size = w.heap.size + 1 := by simp
    rw [e1] at g2
    have g3 : W1.heap[w.heap.size + 1]? = some (.cells #[.pointer (some ⟨L.b, 0, none⟩), .int .i64 (c : Int), .slice (some ⟨w.heap.size, 0, none⟩) nb nb, .int .i64 0] 146) := by rw [← hW1]; exact g2
    have g4 : W1.heap[w.heap.size]? = some (arU nb) := by
      rw [← hW1]
      show ((w.alloc (arU nb)).alloc _).heap[w.heap.size]? = _
      rw [Below.heap_alloc _ _ _ (by rw [e1]; omega)]
      exact g1
    refine ⟨⟨(cell?_heap g3 0).trans rfl, (cell?_heap g3 1).trans rfl, (cell?_heap g3 2).trans rfl, (cell?_heap g3 3).trans rfl, fun b hb' => ?_, fun g j hg => ?_, lt_heap g3, lt_heap g4, by show w.heap.size + 1 ≠ w.heap.size; omega, hb⟩, ?_⟩
    · have hb' : b < nb := hb'
      show W1.cell? ⟨w.heap.size, b, none⟩ = some (.int .u64 (if b < 0 then hdZ b else 0))
      rw [cell?_heap g4, getElem?_made _ _ _ hb', if_neg (by omega)]
      simp [Nat.mod_one]
    · rcases hg with rfl | rfl
      · exact frozen?_heap g3 j
      · exact frozen?_heap g4 j
    · rw [← hW1]
      exact ((((Below.refl _ _).alloc (by simp) _).alloc (by simp) _).drew)
  clear h
  go_enter Tryz.func35, Tryz.ntmps35
  go_wp2_with fail
  refine (HS.out ()).mono ?_
  rintro e w1 ⟨rfl, hw1⟩
  rw [hw1]
  clear hw1 w1 HS
  have c2 := H1.out.1.c2
  go_wp2_with fail
  clear hmk c2
  go_loopw [43] (fun i wr => ∃ t : Nat, t ≤ nb ∧ i = .int .i64 (t : Int) ∧ IxH wr L.b ⟨w.heap.size + 1, w.heap.size⟩ (midX c nb t) ∧ Below w.heap.size w wr) (fun i _ => nb - (intOf i).toNat)
  case atStart => exact ⟨0, by omega, rfl, H1.out⟩
  case round =>
    obtain ⟨t, ht, rfl, hI, hB⟩ := hrel
    clear hW1
    by_cases h5 : t < nb
    · have t0 : (0 : Int) ≤ (t : Int) := Int.natCast_nonneg _
      have t1 : (t : Int) < (nb : Int) := by omega
      have HI : Hid (IxH wr.drew L.b ⟨w.heap.size + 1, w.heap.size⟩ (midX c nb t) ∧ Below w.heap.size w wr.drew) := ⟨hI.keeps ((Keeps.refl (fun _ => False) _).drew) (fun _ _ e => e), hB.drew⟩
      have sx : wr.drew.cell? ⟨w.heap.size + 1, 2, none⟩ = some (.slice (some ⟨w.heap.size, 0, none⟩) nb nb) := HI.out.1.c2
      have HE : Hid (∀ W : World, Calls Tryz.prog 61 #[.int .i64 (t : Int)] W fun e w' => e = .returned (.int .i64 (4097 + (t : Int))) ∧ w' = W) := fun W => end_of (t : Int) W (by omega) (by omega)
      have HK : Hid (∀ W : World, Calls Tryz.prog 60 #[.int .i64 (4097 + (t : Int))] W fun e w' => e = .returned (.int .u64 (2 * (4097 + (t : Int)))) ∧ w' = W) := fun W => lkof_any (4097 + (t : Int)) W (by omega) (by omega)
      clear hI hB
      go_wp2_with fail
      (refine wp_region_held_drew (S := (fun Z => Z.cell? ⟨w.heap.size + 1, 2, none⟩ = some (.slice (some ⟨w.heap.size, 0, none⟩) nb nb))) (by kernel_rfl) sx (fun hHeld => ?_); simp only [List.size_toArray, List.length_cons, List.length_nil, Nat.reduceAdd, Array.replicate_succ, Array.replicate_zero, List.push_toArray, List.append_toArray, List.nil_append, List.cons_append])
      clear sx
      generalize wr.drew = wd at *
      refine rgT 0 (h := ?_)
      refine rgT 1 (h := ?_)
      refine rgT 2 (h := ?_)
      refine rgT 3 (h := ?_)
      refine rgT 4 (h := ?_)
      refine rgT 5 (h := ?_)
      refine rgT 6 (h := ?_)
      (refine rgS 7 (h := fun K hK => ?_); go_simp)
      refine (HE.out wd).mono ?_
      rintro e w1 ⟨rfl, hw1⟩
      rw [hw1]
      clear hw1 w1
      (refine hK.out _ _ hHeld (fun hHeld => ?_); clear hK K; try simp only [Act.put, List.setIfInBounds_toArray, List.set_cons_zero, List.set_cons_succ])
      (refine rgS 8 (h := fun K hK => ?_); go_simp)
      refine (HK.out wd).mono ?_
      rintro e w1 ⟨rfl, hw1⟩
      rw [hw1]
      clear hw1 w1
      (refine hK.out _ _ hHeld (fun hHeld => ?_); clear hK K; try simp only [Act.put, List.setIfInBounds_toArray, List.set_cons_zero, List.set_cons_succ])
      have HU : Hid (∀ _ : Unit, _) := fun _ => u64_store ⟨w.heap.size, t, none⟩ _ (2 * (4097 + (t : Int))) wd (HI.out.1.hd t h5) (HI.out.1.f w.heap.size t (.inr rfl))
      have HN : Hid (IxH (wd.setCell ⟨w.heap.size, t, none⟩ (.int .u64 (2 * (4097 + (t : Int))))) L.b ⟨w.heap.size + 1, w.heap.size⟩ (midX c nb (t + 1)) ∧ Below w.heap.size w (wd.setCell ⟨w.heap.size, t, none⟩ (.int .u64 (2 * (4097 + (t : Int)))))) := by
        refine ⟨?_, HI.out.2.setCell (p := ⟨w.heap.size, t, none⟩) (Nat.le_refl _) _⟩
        have hs := HI.out.1.setHd t h5 (2 * (4097 + (t : Int)))
        refine ⟨hs.c0, hs.c1, hs.c2, hs.c3, fun b hb' => ?_, hs.f, hs.lx, hs.lh, hs.ne, hs.nb⟩
        refine (hs.hd b hb').trans ?_
        show some (Value.int .u64 (upd (midX c nb t).hd t (2 * (4097 + (t : Int))) b)) = some (.int .u64 (if b < t + 1 then hdZ b else 0))
        by_cases e : b = t
        · subst e
          rw [upd_same, if_pos (by omega)]
          rfl
        · rw [upd_other _ _ e]
          show some (Value.int .u64 (if b < t then hdZ b else 0)) = _
          by_cases e2 : b < t
          · rw [if_pos e2, if_pos (by omega)]
          · rw [if_neg e2, if_neg (by omega)]
      (refine rgS 9 (h := fun K hK => ?_); go_simp)
      refine (HU.out ()).mono ?_
      rintro e w1 ⟨rfl, hw1⟩
      rw [hw1]
      clear hw1 w1 HU
      (refine hK.out _ _ HN.out.1.c2 (fun hHeld => ?_); clear hK K; try simp only [Act.put, List.setIfInBounds_toArray, List.set_cons_zero, List.set_cons_succ])
      refine wpAnyH_done (by kernel_rfl) ?_ _
      go_wp2
      go_roundw
      case rel => exact ⟨t + 1, by omega, by go_num, HN.out⟩
      case measure => simp [intOf]; omega
    · have e5 : t = nb := by omega
      subst e5
      have HF : Hid (IxH wr L.b ⟨w.heap.size + 1, w.heap.size⟩ (freshX c t) ∧ Below w.heap.size w wr) := by
        refine ⟨⟨hI.c0, hI.c1, hI.c2, hI.c3, fun b hb' => ?_, hI.f, hI.lx, hI.lh, hI.ne, hI.nb⟩, hB⟩
        have hb' : b < t := hb'
        refine (hI.hd b hb').trans ?_
        show some (Value.int .u64 (if b < t then hdZ b else 0)) = some (.int .u64 (hdZ b))
        rw [if_pos hb']
      clear hI hB
      go_wp2
      go_ret2
      exact ⟨⟨w.heap.size + 1, w.heap.size⟩, rfl, ⟨by show w.heap.size ≤ w.heap.size + 1; omega, Nat.le_refl _⟩, HF.out⟩
end Go.Proofs.YteekompojgbkhaaGreat

namespace Go.Proofs.YteekompojgbkhaaGreat
set_option linter.unusedSimpArgs false
open Go.ChangeShapes Go.WideShapes Go.ChangeAt Go.RowKit Go.MuLone Go.RwLone
set_option linter.unusedVariables false
set_option maxRecDepth 100000
set_option maxHeartbeats 6400000
/-- The document's index while it is made. -/
structure RxN (w W : World) (ab c t : Nat) (v : Value) : Prop where
  c0 : W.cell? ⟨w.heap.size, 0, none⟩ = some (.pointer (some ⟨ab, 0, none⟩))
  c1 : W.cell? ⟨w.heap.size, 1, none⟩ = some (.int .i64 (c : Int))
  c2 : W.cell? ⟨w.heap.size, 2, none⟩ = some v
  c3 : W.cell? ⟨w.heap.size, 3, none⟩ = some (.int .i64 0)
  fz : ∀ j, W.frozen? ⟨w.heap.size, j, none⟩ = false
  o : OwW W (w.heap.size + 1) v ((List.range t).map hdZ)
  b : Below w.heap.size w W
  l : w.heap.size < W.heap.size
theorem RxN.next {w W w2 : World} {ab c t : Nat} {v v' : Value} (h : RxN w W ab c t v) (ho : OwW w2 (w.heap.size + 1) v' ((List.range t).map hdZ ++ [hdZ t])) (hb : Below (w.heap.size + 1) W w2) : RxN w (w2.setCell ⟨w.heap.size, 2, none⟩ v') ab c (t + 1) v' := by
  have cc : ∀ j, w2.cell? ⟨w.heap.size, j, none⟩ = W.cell? ⟨w.heap.size, j, none⟩ := fun j => hb.cell (p := ⟨w.heap.size, j, none⟩) (by show w.heap.size < w.heap.size + 1; omega)
  have hne : ∀ j, j ≠ 2 → (w2.setCell ⟨w.heap.size, 2, none⟩ v').cell? ⟨w.heap.size, j, none⟩ = w2.cell? ⟨w.heap.size, j, none⟩ := fun j hj => World.cell?_setCell_other _ _ _ _ (fun e => hj (congrArg Addr.off e).symm)
  refine ⟨(hne 0 (by decide)).trans ((cc 0).trans h.c0), (hne 1 (by decide)).trans ((cc 1).trans h.c1), World.cell?_setCell_same _ _ _ ((cc 2).trans h.c2), (hne 3 (by decide)).trans ((cc 3).trans h.c3), fun j => ?_, ?_, (h.b.trans (Below.mono hb (show w.heap.size ≤ w.heap.size + 1 by omega))).setCell (p := ⟨w.heap.size, 2, none⟩) (Nat.le_refl _) _, ?_⟩
  · have := (hb.frozen (p := ⟨w.heap.size, j, none⟩) (by show w.heap.size < w.heap.size + 1; omega)).trans (h.fz j)
    simpa using this
  · rw [List.range_succ, List.map_append]
    exact ho.set (p := ⟨w.heap.size, 2, none⟩) (by show w.heap.size < w.heap.size + 1; omega) _
  · have := hb.size
    have := h.l
    simp
    omega
end Go.Proofs.YteekompojgbkhaaGreat

namespace Go.Proofs.YteekompojgbkhaaGreat
open Go.ChangeShapes Go.WideShapes Go.ChangeAt Go.RowKit
set_option linter.unusedVariables false
/-- A document's slot as made. -/
def zSlot : List Value := [.bool false, .string ⟨#[]⟩, .string ⟨#[]⟩, .int .i64 0, .slice none 0 0, .int .i64 0]
def ownSl (w : World) (B : Nat) (v : Value) (m : Nat) (xs : List Value) : Prop := w.ownsRow B 230 6 v m xs
theorem rows_ne {w : World} {B B' e e' k k' n n' : Nat} {v v' : Value} {xs xs' : List Value} (h : w.ownsRow B e k v n xs) (h' : w.ownsRow B' e' k' v' n' xs') (he : e ≠ e') : v.ownBlock = none ∨ v.ownBlock ≠ v'.ownBlock := by
  rcases h.2 with ⟨rfl, _⟩ | ⟨g, cap, cur, rfl, _, h1, _⟩
  · exact Or.inl rfl
  · refine Or.inr fun e1 => ?_
    rcases h'.2 with ⟨rfl, _⟩ | ⟨g', cap', cur', rfl, _, h2, _⟩
    · cases e1
    · have : g = g' := by injection e1
      subst this
      rw [h1] at h2
      injection h2 with h2
      injection h2 with _ h3 _
      exact he h3
theorem ownSl.form {w : World} {B m : Nat} {v : Value} {xs : List Value} (h : ownSl w B v (m + 1) xs) : ∃ g cap, v = .slice (some ⟨g, 0, none⟩) (m + 1) cap := by
  rcases h.2 with ⟨_, h0⟩ | ⟨g, cap, cur, rfl, _⟩
  · omega
  · exact ⟨g, cap, rfl⟩
/-- The document's arena while it is made: it has m slots (the first is none), t numbers in its queue. -/
structure RefN (w : World) (rb wd m t : Nat) (vS vQ : Value) (W : World) : Prop where
  c0 : W.cell? ⟨rb, 0, none⟩ = some (.int .i64 (wd : Int))
  c1 : W.cell? ⟨rb, 1, none⟩ = some vS
  c2 : W.cell? ⟨rb, 2, none⟩ = some vQ
  fz : ∀ j, W.frozen? ⟨rb, j, none⟩ = false
  oS : ∃ ss, ownSl W (rb + 1) vS m ss
  oQ : ∃ qs, ownI W (rb + 1) vQ qs ∧ qs.length = t
  low : Below w.heap.size w W
  hb : w.heap.size ≤ rb
  lt : rb + 1 ≤ W.heap.size
theorem RefN.at {w W w2 : World} {rb wd m t : Nat} {vS vQ : Value} (h : RefN w rb wd m t vS vQ W) (hb : Below (rb + 1) W w2) : (∀ j, w2.cell? ⟨rb, j, none⟩ = W.cell? ⟨rb, j, none⟩) ∧ (∀ j, w2.frozen? ⟨rb, j, none⟩ = false) :=
  ⟨fun j => hb.cell (p := ⟨rb, j, none⟩) (by show rb < rb + 1; omega), fun j => (hb.frozen (p := ⟨rb, j, none⟩) (by show rb < rb + 1; omega)).trans (h.fz j)⟩
theorem RefN.slot {w W w2 : World} {rb wd m t : Nat} {vS vQ v' : Value} {ss : List Value} (h : RefN w rb wd m t vS vQ W) (ho : ownSl w2 (rb + 1) v' (m + 1) ss) (hb : Below (rb + 1) W w2) (hq : ∀ vQ qs, ownI W (rb + 1) vQ qs → ownI w2 (rb + 1) vQ qs) : RefN w rb wd (m + 1) t v' vQ (w2.setCell ⟨rb, 1, none⟩ v') := by
  obtain ⟨cc, cf⟩ := h.at hb
  have hne : ∀ j, j ≠ 1 → (w2.setCell ⟨rb, 1, none⟩ v').cell? ⟨rb, j, none⟩ = w2.cell? ⟨rb, j, none⟩ := fun j hj => World.cell?_setCell_other _ _ _ _ (fun e => hj (congrArg Addr.off e).symm)
  obtain ⟨qs, q1, q2⟩ := h.oQ
  refine ⟨(hne 0 (by decide)).trans ((cc 0).trans h.c0), World.cell?_setCell_same _ _ _ ((cc 1).trans h.c1), (hne 2 (by decide)).trans ((cc 2).trans h.c2), fun j => by simpa using cf j, ⟨ss, ownsRow_setCell_below ho (a := ⟨rb, 1, none⟩) (by show rb < rb + 1; omega) _⟩, ⟨qs, ownsRow_setCell_below (hq vQ qs q1) (a := ⟨rb, 1, none⟩) (by show rb < rb + 1; omega) _, q2⟩, (h.low.trans (hb.mono (by have := h.hb; omega))).setCell (p := ⟨rb, 1, none⟩) h.hb _, h.hb, ?_⟩
  have := hb.size
  have := h.lt
  simp
  omega
theorem RefN.que {w W w2 : World} {rb wd m t : Nat} {vS vQ v' : Value} {qs : List Int} {c : Int} (h : RefN w rb wd m t vS vQ W) (ho : ownI w2 (rb + 1) v' (qs ++ [c])) (hl : qs.length = t) (hb : Below (rb + 1) W w2) (hq : ∀ vS m ss, ownSl W (rb + 1) vS m ss → ownSl w2 (rb + 1) vS m ss) : RefN w rb wd m (t + 1) vS v' (w2.setCell ⟨rb, 2, none⟩ v') := by
  obtain ⟨cc, cf⟩ := h.at hb
  have hne : ∀ j, j ≠ 2 → (w2.setCell ⟨rb, 2, none⟩ v').cell? ⟨rb, j, none⟩ = w2.cell? ⟨rb, j, none⟩ := fun j hj => World.cell?_setCell_other _ _ _ _ (fun e => hj (congrArg Addr.off e).symm)
  obtain ⟨ss, q1⟩ := h.oS
  refine ⟨(hne 0 (by decide)).trans ((cc 0).trans h.c0), (hne 1 (by decide)).trans ((cc 1).trans h.c1), World.cell?_setCell_same _ _ _ ((cc 2).trans h.c2), fun j => by simpa using cf j, ⟨ss, ownsRow_setCell_below (hq vS m ss q1) (a := ⟨rb, 2, none⟩) (by show rb < rb + 1; omega) _⟩, ⟨qs ++ [c], ownsRow_setCell_below ho (a := ⟨rb, 2, none⟩) (by show rb < rb + 1; omega) _, by simp [hl]⟩, (h.low.trans (hb.mono (by have := h.hb; omega))).setCell (p := ⟨rb, 2, none⟩) h.hb _, h.hb, ?_⟩
  have := hb.size
  have := h.lt
  simp
  omega
theorem RefN.start (w : World) (wd : Nat) : RefN w w.heap.size wd 0 0 (.slice none 0 0) (.slice none 0 0) (w.alloc (.cells #[.int .i64 (wd : Int), .slice none 0 0, .slice none 0 0, .int .i64 0, .int .i64 0] 228)) := by
  have hg := heap_alloc_new w (.cells #[.int .i64 (wd : Int), .slice none 0 0, .slice none 0 0, .int .i64 0, .int .i64 0] 228)
  exact ⟨(cell?_heap hg 0).trans rfl, (cell?_heap hg 1).trans rfl, (cell?_heap hg 2).trans rfl, fun j => frozen?_heap hg j, ⟨[], World.ownsRow_nil _ _ _ _⟩, ⟨[], ownI_nil _ _, rfl⟩, (Below.refl _ _).alloc (Nat.le_refl _) _, Nat.le_refl _, by simp⟩
theorem ownI.sl {w : World} {B : Nat} {v : Value} {xs : List Int} (h : ownI w B v xs) : ∃ sp len cap, v = .slice sp len cap := by
  rcases h.2 with ⟨rfl, _⟩ | ⟨g, cap, cur, rfl, _⟩
  · exact ⟨none, 0, 0, rfl⟩
  · exact ⟨_, _, _, rfl⟩
end Go.Proofs.YteekompojgbkhaaGreat
