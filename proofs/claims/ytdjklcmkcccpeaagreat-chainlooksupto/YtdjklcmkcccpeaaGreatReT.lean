import Derived.Test.YtdjklcmkcccpeaaGreatReK
import Derived.Test.YtdjklcmkcccpeaaGreatOwnIE
import Derived.Test.YtdjklcmkcccpeaaGreatRdA
import Derived.Test.YtdjklcmkcccpeaaGreatRbE
namespace Go.Proofs.YtdjklcmkcccpeaaGreat
set_option linter.unusedSimpArgs false
open Go.ChangeShapes Go.WideShapes Go.ChangeAt Go.RowKit Go.MuLone Go.RwLone
set_option linter.unusedVariables false
set_option maxRecDepth 100000
set_option maxHeartbeats 6400000
theorem arn_told (L : Lay) (S : AS) (w : World) (h : Holds w L S) (hg : S.g0 = 0) (hr : S.rc = 0) : Calls Tryz.prog 139 #[.pointer (some ⟨L.b, 0, none⟩), .pointer (some ⟨L.b, 14, none⟩)] w fun e w' => e = .returned (.int .i64 S.acc) ∧ Holds w' L { S with g0 := 0, rc := 0 } ∧ Keeps L.has w w' := by
  have H : Hid (Holds w L S) := h
  clear h
  go_enter_defers Tryz.func139, Tryz.ntmps139
  go_wp2_with fail
  refine (gate_lock H.out hg hr).mono ?_
  rintro e w1 ⟨rfl, h1, k1⟩
  have H1 : Hid (Holds w1 L { S with g0 := 1, rc := -1073741824 } ∧ Keeps L.has w w1) := ⟨h1, k1⟩
  have HA : Hid (∀ _ : Unit, _) := fun _ => i64_load ⟨L.b, 14, none⟩ S.acc w1 h1.c14
  clear h1 k1 H
  go_wp2_with fail
  refine (HA.out ()).mono ?_
  rintro e w2 ⟨rfl, rfl⟩
  go_wp2_with fail
  refine leaves_cons (f := 137) (args := #[.pointer (some ⟨L.b, 3, none⟩)]) (by simp) (by simp [go_sem]) ?_
  refine (gate_unlockD H1.out.1 rfl rfl .returning).mono ?_
  rintro e u' w3 ⟨rfl, rfl, h3, k3⟩
  exact ⟨_, results_tmp rfl _ _ _, rfl, h3, H1.out.2.trans k3⟩
theorem arn_accesses (L : Lay) (S : AS) (w : World) (Q : List Nat) (h : Arn w L Q S) : Calls Tryz.prog 85 #[.pointer (some ⟨L.b, 0, none⟩)] w fun e w' => e = .returned (.int .i64 S.acc) ∧ Arn w' L Q S ∧ Keeps L.has w w' := by
  have HM : Hid (∀ _ : Unit, _) := fun _ => missing_holds2 h.h
  have HT : Hid (∀ _ : Unit, _) := fun _ => arn_told L S w h.h h.g0 h.rc
  have HA : Hid (Arn w L Q S) := h
  clear h
  go_enter Tryz.func85, Tryz.ntmps85
  go_wp2_with fail
  refine (HM.out ()).mono ?_
  rintro e w1 ⟨rfl, hw1⟩
  rw [hw1]
  clear hw1 w1 HM
  go_wp2_with fail
  refine (HT.out ()).mono ?_
  rintro e w1 ⟨rfl, h1, k1⟩
  have H1 : Hid (Arn w1 L Q S ∧ Keeps L.has w w1) := by
    rw [eta_gr S HA.out.g0 HA.out.rc] at h1
    exact ⟨HA.out.same h1 rfl rfl rfl rfl rfl rfl rfl rfl, k1⟩
  clear h1 k1 HT HA
  go_wp2
  go_ret
  exact ⟨rfl, H1.out⟩
theorem arn_shape (L : Lay) (S : AS) (w : World) (h : Holds w L S) : Calls Tryz.prog 62 #[.pointer (some ⟨L.b, 0, none⟩)] w fun e w' => e = .returned (.tuple #[.int .i64 (S.n : Int), .int .i64 (S.wd : Int)]) ∧ w' = w.drew := by
  have HM : Hid (∀ _ : Unit, _) := fun _ => missing_holds2 h
  have sx : w.drew.cell? ⟨L.b, 1, none⟩ = some (.slice (some ⟨L.s, 0, none⟩) S.n S.n) ∧ w.drew.cell? ⟨L.b, 0, none⟩ = some (.int .i64 (S.wd : Int)) := ⟨h.c1, h.c0⟩
  clear h
  go_enter Tryz.func62, Tryz.ntmps62
  go_wp2_with fail
  refine (HM.out ()).mono ?_
  rintro e w1 ⟨rfl, hw1⟩
  rw [hw1]
  clear hw1 w1 HM
  go_wp2_with fail
  (refine wp_region_held_drew (S := (fun Z => Z.cell? ⟨L.b, 1, none⟩ = some (.slice (some ⟨L.s, 0, none⟩) S.n S.n) ∧ Z.cell? ⟨L.b, 0, none⟩ = some (.int .i64 (S.wd : Int)))) (by kernel_rfl) sx (fun hHeld => ?_); simp only [List.size_toArray, List.length_cons, List.length_nil, Nat.reduceAdd, Array.replicate_succ, Array.replicate_zero, List.push_toArray, List.append_toArray, List.nil_append, List.cons_append])
  clear sx
  refine rgT 0 (h := ?_)
  refine rgT 1 (h := ?_)
  refine rgT 2 (h := ?_)
  refine rgT 3 (h := ?_)
  refine rgT 4 (h := ?_)
  refine rgT 5 (h := ?_)
  refine rgT 6 (h := ?_)
  refine rgT 7 (h := ?_)
  refine rgT 8 (h := ?_)
  refine rgT 9 (h := ?_)
  refine rgT 10 (h := ?_)
  refine wpAnyH_done (by kernel_rfl) ?_ _
  clear hHeld
  go_wp2
  go_ret2
  exact ⟨rfl, rfl⟩
theorem ix_accesses (w : World) (ab : Nat) (X : XL) (x : XS) (h : IxH w ab X x) : Calls Tryz.prog 86 #[.pointer (some ⟨X.x, 0, none⟩)] w fun e w' => e = .returned (.int .i64 x.cn) ∧ w' = w := by
  have HL : Hid (∀ _ : Unit, _) := fun _ => i64_load ⟨X.x, 3, none⟩ x.cn w h.c3
  clear h
  go_enter Tryz.func86, Tryz.ntmps86
  go_wp2_with fail
  refine (HL.out ()).mono ?_
  rintro e w1 ⟨rfl, hw1⟩
  rw [hw1]
  clear hw1 w1 HL
  go_wp2
  go_ret
  exact ⟨rfl, rfl⟩
theorem ix_buckets (w : World) (ab : Nat) (X : XL) (x : XS) (h : IxH w ab X x) : Calls Tryz.prog 163 #[.pointer (some ⟨X.x, 0, none⟩)] w fun e w' => e = .returned (.int .i64 (x.nb : Int)) ∧ w' = w := by
  have c2 := h.c2
  clear h
  go_enter Tryz.func163, Tryz.ntmps163
  go_wp2
  go_ret
  exact ⟨rfl, rfl⟩
/-- New is refused. -/
theorem ix_new_nil (w : World) (c b : Int) : Calls Tryz.prog 39 #[.pointer none, .int .i64 c, .int .i64 b] w fun e w' => e = .returned (.tuple #[.pointer none, .int .i64 1]) ∧ w' = w := by
  go_enter Tryz.func39, Tryz.ntmps39
  go_wp2
  go_ret2
  exact ⟨rfl, rfl⟩
theorem rx_new_nil (w : World) (c b : Int) : Calls Tryz.prog 99 #[.pointer none, .int .i64 c, .int .i64 b] w fun e w' => e = .returned (.tuple #[.pointer none, .int .i64 1]) ∧ w' = w := by
  go_enter Tryz.func99, Tryz.ntmps99
  go_wp2
  go_ret2
  exact ⟨rfl, rfl⟩
theorem ix_new_c0 (L : Lay) (S : AS) (w : World) (h : Holds w L S) (c b : Int) (hc : c < 0) : Calls Tryz.prog 39 #[.pointer (some ⟨L.b, 0, none⟩), .int .i64 c, .int .i64 b] w fun e w' => e = .returned (.tuple #[.pointer none, .int .i64 23]) ∧ w' = w.drew := by
  have HS : Hid (∀ _ : Unit, _) := fun _ => arn_shape L S w h
  clear h
  go_enter Tryz.func39, Tryz.ntmps39
  go_wp2_with fail
  refine (HS.out ()).mono ?_
  rintro e w1 ⟨rfl, hw1⟩
  rw [hw1]
  clear hw1 w1 HS
  go_wp2
  go_ret2
  exact ⟨rfl, rfl⟩
theorem ix_new_c1 (L : Lay) (S : AS) (w : World) (h : Holds w L S) (c b : Int) (hc0 : ¬ c < 0) (hc : c ≥ (S.wd : Int)) : Calls Tryz.prog 39 #[.pointer (some ⟨L.b, 0, none⟩), .int .i64 c, .int .i64 b] w fun e w' => e = .returned (.tuple #[.pointer none, .int .i64 23]) ∧ w' = w.drew := by
  have HS : Hid (∀ _ : Unit, _) := fun _ => arn_shape L S w h
  clear h
  go_enter Tryz.func39, Tryz.ntmps39
  go_wp2_with fail
  refine (HS.out ()).mono ?_
  rintro e w1 ⟨rfl, hw1⟩
  rw [hw1]
  clear hw1 w1 HS
  go_wp2
  go_ret2
  exact ⟨rfl, rfl⟩
theorem ix_new_b0 (L : Lay) (S : AS) (w : World) (h : Holds w L S) (c b : Int) (hc0 : ¬ c < 0) (hc : ¬ c ≥ (S.wd : Int)) (hb : b < 1) : Calls Tryz.prog 39 #[.pointer (some ⟨L.b, 0, none⟩), .int .i64 c, .int .i64 b] w fun e w' => e = .returned (.tuple #[.pointer none, .int .i64 40]) ∧ w' = w.drew := by
  have HS : Hid (∀ _ : Unit, _) := fun _ => arn_shape L S w h
  clear h
  go_enter Tryz.func39, Tryz.ntmps39
  go_wp2_with fail
  refine (HS.out ()).mono ?_
  rintro e w1 ⟨rfl, hw1⟩
  rw [hw1]
  clear hw1 w1 HS
  go_wp2
  go_ret2
  exact ⟨rfl, rfl⟩
theorem ix_new_b1 (L : Lay) (S : AS) (w : World) (h : Holds w L S) (c b : Int) (hc0 : ¬ c < 0) (hc : ¬ c ≥ (S.wd : Int)) (hb : ¬ b < 1) (hb2 : b > 256) : Calls Tryz.prog 39 #[.pointer (some ⟨L.b, 0, none⟩), .int .i64 c, .int .i64 b] w fun e w' => e = .returned (.tuple #[.pointer none, .int .i64 40]) ∧ w' = w.drew := by
  have HS : Hid (∀ _ : Unit, _) := fun _ => arn_shape L S w h
  clear h
  go_enter Tryz.func39, Tryz.ntmps39
  go_wp2_with fail
  refine (HS.out ()).mono ?_
  rintro e w1 ⟨rfl, hw1⟩
  rw [hw1]
  clear hw1 w1 HS
  go_wp2
  go_ret2
  exact ⟨rfl, rfl⟩
theorem rx_new_c0 (w : World) (R : RL) (cap : Nat) (qv : Value) (Q : List Nat) (S : AS) (h : RAr w R cap qv Q S) (c b : Int) (hc : c < 0) : Calls Tryz.prog 99 #[.pointer (some ⟨R.b, 0, none⟩), .int .i64 c, .int .i64 b] w fun e w' => e = .returned (.tuple #[.pointer none, .int .i64 23]) ∧ w' = w.drew := by
  have HS : Hid (∀ _ : Unit, _) := fun _ => ra_shape w R cap qv Q S h
  clear h
  go_enter Tryz.func99, Tryz.ntmps99
  go_wp2_with fail
  refine (HS.out ()).mono ?_
  rintro e w1 ⟨rfl, hw1⟩
  rw [hw1]
  clear hw1 w1 HS
  go_wp2
  go_ret2
  exact ⟨rfl, rfl⟩
theorem rx_new_c1 (w : World) (R : RL) (cap : Nat) (qv : Value) (Q : List Nat) (S : AS) (h : RAr w R cap qv Q S) (c b : Int) (hc0 : ¬ c < 0) (hc : c ≥ (S.wd : Int)) : Calls Tryz.prog 99 #[.pointer (some ⟨R.b, 0, none⟩), .int .i64 c, .int .i64 b] w fun e w' => e = .returned (.tuple #[.pointer none, .int .i64 23]) ∧ w' = w.drew := by
  have HS : Hid (∀ _ : Unit, _) := fun _ => ra_shape w R cap qv Q S h
  clear h
  go_enter Tryz.func99, Tryz.ntmps99
  go_wp2_with fail
  refine (HS.out ()).mono ?_
  rintro e w1 ⟨rfl, hw1⟩
  rw [hw1]
  clear hw1 w1 HS
  go_wp2
  go_ret2
  exact ⟨rfl, rfl⟩
theorem rx_new_b0 (w : World) (R : RL) (cap : Nat) (qv : Value) (Q : List Nat) (S : AS) (h : RAr w R cap qv Q S) (c b : Int) (hc0 : ¬ c < 0) (hc : ¬ c ≥ (S.wd : Int)) (hb : b < 1) : Calls Tryz.prog 99 #[.pointer (some ⟨R.b, 0, none⟩), .int .i64 c, .int .i64 b] w fun e w' => e = .returned (.tuple #[.pointer none, .int .i64 40]) ∧ w' = w.drew := by
  have HS : Hid (∀ _ : Unit, _) := fun _ => ra_shape w R cap qv Q S h
  clear h
  go_enter Tryz.func99, Tryz.ntmps99
  go_wp2_with fail
  refine (HS.out ()).mono ?_
  rintro e w1 ⟨rfl, hw1⟩
  rw [hw1]
  clear hw1 w1 HS
  go_wp2
  go_ret2
  exact ⟨rfl, rfl⟩
theorem rx_new_b1 (w : World) (R : RL) (cap : Nat) (qv : Value) (Q : List Nat) (S : AS) (h : RAr w R cap qv Q S) (c b : Int) (hc0 : ¬ c < 0) (hc : ¬ c ≥ (S.wd : Int)) (hb : ¬ b < 1) (hb2 : b > 256) : Calls Tryz.prog 99 #[.pointer (some ⟨R.b, 0, none⟩), .int .i64 c, .int .i64 b] w fun e w' => e = .returned (.tuple #[.pointer none, .int .i64 40]) ∧ w' = w.drew := by
  have HS : Hid (∀ _ : Unit, _) := fun _ => ra_shape w R cap qv Q S h
  clear h
  go_enter Tryz.func99, Tryz.ntmps99
  go_wp2_with fail
  refine (HS.out ()).mono ?_
  rintro e w1 ⟨rfl, hw1⟩
  rw [hw1]
  clear hw1 w1 HS
  go_wp2
  go_ret2
  exact ⟨rfl, rfl⟩
/-- An index just made. -/
def hdZ (j : Nat) : Int := 2 * (4097 + (j : Int))
def freshX (c nb : Nat) : XS := ⟨c, nb, hdZ, 0⟩
def midX (c nb t : Nat) : XS := ⟨c, nb, fun j => if j < t then hdZ j else 0, 0⟩
theorem ix_new (L : Lay) (S : AS) (w : World) (h : Holds w L S) (c nb : Nat) (hc : c < S.wd) (hb : 1 ≤ nb ∧ nb ≤ 256) : Calls Tryz.prog 39 #[.pointer (some ⟨L.b, 0, none⟩), .int .i64 (c : Int), .int .i64 (nb : Int)] w fun e w' => ∃ X : XL, e = .returned (.tuple #[.pointer (some ⟨X.x, 0, none⟩), .int .i64 0]) ∧ (w.heap.size ≤ X.x ∧ w.heap.size ≤ X.h) ∧ IxH w' L.b X (freshX c nb) ∧ Below w.heap.size w w' := by
  have HS : Hid (∀ _ : Unit, _) := fun _ => arn_shape L S w h
  have c0 : ¬ (c : Int) < 0 := by omega
  have c1 : ¬ (c : Int) ≥ (S.wd : Int) := by omega
  have b0 : ¬ (nb : Int) < 1 := by omega
  have b1 : ¬ (nb : Int) > 256 := by omega
  have hmk := run_make_any (P := Tryz.prog) 122 148 _ 1 8 Tryz.underlying122 infoU nb (by omega) (by omega) w.drew
  rw [Nat.mul_one] at hmk
  obtain ⟨W1, hW1⟩ : ∃ W, ((w.alloc (arU nb)).alloc (.cells #[.pointer (some ⟨L.b, 0, none⟩), .int .i64 (c : Int), .slice (some ⟨w.heap.size, 0, none⟩) nb nb, .int .i64 0] 146)).drew = W := ⟨_, rfl⟩
  have H1 : Hid (IxH W1 L.b ⟨w.heap.size + 1, w.heap.size⟩ (midX c nb 0) ∧ Below w.heap.size w W1) := by
    have g1 := heap_alloc_new w (arU nb)
    have g2 := heap_alloc_new (w.alloc (arU nb)) (.cells #[.pointer (some ⟨L.b, 0, none⟩), .int .i64 (c : Int), .slice (some ⟨w.heap.size, 0, none⟩) nb nb, .int .i64 0] 146)
    have e1 : (w.alloc (arU nb)).heap.size = w.heap.size + 1 := by simp
    rw [e1] at g2
    have g3 : W1.heap[w.heap.size + 1]? = some (.cells #[.pointer (some ⟨L.b, 0, none⟩), .int .i64 (c : Int), .slice (some ⟨w.heap.size, 0, none⟩) nb nb, .int .i64 0] 146) := by rw [← hW1]; exact g2
    have g4 : W1.heap[w.heap.size]? = some (arU nb) := by
      rw [← hW1]
      show ((w.alloc (arU nb)).alloc _).heap[w.heap.size]? = _
      rw [Below.heap_alloc _ _ _ (by rw [e1]; omega)]
      exact g1
    refine ⟨⟨(cell?_heap g3 0).trans rfl, (cell?_heap g3 1).trans rfl, (cell?_heap g3 2).trans rfl, (cell?_heap g3 3).trans rfl, fun b hb' => ?_, fun g j hg => ?_, lt_heap g3, lt_heap g4, by show w.heap.size + 1 ≠ w.heap.size; omega, hb⟩, ?_⟩
    · have hb' : b < nb := hb'
      show W1.cell? ⟨w.heap.size, b, none⟩ = some (.int .u64 (if b < 0 then hdZ b else 0))
      rw [cell?_heap g4, getElem?_made _ _ _ hb', if_neg (by omega)]
      simp [Nat.mod_one]
    · rcases hg with rfl | rfl
      · exact frozen?_heap g3 j
      · exact frozen?_heap g4 j
    · rw [← hW1]
      exact ((((Below.refl _ _).alloc (by simp) _).alloc (by simp) _).drew)
  clear h
  go_enter Tryz.func39, Tryz.ntmps39
  go_wp2_with fail
  refine (HS.out ()).mono ?_
  rintro e w1 ⟨rfl, hw1⟩
  rw [hw1]
  clear hw1 w1 HS
  have c2 := H1.out.1.c2
  go_wp2_with fail
  clear hmk c2
  go_loopw [43] (fun i wr => ∃ t : Nat, t ≤ nb ∧ i = .int .i64 (t : Int) ∧ IxH wr L.b ⟨w.heap.size + 1, w.heap.size⟩ (midX c nb t) ∧ Below w.heap.size w wr) (fun i _ => nb - (intOf i).toNat)
  case atStart => exact ⟨0, by omega, rfl, H1.out⟩
  case round =>
    obtain ⟨t, ht, rfl, hI, hB⟩ := hrel
    clear hW1
    by_cases h5 : t < nb
    · have t0 : (0 : Int) ≤ (t : Int) := Int.natCast_nonneg _
      have t1 : (t : Int) < (nb : Int) := by omega
      have HI : Hid (IxH wr.drew L.b ⟨w.heap.size + 1, w.heap.size⟩ (midX c nb t) ∧ Below w.heap.size w wr.drew) := ⟨hI.keeps ((Keeps.refl (fun _ => False) _).drew) (fun _ _ e => e), hB.drew⟩
      have sx : wr.drew.cell? ⟨w.heap.size + 1, 2, none⟩ = some (.slice (some ⟨w.heap.size, 0, none⟩) nb nb) := HI.out.1.c2
      have HE : Hid (∀ W : World, Calls Tryz.prog 65 #[.int .i64 (t : Int)] W fun e w' => e = .returned (.int .i64 (4097 + (t : Int))) ∧ w' = W) := fun W => end_of (t : Int) W (by omega) (by omega)
      have HK : Hid (∀ W : World, Calls Tryz.prog 64 #[.int .i64 (4097 + (t : Int))] W fun e w' => e = .returned (.int .u64 (2 * (4097 + (t : Int)))) ∧ w' = W) := fun W => lkof_any (4097 + (t : Int)) W (by omega) (by omega)
      clear hI hB
      go_wp2_with fail
      (refine wp_region_held_drew (S := (fun Z => Z.cell? ⟨w.heap.size + 1, 2, none⟩ = some (.slice (some ⟨w.heap.size, 0, none⟩) nb nb))) (by kernel_rfl) sx (fun hHeld => ?_); simp only [List.size_toArray, List.length_cons, List.length_nil, Nat.reduceAdd, Array.replicate_succ, Array.replicate_zero, List.push_toArray, List.append_toArray, List.nil_append, List.cons_append])
      clear sx
      generalize wr.drew = wd at *
      refine rgT 0 (h := ?_)
      refine rgT 1 (h := ?_)
      refine rgT 2 (h := ?_)
      refine rgT 3 (h := ?_)
      refine rgT 4 (h := ?_)
      refine rgT 5 (h := ?_)
      refine rgT 6 (h := ?_)
      (refine rgS 7 (h := fun K hK => ?_); go_simp)
      refine (HE.out wd).mono ?_
      rintro e w1 ⟨rfl, hw1⟩
      rw [hw1]
      clear hw1 w1
      (refine hK.out _ _ hHeld (fun hHeld => ?_); clear hK K; try simp only [Act.put, List.setIfInBounds_toArray, List.set_cons_zero, List.set_cons_succ])
      (refine rgS 8 (h := fun K hK => ?_); go_simp)
      refine (HK.out wd).mono ?_
      rintro e w1 ⟨rfl, hw1⟩
      rw [hw1]
      clear hw1 w1
      (refine hK.out _ _ hHeld (fun hHeld => ?_); clear hK K; try simp only [Act.put, List.setIfInBounds_toArray, List.set_cons_zero, List.set_cons_succ])
      have HU : Hid (∀ _ : Unit, _) := fun _ => u64_store ⟨w.heap.size, t, none⟩ _ (2 * (4097 + (t : Int))) wd (HI.out.1.hd t h5) (HI.out.1.f w.heap.size t (.inr rfl))
      have HN : Hid (IxH (wd.setCell ⟨w.heap.size, t, none⟩ (.int .u64 (2 * (4097 + (t : Int))))) L.b ⟨w.heap.size + 1, w.heap.size⟩ (midX c nb (t + 1)) ∧ Below w.heap.size w (wd.setCell ⟨w.heap.size, t, none⟩ (.int .u64 (2 * (4097 + (t : Int)))))) := by
        refine ⟨?_, HI.out.2.setCell (p := ⟨w.heap.size, t, none⟩) (Nat.le_refl _) _⟩
        have hs := HI.out.1.setHd t h5 (2 * (4097 + (t : Int)))
        refine ⟨hs.c0, hs.c1, hs.c2, hs.c3, fun b hb' => ?_, hs.f, hs.lx, hs.lh, hs.ne, hs.nb⟩
        refine (hs.hd b hb').trans ?_
        show some (Value.int .u64 (upd (midX c nb t).hd t (2 * (4097 + (t : Int))) b)) = some (.int .u64 (if b < t + 1 then hdZ b else 0))
        by_cases e : b = t
        · subst e
          rw [upd_same, if_pos (by omega)]
          rfl
        · rw [upd_other _ _ e]
          show some (Value.int .u64 (if b < t then hdZ b else 0)) = _
          by_cases e2 : b < t
          · rw [if_pos e2, if_pos (by omega)]
          · rw [if_neg e2, if_neg (by omega)]
      (refine rgS 9 (h := fun K hK => ?_); go_simp)
      refine (HU.out ()).mono ?_
      rintro e w1 ⟨rfl, hw1⟩
      rw [hw1]
      clear hw1 w1 HU
      (refine hK.out _ _ HN.out.1.c2 (fun hHeld => ?_); clear hK K; try simp only [Act.put, List.setIfInBounds_toArray, List.set_cons_zero, List.set_cons_succ])
      refine wpAnyH_done (by kernel_rfl) ?_ _
      go_wp2
      go_roundw
      case rel => exact ⟨t + 1, by omega, by go_num, HN.out⟩
      case measure => simp [intOf]; omega
    · have e5 : t = nb := by omega
      subst e5
      have HF : Hid (IxH wr L.b ⟨w.heap.size + 1, w.heap.size⟩ (freshX c t) ∧ Below w.heap.size w wr) := by
        refine ⟨⟨hI.c0, hI.c1, hI.c2, hI.c3, fun b hb' => ?_, hI.f, hI.lx, hI.lh, hI.ne, hI.nb⟩, hB⟩
        have hb' : b < t := hb'
        refine (hI.hd b hb').trans ?_
        show some (Value.int .u64 (if b < t then hdZ b else 0)) = some (.int .u64 (hdZ b))
        rw [if_pos hb']
      clear hI hB
      go_wp2
      go_ret2
      exact ⟨⟨w.heap.size + 1, w.heap.size⟩, rfl, ⟨by show w.heap.size ≤ w.heap.size + 1; omega, Nat.le_refl _⟩, HF.out⟩
end Go.Proofs.YtdjklcmkcccpeaaGreat

namespace Go.Proofs.YtdjklcmkcccpeaaGreat
set_option linter.unusedSimpArgs false
open Go.ChangeShapes Go.WideShapes Go.ChangeAt Go.RowKit Go.MuLone Go.RwLone
set_option linter.unusedVariables false
set_option maxRecDepth 100000
set_option maxHeartbeats 6400000
/-- The document's index while it is made. -/
structure RxN (w W : World) (ab c t : Nat) (v : Value) : Prop where
  c0 : W.cell? ⟨w.heap.size, 0, none⟩ = some (.pointer (some ⟨ab, 0, none⟩))
  c1 : W.cell? ⟨w.heap.size, 1, none⟩ = some (.int .i64 (c : Int))
  c2 : W.cell? ⟨w.heap.size, 2, none⟩ = some v
  c3 : W.cell? ⟨w.heap.size, 3, none⟩ = some (.int .i64 0)
  fz : ∀ j, W.frozen? ⟨w.heap.size, j, none⟩ = false
  o : OwW W (w.heap.size + 1) v ((List.range t).map hdZ)
  b : Below w.heap.size w W
  l : w.heap.size < W.heap.size
theorem RxN.next {w W w2 : World} {ab c t : Nat} {v v' : Value} (h : RxN w W ab c t v) (ho : OwW w2 (w.heap.size + 1) v' ((List.range t).map hdZ ++ [hdZ t])) (hb : Below (w.heap.size + 1) W w2) : RxN w (w2.setCell ⟨w.heap.size, 2, none⟩ v') ab c (t + 1) v' := by
  have cc : ∀ j, w2.cell? ⟨w.heap.size, j, none⟩ = W.cell? ⟨w.heap.size, j, none⟩ := fun j => hb.cell (p := ⟨w.heap.size, j, none⟩) (by show w.heap.size < w.heap.size + 1; omega)
  have hne : ∀ j, j ≠ 2 → (w2.setCell ⟨w.heap.size, 2, none⟩ v').cell? ⟨w.heap.size, j, none⟩ = w2.cell? ⟨w.heap.size, j, none⟩ := fun j hj => World.cell?_setCell_other _ _ _ _ (fun e => hj (congrArg Addr.off e).symm)
  refine ⟨(hne 0 (by decide)).trans ((cc 0).trans h.c0), (hne 1 (by decide)).trans ((cc 1).trans h.c1), World.cell?_setCell_same _ _ _ ((cc 2).trans h.c2), (hne 3 (by decide)).trans ((cc 3).trans h.c3), fun j => ?_, ?_, (h.b.trans (Below.mono hb (show w.heap.size ≤ w.heap.size + 1 by omega))).setCell (p := ⟨w.heap.size, 2, none⟩) (Nat.le_refl _) _, ?_⟩
  · have := (hb.frozen (p := ⟨w.heap.size, j, none⟩) (by show w.heap.size < w.heap.size + 1; omega)).trans (h.fz j)
    simpa using this
  · rw [List.range_succ, List.map_append]
    exact ho.set (p := ⟨w.heap.size, 2, none⟩) (by show w.heap.size < w.heap.size + 1; omega) _
  · have := hb.size
    have := h.l
    simp
    omega
theorem RxN.rx {w W : World} {ab c nb : Nat} {v : Value} (h : RxN w W ab c nb v) (hb : 1 ≤ nb ∧ nb ≤ 256) : ∃ hx hc, w.heap.size ≤ hx ∧ RxH W ab ⟨w.heap.size, hx⟩ hc (freshX c nb) ∧ v = .slice (some ⟨hx, 0, none⟩) nb hc := by
  have ho := h.o
  obtain ⟨g, cap, e, g1, g2⟩ := owG_some ho (by intro e; have := congrArg List.length e; simp at this; omega)
  have e2 : v = .slice (some ⟨g, 0, none⟩) nb cap := by rw [e]; simp
  subst e2
  refine ⟨g, cap, by omega, ⟨h.c0, h.c1, h.c2, h.c3, fun b hb' => ?_, fun x j hx => ?_, h.l, g2, by show w.heap.size ≠ g; omega, hb⟩, rfl⟩
  · have hb' : b < nb := hb'
    rw [ow_at flat_wdC ho b (by simpa using hb')]
    simp [freshX]
  · rcases hx with e | e
    · have e : x = w.heap.size := e
      rw [e]
      exact h.fz j
    · have e : x = g := e
      rw [e]
      obtain ⟨cur, hcur⟩ := blk ho rfl
      exact frozen?_heap hcur j
theorem rx_new (w : World) (R : RL) (cap : Nat) (qv : Value) (Q : List Nat) (S : AS) (h : RAr w R cap qv Q S) (c nb : Nat) (hc : c < S.wd) (hb : 1 ≤ nb ∧ nb ≤ 256) : Calls Tryz.prog 99 #[.pointer (some ⟨R.b, 0, none⟩), .int .i64 (c : Int), .int .i64 (nb : Int)] w fun e w' => ∃ (X : XL) (hc : Nat), e = .returned (.tuple #[.pointer (some ⟨X.x, 0, none⟩), .int .i64 0]) ∧ (w.heap.size ≤ X.x ∧ w.heap.size ≤ X.h) ∧ RxH w' R.b X hc (freshX c nb) ∧ Below w.heap.size w w' := by
  have HS : Hid (∀ _ : Unit, _) := fun _ => ra_shape w R cap qv Q S h
  have c0 : ¬ (c : Int) < 0 := by omega
  have c1 : ¬ (c : Int) ≥ (S.wd : Int) := by omega
  have b0 : ¬ (nb : Int) < 1 := by omega
  have b1 : ¬ (nb : Int) > 256 := by omega
  obtain ⟨W1, hW1⟩ : ∃ W, (w.alloc (.cells #[.pointer (some ⟨R.b, 0, none⟩), .int .i64 (c : Int), .slice none 0 0, .int .i64 0] 193)).drew = W := ⟨_, rfl⟩
  have H1 : Hid (RxN w W1 R.b c 0 (.slice none 0 0)) := by
    have g1 := heap_alloc_new w (.cells #[.pointer (some ⟨R.b, 0, none⟩), .int .i64 (c : Int), .slice none 0 0, .int .i64 0] 193)
    have g3 : W1.heap[w.heap.size]? = some (.cells #[.pointer (some ⟨R.b, 0, none⟩), .int .i64 (c : Int), .slice none 0 0, .int .i64 0] 193) := by rw [← hW1]; exact g1
    exact ⟨(cell?_heap g3 0).trans rfl, (cell?_heap g3 1).trans rfl, (cell?_heap g3 2).trans rfl, (cell?_heap g3 3).trans rfl, fun j => frozen?_heap g3 j, OwG.nil _ _ _ _ _, by rw [← hW1]; exact ((Below.refl _ _).alloc (Nat.le_refl _) _).drew, lt_heap g3⟩
  clear h
  go_enter Tryz.func99, Tryz.ntmps99
  go_wp2_with fail
  refine (HS.out ()).mono ?_
  rintro e w1 ⟨rfl, hw1⟩
  rw [hw1]
  clear hw1 w1 HS
  go_wp2_with fail
  go_loopw [11] (fun i wr => ∃ (t : Nat) (v : Value), t ≤ nb ∧ i = .int .i64 (t : Int) ∧ RxN w wr R.b c t v) (fun i _ => nb - (intOf i).toNat)
  case atStart => exact ⟨0, _, by omega, rfl, H1.out⟩
  case round =>
    obtain ⟨t, v, ht, rfl, hI⟩ := hrel
    clear hW1
    by_cases h5 : t < nb
    · have t0 : (0 : Int) ≤ (t : Int) := Int.natCast_nonneg _
      have t1 : (t : Int) < (nb : Int) := by omega
      obtain ⟨sp, cp, hsp⟩ := hI.o.form
      rw [List.length_map, List.length_range] at hsp
      subst hsp
      have HI : Hid (RxN w wr.drew R.b c t (.slice sp t cp)) := ⟨hI.c0, hI.c1, hI.c2, hI.c3, hI.fz, owK hI.o ((Keeps.refl (fun _ => False) _).drew) (fun _ _ e => e), hI.b.drew, hI.l⟩
      have HK : Hid (∀ W : World, Calls Tryz.prog 146 #[.int .i64 (4097 + (t : Int))] W fun e w' => e = .returned (.int .u64 (2 * (4097 + (t : Int)))) ∧ w' = W) := fun W => rword_any (4097 + (t : Int)) W (by omega) (by omega)
      have hxl : ((List.range t).map hdZ).length = t := by simp
      have HWR : Hid (IntKind.i64.wrap (4097 + (t : Int)) = 4097 + (t : Int)) := by
        show _ = _
        rw [IntKind.wrap_i64]
        omega
      clear hI
      go_wp2_with fail
      have sx : wr.drew.cell? ⟨w.heap.size, 0, none⟩ = some (.pointer (some ⟨R.b, 0, none⟩)) := HI.out.c0
      (refine wp_region_held_drew (S := (fun Z => Z.cell? ⟨w.heap.size, 0, none⟩ = some (.pointer (some ⟨R.b, 0, none⟩)))) (by kernel_rfl) sx (fun hHeld => ?_); simp only [List.size_toArray, List.length_cons, List.length_nil, Nat.reduceAdd, Array.replicate_succ, Array.replicate_zero, List.push_toArray, List.append_toArray, List.nil_append, List.cons_append])
      clear sx
      generalize wr.drew = wd at *
      have d2 := HI.out.c2
      have f2 := HI.out.fz 2
      have HSA : Hid (∀ o, (wd.alloc o).cell? ⟨w.heap.size, 0, none⟩ = some (.pointer (some ⟨R.b, 0, none⟩))) := fun o => (World.cell?_of_block (w := wd) (Below.heap_alloc wd o w.heap.size HI.out.l)).trans HI.out.c0
      refine rgT 0 (h := ?_)
      refine rgT 1 (h := ?_)
      refine rgT 2 (h := ?_)
      refine rgT 3 (h := ?_)
      refine rgT 5 (h := ?_)
      refine rgT 6 (h := ?_)
      (refine wpAnyH_ready (rs := [4, 7]) (by kernel_rfl) (by simp) ?_; refine rgA 4 (by rfl) (fun K hK => ?_) (rgA 7 (by rfl) (fun K hK => ?_) AllReadyH.nil) <;> go_simp)
      · (refine hK.out _ _ hHeld (fun hHeld => ?_); clear hK K; try simp only [Act.put, List.setIfInBounds_toArray, List.set_cons_zero, List.set_cons_succ])
        (refine rgS 7 (h := fun K hK => ?_); go_simp)
        rw [HWR.out]
        refine (HK.out wd).mono ?_
        rintro e w1 ⟨rfl, hw1⟩
        rw [hw1]
        clear hw1 w1
        (refine hK.out _ _ hHeld (fun hHeld => ?_); clear hK K; try simp only [Act.put, List.setIfInBounds_toArray, List.set_cons_zero, List.set_cons_succ])
        (refine rgS 8 (h := fun K hK => ?_); go_simp)
        (refine hK.out _ _ (HSA.out (.cells #[.int .u64 (2 * (4097 + (t : Int)))] 95)) (fun hHeld => ?_); clear hK K; try simp only [Act.put, List.setIfInBounds_toArray, List.set_cons_zero, List.set_cons_succ])
        (refine rgS 9 (h := fun K hK => ?_); rw [if_pos (by rfl)])
        refine app_one_wp (cs := wdC) (wr := wd) _ _ 151 95 (by rfl) Tryz.underlying151 infoWd rfl (by decide) (fun _ => rfl) (w.heap.size + 1) _ ((List.range t).map hdZ) (2 * (4097 + (t : Int))) HI.out.o (by rfl) wd.heap.size rfl (by rfl) (wdC_one _) _ rfl (by unfold maxLen; omega) (by omega) (by have := HI.out.l; omega) ?_
        intro v' w3 ho3 hb3 hk3
        obtain ⟨l4, c4, hl4⟩ := ho3.form
        rw [List.length_append, hxl] at hl4
        subst hl4
        have HN : Hid (RxN w (w3.setCell ⟨w.heap.size, 2, none⟩ (.slice l4 (t + 1) c4)) R.b c (t + 1) (.slice l4 (t + 1) c4)) := HI.out.next ho3 hb3
        have d3 : w3.cell? ⟨w.heap.size, 2, none⟩ = some (.slice sp t cp) := (hb3.cell (p := ⟨w.heap.size, 2, none⟩) (by show w.heap.size < w.heap.size + 1; omega)).trans d2
        have HS3 : Hid (w3.cell? ⟨w.heap.size, 0, none⟩ = some (.pointer (some ⟨R.b, 0, none⟩))) := (hb3.cell (p := ⟨w.heap.size, 0, none⟩) (by show w.heap.size < w.heap.size + 1; omega)).trans HI.out.c0
        have f3 : w3.frozen? ⟨w.heap.size, 2, none⟩ = false := (hb3.frozen (p := ⟨w.heap.size, 2, none⟩) (by show w.heap.size < w.heap.size + 1; omega)).trans f2
        (refine hK.out _ _ HS3.out (fun hHeld => ?_); clear hK K; try simp only [Act.put, List.setIfInBounds_toArray, List.set_cons_zero, List.set_cons_succ])
        refine rgT 10 (h := ?_)
        refine rgT 11 (h := ?_)
        (refine rgS 12 (h := fun K hK => ?_); go_simp)
        (refine hK.out _ _ HN.out.c0 (fun hHeld => ?_); clear hK K; try simp only [Act.put, List.setIfInBounds_toArray, List.set_cons_zero, List.set_cons_succ])
        refine wpAnyH_done (by kernel_rfl) ?_ _
        clear ho3 hb3 hk3 HI d2 f2 d3 f3
        go_wp2
        go_roundw
        case rel => exact ⟨t + 1, _, by omega, by go_num, HN.out⟩
        case measure => simp [intOf]; omega
      · rw [HWR.out]
        refine (HK.out wd).mono ?_
        rintro e w1 ⟨rfl, hw1⟩
        rw [hw1]
        clear hw1 w1
        (refine hK.out _ _ hHeld (fun hHeld => ?_); clear hK K; try simp only [Act.put, List.setIfInBounds_toArray, List.set_cons_zero, List.set_cons_succ])
        (refine wpAnyH_ready (rs := [4, 8]) (by kernel_rfl) (by simp) ?_; refine rgA 4 (by rfl) (fun K hK => ?_) (rgA 8 (by rfl) (fun K hK => ?_) AllReadyH.nil) <;> go_simp)
        · (refine hK.out _ _ hHeld (fun hHeld => ?_); clear hK K; try simp only [Act.put, List.setIfInBounds_toArray, List.set_cons_zero, List.set_cons_succ])
          (refine rgS 8 (h := fun K hK => ?_); go_simp)
          (refine hK.out _ _ (HSA.out (.cells #[.int .u64 (2 * (4097 + (t : Int)))] 95)) (fun hHeld => ?_); clear hK K; try simp only [Act.put, List.setIfInBounds_toArray, List.set_cons_zero, List.set_cons_succ])
          (refine rgS 9 (h := fun K hK => ?_); rw [if_pos (by rfl)])
          refine app_one_wp (cs := wdC) (wr := wd) _ _ 151 95 (by rfl) Tryz.underlying151 infoWd rfl (by decide) (fun _ => rfl) (w.heap.size + 1) _ ((List.range t).map hdZ) (2 * (4097 + (t : Int))) HI.out.o (by rfl) wd.heap.size rfl (by rfl) (wdC_one _) _ rfl (by unfold maxLen; omega) (by omega) (by have := HI.out.l; omega) ?_
          intro v' w3 ho3 hb3 hk3
          obtain ⟨l4, c4, hl4⟩ := ho3.form
          rw [List.length_append, hxl] at hl4
          subst hl4
          have HN : Hid (RxN w (w3.setCell ⟨w.heap.size, 2, none⟩ (.slice l4 (t + 1) c4)) R.b c (t + 1) (.slice l4 (t + 1) c4)) := HI.out.next ho3 hb3
          have d3 : w3.cell? ⟨w.heap.size, 2, none⟩ = some (.slice sp t cp) := (hb3.cell (p := ⟨w.heap.size, 2, none⟩) (by show w.heap.size < w.heap.size + 1; omega)).trans d2
          have HS3 : Hid (w3.cell? ⟨w.heap.size, 0, none⟩ = some (.pointer (some ⟨R.b, 0, none⟩))) := (hb3.cell (p := ⟨w.heap.size, 0, none⟩) (by show w.heap.size < w.heap.size + 1; omega)).trans HI.out.c0
          have f3 : w3.frozen? ⟨w.heap.size, 2, none⟩ = false := (hb3.frozen (p := ⟨w.heap.size, 2, none⟩) (by show w.heap.size < w.heap.size + 1; omega)).trans f2
          (refine hK.out _ _ HS3.out (fun hHeld => ?_); clear hK K; try simp only [Act.put, List.setIfInBounds_toArray, List.set_cons_zero, List.set_cons_succ])
          refine rgT 10 (h := ?_)
          refine rgT 11 (h := ?_)
          (refine rgS 12 (h := fun K hK => ?_); go_simp)
          (refine hK.out _ _ HN.out.c0 (fun hHeld => ?_); clear hK K; try simp only [Act.put, List.setIfInBounds_toArray, List.set_cons_zero, List.set_cons_succ])
          refine wpAnyH_done (by kernel_rfl) ?_ _
          clear ho3 hb3 hk3 HI d2 f2 d3 f3
          go_wp2
          go_roundw
          case rel => exact ⟨t + 1, _, by omega, by go_num, HN.out⟩
          case measure => simp [intOf]; omega
        · have d2a : (wd.alloc (.cells #[.int .u64 (2 * (4097 + (t : Int)))] 95)).cell? ⟨w.heap.size, 2, none⟩ = some (.slice sp t cp) := (World.cell?_of_block (w := wd) (Below.heap_alloc wd _ w.heap.size HI.out.l)).trans d2
          (refine hK.out _ _ (HSA.out (.cells #[.int .u64 (2 * (4097 + (t : Int)))] 95)) (fun hHeld => ?_); clear hK K; try simp only [Act.put, List.setIfInBounds_toArray, List.set_cons_zero, List.set_cons_succ])
          (refine rgS 4 (h := fun K hK => ?_); go_simp)
          clear d2a
          (refine hK.out _ _ (HSA.out (.cells #[.int .u64 (2 * (4097 + (t : Int)))] 95)) (fun hHeld => ?_); clear hK K; try simp only [Act.put, List.setIfInBounds_toArray, List.set_cons_zero, List.set_cons_succ])
          (refine rgS 9 (h := fun K hK => ?_); rw [if_pos (by rfl)])
          refine app_one_wp (cs := wdC) (wr := wd) _ _ 151 95 (by rfl) Tryz.underlying151 infoWd rfl (by decide) (fun _ => rfl) (w.heap.size + 1) _ ((List.range t).map hdZ) (2 * (4097 + (t : Int))) HI.out.o (by rfl) wd.heap.size rfl (by rfl) (wdC_one _) _ rfl (by unfold maxLen; omega) (by omega) (by have := HI.out.l; omega) ?_
          intro v' w3 ho3 hb3 hk3
          obtain ⟨l4, c4, hl4⟩ := ho3.form
          rw [List.length_append, hxl] at hl4
          subst hl4
          have HN : Hid (RxN w (w3.setCell ⟨w.heap.size, 2, none⟩ (.slice l4 (t + 1) c4)) R.b c (t + 1) (.slice l4 (t + 1) c4)) := HI.out.next ho3 hb3
          have d3 : w3.cell? ⟨w.heap.size, 2, none⟩ = some (.slice sp t cp) := (hb3.cell (p := ⟨w.heap.size, 2, none⟩) (by show w.heap.size < w.heap.size + 1; omega)).trans d2
          have HS3 : Hid (w3.cell? ⟨w.heap.size, 0, none⟩ = some (.pointer (some ⟨R.b, 0, none⟩))) := (hb3.cell (p := ⟨w.heap.size, 0, none⟩) (by show w.heap.size < w.heap.size + 1; omega)).trans HI.out.c0
          have f3 : w3.frozen? ⟨w.heap.size, 2, none⟩ = false := (hb3.frozen (p := ⟨w.heap.size, 2, none⟩) (by show w.heap.size < w.heap.size + 1; omega)).trans f2
          (refine hK.out _ _ HS3.out (fun hHeld => ?_); clear hK K; try simp only [Act.put, List.setIfInBounds_toArray, List.set_cons_zero, List.set_cons_succ])
          refine rgT 10 (h := ?_)
          refine rgT 11 (h := ?_)
          (refine rgS 12 (h := fun K hK => ?_); go_simp)
          (refine hK.out _ _ HN.out.c0 (fun hHeld => ?_); clear hK K; try simp only [Act.put, List.setIfInBounds_toArray, List.set_cons_zero, List.set_cons_succ])
          refine wpAnyH_done (by kernel_rfl) ?_ _
          clear ho3 hb3 hk3 HI d2 f2 d3 f3
          go_wp2
          go_roundw
          case rel => exact ⟨t + 1, _, by omega, by go_num, HN.out⟩
          case measure => simp [intOf]; omega
    · have e5 : t = nb := by omega
      subst e5
      obtain ⟨hx, hcc, h1, h2, h3⟩ := hI.rx hb
      subst h3
      have HB : Hid (Below w.heap.size w wr) := hI.b
      have HF : Hid (RxH wr R.b ⟨w.heap.size, hx⟩ hcc (freshX c t)) := h2
      clear hI h2
      go_wp2
      go_ret2
      exact ⟨⟨w.heap.size, hx⟩, hcc, rfl, ⟨Nat.le_refl _, h1⟩, HF.out, HB.out⟩
end Go.Proofs.YtdjklcmkcccpeaaGreat

namespace Go.Proofs.YtdjklcmkcccpeaaGreat
set_option linter.unusedSimpArgs false
open Go.ChangeShapes Go.WideShapes Go.ChangeAt Go.RowKit Go.MuLone Go.RwLone
set_option linter.unusedVariables false
set_option maxRecDepth 100000
set_option maxHeartbeats 6400000
theorem RoLe {S : AS} {c t : Nat} {n0 n : Int} {pre : List (Int × Bool)} (e : rowL S c 4096 n0 = pre ++ rowL S c (4096 - pre.length) n) (hn : liv S n = false ∨ pre.length = 4096) : rowL S c 4096 n0 = pre := by
  rcases hn with h | h
  · rw [e, rowL_no h, List.append_nil]
  · rw [e, h]
    exact List.append_nil _
theorem RoLs {S : AS} {c : Nat} {n0 n : Int} {pre : List (Int × Bool)} (e : rowL S c 4096 n0 = pre ++ rowL S c (4096 - pre.length) n) (hl : liv S n = true) (hp : pre.length < 4096) : rowL S c 4096 n0 = (pre ++ [(n, S.word (atC S n c) % 2 == 1)]) ++ rowL S c (4096 - (pre ++ [(n, S.word (atC S n c) % 2 == 1)]).length) (S.word (atC S n c) / 2) := by
  rw [e, show 4096 - pre.length = (4096 - (pre.length + 1)) + 1 from by omega, rowL_yes hl, List.append_assoc, List.length_append]
  rfl
theorem keepsN {w a b : World} {L : Lay} {N : Nat} (k : Keeps (fun g => L.has g ∨ N ≤ g) w a) (h : Below N a b) : Keeps (fun g => L.has g ∨ N ≤ g) w b := ⟨h.os.trans k.os, h.tape.trans k.tape, h.output.trans k.output, Nat.le_trans k.size h.size, fun x hx hn => (h.block x (by by_cases e : N ≤ x; exact absurd (Or.inr e) hn; omega)).trans (k.block x hx hn)⟩
theorem CH.below {w w' : World} {L : Lay} {Q : List Nat} {S : AS} {X : XL} {x : XS} {N : Nat} (h : CH w L Q S X x) (hN : ∀ g, chF L X g → g < N) (hs : N ≤ w.heap.size) (b : Below N w w') : CH w' L Q S X x := h.keeps (D := fun g => N ≤ g) ⟨b.os, b.tape, b.output, b.size, fun k _ hn => b.block k (by omega)⟩ (fun g hg e => by have := hN g hg; omega)
theorem look_list (w : World) (L : Lay) (Q : List Nat) (S : AS) (X : XL) (x : XS) (b N : Nat) (c1 : Value) (P : List (Int × Bool) → World → Prop) (hb : b < x.nb) (h : CH w L Q S X x) (hk : WdOk S x) (hN : ∀ g, chF L X g → g < N) (hs : N ≤ w.heap.size) (hp : P [] w) (hn : S.n ≤ 4096)
    (hX : ∀ pre W W', Keeps L.has W W' → P pre W → P pre W') (HC : Hid (∀ (pre : List (Int × Bool)) (n : Int) (m : Bool) (W : World), P pre W → pre.length < 4096 → N ≤ W.heap.size → Calls Tryz.prog 47 #[.int .i64 n, .bool m, c1] W fun e w' => e = .returned (.tuple #[]) ∧ P (pre ++ [(n, m)]) w' ∧ Below N W w')) :
    Calls Tryz.prog 46 #[.pointer (some ⟨X.x, 0, none⟩), .int .i64 (b : Int), .func (.func 47) #[] #[c1]] w fun e w' => e = .returned (.int .i64 0) ∧ CH w' L Q S X x ∧ P (rowX S x b) w' ∧ Keeps (fun g => L.has g ∨ N ≤ g) w w' := by
  have hh := hk.2 b hb
  have H0 : Hid (CH w L Q S X x ∧ P [] w) := ⟨h, hp⟩
  have HX : Hid (∀ pre W W', Keeps L.has W W' → P pre W → P pre W') := hX
  have HNN : Hid ((∀ g, chF L X g → g < N) ∧ N ≤ w.heap.size) := ⟨hN, hs⟩
  have HK : Hid (∀ i, LkOk (S.word i)) := hk.1
  have HH : Hid (∀ _ : Unit, _) := fun _ => ix_has w L.b X x (b : Int) h.i
  rw [inB_of x b hb] at HH
  have c2 := h.i.c2
  have hd := h.i.hd b hb
  have b0 : (0 : Int) ≤ (b : Int) := Int.natCast_nonneg _
  have b1 : (b : Int) < (x.nb : Int) := by omega
  have hnb := h.i.nb
  have hcw := h.c
  have hwd := h.a.h.hw.2
  obtain ⟨v0, hv0⟩ : ∃ v0, x.hd b = v0 := ⟨_, rfl⟩
  have HRX : Hid (rowX S x b = rowL S x.cell 4096 (v0 / 2)) := by rw [← hv0]; rfl
  rw [hv0] at hd hh
  have HT : Hid (∀ (v : Int) (W : World), LkOk v → Calls Tryz.prog 82 #[.int .u64 v] W fun e w' => e = .returned (.tuple #[.int .i64 (v / 2), .bool (v % 2 == 1)]) ∧ w' = W) := fun v W hv => take_any v W hv
  have HL : Hid (∀ _ : Unit, _) := fun _ => u64_load ⟨X.h, b, none⟩ v0 w hd
  have HV : Hid (LkOk v0) := hh
  clear h hk hh hv0 hp hX hN hs
  go_enter Tryz.func46, Tryz.ntmps46
  go_wp2_with fail
  refine (HH.out ()).mono ?_
  rintro e w1 ⟨rfl, hw1⟩
  rw [hw1]
  clear hw1 w1 HH
  go_wp2_with fail
  refine (HL.out ()).mono ?_
  rintro e w1 ⟨rfl, hw1⟩
  rw [hw1]
  clear hw1 w1 HL
  go_wp2_with fail
  refine (HT.out v0 w HV.out).mono ?_
  rintro e w1 ⟨rfl, hw1⟩
  rw [hw1]
  clear hw1 w1 c2 hd
  go_wp2_with fail
  go_loopw [7, 30] (fun nv i wr => ∃ (pre : List (Int × Bool)) (n : Int), nv = .int .i64 n ∧ i = .int .i64 (pre.length : Int) ∧ pre.length ≤ 4096 ∧ (0 ≤ n ∧ n ≤ 2147483647) ∧ rowL S x.cell 4096 (v0 / 2) = pre ++ rowL S x.cell (4096 - pre.length) n ∧ CH wr L Q S X x ∧ P pre wr ∧ Keeps (fun g => L.has g ∨ N ≤ g) w wr) (fun _ i _ => 4096 - (intOf i).toNat)
  case atStart => exact ⟨[], v0 / 2, rfl, rfl, by simp, ⟨by have := HV.out.1; omega, by have := HV.out.2; omega⟩, rfl, H0.out.1, H0.out.2, Keeps.refl _ _⟩
  case round =>
    obtain ⟨pre, n, rfl, rfl, hl, hn2, hR, hch, hP, hkp⟩ := hrel
    have HR : Hid (rowL S x.cell 4096 (v0 / 2) = pre ++ rowL S x.cell (4096 - pre.length) n) := hR
    have HS : Hid (CH wr L Q S X x ∧ P pre wr ∧ Keeps (fun g => L.has g ∨ N ≤ g) w wr) := ⟨hch, hP, hkp⟩
    have d0 := hch.i.c0
    clear hR hch hP hkp
    by_cases h5 : pre.length < 4096
    · have t1 : (pre.length : Int) < 4096 := by omega
      cases hlv : liv S n with
      | false =>
        have HF : Hid (rowX S x b = pre) := by
          show _ = _
          rw [HRX.out]
          exact RoLe (t := 0) HR.out (.inl hlv)
        have HP : Hid (∀ _ : Unit, _) := fun _ => arn_peek_no L S wr Q n HS.out.1.a hlv
        clear hlv
        go_wp2_with fail
        refine (HP.out ()).mono ?_
        rintro e w1 ⟨rfl, ha, ka⟩
        have HZ : Hid (CH w1 L Q S X x ∧ P (rowX S x b) w1 ∧ Keeps (fun g => L.has g ∨ N ≤ g) w w1) := by
          refine ⟨HS.out.1.arn ha ka rfl, ?_, HS.out.2.2.trans (ka.mono (fun _ e => .inl e))⟩
          rw [HF.out]
          exact HX.out _ _ _ ka HS.out.2.1
        clear ha ka HP HS d0
        go_wp2
        go_ret
        exact ⟨rfl, HZ.out⟩
      | true =>
        have HSt : Hid (∀ _ : Unit, _) := fun _ => RoLs HR.out hlv h5
        have HP : Hid (∀ _ : Unit, _) := fun _ => arn_peek L S wr Q n HS.out.1.a hlv
        obtain ⟨v, hv⟩ : ∃ v, S.word (atC S n x.cell) = v := ⟨_, rfl⟩
        have HVn : Hid (LkOk v) := by rw [← hv]; exact HK.out _
        rw [hv] at HSt
        have HVV : Hid (S.word (atC S n x.cell) = v) := hv
        have cw1 : (x.cell : Int) < (S.wd : Int) := by omega
        have cw0 : (0 : Int) ≤ (x.cell : Int) := Int.natCast_nonneg _
        clear hlv hv
        go_wp2_with fail
        refine (HP.out ()).mono ?_
        rintro e w3 ⟨g, rfl, ⟨ha, ka⟩, pk⟩
        have g3 : w3.cell? ⟨g, x.cell, none⟩ = some (.int .u64 v) := by rw [pk.wd x.cell hcw, HVV.out]
        have H3 : Hid (CH w3 L Q S X x ∧ P pre w3 ∧ Keeps (fun g => L.has g ∨ N ≤ g) w w3) := ⟨HS.out.1.arn ha ka rfl, HX.out _ _ _ ka HS.out.2.1, HS.out.2.2.trans (ka.mono (fun _ e => .inl e))⟩
        have d1 := H3.out.1.i.c1
        clear ha ka pk HP HS d0
        go_wp2_with fail
        refine (HT.out v w3 HVn.out).mono ?_
        rintro e w1 ⟨rfl, hw1⟩
        rw [hw1]
        clear hw1 w1 g3 d1
        obtain ⟨mb, hmb⟩ : ∃ mb, (v % 2 == 1) = mb := ⟨_, rfl⟩
        rw [hmb]
        rw [hmb] at HSt
        clear hmb
        go_wp2_with fail
        refine (HC.out pre n mb w3 H3.out.2.1 h5 (Nat.le_trans HNN.out.2 H3.out.2.2.size)).mono ?_
        rintro e w4 ⟨rfl, p4, b4⟩
        have HZ : Hid (CH w4 L Q S X x ∧ P (pre ++ [(n, mb)]) w4 ∧ Keeps (fun g => L.has g ∨ N ≤ g) w w4) := ⟨H3.out.1.below HNN.out.1 (Nat.le_trans HNN.out.2 H3.out.2.2.size) b4, p4, keepsN H3.out.2.2 b4⟩
        clear p4 b4 H3
        go_wp2
        go_roundw
        case rel => exact ⟨pre ++ [(n, mb)], v / 2, rfl, by rw [List.length_append]; go_num, by rw [List.length_append]; simp; omega, ⟨by have := HVn.out.1; omega, by have := HVn.out.2; omega⟩, HSt.out (), HZ.out⟩
        case measure => simp [intOf]; omega
    · have t1 : ¬ (pre.length : Int) < 4096 := by omega
      have HF : Hid (rowX S x b = pre) := by
        show _ = _
        rw [HRX.out]
        exact RoLe (t := 0) HR.out (.inr (by omega))
      go_wp2
      go_ret
      rw [HF.out]
      exact ⟨rfl, HS.out⟩
theorem look_list_no (w : World) (L : Lay) (Q : List Nat) (S : AS) (X : XL) (x : XS) (b : Int) (c1 : Value) (hb : inB x b = false) (h : CH w L Q S X x) :
    Calls Tryz.prog 46 #[.pointer (some ⟨X.x, 0, none⟩), .int .i64 b, .func (.func 47) #[] #[c1]] w fun e w' => e = .returned (.int .i64 40) ∧ w' = w := by
  have HH : Hid (∀ _ : Unit, _) := fun _ => ix_has w L.b X x b h.i
  rw [hb] at HH
  clear h hb
  go_enter Tryz.func46, Tryz.ntmps46
  go_wp2_with fail
  refine (HH.out ()).mono ?_
  rintro e w1 ⟨rfl, hw1⟩
  rw [hw1]
  clear hw1 w1 HH
  go_wp2
  go_ret
  exact ⟨rfl, rfl⟩
/-- What List's closure holds. -/
structure LsP (bb : Nat) (pre : List (Int × Bool)) (W : World) : Prop where
  c : ∃ v, W.cell? ⟨bb, 0, none⟩ = some v ∧ OwI W (bb + 1) v (pickL pre)
  f : W.frozen? ⟨bb, 0, none⟩ = false
  l : bb < W.heap.size
theorem LsP.keeps {L : Lay} {bb : Nat} {pre : List (Int × Bool)} {W W' : World} (h : LsP bb pre W) (k : Keeps L.has W W') (hb : ∀ g, L.has g → g < bb) : LsP bb pre W' := by
  have hn : ¬ L.has bb := fun e => by have := hb bb e; omega
  obtain ⟨v, h1, h2⟩ := h.c
  exact ⟨⟨v, (k.cell (p := ⟨bb, 0, none⟩) h.l hn).trans h1, owK h2 k (fun g hg e => by have := (World.ownsRow.lt h2 g hg).1; have := hb g e; omega)⟩, (k.frozen (p := ⟨bb, 0, none⟩) h.l hn).trans h.f, Nat.lt_of_lt_of_le h.l k.size⟩
theorem list1_any (bb : Nat) (pre : List (Int × Bool)) (n : Int) (m : Bool) (W : World) (h : LsP bb pre W) (hl : pre.length < 4096) : Calls Tryz.prog 47 #[.int .i64 n, .bool m, .pointer (some ⟨bb, 0, none⟩)] W fun e w' => e = .returned (.tuple #[]) ∧ LsP bb (pre ++ [(n, m)]) w' ∧ Below bb W w' := by
  obtain ⟨v, h1, h2⟩ := h.c
  have hf := h.f
  have pl := pickL_len pre
  have HW : Hid (LsP bb pre W) := h
  have HE := pickL_app pre n m
  cases m with
  | true =>
    have HZ : Hid (LsP bb (pre ++ [(n, true)]) W) := ⟨⟨v, h1, by rw [HE]; exact h2⟩, h.f, h.l⟩
    clear h h2 HE
    go_enter Tryz.func47, Tryz.ntmps47
    go_wp2
    exact ⟨rfl, .tuple #[], by simp [results, Tryz.results47], rfl, HZ.out, Below.refl _ _⟩
  | false =>
    have HE2 : Hid (pickL (pre ++ [(n, false)]) = pickL pre ++ [n]) := HE
    obtain ⟨sp, cp, hsp⟩ := h2.form
    subst hsp
    have HO : Hid (OwI W (bb + 1) (.slice sp (pickL pre).length cp) (pickL pre)) := h2
    clear h h2 HE
    go_enter Tryz.func47, Tryz.ntmps47
    generalize hxs : pickL pre = xs at *
    go_wp2_with (at_builtin; refine hideG ?_)
    change wpList _ _ _ _ _ _
    refine app_one (cs := inZ) (wr := W) (by rfl) _ _ 31 3 (by rfl) Tryz.underlying31 infoZ rfl (by decide) (fun _ => rfl) (bb + 1) _ xs n HO.out (by rfl) W.heap.size rfl (by rfl) (inZ_one _) _ rfl (by unfold maxLen; omega) (by omega) HW.out.l ?_
    intro v' w3 ho3 hb3 hk3
    obtain ⟨l4, c4, hl4⟩ := ho3.form
    rw [List.length_append, List.length_singleton] at hl4
    subst hl4
    have e1 : w3.cell? ⟨bb, 0, none⟩ = some (.slice sp xs.length cp) := (hb3.cell (p := ⟨bb, 0, none⟩) (by show bb < bb + 1; omega)).trans h1
    have e2 : w3.frozen? ⟨bb, 0, none⟩ = false := (hb3.frozen (p := ⟨bb, 0, none⟩) (by show bb < bb + 1; omega)).trans hf
    have HZ : Hid (LsP bb (pre ++ [(n, false)]) (w3.setCell ⟨bb, 0, none⟩ (.slice l4 (xs.length + 1) c4)) ∧ Below bb W (w3.setCell ⟨bb, 0, none⟩ (.slice l4 (xs.length + 1) c4))) := by
      refine ⟨⟨⟨_, World.cell?_setCell_same _ _ _ e1, ?_⟩, by simpa using e2, ?_⟩, (Below.mono hb3 (show bb ≤ bb + 1 by omega)).setCell (p := ⟨bb, 0, none⟩) (Nat.le_refl _) _⟩
      · rw [HE2.out]
        exact ho3.set (p := ⟨bb, 0, none⟩) (by show bb < bb + 1; omega) _
      · have := HW.out.l
        have := hb3.size
        simp
        omega
    clear ho3 hb3 hk3 HO h1 hf
    go_wp2
    exact ⟨rfl, .tuple #[], by simp [results, Tryz.results47], rfl, HZ.out⟩
theorem ix_list (w : World) (L : Lay) (Q : List Nat) (S : AS) (X : XL) (x : XS) (b : Nat) (hb : b < x.nb) (h : CH w L Q S X x) (hk : WdOk S x) (hn : S.n ≤ 4096) : Calls Tryz.prog 25 #[.pointer (some ⟨X.x, 0, none⟩), .int .i64 (b : Int)] w fun e w' => ∃ v, e = .returned (.tuple #[v, .int .i64 0]) ∧ (OwI w' w.heap.size v (pickL (rowX S x b)) ∧ CH w' L Q S X x) ∧ Keeps L.has w w' := by
  have HC : Hid (∀ W, W = w.alloc (.cells #[.slice none 0 0] 31) → Calls Tryz.prog 46 #[.pointer (some ⟨X.x, 0, none⟩), .int .i64 (b : Int), .func (.func 47) #[] #[.pointer (some ⟨w.heap.size, 0, none⟩)]] W fun e w' => e = .returned (.int .i64 0) ∧ Hid (CH w' L Q S X x ∧ Keeps L.has w w') ∧ (∃ v, w'.cell? ⟨w.heap.size, 0, none⟩ = some v ∧ OwI w' w.heap.size v (pickL (rowX S x b)))) := by
    rintro W rfl
    have hg := heap_alloc_new w (.cells #[.slice none 0 0] 31)
    have ka : Keeps (fun _ => False) w (w.alloc (.cells #[.slice none 0 0] 31)) := (Keeps.refl _ _).alloc _
    refine (look_list (w.alloc (.cells #[.slice none 0 0] 31)) L Q S X x b w.heap.size _ (LsP w.heap.size) hb (h.keeps ka (fun _ _ e => e)) hk h.lt (by simp) ⟨⟨_, (cell?_heap hg 0).trans rfl, OwG.nil _ _ _ _ _⟩, frozen?_heap hg 0, by simp⟩ hn (fun pre W W' k hp => hp.keeps k (fun g hg => h.lt g (.inl hg))) (fun pre n m W hp hl hs => list1_any w.heap.size pre n m W hp hl)).mono ?_
    rintro e w' ⟨rfl, h1, h2, h3⟩
    obtain ⟨v, e1, e2⟩ := h2.c
    exact ⟨rfl, ⟨h1, Keeps.fresh (((ka.mono (fun _ e => e.elim)).trans h3))⟩, v, e1, e2.down (by omega)⟩
  clear h hk
  go_enter Tryz.func25, Tryz.ntmps25
  go_wp2_with fail
  refine (HC.out _ rfl).mono ?_
  rintro e w1 ⟨rfl, h1, v, h2, h3⟩
  have H3 : Hid (OwI w1 w.heap.size v (pickL (rowX S x b))) := h3
  clear h3 HC
  go_wp2
  go_ret2
  exact ⟨v, rfl, ⟨H3.out, h1.out.1⟩, h1.out.2⟩
theorem ix_list_no (w : World) (L : Lay) (Q : List Nat) (S : AS) (X : XL) (x : XS) (b : Int) (hb : inB x b = false) (h : CH w L Q S X x) : Calls Tryz.prog 25 #[.pointer (some ⟨X.x, 0, none⟩), .int .i64 b] w fun e w' => e = .returned (.tuple #[.slice none 0 0, .int .i64 40]) ∧ CH w' L Q S X x ∧ Keeps (fun _ => False) w w' := by
  have HC : Hid (∀ W, W = w.alloc (.cells #[.slice none 0 0] 31) → Calls Tryz.prog 46 #[.pointer (some ⟨X.x, 0, none⟩), .int .i64 b, .func (.func 47) #[] #[.pointer (some ⟨w.heap.size, 0, none⟩)]] W fun e w' => e = .returned (.int .i64 40) ∧ Hid (CH w' L Q S X x ∧ Keeps (fun _ => False) w w') ∧ w'.cell? ⟨w.heap.size, 0, none⟩ = some (.slice none 0 0)) := by
    rintro W rfl
    have hg := heap_alloc_new w (.cells #[.slice none 0 0] 31)
    have ka : Keeps (fun _ => False) w (w.alloc (.cells #[.slice none 0 0] 31)) := (Keeps.refl _ _).alloc _
    have hc := h.keeps ka (fun _ _ e => e)
    refine (look_list_no _ L Q S X x b _ hb hc).mono ?_
    rintro e w' ⟨rfl, hw⟩
    rw [hw]
    exact ⟨rfl, ⟨hc, ka⟩, (cell?_heap hg 0).trans rfl⟩
  clear h hb
  go_enter Tryz.func25, Tryz.ntmps25
  go_wp2_with fail
  refine (HC.out _ rfl).mono ?_
  rintro e w1 ⟨rfl, h1, h2⟩
  clear HC
  go_wp2
  go_ret2
  exact ⟨rfl, h1.out⟩
theorem look_held (w : World) (L : Lay) (Q : List Nat) (S : AS) (X : XL) (x : XS) (b N : Nat) (c1 : Value) (P : List (Int × Bool) → World → Prop) (hb : b < x.nb) (h : CH w L Q S X x) (hk : WdOk S x) (hN : ∀ g, chF L X g → g < N) (hs : N ≤ w.heap.size) (hp : P [] w) (hn : S.n ≤ 4096)
    (hX : ∀ pre W W', Keeps L.has W W' → P pre W → P pre W') (HC : Hid (∀ (pre : List (Int × Bool)) (n : Int) (m : Bool) (W : World), P pre W → pre.length < 4096 → N ≤ W.heap.size → Calls Tryz.prog 55 #[.int .i64 n, .bool m, c1] W fun e w' => e = .returned (.tuple #[]) ∧ P (pre ++ [(n, m)]) w' ∧ Below N W w')) :
    Calls Tryz.prog 46 #[.pointer (some ⟨X.x, 0, none⟩), .int .i64 (b : Int), .func (.func 55) #[] #[c1]] w fun e w' => e = .returned (.int .i64 0) ∧ CH w' L Q S X x ∧ P (rowX S x b) w' ∧ Keeps (fun g => L.has g ∨ N ≤ g) w w' := by
  have hh := hk.2 b hb
  have H0 : Hid (CH w L Q S X x ∧ P [] w) := ⟨h, hp⟩
  have HX : Hid (∀ pre W W', Keeps L.has W W' → P pre W → P pre W') := hX
  have HNN : Hid ((∀ g, chF L X g → g < N) ∧ N ≤ w.heap.size) := ⟨hN, hs⟩
  have HK : Hid (∀ i, LkOk (S.word i)) := hk.1
  have HH : Hid (∀ _ : Unit, _) := fun _ => ix_has w L.b X x (b : Int) h.i
  rw [inB_of x b hb] at HH
  have c2 := h.i.c2
  have hd := h.i.hd b hb
  have b0 : (0 : Int) ≤ (b : Int) := Int.natCast_nonneg _
  have b1 : (b : Int) < (x.nb : Int) := by omega
  have hnb := h.i.nb
  have hcw := h.c
  have hwd := h.a.h.hw.2
  obtain ⟨v0, hv0⟩ : ∃ v0, x.hd b = v0 := ⟨_, rfl⟩
  have HRX : Hid (rowX S x b = rowL S x.cell 4096 (v0 / 2)) := by rw [← hv0]; rfl
  rw [hv0] at hd hh
  have HT : Hid (∀ (v : Int) (W : World), LkOk v → Calls Tryz.prog 82 #[.int .u64 v] W fun e w' => e = .returned (.tuple #[.int .i64 (v / 2), .bool (v % 2 == 1)]) ∧ w' = W) := fun v W hv => take_any v W hv
  have HL : Hid (∀ _ : Unit, _) := fun _ => u64_load ⟨X.h, b, none⟩ v0 w hd
  have HV : Hid (LkOk v0) := hh
  clear h hk hh hv0 hp hX hN hs
  go_enter Tryz.func46, Tryz.ntmps46
  go_wp2_with fail
  refine (HH.out ()).mono ?_
  rintro e w1 ⟨rfl, hw1⟩
  rw [hw1]
  clear hw1 w1 HH
  go_wp2_with fail
  refine (HL.out ()).mono ?_
  rintro e w1 ⟨rfl, hw1⟩
  rw [hw1]
  clear hw1 w1 HL
  go_wp2_with fail
  refine (HT.out v0 w HV.out).mono ?_
  rintro e w1 ⟨rfl, hw1⟩
  rw [hw1]
  clear hw1 w1 c2 hd
  go_wp2_with fail
  go_loopw [7, 30] (fun nv i wr => ∃ (pre : List (Int × Bool)) (n : Int), nv = .int .i64 n ∧ i = .int .i64 (pre.length : Int) ∧ pre.length ≤ 4096 ∧ (0 ≤ n ∧ n ≤ 2147483647) ∧ rowL S x.cell 4096 (v0 / 2) = pre ++ rowL S x.cell (4096 - pre.length) n ∧ CH wr L Q S X x ∧ P pre wr ∧ Keeps (fun g => L.has g ∨ N ≤ g) w wr) (fun _ i _ => 4096 - (intOf i).toNat)
  case atStart => exact ⟨[], v0 / 2, rfl, rfl, by simp, ⟨by have := HV.out.1; omega, by have := HV.out.2; omega⟩, rfl, H0.out.1, H0.out.2, Keeps.refl _ _⟩
  case round =>
    obtain ⟨pre, n, rfl, rfl, hl, hn2, hR, hch, hP, hkp⟩ := hrel
    have HR : Hid (rowL S x.cell 4096 (v0 / 2) = pre ++ rowL S x.cell (4096 - pre.length) n) := hR
    have HS : Hid (CH wr L Q S X x ∧ P pre wr ∧ Keeps (fun g => L.has g ∨ N ≤ g) w wr) := ⟨hch, hP, hkp⟩
    have d0 := hch.i.c0
    clear hR hch hP hkp
    by_cases h5 : pre.length < 4096
    · have t1 : (pre.length : Int) < 4096 := by omega
      cases hlv : liv S n with
      | false =>
        have HF : Hid (rowX S x b = pre) := by
          show _ = _
          rw [HRX.out]
          exact RoLe (t := 0) HR.out (.inl hlv)
        have HP : Hid (∀ _ : Unit, _) := fun _ => arn_peek_no L S wr Q n HS.out.1.a hlv
        clear hlv
        go_wp2_with fail
        refine (HP.out ()).mono ?_
        rintro e w1 ⟨rfl, ha, ka⟩
        have HZ : Hid (CH w1 L Q S X x ∧ P (rowX S x b) w1 ∧ Keeps (fun g => L.has g ∨ N ≤ g) w w1) := by
          refine ⟨HS.out.1.arn ha ka rfl, ?_, HS.out.2.2.trans (ka.mono (fun _ e => .inl e))⟩
          rw [HF.out]
          exact HX.out _ _ _ ka HS.out.2.1
        clear ha ka HP HS d0
        go_wp2
        go_ret
        exact ⟨rfl, HZ.out⟩
      | true =>
        have HSt : Hid (∀ _ : Unit, _) := fun _ => RoLs HR.out hlv h5
        have HP : Hid (∀ _ : Unit, _) := fun _ => arn_peek L S wr Q n HS.out.1.a hlv
        obtain ⟨v, hv⟩ : ∃ v, S.word (atC S n x.cell) = v := ⟨_, rfl⟩
        have HVn : Hid (LkOk v) := by rw [← hv]; exact HK.out _
        rw [hv] at HSt
        have HVV : Hid (S.word (atC S n x.cell) = v) := hv
        have cw1 : (x.cell : Int) < (S.wd : Int) := by omega
        have cw0 : (0 : Int) ≤ (x.cell : Int) := Int.natCast_nonneg _
        clear hlv hv
        go_wp2_with fail
        refine (HP.out ()).mono ?_
        rintro e w3 ⟨g, rfl, ⟨ha, ka⟩, pk⟩
        have g3 : w3.cell? ⟨g, x.cell, none⟩ = some (.int .u64 v) := by rw [pk.wd x.cell hcw, HVV.out]
        have H3 : Hid (CH w3 L Q S X x ∧ P pre w3 ∧ Keeps (fun g => L.has g ∨ N ≤ g) w w3) := ⟨HS.out.1.arn ha ka rfl, HX.out _ _ _ ka HS.out.2.1, HS.out.2.2.trans (ka.mono (fun _ e => .inl e))⟩
        have d1 := H3.out.1.i.c1
        clear ha ka pk HP HS d0
        go_wp2_with fail
        refine (HT.out v w3 HVn.out).mono ?_
        rintro e w1 ⟨rfl, hw1⟩
        rw [hw1]
        clear hw1 w1 g3 d1
        obtain ⟨mb, hmb⟩ : ∃ mb, (v % 2 == 1) = mb := ⟨_, rfl⟩
        rw [hmb]
        rw [hmb] at HSt
        clear hmb
        go_wp2_with fail
        refine (HC.out pre n mb w3 H3.out.2.1 h5 (Nat.le_trans HNN.out.2 H3.out.2.2.size)).mono ?_
        rintro e w4 ⟨rfl, p4, b4⟩
        have HZ : Hid (CH w4 L Q S X x ∧ P (pre ++ [(n, mb)]) w4 ∧ Keeps (fun g => L.has g ∨ N ≤ g) w w4) := ⟨H3.out.1.below HNN.out.1 (Nat.le_trans HNN.out.2 H3.out.2.2.size) b4, p4, keepsN H3.out.2.2 b4⟩
        clear p4 b4 H3
        go_wp2
        go_roundw
        case rel => exact ⟨pre ++ [(n, mb)], v / 2, rfl, by rw [List.length_append]; go_num, by rw [List.length_append]; simp; omega, ⟨by have := HVn.out.1; omega, by have := HVn.out.2; omega⟩, HSt.out (), HZ.out⟩
        case measure => simp [intOf]; omega
    · have t1 : ¬ (pre.length : Int) < 4096 := by omega
      have HF : Hid (rowX S x b = pre) := by
        show _ = _
        rw [HRX.out]
        exact RoLe (t := 0) HR.out (.inr (by omega))
      go_wp2
      go_ret
      rw [HF.out]
      exact ⟨rfl, HS.out⟩
theorem look_held_no (w : World) (L : Lay) (Q : List Nat) (S : AS) (X : XL) (x : XS) (b : Int) (c1 : Value) (hb : inB x b = false) (h : CH w L Q S X x) :
    Calls Tryz.prog 46 #[.pointer (some ⟨X.x, 0, none⟩), .int .i64 b, .func (.func 55) #[] #[c1]] w fun e w' => e = .returned (.int .i64 40) ∧ w' = w := by
  have HH : Hid (∀ _ : Unit, _) := fun _ => ix_has w L.b X x b h.i
  rw [hb] at HH
  clear h hb
  go_enter Tryz.func46, Tryz.ntmps46
  go_wp2_with fail
  refine (HH.out ()).mono ?_
  rintro e w1 ⟨rfl, hw1⟩
  rw [hw1]
  clear hw1 w1 HH
  go_wp2
  go_ret
  exact ⟨rfl, rfl⟩
/-- What Held's closure holds. -/
structure HdP (bb : Nat) (pre : List (Int × Bool)) (W : World) : Prop where
  c : W.cell? ⟨bb, 0, none⟩ = some (.int .i64 (pre.length : Int))
  f : W.frozen? ⟨bb, 0, none⟩ = false
  l : bb < W.heap.size
theorem held1_any (bb : Nat) (pre : List (Int × Bool)) (n : Int) (m : Bool) (W : World) (h : HdP bb pre W) (hl : pre.length < 4096) : Calls Tryz.prog 55 #[.int .i64 n, .bool m, .pointer (some ⟨bb, 0, none⟩)] W fun e w' => e = .returned (.tuple #[]) ∧ HdP bb (pre ++ [(n, m)]) w' ∧ Below bb W w' := by
  have h1 := h.c
  have hf := h.f
  have HZ : Hid (HdP bb (pre ++ [(n, m)]) (W.setCell ⟨bb, 0, none⟩ (.int .i64 ((pre.length : Int) + 1))) ∧ Below bb W (W.setCell ⟨bb, 0, none⟩ (.int .i64 ((pre.length : Int) + 1)))) := by
    refine ⟨⟨?_, by simpa using h.f, by simpa using h.l⟩, (Below.refl _ _).setCell (p := ⟨bb, 0, none⟩) (Nat.le_refl _) _⟩
    rw [World.cell?_setCell_same _ _ _ h1, List.length_append]
    simp
  clear h
  go_enter Tryz.func55, Tryz.ntmps55
  go_wp2
  exact ⟨rfl, .tuple #[], by simp [results, Tryz.results55], rfl, HZ.out⟩
theorem ix_held (w : World) (L : Lay) (Q : List Nat) (S : AS) (X : XL) (x : XS) (b : Nat) (hb : b < x.nb) (h : CH w L Q S X x) (hk : WdOk S x) (hn : S.n ≤ 4096) : Calls Tryz.prog 32 #[.pointer (some ⟨X.x, 0, none⟩), .int .i64 (b : Int)] w fun e w' => e = .returned (.tuple #[.int .i64 ((rowX S x b).length : Int), .int .i64 0]) ∧ CH w' L Q S X x ∧ Keeps L.has w w' := by
  have HC : Hid (∀ W, W = w.alloc (.cells #[.int .i64 0] 3) → Calls Tryz.prog 46 #[.pointer (some ⟨X.x, 0, none⟩), .int .i64 (b : Int), .func (.func 55) #[] #[.pointer (some ⟨w.heap.size, 0, none⟩)]] W fun e w' => e = .returned (.int .i64 0) ∧ Hid (CH w' L Q S X x ∧ Keeps L.has w w') ∧ w'.cell? ⟨w.heap.size, 0, none⟩ = some (.int .i64 ((rowX S x b).length : Int))) := by
    rintro W rfl
    have hg := heap_alloc_new w (.cells #[.int .i64 0] 3)
    have ka : Keeps (fun _ => False) w (w.alloc (.cells #[.int .i64 0] 3)) := (Keeps.refl _ _).alloc _
    refine (look_held (w.alloc (.cells #[.int .i64 0] 3)) L Q S X x b w.heap.size _ (HdP w.heap.size) hb (h.keeps ka (fun _ _ e => e)) hk h.lt (by simp) ⟨(cell?_heap hg 0).trans rfl, frozen?_heap hg 0, by simp⟩ hn (fun pre W W' k hp => ?_) (fun pre n m W hp hl hs => held1_any w.heap.size pre n m W hp hl)).mono ?_
    · have hn : ¬ L.has w.heap.size := fun e => by have := h.lt _ (.inl e); omega
      exact ⟨(k.cell (p := ⟨w.heap.size, 0, none⟩) hp.l hn).trans hp.c, (k.frozen (p := ⟨w.heap.size, 0, none⟩) hp.l hn).trans hp.f, Nat.lt_of_lt_of_le hp.l k.size⟩
    rintro e w' ⟨rfl, h1, h2, h3⟩
    exact ⟨rfl, ⟨h1, Keeps.fresh (((ka.mono (fun _ e => e.elim)).trans h3))⟩, h2.c⟩
  clear h hk
  go_enter Tryz.func32, Tryz.ntmps32
  go_wp2_with fail
  refine (HC.out _ rfl).mono ?_
  rintro e w1 ⟨rfl, h1, h2⟩
  clear HC
  go_wp2
  go_ret2
  exact ⟨rfl, h1.out⟩
theorem ix_held_no (w : World) (L : Lay) (Q : List Nat) (S : AS) (X : XL) (x : XS) (b : Int) (hb : inB x b = false) (h : CH w L Q S X x) : Calls Tryz.prog 32 #[.pointer (some ⟨X.x, 0, none⟩), .int .i64 b] w fun e w' => e = .returned (.tuple #[.int .i64 0, .int .i64 40]) ∧ CH w' L Q S X x ∧ Keeps (fun _ => False) w w' := by
  have HC : Hid (∀ W, W = w.alloc (.cells #[.int .i64 0] 3) → Calls Tryz.prog 46 #[.pointer (some ⟨X.x, 0, none⟩), .int .i64 b, .func (.func 55) #[] #[.pointer (some ⟨w.heap.size, 0, none⟩)]] W fun e w' => e = .returned (.int .i64 40) ∧ Hid (CH w' L Q S X x ∧ Keeps (fun _ => False) w w') ∧ w'.cell? ⟨w.heap.size, 0, none⟩ = some (.int .i64 0)) := by
    rintro W rfl
    have hg := heap_alloc_new w (.cells #[.int .i64 0] 3)
    have ka : Keeps (fun _ => False) w (w.alloc (.cells #[.int .i64 0] 3)) := (Keeps.refl _ _).alloc _
    have hc := h.keeps ka (fun _ _ e => e)
    refine (look_held_no _ L Q S X x b _ hb hc).mono ?_
    rintro e w' ⟨rfl, hw⟩
    rw [hw]
    exact ⟨rfl, ⟨hc, ka⟩, (cell?_heap hg 0).trans rfl⟩
  clear h hb
  go_enter Tryz.func32, Tryz.ntmps32
  go_wp2_with fail
  refine (HC.out _ rfl).mono ?_
  rintro e w1 ⟨rfl, h1, h2⟩
  clear HC
  go_wp2
  go_ret2
  exact ⟨rfl, h1.out⟩
end Go.Proofs.YtdjklcmkcccpeaaGreat

namespace Go.Proofs.YtdjklcmkcccpeaaGreat
set_option linter.unusedSimpArgs false
open Go.ChangeShapes Go.WideShapes Go.ChangeAt Go.RowKit
set_option linter.unusedVariables false
theorem infoSl : (Tryz.prog.info? 230).map (fun i => (i.zero, i.size, i.bytes)) = some (some (.agg #[.bool false, .string ⟨#[]⟩, .string ⟨#[]⟩, .int .i64 0, .slice none 0 0, .int .i64 0]), 6, 80) := by kernel_rfl
/-- A document's slot as made. -/
def zSlot : List Value := [.bool false, .string ⟨#[]⟩, .string ⟨#[]⟩, .int .i64 0, .slice none 0 0, .int .i64 0]
def ownSl (w : World) (B : Nat) (v : Value) (m : Nat) (xs : List Value) : Prop := w.ownsRow B 230 6 v m xs
theorem rows_ne {w : World} {B B' e e' k k' n n' : Nat} {v v' : Value} {xs xs' : List Value} (h : w.ownsRow B e k v n xs) (h' : w.ownsRow B' e' k' v' n' xs') (he : e ≠ e') : v.ownBlock = none ∨ v.ownBlock ≠ v'.ownBlock := by
  rcases h.2 with ⟨rfl, _⟩ | ⟨g, cap, cur, rfl, _, h1, _⟩
  · exact Or.inl rfl
  · refine Or.inr fun e1 => ?_
    rcases h'.2 with ⟨rfl, _⟩ | ⟨g', cap', cur', rfl, _, h2, _⟩
    · cases e1
    · have : g = g' := by injection e1
      subst this
      rw [h1] at h2
      injection h2 with h2
      injection h2 with _ h3 _
      exact he h3
theorem app_slotL {wr : World} {ops : Array Oper} {rest : List Oper} {o : Oper} {a : Act} {Q : Exit → Act → World → Prop} (hgd : o.guard = none) (s x : Operand)
    (ho : o.op = .call { callee := .builtin .append, args := #[s, x], argTypes := #[226, 226] })
    (B : Nat) (v : Value) (m : Nat) (xs : List Value) (hown : ownSl wr B v m xs) (hs : a.eval s = v) (gn : Nat) (hgn : gn = wr.heap.size) (hx : a.eval x = .slice (some ⟨gn, 0, none⟩) 1 1)
    (hlen : (m + 1) * 80 ≤ 140737488355328) (hB : B ≤ wr.heap.size)
    (h : ∀ v' w', ownSl w' B v' (m + 1) (xs ++ zSlot) → Below B wr w' → (∀ vQ qs, ownI wr B vQ qs → ownI w' B vQ qs) → wpList Tryz.prog ops Q rest (a.put o.dst v') w') :
    wpList Tryz.prog ops Q (o :: rest) a (wr.alloc (.cells #[.bool false, .string ⟨#[]⟩, .string ⟨#[]⟩, .int .i64 0, .slice none 0 0, .int .i64 0] 230)) := by
  subst hgn
  obtain ⟨i0, hi, hz0, hz1, hz2⟩ := info_parts infoSl
  have hg := heap_alloc_new wr (.cells #[.bool false, .string ⟨#[]⟩, .string ⟨#[]⟩, .int .i64 0, .slice none 0 0, .int .i64 0] 230)
  refine wpList_append_own _ hgd s x 226 ho B 230 i0 _ 6 80 Tryz.underlying226 hi hz0 hz1 hz2 rfl (by decide) v m _ hs (World.ownsRow.alloc hown _)
    ⟨wr.heap.size, 0, none⟩ 1 1 zSlot hx rfl ?_ ?_ (by unfold maxLen; omega) (by omega) (by simp; omega) ?_
  · intro j u hj
    have hj6 : j < 6 := by
      have := (List.getElem?_eq_some_iff.1 hj).1
      simpa [zSlot] using this
    have ea : (⟨wr.heap.size, 0, none⟩ : Addr).add j = ⟨wr.heap.size, j, none⟩ := by unfold Addr.add; split <;> simp_all
    rw [ea, cell?_heap hg, ← hj, ← Array.getElem?_toList]
    rfl
  · intro u hu
    simp [zSlot] at hu
    rcases hu with rfl | rfl | rfl | rfl | rfl <;> rfl
  · intro v' w' hown' hgrow _
    refine h v' w' hown' ?_ (fun vQ qs hq => ?_)
    · exact ((Below.refl _ _).alloc hB _).grown hgrow (by simp; omega) (fun k hk => (World.ownsRow.lt hown k hk).1)
    · exact World.ownsRow.kept (World.ownsRow.alloc hq _) hgrow (rows_ne hq hown (by decide))
theorem app_queL {wr : World} {ops : Array Oper} {rest : List Oper} {o : Oper} {a : Act} {Q : Exit → Act → World → Prop} (hgd : o.guard = none) (s x : Operand)
    (ho : o.op = .call { callee := .builtin .append, args := #[s, x], argTypes := #[31, 31] })
    (B : Nat) (v : Value) (xs : List Int) (c : Int) (hown : ownI wr B v xs) (hs : a.eval s = v) (gn : Nat) (hgn : gn = wr.heap.size) (hx : a.eval x = .slice (some ⟨gn, 0, none⟩) 1 1)
    (hlen : (xs.length + 1) * 8 ≤ 140737488355328) (hB : B ≤ wr.heap.size)
    (h : ∀ v' w', ownI w' B v' (xs ++ [c]) → Below B wr w' → (∀ vS m ss, ownSl wr B vS m ss → ownSl w' B vS m ss) → wpList Tryz.prog ops Q rest (a.put o.dst v') w') :
    wpList Tryz.prog ops Q (o :: rest) a (wr.alloc (.cells #[.int .i64 c] 3)) := by
  subst hgn
  obtain ⟨i0, hi, hz0, hz1, hz2⟩ := info_parts infoI
  refine wpList_append_own _ hgd s x 31 ho B 3 i0 (.int .i64 0) 1 8 Tryz.underlying31 hi hz0 hz1 hz2 rfl (by decide) v xs.length _ hs (World.ownsRow.alloc hown _)
    ⟨wr.heap.size, 0, none⟩ 1 1 [.int .i64 c] hx rfl ?_ ?_ (by unfold maxLen; omega) (by omega) (by simp; omega) ?_
  · intro j u hj
    match j, hj with
    | 0, hj => simp at hj; subst hj; simp [Addr.add]
  · intro u hu; simp at hu; subst hu; rfl
  · intro v' w' hown' hgrow _
    refine h v' w' ?_ ?_ (fun vS m ss hq => ?_)
    · have : (xs ++ [c]).length = xs.length + 1 := by simp
      unfold ownI; rw [this, List.map_append]; exact hown'
    · exact ((Below.refl _ _).alloc hB _).grown hgrow (by simp; omega) (fun k hk => (World.ownsRow.lt hown k hk).1)
    · exact World.ownsRow.kept (World.ownsRow.alloc hq _) hgrow (rows_ne hq hown (by decide))
theorem ownSl.form {w : World} {B m : Nat} {v : Value} {xs : List Value} (h : ownSl w B v (m + 1) xs) : ∃ g cap, v = .slice (some ⟨g, 0, none⟩) (m + 1) cap := by
  rcases h.2 with ⟨_, h0⟩ | ⟨g, cap, cur, rfl, _⟩
  · omega
  · exact ⟨g, cap, rfl⟩
theorem ownI.formS {w : World} {B : Nat} {v : Value} {xs : List Int} {c : Int} (h : ownI w B v (xs ++ [c])) : ∃ g cap, v = .slice (some ⟨g, 0, none⟩) (xs.length + 1) cap := by
  rcases h.2 with ⟨_, h0⟩ | ⟨g, cap, cur, rfl, _⟩
  · simp at h0
  · exact ⟨g, cap, by simp⟩
/-- The document's arena while it is made: it has m slots (the first is none), t numbers in its queue. -/
structure RefN (w : World) (rb wd m t : Nat) (vS vQ : Value) (W : World) : Prop where
  c0 : W.cell? ⟨rb, 0, none⟩ = some (.int .i64 (wd : Int))
  c1 : W.cell? ⟨rb, 1, none⟩ = some vS
  c2 : W.cell? ⟨rb, 2, none⟩ = some vQ
  fz : ∀ j, W.frozen? ⟨rb, j, none⟩ = false
  oS : ∃ ss, ownSl W (rb + 1) vS m ss
  oQ : ∃ qs, ownI W (rb + 1) vQ qs ∧ qs.length = t
  low : Below w.heap.size w W
  hb : w.heap.size ≤ rb
  lt : rb + 1 ≤ W.heap.size
theorem RefN.at {w W w2 : World} {rb wd m t : Nat} {vS vQ : Value} (h : RefN w rb wd m t vS vQ W) (hb : Below (rb + 1) W w2) : (∀ j, w2.cell? ⟨rb, j, none⟩ = W.cell? ⟨rb, j, none⟩) ∧ (∀ j, w2.frozen? ⟨rb, j, none⟩ = false) :=
  ⟨fun j => hb.cell (p := ⟨rb, j, none⟩) (by show rb < rb + 1; omega), fun j => (hb.frozen (p := ⟨rb, j, none⟩) (by show rb < rb + 1; omega)).trans (h.fz j)⟩
theorem RefN.slot {w W w2 : World} {rb wd m t : Nat} {vS vQ v' : Value} {ss : List Value} (h : RefN w rb wd m t vS vQ W) (ho : ownSl w2 (rb + 1) v' (m + 1) ss) (hb : Below (rb + 1) W w2) (hq : ∀ vQ qs, ownI W (rb + 1) vQ qs → ownI w2 (rb + 1) vQ qs) : RefN w rb wd (m + 1) t v' vQ (w2.setCell ⟨rb, 1, none⟩ v') := by
  obtain ⟨cc, cf⟩ := h.at hb
  have hne : ∀ j, j ≠ 1 → (w2.setCell ⟨rb, 1, none⟩ v').cell? ⟨rb, j, none⟩ = w2.cell? ⟨rb, j, none⟩ := fun j hj => World.cell?_setCell_other _ _ _ _ (fun e => hj (congrArg Addr.off e).symm)
  obtain ⟨qs, q1, q2⟩ := h.oQ
  refine ⟨(hne 0 (by decide)).trans ((cc 0).trans h.c0), World.cell?_setCell_same _ _ _ ((cc 1).trans h.c1), (hne 2 (by decide)).trans ((cc 2).trans h.c2), fun j => by simpa using cf j, ⟨ss, ownsRow_setCell_below ho (a := ⟨rb, 1, none⟩) (by show rb < rb + 1; omega) _⟩, ⟨qs, ownsRow_setCell_below (hq vQ qs q1) (a := ⟨rb, 1, none⟩) (by show rb < rb + 1; omega) _, q2⟩, (h.low.trans (hb.mono (by have := h.hb; omega))).setCell (p := ⟨rb, 1, none⟩) h.hb _, h.hb, ?_⟩
  have := hb.size
  have := h.lt
  simp
  omega
theorem RefN.que {w W w2 : World} {rb wd m t : Nat} {vS vQ v' : Value} {qs : List Int} {c : Int} (h : RefN w rb wd m t vS vQ W) (ho : ownI w2 (rb + 1) v' (qs ++ [c])) (hl : qs.length = t) (hb : Below (rb + 1) W w2) (hq : ∀ vS m ss, ownSl W (rb + 1) vS m ss → ownSl w2 (rb + 1) vS m ss) : RefN w rb wd m (t + 1) vS v' (w2.setCell ⟨rb, 2, none⟩ v') := by
  obtain ⟨cc, cf⟩ := h.at hb
  have hne : ∀ j, j ≠ 2 → (w2.setCell ⟨rb, 2, none⟩ v').cell? ⟨rb, j, none⟩ = w2.cell? ⟨rb, j, none⟩ := fun j hj => World.cell?_setCell_other _ _ _ _ (fun e => hj (congrArg Addr.off e).symm)
  obtain ⟨ss, q1⟩ := h.oS
  refine ⟨(hne 0 (by decide)).trans ((cc 0).trans h.c0), (hne 1 (by decide)).trans ((cc 1).trans h.c1), World.cell?_setCell_same _ _ _ ((cc 2).trans h.c2), fun j => by simpa using cf j, ⟨ss, ownsRow_setCell_below (hq vS m ss q1) (a := ⟨rb, 2, none⟩) (by show rb < rb + 1; omega) _⟩, ⟨qs ++ [c], ownsRow_setCell_below ho (a := ⟨rb, 2, none⟩) (by show rb < rb + 1; omega) _, by simp [hl]⟩, (h.low.trans (hb.mono (by have := h.hb; omega))).setCell (p := ⟨rb, 2, none⟩) h.hb _, h.hb, ?_⟩
  have := hb.size
  have := h.lt
  simp
  omega
theorem RefN.start (w : World) (wd : Nat) : RefN w w.heap.size wd 0 0 (.slice none 0 0) (.slice none 0 0) (w.alloc (.cells #[.int .i64 (wd : Int), .slice none 0 0, .slice none 0 0, .int .i64 0, .int .i64 0] 228)) := by
  have hg := heap_alloc_new w (.cells #[.int .i64 (wd : Int), .slice none 0 0, .slice none 0 0, .int .i64 0, .int .i64 0] 228)
  exact ⟨(cell?_heap hg 0).trans rfl, (cell?_heap hg 1).trans rfl, (cell?_heap hg 2).trans rfl, fun j => frozen?_heap hg j, ⟨[], World.ownsRow_nil _ _ _ _⟩, ⟨[], ownI_nil _ _, rfl⟩, (Below.refl _ _).alloc (Nat.le_refl _) _, Nat.le_refl _, by simp⟩
theorem ownI.sl {w : World} {B : Nat} {v : Value} {xs : List Int} (h : ownI w B v xs) : ∃ sp len cap, v = .slice sp len cap := by
  rcases h.2 with ⟨rfl, _⟩ | ⟨g, cap, cur, rfl, _⟩
  · exact ⟨none, 0, 0, rfl⟩
  · exact ⟨_, _, _, rfl⟩
set_option maxRecDepth 100000 in
set_option maxHeartbeats 3200000 in
theorem ref_new (n wd : Nat) (w : World) (h1 : 1 ≤ n) (h2 : n ≤ 4096) (h3 : 1 ≤ wd) (h4 : wd ≤ 16) : Calls Tryz.prog 98 #[.int .i64 (n : Int), .int .i64 (wd : Int)] w fun e w' => ∃ vS vQ, e = .returned (.tuple #[.pointer (some ⟨w.heap.size, 0, none⟩), .int .i64 0]) ∧ RefN w w.heap.size wd (n + 1) n vS vQ w' := by
  have i1 : ¬ (n : Int) < 1 := by omega
  have i2 : ¬ (n : Int) > 4096 := by omega
  have i3 : ¬ (wd : Int) < 1 := by omega
  have i4 : ¬ (wd : Int) > 16 := by omega
  have HC : Hid (RefN w w.heap.size wd 0 0 _ _ _) := RefN.start w wd
  go_enter Tryz.func98, Tryz.ntmps98
  go_wp2_with (at_builtin; refine app_slotL (by rfl) _ _ (by rfl) (w.heap.size + 1) (.slice none 0 0) 0 [] (World.ownsRow_nil _ _ _ _) (by rfl) (w.heap.size + 1) (by simp) (by rfl) (by omega) (by simp) ?_; intro v' w2 ho2 hb2 hq2; have d1 : w2.cell? ⟨w.heap.size, 1, none⟩ = some (.slice none 0 0) := ((HC.out.at hb2).1 1).trans HC.out.c1; have d2 : w2.frozen? ⟨w.heap.size, 1, none⟩ = false := (HC.out.at hb2).2 1; obtain ⟨g', cap', rfl⟩ := ho2.form; have H2 : Hid (RefN w w.heap.size wd (0 + 1) 0 _ _ _) := HC.out.slot ho2 hb2 hq2; clear ho2 hb2 hq2)
  have hrb : w.heap.size = w.heap.size := rfl
  generalize hrb2 : w.heap.size = rb at *
  clear hrb d1 d2 HC
  go_loopw [7] (fun i wr => ∃ (t : Nat) (vS vQ : Value), t ≤ n ∧ i = .int .i64 ((t : Int) + 1) ∧ RefN w rb wd (t + 1) t vS vQ wr) (fun i _ => n + 1 - (intOf i).toNat)
  case atStart => exact ⟨0, _, _, by omega, rfl, H2.out⟩
  case round =>
    obtain ⟨t, vS, vQ, ht, rfl, hR⟩ := hrel
    have H3 : Hid (RefN w rb wd (t + 1) t vS vQ wr) := hR
    clear hR H2
    by_cases h5 : t < n
    · obtain ⟨ss, hoS⟩ := H3.out.oS
      obtain ⟨g0, k0, rfl⟩ := hoS.form
      obtain ⟨qs, hoQ, hql⟩ := H3.out.oQ
      obtain ⟨sp, ln, cp, rfl⟩ := hoQ.sl
      have c1 := H3.out.c1
      have HS : Hid (ownSl wr (rb + 1) (.slice (some ⟨g0, 0, none⟩) (t + 1) k0) (t + 1) ss) := hoS
      have HQ : Hid (∃ qs, ownI wr (rb + 1) (.slice sp ln cp) qs ∧ qs.length = t) := ⟨qs, hoQ, hql⟩
      clear hoS hoQ hql qs
      go_wp2_with (first
        | (at_builtin; refine app_slotL (by rfl) _ _ (by rfl) (rb + 1) _ (t + 1) ss HS.out (by rfl) wr.heap.size (by rfl) (by rfl) (by omega) H3.out.lt ?_; intro v' w3 ho3 hb3 hq3; have d1 := ((H3.out.at hb3).1 1).trans H3.out.c1; have d2 := (H3.out.at hb3).2 1; obtain ⟨g1, k1, rfl⟩ := ho3.form; have H4 : Hid (RefN w rb wd (t + 1 + 1) t _ _ _) := H3.out.slot ho3 hb3 hq3; clear ho3 hb3 hq3; have c2 := H4.out.c2; obtain ⟨qs, hoQ, hql⟩ := H4.out.oQ; have HQ2 : Hid (ownI _ (rb + 1) (.slice sp ln cp) qs ∧ qs.length = t) := ⟨hoQ, hql⟩; clear hoQ hql)
        | (at_builtin; refine app_queL (by rfl) _ _ (by rfl) (rb + 1) _ qs ((t : Int) + 1) HQ2.out.1 (by rfl) w3.heap.size (by simp) (by rfl) (by rw [HQ2.out.2]; omega) H4.out.lt ?_; intro v'' w5 ho5 hb5 hq5; have d3 := ((H4.out.at hb5).1 2).trans H4.out.c2; have d4 := (H4.out.at hb5).2 2; obtain ⟨g2, k2, rfl⟩ := ho5.formS; have H5 : Hid (RefN w rb wd (t + 1 + 1) (t + 1) _ _ _) := H4.out.que ho5 HQ2.out.2 hb5 hq5; clear ho5 hb5 hq5))
      go_roundw
      case rel => exact ⟨t + 1, _, _, by omega, by go_num, H5.out⟩
      case measure => simp [intOf]; omega
    · have e5 : t = n := by omega
      subst e5
      go_wp2
      go_ret2
      exact ⟨vS, vQ, by rw [hrb2]; rfl, by rw [hrb2]; exact H3.out⟩
end Go.Proofs.YtdjklcmkcccpeaaGreat

namespace Go.Proofs.YtdjklcmkcccpeaaGreat
set_option linter.unusedSimpArgs false
open Go.ChangeShapes Go.WideShapes Go.ChangeAt Go.RowKit
set_option linter.unusedVariables false
def rzC (_ : Nat) : List Value := zSlot
def rzS (m : Nat) : List Value := (List.range m).flatMap rzC
def rqL (t : Nat) : List Int := (List.range t).map (fun k : Nat => (k : Int) + 1)
theorem rzS_len (m : Nat) : (rzS m).length = m * 6 := by
  unfold rzS
  rw [flat_len rzC 6 (fun _ => rfl), List.length_range]
theorem rzS_succ (m : Nat) : rzS (m + 1) = rzS m ++ zSlot := by
  unfold rzS
  rw [List.range_succ, List.flatMap_append]
  simp [rzC]
theorem rzS_at (m i j : Nat) (hi : i < m) (hj : j < 6) : (rzS m)[i * 6 + j]? = zSlot[j]? := by
  unfold rzS
  exact flat_get rzC 6 (fun _ => rfl) (List.range m) i (by simpa using hi) j hj
theorem rqL_len (t : Nat) : (rqL t).length = t := by simp [rqL]
theorem rqL_succ (t : Nat) : rqL (t + 1) = rqL t ++ [(t : Int) + 1] := by
  unfold rqL
  rw [List.range_succ, List.map_append]
  rfl
/-- The document's arena while it is made: it has m slots (the first is none), the numbers 1 to t in its queue. -/
structure RefM (w : World) (rb wd m t : Nat) (vS vQ : Value) (W : World) : Prop where
  c0 : W.cell? ⟨rb, 0, none⟩ = some (.int .i64 (wd : Int))
  c1 : W.cell? ⟨rb, 1, none⟩ = some vS
  c2 : W.cell? ⟨rb, 2, none⟩ = some vQ
  c3 : W.cell? ⟨rb, 3, none⟩ = some (.int .i64 0)
  c4 : W.cell? ⟨rb, 4, none⟩ = some (.int .i64 0)
  fz : ∀ j, W.frozen? ⟨rb, j, none⟩ = false
  oS : ownSl W (rb + 1) vS m (rzS m)
  oQ : ownI W (rb + 1) vQ (rqL t)
  low : Below w.heap.size w W
  hb : w.heap.size ≤ rb
  lt : rb + 1 ≤ W.heap.size
theorem RefM.at {w W w2 : World} {rb wd m t : Nat} {vS vQ : Value} (h : RefM w rb wd m t vS vQ W) (hb : Below (rb + 1) W w2) : (∀ j, w2.cell? ⟨rb, j, none⟩ = W.cell? ⟨rb, j, none⟩) ∧ (∀ j, w2.frozen? ⟨rb, j, none⟩ = false) :=
  ⟨fun j => hb.cell (p := ⟨rb, j, none⟩) (by show rb < rb + 1; omega), fun j => (hb.frozen (p := ⟨rb, j, none⟩) (by show rb < rb + 1; omega)).trans (h.fz j)⟩
theorem RefM.slot {w W w2 : World} {rb wd m t : Nat} {vS vQ v' : Value} (h : RefM w rb wd m t vS vQ W) (ho : ownSl w2 (rb + 1) v' (m + 1) (rzS m ++ zSlot)) (hb : Below (rb + 1) W w2) (hq : ∀ vQ qs, ownI W (rb + 1) vQ qs → ownI w2 (rb + 1) vQ qs) : RefM w rb wd (m + 1) t v' vQ (w2.setCell ⟨rb, 1, none⟩ v') := by
  obtain ⟨cc, cf⟩ := h.at hb
  have hne : ∀ j, j ≠ 1 → (w2.setCell ⟨rb, 1, none⟩ v').cell? ⟨rb, j, none⟩ = w2.cell? ⟨rb, j, none⟩ := fun j hj => World.cell?_setCell_other _ _ _ _ (fun e => hj (congrArg Addr.off e).symm)
  refine ⟨(hne 0 (by decide)).trans ((cc 0).trans h.c0), World.cell?_setCell_same _ _ _ ((cc 1).trans h.c1), (hne 2 (by decide)).trans ((cc 2).trans h.c2), (hne 3 (by decide)).trans ((cc 3).trans h.c3), (hne 4 (by decide)).trans ((cc 4).trans h.c4), fun j => by simpa using cf j, ?_, ownsRow_setCell_below (hq vQ _ h.oQ) (a := ⟨rb, 1, none⟩) (by show rb < rb + 1; omega) _, (h.low.trans (hb.mono (by have := h.hb; omega))).setCell (p := ⟨rb, 1, none⟩) h.hb _, h.hb, ?_⟩
  · rw [rzS_succ]
    exact ownsRow_setCell_below ho (a := ⟨rb, 1, none⟩) (by show rb < rb + 1; omega) _
  · have := hb.size
    have := h.lt
    simp
    omega
theorem RefM.que {w W w2 : World} {rb wd m t : Nat} {vS vQ v' : Value} (h : RefM w rb wd m t vS vQ W) (ho : ownI w2 (rb + 1) v' (rqL t ++ [(t : Int) + 1])) (hb : Below (rb + 1) W w2) (hq : ∀ vS m ss, ownSl W (rb + 1) vS m ss → ownSl w2 (rb + 1) vS m ss) : RefM w rb wd m (t + 1) vS v' (w2.setCell ⟨rb, 2, none⟩ v') := by
  obtain ⟨cc, cf⟩ := h.at hb
  have hne : ∀ j, j ≠ 2 → (w2.setCell ⟨rb, 2, none⟩ v').cell? ⟨rb, j, none⟩ = w2.cell? ⟨rb, j, none⟩ := fun j hj => World.cell?_setCell_other _ _ _ _ (fun e => hj (congrArg Addr.off e).symm)
  refine ⟨(hne 0 (by decide)).trans ((cc 0).trans h.c0), (hne 1 (by decide)).trans ((cc 1).trans h.c1), World.cell?_setCell_same _ _ _ ((cc 2).trans h.c2), (hne 3 (by decide)).trans ((cc 3).trans h.c3), (hne 4 (by decide)).trans ((cc 4).trans h.c4), fun j => by simpa using cf j, ownsRow_setCell_below (hq vS m _ h.oS) (a := ⟨rb, 2, none⟩) (by show rb < rb + 1; omega) _, ?_, (h.low.trans (hb.mono (by have := h.hb; omega))).setCell (p := ⟨rb, 2, none⟩) h.hb _, h.hb, ?_⟩
  · rw [rqL_succ]
    exact ownsRow_setCell_below ho (a := ⟨rb, 2, none⟩) (by show rb < rb + 1; omega) _
  · have := hb.size
    have := h.lt
    simp
    omega
theorem RefM.start (w : World) (wd : Nat) : RefM w w.heap.size wd 0 0 (.slice none 0 0) (.slice none 0 0) (w.alloc (.cells #[.int .i64 (wd : Int), .slice none 0 0, .slice none 0 0, .int .i64 0, .int .i64 0] 228)) := by
  have hg := heap_alloc_new w (.cells #[.int .i64 (wd : Int), .slice none 0 0, .slice none 0 0, .int .i64 0, .int .i64 0] 228)
  exact ⟨(cell?_heap hg 0).trans rfl, (cell?_heap hg 1).trans rfl, (cell?_heap hg 2).trans rfl, (cell?_heap hg 3).trans rfl, (cell?_heap hg 4).trans rfl, fun j => frozen?_heap hg j, World.ownsRow_nil _ _ _ _, ownI_nil _ _, (Below.refl _ _).alloc (Nat.le_refl _) _, Nat.le_refl _, by simp⟩
set_option maxRecDepth 100000 in
set_option maxHeartbeats 3200000 in
theorem ref_newM (n wd : Nat) (w : World) (h1 : 1 ≤ n) (h2 : n ≤ 4096) (h3 : 1 ≤ wd) (h4 : wd ≤ 16) : Calls Tryz.prog 98 #[.int .i64 (n : Int), .int .i64 (wd : Int)] w fun e w' => ∃ vS vQ, e = .returned (.tuple #[.pointer (some ⟨w.heap.size, 0, none⟩), .int .i64 0]) ∧ RefM w w.heap.size wd (n + 1) n vS vQ w' := by
  have i1 : ¬ (n : Int) < 1 := by omega
  have i2 : ¬ (n : Int) > 4096 := by omega
  have i3 : ¬ (wd : Int) < 1 := by omega
  have i4 : ¬ (wd : Int) > 16 := by omega
  have HC : Hid (RefM w w.heap.size wd 0 0 _ _ _) := RefM.start w wd
  go_enter Tryz.func98, Tryz.ntmps98
  go_wp2_with (at_builtin; refine app_slotL (by rfl) _ _ (by rfl) (w.heap.size + 1) (.slice none 0 0) 0 [] (World.ownsRow_nil _ _ _ _) (by rfl) (w.heap.size + 1) (by simp) (by rfl) (by omega) (by simp) ?_; intro v' w2 ho2 hb2 hq2; have d1 : w2.cell? ⟨w.heap.size, 1, none⟩ = some (.slice none 0 0) := ((HC.out.at hb2).1 1).trans HC.out.c1; have d2 : w2.frozen? ⟨w.heap.size, 1, none⟩ = false := (HC.out.at hb2).2 1; obtain ⟨g', cap', rfl⟩ := ho2.form; have H2 : Hid (RefM w w.heap.size wd (0 + 1) 0 _ _ _) := HC.out.slot ho2 hb2 hq2; clear ho2 hb2 hq2)
  have hrb : w.heap.size = w.heap.size := rfl
  generalize hrb2 : w.heap.size = rb at *
  clear hrb d1 d2 HC
  go_loopw [7] (fun i wr => ∃ (t : Nat) (vS vQ : Value), t ≤ n ∧ i = .int .i64 ((t : Int) + 1) ∧ RefM w rb wd (t + 1) t vS vQ wr) (fun i _ => n + 1 - (intOf i).toNat)
  case atStart => exact ⟨0, _, _, by omega, rfl, H2.out⟩
  case round =>
    obtain ⟨t, vS, vQ, ht, rfl, hR⟩ := hrel
    have H3 : Hid (RefM w rb wd (t + 1) t vS vQ wr) := hR
    clear hR H2
    by_cases h5 : t < n
    · have hoS := H3.out.oS
      obtain ⟨g0, k0, rfl⟩ := hoS.form
      have hoQ := H3.out.oQ
      obtain ⟨sp, ln, cp, rfl⟩ := hoQ.sl
      have c1 := H3.out.c1
      have HS : Hid (ownSl wr (rb + 1) (.slice (some ⟨g0, 0, none⟩) (t + 1) k0) (t + 1) (rzS (t + 1))) := hoS
      clear hoS hoQ
      go_wp2_with (first
        | (at_builtin; refine app_slotL (by rfl) _ _ (by rfl) (rb + 1) _ (t + 1) (rzS (t + 1)) HS.out (by rfl) wr.heap.size (by rfl) (by rfl) (by omega) H3.out.lt ?_; intro v' w3 ho3 hb3 hq3; have d1 := ((H3.out.at hb3).1 1).trans H3.out.c1; have d2 := (H3.out.at hb3).2 1; obtain ⟨g1, k1, rfl⟩ := ho3.form; have H4 : Hid (RefM w rb wd (t + 1 + 1) t _ _ _) := H3.out.slot ho3 hb3 hq3; clear ho3 hb3 hq3; have c2 := H4.out.c2; have HQ2 : Hid (ownI _ (rb + 1) (.slice sp ln cp) (rqL t)) := H4.out.oQ)
        | (at_builtin; refine app_queL (by rfl) _ _ (by rfl) (rb + 1) _ (rqL t) ((t : Int) + 1) HQ2.out (by rfl) w3.heap.size (by simp) (by rfl) (by rw [rqL_len]; omega) H4.out.lt ?_; intro v'' w5 ho5 hb5 hq5; have d3 := ((H4.out.at hb5).1 2).trans H4.out.c2; have d4 := (H4.out.at hb5).2 2; obtain ⟨g2, k2, rfl⟩ := ho5.formS; have H5 : Hid (RefM w rb wd (t + 1 + 1) (t + 1) _ _ _) := H4.out.que ho5 hb5 hq5; clear ho5 hb5 hq5))
      go_roundw
      case rel => exact ⟨t + 1, _, _, by omega, by go_num, H5.out⟩
      case measure => simp [intOf]; omega
    · have e5 : t = n := by omega
      subst e5
      go_wp2
      go_ret2
      exact ⟨vS, vQ, by rw [hrb2]; rfl, by rw [hrb2]; exact H3.out⟩
theorem map_inZ (xs : List Int) : xs.map (Value.int .i64) = xs.flatMap inZ := by
  induction xs with
  | nil => rfl
  | cons x xs ih => rw [List.map_cons, List.flatMap_cons, ih]; rfl
theorem ownI.owG {w : World} {B : Nat} {v : Value} {xs : List Int} (h : ownI w B v xs) : OwG inZ 3 1 w B v xs := by
  unfold OwG
  rw [← map_inZ]
  exact h
/-- The document's arena, just made. -/
theorem RefM.ra {w W : World} {rb wd n : Nat} {vS vQ : Value} (h : RefM w rb wd (n + 1) n vS vQ W) (h1 : 1 ≤ n) (h2 : n ≤ 4096) (h3 : 1 ≤ wd) (h4 : wd ≤ 16) : ∃ s cap, rb + 1 ≤ s ∧ RAr W ⟨rb, s, fun _ => 0⟩ cap vQ (List.range n) (.fresh n wd) ∧ ∀ g, raF ⟨rb, s, fun _ => 0⟩ vQ (.fresh n wd) g → w.heap.size ≤ g := by
  have hS := h.oS
  have hQ := h.oQ
  have hb := h.hb
  have hne : vQ.ownBlock = none ∨ vQ.ownBlock ≠ vS.ownBlock := rows_ne hQ hS (by decide)
  obtain ⟨s, cap, rfl⟩ := hS.form
  have hlt := World.ownsRow.lt hS s rfl
  have hc : ∀ k j, k < n + 1 → j < 6 → W.cell? ⟨s, k * 6 + j, none⟩ = zSlot[j]? := fun k j hk hj => by
    have e := World.ownsRow.cellAt hS (k * 6 + j) (by omega)
    rw [e, rzS_at _ _ _ hk hj]
  have oq : OwG inZ 3 1 W 0 vQ ((List.range n).map qZ) := hQ.owG.down (Nat.zero_le _)
  have hn1 : ∀ k, k < (AS.fresh n wd).n → k + 1 < n + 1 := fun k hk => by have hk : k < n := hk; omega
  refine ⟨s, cap, hlt.1, ⟨h.c0, h.c1, h.c2, h.c3, h.c4, fun k hk => hc (k + 1) 0 (hn1 k hk) (by decide), fun k hk => hc (k + 1) 1 (hn1 k hk) (by decide), fun k hk => hc (k + 1) 2 (hn1 k hk) (by decide), fun k hk => hc (k + 1) 3 (hn1 k hk) (by decide), fun k _ hu => (by cases hu), fun k hk _ => hc (k + 1) 4 (hn1 k hk) (by decide), fun k hk => hc (k + 1) 5 (hn1 k hk) (by decide), fun k _ hu => (by cases hu), oq, h.fz, fun j => ?_, fun k _ hu => (by cases hu), by have := h.lt; exact this, hlt.2, fun k _ hu => (by cases hu), by show rb ≠ s; omega, fun k _ hu => (by cases hu), fun k k' _ _ hu => (by cases hu), fun g hg => ⟨?_, ?_, fun e => ?_⟩, ⟨h1, h2⟩, ⟨h3, h4⟩⟩, fun g hg => ?_⟩
  · obtain ⟨cur, hcur⟩ := blk (cs := rzC) (xs := List.range (n + 1)) (by unfold OwG; rw [List.length_range]; exact hS) (g := s) rfl
    exact frozen?_heap hcur j
  · have := (World.ownsRow.lt hQ g hg).1
    show g ≠ rb
    omega
  · rcases hne with e | e
    · rw [e] at hg; cases hg
    · rw [hg] at e
      exact fun e2 => e (congrArg some e2)
  · obtain ⟨k, _, hu, _⟩ := e
    cases hu
  · rcases hg with e | e | ⟨k, _, hu, _⟩ | e
    · have e : g = rb := e
      omega
    · have e : g = s := e
      omega
    · cases hu
    · have := (World.ownsRow.lt hQ g e).1
      omega
end Go.Proofs.YtdjklcmkcccpeaaGreat

namespace Go.Proofs.YtdjklcmkcccpeaaGreat
set_option linter.unusedSimpArgs false
open Go.ChangeShapes Go.WideShapes Go.ChangeAt Go.RowKit Go.MuLone Go.RwLone
set_option linter.unusedVariables false
set_option maxRecDepth 100000
set_option maxHeartbeats 6400000
theorem law_num (a : Int) (w : World) : Calls Tryz.prog 17 #[.int .i64 a] w fun e w' => e = .returned (.int .i64 a) ∧ w' = w := by
  go_enter Tryz.func17, Tryz.ntmps17
  go_wp2
  go_ret
  exact ⟨rfl, rfl⟩
theorem Bo.dj1 {w : World} {l : WL} {qv : Value} {s : WS} (h : Bo w l qv s) {m : PM} (hm : m ∈ s.ms) (g : Nat) (hg : rcF l.R qv s.S (l.Y m.ix) g) : ¬ mkF l.L (l.X m.ix) m.pb g := by
  obtain ⟨m1, mi, m3, m4, m5, m6, m7, m8⟩ := h.m m hm
  have hd : dF l qv s.S g := hg.elim .inl (fun e => .inr ⟨_, mi, e⟩)
  rintro ((e | e) | e)
  · exact h.pd g (.inl e) hd
  · exact h.pd g (.inr ⟨_, mi, e⟩) hd
  · exact m7 (by rw [← e]; exact hd)
theorem Bo.dj2 {w : World} {l : WL} {qv : Value} {s : WS} (h : Bo w l qv s) {m : PM} (hm : m ∈ s.ms) (g : Nat) (hg : chF l.L (l.X m.ix) g) : ¬ mrF l.R qv s.S (l.Y m.ix) m.rb g := by
  obtain ⟨m1, mi, m3, m4, m5, m6, m7, m8⟩ := h.m m hm
  have hp : pF l g := hg.elim .inl (fun e => .inr ⟨_, mi, e⟩)
  rintro ((e | e) | e)
  · exact h.pd g hp (.inl e)
  · exact h.pd g hp (.inr ⟨_, mi, e⟩)
  · exact m6 (by rw [← e]; exact hp)
theorem Bo.dj3 {w : World} {l : WL} {qv : Value} {s : WS} (h : Bo w l qv s) {m : PM} (hm : m ∈ s.ms) : ¬ mkF l.L (l.X m.ix) m.pb m.rb ∧ ¬ mrF l.R qv s.S (l.Y m.ix) m.rb m.pb ∧ ¬ chF l.L (l.X m.ix) m.pb ∧ ¬ rcF l.R qv s.S (l.Y m.ix) m.rb := by
  obtain ⟨m1, mi, m3, m4, m5, m6, m7, m8⟩ := h.m m hm
  refine ⟨?_, ?_, ?_, ?_⟩
  · rintro ((e | e) | e)
    · exact m6 (.inl e)
    · exact m6 (.inr ⟨_, mi, e⟩)
    · exact m4 e.symm
  · rintro ((e | e) | e)
    · exact m7 (.inl e)
    · exact m7 (.inr ⟨_, mi, e⟩)
    · exact m4 e
  · rintro (e | e)
    · exact m5 (.inl e)
    · exact m5 (.inr ⟨_, mi, e⟩)
  · rintro (e | e)
    · exact m8 (.inl e)
    · exact m8 (.inr ⟨_, mi, e⟩)
/-- Both have stepped. -/
theorem Bo.both {w w2 w3 : World} {l : WL} {qv : Value} {s : WS} (h : Bo w l qv s) (k : Nat) (m m' : PM) (hk : s.ms[k]? = some m) (c : CS) (e : m'.ix = m.ix ∧ m'.pb = m.pb ∧ m'.rb = m.rb)
    (c2 : CH w2 l.L s.Q c.S (l.X m.ix) c.x) (k2 : Keeps (mkF l.L (l.X m.ix) m.pb) w w2) (r3 : RC w3 l.R l.cap qv s.Q c.S (l.Y m.ix) (l.hc m.ix) c.x) (k3 : Keeps (mrF l.R qv s.S (l.Y m.ix) m.rb) w2 w3) (hm : m'.H w3 l) (hs : Same s.S (s.x m.ix) c) (hw : WdOk c.S c.x) (hok : m'.ok c.x) : Bo w3 l qv (s.step c m.ix k m') ∧ Keeps (fun g => mkF l.L (l.X m.ix) m.pb g ∨ mrF l.R qv s.S (l.Y m.ix) m.rb g) w w3 := by
  have hmem := List.mem_of_getElem? hk
  have c3 := c2.keeps k3 (fun g hg => h.dj2 hmem g hg)
  have kk : Keeps (fun g => mkF l.L (l.X m.ix) m.pb g ∨ mrF l.R qv s.S (l.Y m.ix) m.rb g) w w3 := (k2.mono (fun _ e => .inl e)).trans (k3.mono (fun _ e => .inr e))
  exact ⟨h.step k m m' hk c e c3.a c3.i r3.a r3.i hm kk hs hw hok, kk⟩
theorem set_pmC {ms : List PM} {k : Nat} {m m' : PM} (hk : ms[k]? = some m) (e : pmC m' = pmC m) (i : Nat) : ((ms.set k m')[i]?).map pmC = (ms[i]?).map pmC := by
  rw [List.getElem?_set]
  by_cases h : k = i
  · subst h
    rw [if_pos rfl, hk, if_pos (List.getElem?_eq_some_iff.1 hk).1]
    show some (pmC m') = some (pmC m)
    rw [e]
  · rw [if_neg h]
/-- The law's world behind a step of machine k. -/
theorem St4.both {w w2 w3 : World} {B wb : Nat} {hold : Int} {l : WL} {qv av : Value} {s : WS} (h : St4 w B wb hold l qv av s) (k : Nat) (m m' : PM) (hk : s.ms[k]? = some m) (c : CS) (e : m'.ix = m.ix ∧ m'.pb = m.pb ∧ m'.rb = m.rb) (ek : m'.kd = m.kd)
    (c2 : CH w2 l.L s.Q c.S (l.X m.ix) c.x) (k2 : Keeps (mkF l.L (l.X m.ix) m.pb) w w2) (r3 : RC w3 l.R l.cap qv s.Q c.S (l.Y m.ix) (l.hc m.ix) c.x) (k3 : Keeps (mrF l.R qv s.S (l.Y m.ix) m.rb) w2 w3) (hm : m'.H w3 l) (hs : Same s.S (s.x m.ix) c) (hw : WdOk c.S c.x) (hok : m'.ok c.x) (hB : B ≤ w.heap.size) : St4 w3 B wb hold l qv av (s.step c m.ix k m') ∧ Below B w w3 := by
  obtain ⟨b3, kk⟩ := h.b.both k m m' hk c e c2 k2 r3 k3 hm hs hw hok
  have hmem := List.mem_of_getElem? hk
  have mi := (h.b.m m hmem).2.1
  refine h.go b3 kk (fun g hg => ?_) (fun g hg => .inl (step_aF hk e.2 hs.1 hs.2.2.1 g hg)) rfl rfl rfl rfl (.inr (fun i => set_pmC hk ?_ i)) hB
  · rcases hg with ((e | e) | e) | ((e | e) | e)
    · exact .inl (.inl e)
    · exact .inl (.inr ⟨_, mi, e⟩)
    · exact .inr (.inr ⟨m, hmem, .inl e⟩)
    · exact .inr (.inl (.inl e))
    · exact .inr (.inl (.inr ⟨_, mi, e⟩))
    · exact .inr (.inr ⟨m, hmem, .inr e⟩)
  · unfold pmC
    rw [ek, e.2.1, e.2.2]
theorem law_step1 (w : World) (B wb : Nat) (hold : Int) (l : WL) (qv av : Value) (s : WS) (k : Nat) (m : PM) (h : St4 w B wb hold l qv av s) (hk : s.ms[k]? = some m) (hkd : m.kd = 1) (hB : B ≤ w.heap.size) : Calls Tryz.prog 105 #[.pointer (some ⟨wb, 0, none⟩), .agg (pmC m).toArray] w fun e w' => ∃ s', e = .returned (.bool true) ∧ (St4 w' B wb hold l qv av s' ∧ s'.ms.length = s.ms.length) ∧ Below B w w' := by
  have ep : pmC m = [.int .i64 1, .pointer (some ⟨m.pb, 0, none⟩), .pointer none, .pointer none, .pointer (some ⟨m.rb, 0, none⟩), .pointer none, .pointer none] := by unfold pmC; rw [hkd]; rfl
  have hmem := List.mem_of_getElem? hk
  obtain ⟨m1, mi, m3, m4, m5, m6, m7, m8⟩ := h.b.m m hmem
  have hpr : InsH w m.pb (l.X m.ix).x m.i ∧ RinH w m.rb (l.Y m.ix).x m.i := by
    rcases m1 with ⟨_, a, b⟩ | ⟨e, _⟩ | ⟨e, _⟩
    · exact ⟨a, b⟩
    · omega
    · omega
  have hbx := heap_alloc_new w (.cells #[.int .i64 1, .pointer (some ⟨m.pb, 0, none⟩), .pointer none, .pointer none, .pointer (some ⟨m.rb, 0, none⟩), .pointer none, .pointer none] 188)
  obtain ⟨W1, hW1⟩ : ∃ W, w.alloc (.cells #[.int .i64 1, .pointer (some ⟨m.pb, 0, none⟩), .pointer none, .pointer none, .pointer (some ⟨m.rb, 0, none⟩), .pointer none, .pointer none] 188) = W := ⟨_, rfl⟩
  have hb1 : Below w.heap.size w W1 := by rw [← hW1]; exact (Below.refl _ _).alloc (Nat.le_refl _) _
  have h1 := h.later hb1
  have b0 : W1.heap[w.heap.size]? = some (.cells #[.int .i64 1, .pointer (some ⟨m.pb, 0, none⟩), .pointer none, .pointer none, .pointer (some ⟨m.rb, 0, none⟩), .pointer none, .pointer none] 188) := by rw [← hW1]; exact hbx
  have hp : InsH W1 m.pb (l.X m.ix).x m.i := hpr.1.keeps (Below.keeps hb1 (fun _ => False)) (fun e => e)
  have hr : RinH W1 m.rb (l.Y m.ix).x m.i := hpr.2.keeps (Below.keeps hb1 (fun _ => False)) (fun e => e)
  have HP : Hid (∀ _ : Unit, _) := fun _ => ins_step W1 l.L s.Q s.S (l.X m.ix) (s.x m.ix) m.pb m.i (h1.b.ch m.ix mi) hp (h1.b.dj3 hmem).2.2.1 (m3.1 hkd).1
  obtain ⟨kw, ko, kh, ks⟩ := ins_keep s.S (s.x m.ix) m.i (h.b.wd m.ix mi) h.b.n (m3.1 hkd).1 (m3.1 hkd).2
  have hok : ({ m with i := (insP s.S (s.x m.ix) m.i).2.2 } : PM).ok (insP s.S (s.x m.ix) m.i).2.1.x := ⟨fun _ => ⟨ko, kh⟩, fun e => (by have e : m.kd = 2 := e; omega), fun e => (by have e : m.kd = 4 := e; omega)⟩
  have hlt : ∀ g, sF wb l qv av s g → g < w.heap.size := fun g hg => (h.low g hg).2
  have nbx : ∀ g, mkF l.L (l.X m.ix) m.pb g → g ≠ w.heap.size := fun g hg => by
    have : g < w.heap.size := hlt g (.inl (by
      rcases hg with (e | e) | e
      · exact .inl (.inl e)
      · exact .inl (.inr ⟨_, mi, e⟩)
      · exact .inr (.inr ⟨m, hmem, .inl e⟩)))
    omega
  obtain ⟨p, hpe⟩ : ∃ p, insP s.S (s.x m.ix) m.i = p := ⟨_, rfl⟩
  rw [hpe] at HP kw ks hok
  obtain ⟨r, c, mm⟩ := p
  have HN : Hid (∀ w2, CH w2 l.L s.Q c.S (l.X m.ix) c.x → InsH w2 m.pb (l.X m.ix).x mm → Keeps (mkF l.L (l.X m.ix) m.pb) W1 w2 → (w2.cell? ⟨w.heap.size, 4, none⟩ = some (.pointer (some ⟨m.rb, 0, none⟩))) ∧ Calls Tryz.prog 155 #[.pointer (some ⟨m.rb, 0, none⟩)] w2 fun e w' => e = .returned (.bool r) ∧ ∃ s', (St4 w' B wb hold l qv av s' ∧ s'.ms.length = s.ms.length) ∧ Below B w w') := fun w2 c2 p2 k2 => by
    refine ⟨?_, ?_⟩
    · rw [k2.cell (p := ⟨w.heap.size, 4, none⟩) (lt_heap b0) (fun e => nbx _ e rfl)]
      exact (cell?_heap b0 4).trans rfl
    · have rc2 := (h1.b.rc m.ix mi).keeps k2 (fun g hg => h1.b.dj1 hmem g hg)
      have hr2 := hr.keeps k2 (h1.b.dj3 hmem).1
      refine (rin_step w2 l.R l.cap qv s.Q s.S (l.Y m.ix) (l.hc m.ix) (s.x m.ix) m.rb m.i rc2 hr2 (h1.b.dj3 hmem).2.2.2 (m3.1 hkd).1).mono ?_
      rintro e w3 ⟨rfl, rc3, hr3, k3⟩
      rw [hpe] at rc3 hr3 ⊢
      have p3 := p2.keeps k3 (h1.b.dj3 hmem).2.1
      obtain ⟨f1, f2⟩ := h1.both k m { m with i := mm } hk c ⟨rfl, rfl, rfl⟩ rfl c2 k2 rc3 k3 (.inl ⟨hkd, p3, hr3⟩) ks kw hok (Nat.le_trans hB hb1.size)
      exact ⟨rfl, _, ⟨f1, by simp [WS.step]⟩, (hb1.mono hB).trans f2⟩
  have l0 : W1.cell? ⟨w.heap.size, 0, none⟩ = some (.int .i64 1) := (cell?_heap b0 0).trans rfl
  have l1 : W1.cell? ⟨w.heap.size, 1, none⟩ = some (.pointer (some ⟨m.pb, 0, none⟩)) := (cell?_heap b0 1).trans rfl
  rw [ep]
  clear h h1 hk hmem m1 m3 m4 m5 m6 m7 m8 hpr hbx hb1 b0 hp hr kw ko ks hok hlt nbx hpe ep kh
  go_enter Tryz.func105, Tryz.ntmps105
  go_wp2_with fail
  refine (HP.out ()).mono ?_
  rintro e w2 ⟨rfl, c2, p2, k2⟩
  obtain ⟨l2, HC⟩ := HN.out w2 c2 p2 k2
  have HC : Hid (∀ _ : Unit, _) := fun _ => HC
  clear c2 p2 k2 HP HN l0 l1 hW1
  go_wp2_with fail
  refine (HC.out ()).mono ?_
  rintro e w3 ⟨rfl, h3⟩
  have H3 : Hid (∃ s', (St4 w3 B wb hold l qv av s' ∧ s'.ms.length = s.ms.length) ∧ Below B w w3) := h3
  clear h3 HC l2
  cases r
  · go_wp2
    go_ret
    obtain ⟨s', a, b⟩ := H3.out
    exact ⟨s', rfl, a, b⟩
  · go_wp2
    go_ret
    obtain ⟨s', a, b⟩ := H3.out
    exact ⟨s', rfl, a, b⟩
theorem law_step2 (w : World) (B wb : Nat) (hold : Int) (l : WL) (qv av : Value) (s : WS) (k : Nat) (m : PM) (h : St4 w B wb hold l qv av s) (hk : s.ms[k]? = some m) (hkd : m.kd = 2) (hB : B ≤ w.heap.size) : Calls Tryz.prog 105 #[.pointer (some ⟨wb, 0, none⟩), .agg (pmC m).toArray] w fun e w' => ∃ s', e = .returned (.bool true) ∧ (St4 w' B wb hold l qv av s' ∧ s'.ms.length = s.ms.length) ∧ Below B w w' := by
  have ep : pmC m = [.int .i64 2, .pointer none, .pointer (some ⟨m.pb, 0, none⟩), .pointer none, .pointer none, .pointer (some ⟨m.rb, 0, none⟩), .pointer none] := by unfold pmC; rw [hkd]; rfl
  have hmem := List.mem_of_getElem? hk
  obtain ⟨m1, mi, m3, m4, m5, m6, m7, m8⟩ := h.b.m m hmem
  have hpr : WlkH w m.pb (l.X m.ix).x m.k ∧ RwlH w m.rb (l.Y m.ix).x m.k := by
    rcases m1 with ⟨e, _⟩ | ⟨_, a, b⟩ | ⟨e, _⟩
    · omega
    · exact ⟨a, b⟩
    · omega
  have hbx := heap_alloc_new w (.cells #[.int .i64 2, .pointer none, .pointer (some ⟨m.pb, 0, none⟩), .pointer none, .pointer none, .pointer (some ⟨m.rb, 0, none⟩), .pointer none] 188)
  obtain ⟨W1, hW1⟩ : ∃ W, w.alloc (.cells #[.int .i64 2, .pointer none, .pointer (some ⟨m.pb, 0, none⟩), .pointer none, .pointer none, .pointer (some ⟨m.rb, 0, none⟩), .pointer none] 188) = W := ⟨_, rfl⟩
  have hb1 : Below w.heap.size w W1 := by rw [← hW1]; exact (Below.refl _ _).alloc (Nat.le_refl _) _
  have h1 := h.later hb1
  have b0 : W1.heap[w.heap.size]? = some (.cells #[.int .i64 2, .pointer none, .pointer (some ⟨m.pb, 0, none⟩), .pointer none, .pointer none, .pointer (some ⟨m.rb, 0, none⟩), .pointer none] 188) := by rw [← hW1]; exact hbx
  have hp : WlkH W1 m.pb (l.X m.ix).x m.k := hpr.1.keeps (Below.keeps hb1 (fun _ => False)) (fun e => e)
  have hr : RwlH W1 m.rb (l.Y m.ix).x m.k := hpr.2.keeps (Below.keeps hb1 (fun _ => False)) (fun e => e)
  have HP : Hid (∀ _ : Unit, _) := fun _ => wlk_step W1 l.L s.Q s.S (l.X m.ix) (s.x m.ix) m.pb m.k (h1.b.ch m.ix mi) hp (h1.b.dj3 hmem).2.2.1 (h.b.wd m.ix mi)
  obtain ⟨kw, ko, ks⟩ := wlk_keep s.S (s.x m.ix) m.k (h.b.wd m.ix mi) (m3.2.1 hkd)
  have hok : ({ m with k := (wlkP s.S (s.x m.ix) m.k).2.2 } : PM).ok (wlkP s.S (s.x m.ix) m.k).2.1.x := ⟨fun e => (by have e : m.kd = 1 := e; omega), fun _ => ko, fun e => (by have e : m.kd = 4 := e; omega)⟩
  have hlt : ∀ g, sF wb l qv av s g → g < w.heap.size := fun g hg => (h.low g hg).2
  have nbx : ∀ g, mkF l.L (l.X m.ix) m.pb g → g ≠ w.heap.size := fun g hg => by
    have : g < w.heap.size := hlt g (.inl (by
      rcases hg with (e | e) | e
      · exact .inl (.inl e)
      · exact .inl (.inr ⟨_, mi, e⟩)
      · exact .inr (.inr ⟨m, hmem, .inl e⟩)))
    omega
  obtain ⟨p, hpe⟩ : ∃ p, wlkP s.S (s.x m.ix) m.k = p := ⟨_, rfl⟩
  rw [hpe] at HP kw ks hok
  obtain ⟨r, c, mm⟩ := p
  have HN : Hid (∀ w2, CH w2 l.L s.Q c.S (l.X m.ix) c.x → WlkH w2 m.pb (l.X m.ix).x mm → Keeps (mkF l.L (l.X m.ix) m.pb) W1 w2 → (w2.cell? ⟨w.heap.size, 5, none⟩ = some (.pointer (some ⟨m.rb, 0, none⟩))) ∧ Calls Tryz.prog 156 #[.pointer (some ⟨m.rb, 0, none⟩)] w2 fun e w' => e = .returned (.bool r) ∧ ∃ s', (St4 w' B wb hold l qv av s' ∧ s'.ms.length = s.ms.length) ∧ Below B w w') := fun w2 c2 p2 k2 => by
    refine ⟨?_, ?_⟩
    · rw [k2.cell (p := ⟨w.heap.size, 5, none⟩) (lt_heap b0) (fun e => nbx _ e rfl)]
      exact (cell?_heap b0 5).trans rfl
    · have rc2 := (h1.b.rc m.ix mi).keeps k2 (fun g hg => h1.b.dj1 hmem g hg)
      have hr2 := hr.keeps k2 (h1.b.dj3 hmem).1
      refine (rwl_step w2 l.R l.cap qv s.Q s.S (l.Y m.ix) (l.hc m.ix) (s.x m.ix) m.rb m.k rc2 hr2 (h1.b.dj3 hmem).2.2.2 (h.b.wd m.ix mi) (m3.2.1 hkd)).mono ?_
      rintro e w3 ⟨rfl, rc3, hr3, k3⟩
      rw [hpe] at rc3 hr3 ⊢
      have p3 := p2.keeps k3 (h1.b.dj3 hmem).2.1
      obtain ⟨f1, f2⟩ := h1.both k m { m with k := mm } hk c ⟨rfl, rfl, rfl⟩ rfl c2 k2 rc3 k3 (.inr (.inl ⟨hkd, p3, hr3⟩)) ks kw hok (Nat.le_trans hB hb1.size)
      exact ⟨rfl, _, ⟨f1, by simp [WS.step]⟩, (hb1.mono hB).trans f2⟩
  have l0 : W1.cell? ⟨w.heap.size, 0, none⟩ = some (.int .i64 2) := (cell?_heap b0 0).trans rfl
  have l1 : W1.cell? ⟨w.heap.size, 2, none⟩ = some (.pointer (some ⟨m.pb, 0, none⟩)) := (cell?_heap b0 2).trans rfl
  rw [ep]
  clear h h1 hk hmem m1 m3 m4 m5 m6 m7 m8 hpr hbx hb1 b0 hp hr kw ko ks hok hlt nbx hpe ep
  go_enter Tryz.func105, Tryz.ntmps105
  go_wp2_with fail
  refine (HP.out ()).mono ?_
  rintro e w2 ⟨rfl, c2, p2, k2⟩
  obtain ⟨l2, HC⟩ := HN.out w2 c2 p2 k2
  have HC : Hid (∀ _ : Unit, _) := fun _ => HC
  clear c2 p2 k2 HP HN l0 l1 hW1
  go_wp2_with fail
  refine (HC.out ()).mono ?_
  rintro e w3 ⟨rfl, h3⟩
  have H3 : Hid (∃ s', (St4 w3 B wb hold l qv av s' ∧ s'.ms.length = s.ms.length) ∧ Below B w w3) := h3
  clear h3 HC l2
  cases r
  · go_wp2
    go_ret
    obtain ⟨s', a, b⟩ := H3.out
    exact ⟨s', rfl, a, b⟩
  · go_wp2
    go_ret
    obtain ⟨s', a, b⟩ := H3.out
    exact ⟨s', rfl, a, b⟩
theorem law_step4 (w : World) (B wb : Nat) (hold : Int) (l : WL) (qv av : Value) (s : WS) (k : Nat) (m : PM) (h : St4 w B wb hold l qv av s) (hk : s.ms[k]? = some m) (hkd : m.kd = 4) (hB : B ≤ w.heap.size) : Calls Tryz.prog 105 #[.pointer (some ⟨wb, 0, none⟩), .agg (pmC m).toArray] w fun e w' => ∃ s', e = .returned (.bool true) ∧ (St4 w' B wb hold l qv av s' ∧ s'.ms.length = s.ms.length) ∧ Below B w w' := by
  have ep : pmC m = [.int .i64 4, .pointer none, .pointer none, .pointer (some ⟨m.pb, 0, none⟩), .pointer none, .pointer none, .pointer (some ⟨m.rb, 0, none⟩)] := by unfold pmC; rw [hkd]; rfl
  have hmem := List.mem_of_getElem? hk
  obtain ⟨m1, mi, m3, m4, m5, m6, m7, m8⟩ := h.b.m m hmem
  have hpr : RemH w m.pb (l.X m.ix).x m.r ∧ RrmH w m.rb (l.Y m.ix).x m.r := by
    rcases m1 with ⟨e, _⟩ | ⟨e, _⟩ | ⟨_, a, b⟩
    · omega
    · omega
    · exact ⟨a, b⟩
  have hbx := heap_alloc_new w (.cells #[.int .i64 4, .pointer none, .pointer none, .pointer (some ⟨m.pb, 0, none⟩), .pointer none, .pointer none, .pointer (some ⟨m.rb, 0, none⟩)] 188)
  obtain ⟨W1, hW1⟩ : ∃ W, w.alloc (.cells #[.int .i64 4, .pointer none, .pointer none, .pointer (some ⟨m.pb, 0, none⟩), .pointer none, .pointer none, .pointer (some ⟨m.rb, 0, none⟩)] 188) = W := ⟨_, rfl⟩
  have hb1 : Below w.heap.size w W1 := by rw [← hW1]; exact (Below.refl _ _).alloc (Nat.le_refl _) _
  have h1 := h.later hb1
  have b0 : W1.heap[w.heap.size]? = some (.cells #[.int .i64 4, .pointer none, .pointer none, .pointer (some ⟨m.pb, 0, none⟩), .pointer none, .pointer none, .pointer (some ⟨m.rb, 0, none⟩)] 188) := by rw [← hW1]; exact hbx
  have hp : RemH W1 m.pb (l.X m.ix).x m.r := hpr.1.keeps (Below.keeps hb1 (fun _ => False)) (fun e => e)
  have hr : RrmH W1 m.rb (l.Y m.ix).x m.r := hpr.2.keeps (Below.keeps hb1 (fun _ => False)) (fun e => e)
  have HP : Hid (∀ _ : Unit, _) := fun _ => rem_step W1 l.L s.Q s.S (l.X m.ix) (s.x m.ix) m.pb m.r (h1.b.ch m.ix mi) hp (h1.b.dj3 hmem).2.2.1 (h.b.wd m.ix mi) (m3.2.2 hkd)
  obtain ⟨kw, ko, ks⟩ := rem_keep s.S (s.x m.ix) m.r (h.b.wd m.ix mi) h.b.n (m3.2.2 hkd)
  have hok : ({ m with r := (remP s.S (s.x m.ix) m.r).2.2 } : PM).ok (remP s.S (s.x m.ix) m.r).2.1.x := ⟨fun e => (by have e : m.kd = 1 := e; omega), fun e => (by have e : m.kd = 2 := e; omega), fun _ => ko⟩
  have hlt : ∀ g, sF wb l qv av s g → g < w.heap.size := fun g hg => (h.low g hg).2
  have nbx : ∀ g, mkF l.L (l.X m.ix) m.pb g → g ≠ w.heap.size := fun g hg => by
    have : g < w.heap.size := hlt g (.inl (by
      rcases hg with (e | e) | e
      · exact .inl (.inl e)
      · exact .inl (.inr ⟨_, mi, e⟩)
      · exact .inr (.inr ⟨m, hmem, .inl e⟩)))
    omega
  obtain ⟨p, hpe⟩ : ∃ p, remP s.S (s.x m.ix) m.r = p := ⟨_, rfl⟩
  rw [hpe] at HP kw ks hok
  obtain ⟨r, c, mm⟩ := p
  have HN : Hid (∀ w2, CH w2 l.L s.Q c.S (l.X m.ix) c.x → RemH w2 m.pb (l.X m.ix).x mm → Keeps (mkF l.L (l.X m.ix) m.pb) W1 w2 → (w2.cell? ⟨w.heap.size, 6, none⟩ = some (.pointer (some ⟨m.rb, 0, none⟩))) ∧ Calls Tryz.prog 157 #[.pointer (some ⟨m.rb, 0, none⟩)] w2 fun e w' => e = .returned (.bool r) ∧ ∃ s', (St4 w' B wb hold l qv av s' ∧ s'.ms.length = s.ms.length) ∧ Below B w w') := fun w2 c2 p2 k2 => by
    refine ⟨?_, ?_⟩
    · rw [k2.cell (p := ⟨w.heap.size, 6, none⟩) (lt_heap b0) (fun e => nbx _ e rfl)]
      exact (cell?_heap b0 6).trans rfl
    · have rc2 := (h1.b.rc m.ix mi).keeps k2 (fun g hg => h1.b.dj1 hmem g hg)
      have hr2 := hr.keeps k2 (h1.b.dj3 hmem).1
      refine (rrm_step w2 l.R l.cap qv s.Q s.S (l.Y m.ix) (l.hc m.ix) (s.x m.ix) m.rb m.r rc2 hr2 (h1.b.dj3 hmem).2.2.2 (h.b.wd m.ix mi) (m3.2.2 hkd)).mono ?_
      rintro e w3 ⟨rfl, rc3, hr3, k3⟩
      rw [hpe] at rc3 hr3 ⊢
      have p3 := p2.keeps k3 (h1.b.dj3 hmem).2.1
      obtain ⟨f1, f2⟩ := h1.both k m { m with r := mm } hk c ⟨rfl, rfl, rfl⟩ rfl c2 k2 rc3 k3 (.inr (.inr ⟨hkd, p3, hr3⟩)) ks kw hok (Nat.le_trans hB hb1.size)
      exact ⟨rfl, _, ⟨f1, by simp [WS.step]⟩, (hb1.mono hB).trans f2⟩
  have l0 : W1.cell? ⟨w.heap.size, 0, none⟩ = some (.int .i64 4) := (cell?_heap b0 0).trans rfl
  have l1 : W1.cell? ⟨w.heap.size, 3, none⟩ = some (.pointer (some ⟨m.pb, 0, none⟩)) := (cell?_heap b0 3).trans rfl
  rw [ep]
  clear h h1 hk hmem m1 m3 m4 m5 m6 m7 m8 hpr hbx hb1 b0 hp hr kw ko ks hok hlt nbx hpe ep
  go_enter Tryz.func105, Tryz.ntmps105
  go_wp2_with fail
  refine (HP.out ()).mono ?_
  rintro e w2 ⟨rfl, c2, p2, k2⟩
  obtain ⟨l2, HC⟩ := HN.out w2 c2 p2 k2
  have HC : Hid (∀ _ : Unit, _) := fun _ => HC
  clear c2 p2 k2 HP HN l0 l1 hW1
  go_wp2_with fail
  refine (HC.out ()).mono ?_
  rintro e w3 ⟨rfl, h3⟩
  have H3 : Hid (∃ s', (St4 w3 B wb hold l qv av s' ∧ s'.ms.length = s.ms.length) ∧ Below B w w3) := h3
  clear h3 HC l2
  cases r
  · go_wp2
    go_ret
    obtain ⟨s', a, b⟩ := H3.out
    exact ⟨s', rfl, a, b⟩
  · go_wp2
    go_ret
    obtain ⟨s', a, b⟩ := H3.out
    exact ⟨s', rfl, a, b⟩
end Go.Proofs.YtdjklcmkcccpeaaGreat

namespace Go.Proofs.YtdjklcmkcccpeaaGreat
set_option linter.unusedSimpArgs false
open Go.ChangeShapes Go.WideShapes Go.ChangeAt Go.RowKit Go.MuLone Go.RwLone
set_option linter.unusedVariables false
set_option maxRecDepth 100000
set_option maxHeartbeats 6400000
theorem results_row_tmp {P : Program} {fn : Func} {p : Tmp} {ty : TypeId} {q : Tmp} (h : fn.results = #[.cell p ty, .tmp q]) (tmps : Array Value) (w : World) (g : Nat) (t : TypeId) (cs : Array Value) (fr : Nat × Nat) (d : TypeDesc)
    (hp : tmps.getD p undef = .pointer (some ⟨g, 0, none⟩)) (hg : w.heap[g]? = some (.cells cs t fr))
    (hu : P.underlying ty = some d) (hd : (match d with | .struct _ | .array _ _ => true | _ => false) = true) (hi : (P.info? ty).map (·.size) = some cs.size) :
    (results fn tmps).run P w = .ok (.tuple #[.agg cs, tmps.getD q undef]) w := by
  have hp' : tmps[p]?.getD undef = .pointer (some ⟨g, 0, none⟩) := by simpa using hp
  simp [results, h, hp', asAddr, run_loadVar_row w g t ty cs fr d hg hu hd hi]
theorem pm7 (m : PM) : ∃ v0 v1 v2 v3 v4 v5 v6, pmC m = [v0, v1, v2, v3, v4, v5, v6] := ⟨_, _, _, _, _, _, _, rfl⟩
theorem pmC_len (m : PM) : (pmC m).length = 7 := rfl
/-- A pair in the law's row. -/
theorem St4.pair {w : World} {B wb : Nat} {hold : Int} {l : WL} {qv : Value} {g n cap : Nat} {s : WS} (h : St4 w B wb hold l qv (.slice (some ⟨g, 0, none⟩) n cap) s) (k : Nat) (m : PM) (hk : s.ms[k]? = some m) (j : Nat) (hj : j < 7) : w.cell? ⟨g, k * 7 + j, none⟩ = (pmC m)[j]? := by
  obtain ⟨h1, h2⟩ := List.getElem?_eq_some_iff.1 hk
  have ho := h.o
  have hn := (owG_cap ho).1
  subst hn
  have c0 := flat_get pmC 7 (fun _ => rfl) s.ms k h1 j hj
  rw [World.ownsRow.cellAt ho (k * 7 + j) (by omega), c0, h2]
theorem law_machine_no (w : World) (B wb : Nat) (hold : Int) (l : WL) (qv av : Value) (s : WS) (n : Int) (h : St4 w B wb hold l qv av s) (hn : n < 0 ∨ (s.ms.length : Int) ≤ n) : Calls Tryz.prog 104 #[.pointer (some ⟨wb, 0, none⟩), .int .i64 n] w fun e w' => e = .returned (.tuple #[.agg #[.int .i64 0, .pointer none, .pointer none, .pointer none, .pointer none, .pointer none, .pointer none], .bool false]) ∧ Below w.heap.size w w' := by
  have hbx := heap_alloc_new w (.cells #[.int .i64 0, .pointer none, .pointer none, .pointer none, .pointer none, .pointer none, .pointer none] 188)
  have HB : Hid (Below w.heap.size w (w.alloc (.cells #[.int .i64 0, .pointer none, .pointer none, .pointer none, .pointer none, .pointer none, .pointer none] 188))) := (Below.refl _ _).alloc (Nat.le_refl _) _
  obtain ⟨sp, cp, hsp⟩ := h.o.form
  subst hsp
  have c6 : (w.alloc (.cells #[.int .i64 0, .pointer none, .pointer none, .pointer none, .pointer none, .pointer none, .pointer none] 188)).cell? ⟨wb, 6, none⟩ = some (.slice sp s.ms.length cp) := (HB.out.cell (p := ⟨wb, 6, none⟩) h.lw).trans h.c6
  by_cases h0 : n < 0
  · clear h hn c6
    go_enter Tryz.func104, Tryz.ntmps104
    go_wp2
    exact bodyPost_ret (results_row_tmp (p := 4) (ty := 188) (q := 5) rfl _ _ w.heap.size 188 _ (0, 0) _ rfl hbx Tryz.underlying188 rfl (by kernel_rfl)) rfl ⟨rfl, HB.out⟩
  · have h1 : n ≥ (s.ms.length : Int) := by omega
    clear h hn
    go_enter Tryz.func104, Tryz.ntmps104
    go_wp2
    exact bodyPost_ret (results_row_tmp (p := 4) (ty := 188) (q := 5) rfl _ _ w.heap.size 188 _ (0, 0) _ rfl hbx Tryz.underlying188 rfl (by kernel_rfl)) rfl ⟨rfl, HB.out⟩
theorem law_machine1 (w : World) (B wb : Nat) (hold : Int) (l : WL) (qv av : Value) (s : WS) (k : Nat) (m : PM) (h : St4 w B wb hold l qv av s) (hk : s.ms[k]? = some m) (hkd : m.kd = 1) (hml : s.ms.length ≤ 1048576) : Calls Tryz.prog 104 #[.pointer (some ⟨wb, 0, none⟩), .int .i64 (k : Int)] w fun e w' => e = .returned (.tuple #[.agg #[.int .i64 1, .pointer (some ⟨m.pb, 0, none⟩), .pointer none, .pointer none, .pointer (some ⟨m.rb, 0, none⟩), .pointer none, .pointer none], .bool true]) ∧ Below w.heap.size w w' := by
  have ep : pmC m = [.int .i64 1, .pointer (some ⟨m.pb, 0, none⟩), .pointer none, .pointer none, .pointer (some ⟨m.rb, 0, none⟩), .pointer none, .pointer none] := by unfold pmC; rw [hkd]; rfl
  have hbx := heap_alloc_new w (.cells #[.int .i64 0, .pointer none, .pointer none, .pointer none, .pointer none, .pointer none, .pointer none] 188)
  obtain ⟨W1, hW1⟩ : ∃ W, w.alloc (.cells #[.int .i64 0, .pointer none, .pointer none, .pointer none, .pointer none, .pointer none, .pointer none] 188) = W := ⟨_, rfl⟩
  rw [hW1] at hbx
  have HB : Hid (Below w.heap.size w W1) := by rw [← hW1]; exact (Below.refl _ _).alloc (Nat.le_refl _) _
  have hkl : k < s.ms.length := (List.getElem?_eq_some_iff.1 hk).1
  have hne : s.ms ≠ [] := by intro e; rw [e] at hkl; simp at hkl
  obtain ⟨g, cp, hsp, _, hgl⟩ := owG_some h.o hne
  subst hsp
  have c6 : W1.cell? ⟨wb, 6, none⟩ = some (.slice (some ⟨g, 0, none⟩) s.ms.length cp) := (HB.out.cell (p := ⟨wb, 6, none⟩) h.lw).trans h.c6
  have hp : ∀ j, j < 7 → W1.cell? ⟨g, k * 7 + j, none⟩ = (pmC m)[j]? := fun j hj => (HB.out.cell (p := ⟨g, k * 7 + j, none⟩) hgl).trans (h.pair k m hk j hj)
  have p0 : W1.cell? ⟨g, k * 7, none⟩ = some (.int .i64 1) := (hp 0 (by decide)).trans (by rw [ep]; rfl)
  have p1 : W1.cell? ⟨g, k * 7 + 1, none⟩ = some (.pointer (some ⟨m.pb, 0, none⟩)) := (hp 1 (by decide)).trans (by rw [ep]; rfl)
  have p2 : W1.cell? ⟨g, k * 7 + 2, none⟩ = some (.pointer none) := (hp 2 (by decide)).trans (by rw [ep]; rfl)
  have p3 : W1.cell? ⟨g, k * 7 + 3, none⟩ = some (.pointer none) := (hp 3 (by decide)).trans (by rw [ep]; rfl)
  have p4 : W1.cell? ⟨g, k * 7 + 4, none⟩ = some (.pointer (some ⟨m.rb, 0, none⟩)) := (hp 4 (by decide)).trans (by rw [ep]; rfl)
  have p5 : W1.cell? ⟨g, k * 7 + 5, none⟩ = some (.pointer none) := (hp 5 (by decide)).trans (by rw [ep]; rfl)
  have p6 : W1.cell? ⟨g, k * 7 + 6, none⟩ = some (.pointer none) := (hp 6 (by decide)).trans (by rw [ep]; rfl)
  have q0 : (0 : Int) ≤ (k : Int) := Int.natCast_nonneg _
  have q1 : (k : Int) < (s.ms.length : Int) := by omega
  have HF : Hid (∀ W, W = ((((((W1.setCell ⟨w.heap.size, 0, none⟩ (.int .i64 1)).setCell ⟨w.heap.size, 1, none⟩ (.pointer (some ⟨m.pb, 0, none⟩))).setCell ⟨w.heap.size, 2, none⟩ (.pointer none)).setCell ⟨w.heap.size, 3, none⟩ (.pointer none)).setCell ⟨w.heap.size, 4, none⟩ (.pointer (some ⟨m.rb, 0, none⟩))).setCell ⟨w.heap.size, 5, none⟩ (.pointer none)).setCell ⟨w.heap.size, 6, none⟩ (.pointer none) → W.heap[w.heap.size]? = some (.cells #[.int .i64 1, .pointer (some ⟨m.pb, 0, none⟩), .pointer none, .pointer none, .pointer (some ⟨m.rb, 0, none⟩), .pointer none, .pointer none] 188) ∧ Below w.heap.size w W) := by
    rintro W rfl
    exact ⟨heapSetC (heapSetC (heapSetC (heapSetC (heapSetC (heapSetC (heapSetC hbx 0 _) 1 _) 2 _) 3 _) 4 _) 5 _) 6 _, ((((((HB.out.setCell (p := ⟨w.heap.size, 0, none⟩) (Nat.le_refl _) _).setCell (p := ⟨w.heap.size, 1, none⟩) (Nat.le_refl _) _).setCell (p := ⟨w.heap.size, 2, none⟩) (Nat.le_refl _) _).setCell (p := ⟨w.heap.size, 3, none⟩) (Nat.le_refl _) _).setCell (p := ⟨w.heap.size, 4, none⟩) (Nat.le_refl _) _).setCell (p := ⟨w.heap.size, 5, none⟩) (Nat.le_refl _) _).setCell (p := ⟨w.heap.size, 6, none⟩) (Nat.le_refl _) _⟩
  have z0 : W1.cell? ⟨w.heap.size, 0, none⟩ = some (.int .i64 0) := (cell?_heap hbx 0).trans rfl
  have z1 : W1.cell? ⟨w.heap.size, 1, none⟩ = some (.pointer none) := (cell?_heap hbx 1).trans rfl
  have z2 : W1.cell? ⟨w.heap.size, 2, none⟩ = some (.pointer none) := (cell?_heap hbx 2).trans rfl
  have z3 : W1.cell? ⟨w.heap.size, 3, none⟩ = some (.pointer none) := (cell?_heap hbx 3).trans rfl
  have z4 : W1.cell? ⟨w.heap.size, 4, none⟩ = some (.pointer none) := (cell?_heap hbx 4).trans rfl
  have z5 : W1.cell? ⟨w.heap.size, 5, none⟩ = some (.pointer none) := (cell?_heap hbx 5).trans rfl
  have z6 : W1.cell? ⟨w.heap.size, 6, none⟩ = some (.pointer none) := (cell?_heap hbx 6).trans rfl
  have fz : ∀ j, W1.frozen? ⟨w.heap.size, j, none⟩ = false := fun j => frozen?_heap hbx j
  clear h hk hp hbx hne ep
  go_enter Tryz.func104, Tryz.ntmps104
  go_wp2
  obtain ⟨hz, hb⟩ := HF.out _ rfl
  exact bodyPost_ret (results_row_tmp (p := 4) (ty := 188) (q := 5) rfl _ _ w.heap.size 188 _ (0, 0) _ rfl hz Tryz.underlying188 rfl (by kernel_rfl)) rfl ⟨rfl, hb⟩
theorem law_machine2 (w : World) (B wb : Nat) (hold : Int) (l : WL) (qv av : Value) (s : WS) (k : Nat) (m : PM) (h : St4 w B wb hold l qv av s) (hk : s.ms[k]? = some m) (hkd : m.kd = 2) (hml : s.ms.length ≤ 1048576) : Calls Tryz.prog 104 #[.pointer (some ⟨wb, 0, none⟩), .int .i64 (k : Int)] w fun e w' => e = .returned (.tuple #[.agg #[.int .i64 2, .pointer none, .pointer (some ⟨m.pb, 0, none⟩), .pointer none, .pointer none, .pointer (some ⟨m.rb, 0, none⟩), .pointer none], .bool true]) ∧ Below w.heap.size w w' := by
  have ep : pmC m = [.int .i64 2, .pointer none, .pointer (some ⟨m.pb, 0, none⟩), .pointer none, .pointer none, .pointer (some ⟨m.rb, 0, none⟩), .pointer none] := by unfold pmC; rw [hkd]; rfl
  have hbx := heap_alloc_new w (.cells #[.int .i64 0, .pointer none, .pointer none, .pointer none, .pointer none, .pointer none, .pointer none] 188)
  obtain ⟨W1, hW1⟩ : ∃ W, w.alloc (.cells #[.int .i64 0, .pointer none, .pointer none, .pointer none, .pointer none, .pointer none, .pointer none] 188) = W := ⟨_, rfl⟩
  rw [hW1] at hbx
  have HB : Hid (Below w.heap.size w W1) := by rw [← hW1]; exact (Below.refl _ _).alloc (Nat.le_refl _) _
  have hkl : k < s.ms.length := (List.getElem?_eq_some_iff.1 hk).1
  have hne : s.ms ≠ [] := by intro e; rw [e] at hkl; simp at hkl
  obtain ⟨g, cp, hsp, _, hgl⟩ := owG_some h.o hne
  subst hsp
  have c6 : W1.cell? ⟨wb, 6, none⟩ = some (.slice (some ⟨g, 0, none⟩) s.ms.length cp) := (HB.out.cell (p := ⟨wb, 6, none⟩) h.lw).trans h.c6
  have hp : ∀ j, j < 7 → W1.cell? ⟨g, k * 7 + j, none⟩ = (pmC m)[j]? := fun j hj => (HB.out.cell (p := ⟨g, k * 7 + j, none⟩) hgl).trans (h.pair k m hk j hj)
  have p0 : W1.cell? ⟨g, k * 7, none⟩ = some (.int .i64 2) := (hp 0 (by decide)).trans (by rw [ep]; rfl)
  have p1 : W1.cell? ⟨g, k * 7 + 1, none⟩ = some (.pointer none) := (hp 1 (by decide)).trans (by rw [ep]; rfl)
  have p2 : W1.cell? ⟨g, k * 7 + 2, none⟩ = some (.pointer (some ⟨m.pb, 0, none⟩)) := (hp 2 (by decide)).trans (by rw [ep]; rfl)
  have p3 : W1.cell? ⟨g, k * 7 + 3, none⟩ = some (.pointer none) := (hp 3 (by decide)).trans (by rw [ep]; rfl)
  have p4 : W1.cell? ⟨g, k * 7 + 4, none⟩ = some (.pointer none) := (hp 4 (by decide)).trans (by rw [ep]; rfl)
  have p5 : W1.cell? ⟨g, k * 7 + 5, none⟩ = some (.pointer (some ⟨m.rb, 0, none⟩)) := (hp 5 (by decide)).trans (by rw [ep]; rfl)
  have p6 : W1.cell? ⟨g, k * 7 + 6, none⟩ = some (.pointer none) := (hp 6 (by decide)).trans (by rw [ep]; rfl)
  have q0 : (0 : Int) ≤ (k : Int) := Int.natCast_nonneg _
  have q1 : (k : Int) < (s.ms.length : Int) := by omega
  have HF : Hid (∀ W, W = ((((((W1.setCell ⟨w.heap.size, 0, none⟩ (.int .i64 2)).setCell ⟨w.heap.size, 1, none⟩ (.pointer none)).setCell ⟨w.heap.size, 2, none⟩ (.pointer (some ⟨m.pb, 0, none⟩))).setCell ⟨w.heap.size, 3, none⟩ (.pointer none)).setCell ⟨w.heap.size, 4, none⟩ (.pointer none)).setCell ⟨w.heap.size, 5, none⟩ (.pointer (some ⟨m.rb, 0, none⟩))).setCell ⟨w.heap.size, 6, none⟩ (.pointer none) → W.heap[w.heap.size]? = some (.cells #[.int .i64 2, .pointer none, .pointer (some ⟨m.pb, 0, none⟩), .pointer none, .pointer none, .pointer (some ⟨m.rb, 0, none⟩), .pointer none] 188) ∧ Below w.heap.size w W) := by
    rintro W rfl
    exact ⟨heapSetC (heapSetC (heapSetC (heapSetC (heapSetC (heapSetC (heapSetC hbx 0 _) 1 _) 2 _) 3 _) 4 _) 5 _) 6 _, ((((((HB.out.setCell (p := ⟨w.heap.size, 0, none⟩) (Nat.le_refl _) _).setCell (p := ⟨w.heap.size, 1, none⟩) (Nat.le_refl _) _).setCell (p := ⟨w.heap.size, 2, none⟩) (Nat.le_refl _) _).setCell (p := ⟨w.heap.size, 3, none⟩) (Nat.le_refl _) _).setCell (p := ⟨w.heap.size, 4, none⟩) (Nat.le_refl _) _).setCell (p := ⟨w.heap.size, 5, none⟩) (Nat.le_refl _) _).setCell (p := ⟨w.heap.size, 6, none⟩) (Nat.le_refl _) _⟩
  have z0 : W1.cell? ⟨w.heap.size, 0, none⟩ = some (.int .i64 0) := (cell?_heap hbx 0).trans rfl
  have z1 : W1.cell? ⟨w.heap.size, 1, none⟩ = some (.pointer none) := (cell?_heap hbx 1).trans rfl
  have z2 : W1.cell? ⟨w.heap.size, 2, none⟩ = some (.pointer none) := (cell?_heap hbx 2).trans rfl
  have z3 : W1.cell? ⟨w.heap.size, 3, none⟩ = some (.pointer none) := (cell?_heap hbx 3).trans rfl
  have z4 : W1.cell? ⟨w.heap.size, 4, none⟩ = some (.pointer none) := (cell?_heap hbx 4).trans rfl
  have z5 : W1.cell? ⟨w.heap.size, 5, none⟩ = some (.pointer none) := (cell?_heap hbx 5).trans rfl
  have z6 : W1.cell? ⟨w.heap.size, 6, none⟩ = some (.pointer none) := (cell?_heap hbx 6).trans rfl
  have fz : ∀ j, W1.frozen? ⟨w.heap.size, j, none⟩ = false := fun j => frozen?_heap hbx j
  clear h hk hp hbx hne ep
  go_enter Tryz.func104, Tryz.ntmps104
  go_wp2
  obtain ⟨hz, hb⟩ := HF.out _ rfl
  exact bodyPost_ret (results_row_tmp (p := 4) (ty := 188) (q := 5) rfl _ _ w.heap.size 188 _ (0, 0) _ rfl hz Tryz.underlying188 rfl (by kernel_rfl)) rfl ⟨rfl, hb⟩
theorem law_machine4 (w : World) (B wb : Nat) (hold : Int) (l : WL) (qv av : Value) (s : WS) (k : Nat) (m : PM) (h : St4 w B wb hold l qv av s) (hk : s.ms[k]? = some m) (hkd : m.kd = 4) (hml : s.ms.length ≤ 1048576) : Calls Tryz.prog 104 #[.pointer (some ⟨wb, 0, none⟩), .int .i64 (k : Int)] w fun e w' => e = .returned (.tuple #[.agg #[.int .i64 4, .pointer none, .pointer none, .pointer (some ⟨m.pb, 0, none⟩), .pointer none, .pointer none, .pointer (some ⟨m.rb, 0, none⟩)], .bool true]) ∧ Below w.heap.size w w' := by
  have ep : pmC m = [.int .i64 4, .pointer none, .pointer none, .pointer (some ⟨m.pb, 0, none⟩), .pointer none, .pointer none, .pointer (some ⟨m.rb, 0, none⟩)] := by unfold pmC; rw [hkd]; rfl
  have hbx := heap_alloc_new w (.cells #[.int .i64 0, .pointer none, .pointer none, .pointer none, .pointer none, .pointer none, .pointer none] 188)
  obtain ⟨W1, hW1⟩ : ∃ W, w.alloc (.cells #[.int .i64 0, .pointer none, .pointer none, .pointer none, .pointer none, .pointer none, .pointer none] 188) = W := ⟨_, rfl⟩
  rw [hW1] at hbx
  have HB : Hid (Below w.heap.size w W1) := by rw [← hW1]; exact (Below.refl _ _).alloc (Nat.le_refl _) _
  have hkl : k < s.ms.length := (List.getElem?_eq_some_iff.1 hk).1
  have hne : s.ms ≠ [] := by intro e; rw [e] at hkl; simp at hkl
  obtain ⟨g, cp, hsp, _, hgl⟩ := owG_some h.o hne
  subst hsp
  have c6 : W1.cell? ⟨wb, 6, none⟩ = some (.slice (some ⟨g, 0, none⟩) s.ms.length cp) := (HB.out.cell (p := ⟨wb, 6, none⟩) h.lw).trans h.c6
  have hp : ∀ j, j < 7 → W1.cell? ⟨g, k * 7 + j, none⟩ = (pmC m)[j]? := fun j hj => (HB.out.cell (p := ⟨g, k * 7 + j, none⟩) hgl).trans (h.pair k m hk j hj)
  have p0 : W1.cell? ⟨g, k * 7, none⟩ = some (.int .i64 4) := (hp 0 (by decide)).trans (by rw [ep]; rfl)
  have p1 : W1.cell? ⟨g, k * 7 + 1, none⟩ = some (.pointer none) := (hp 1 (by decide)).trans (by rw [ep]; rfl)
  have p2 : W1.cell? ⟨g, k * 7 + 2, none⟩ = some (.pointer none) := (hp 2 (by decide)).trans (by rw [ep]; rfl)
  have p3 : W1.cell? ⟨g, k * 7 + 3, none⟩ = some (.pointer (some ⟨m.pb, 0, none⟩)) := (hp 3 (by decide)).trans (by rw [ep]; rfl)
  have p4 : W1.cell? ⟨g, k * 7 + 4, none⟩ = some (.pointer none) := (hp 4 (by decide)).trans (by rw [ep]; rfl)
  have p5 : W1.cell? ⟨g, k * 7 + 5, none⟩ = some (.pointer none) := (hp 5 (by decide)).trans (by rw [ep]; rfl)
  have p6 : W1.cell? ⟨g, k * 7 + 6, none⟩ = some (.pointer (some ⟨m.rb, 0, none⟩)) := (hp 6 (by decide)).trans (by rw [ep]; rfl)
  have q0 : (0 : Int) ≤ (k : Int) := Int.natCast_nonneg _
  have q1 : (k : Int) < (s.ms.length : Int) := by omega
  have HF : Hid (∀ W, W = ((((((W1.setCell ⟨w.heap.size, 0, none⟩ (.int .i64 4)).setCell ⟨w.heap.size, 1, none⟩ (.pointer none)).setCell ⟨w.heap.size, 2, none⟩ (.pointer none)).setCell ⟨w.heap.size, 3, none⟩ (.pointer (some ⟨m.pb, 0, none⟩))).setCell ⟨w.heap.size, 4, none⟩ (.pointer none)).setCell ⟨w.heap.size, 5, none⟩ (.pointer none)).setCell ⟨w.heap.size, 6, none⟩ (.pointer (some ⟨m.rb, 0, none⟩)) → W.heap[w.heap.size]? = some (.cells #[.int .i64 4, .pointer none, .pointer none, .pointer (some ⟨m.pb, 0, none⟩), .pointer none, .pointer none, .pointer (some ⟨m.rb, 0, none⟩)] 188) ∧ Below w.heap.size w W) := by
    rintro W rfl
    exact ⟨heapSetC (heapSetC (heapSetC (heapSetC (heapSetC (heapSetC (heapSetC hbx 0 _) 1 _) 2 _) 3 _) 4 _) 5 _) 6 _, ((((((HB.out.setCell (p := ⟨w.heap.size, 0, none⟩) (Nat.le_refl _) _).setCell (p := ⟨w.heap.size, 1, none⟩) (Nat.le_refl _) _).setCell (p := ⟨w.heap.size, 2, none⟩) (Nat.le_refl _) _).setCell (p := ⟨w.heap.size, 3, none⟩) (Nat.le_refl _) _).setCell (p := ⟨w.heap.size, 4, none⟩) (Nat.le_refl _) _).setCell (p := ⟨w.heap.size, 5, none⟩) (Nat.le_refl _) _).setCell (p := ⟨w.heap.size, 6, none⟩) (Nat.le_refl _) _⟩
  have z0 : W1.cell? ⟨w.heap.size, 0, none⟩ = some (.int .i64 0) := (cell?_heap hbx 0).trans rfl
  have z1 : W1.cell? ⟨w.heap.size, 1, none⟩ = some (.pointer none) := (cell?_heap hbx 1).trans rfl
  have z2 : W1.cell? ⟨w.heap.size, 2, none⟩ = some (.pointer none) := (cell?_heap hbx 2).trans rfl
  have z3 : W1.cell? ⟨w.heap.size, 3, none⟩ = some (.pointer none) := (cell?_heap hbx 3).trans rfl
  have z4 : W1.cell? ⟨w.heap.size, 4, none⟩ = some (.pointer none) := (cell?_heap hbx 4).trans rfl
  have z5 : W1.cell? ⟨w.heap.size, 5, none⟩ = some (.pointer none) := (cell?_heap hbx 5).trans rfl
  have z6 : W1.cell? ⟨w.heap.size, 6, none⟩ = some (.pointer none) := (cell?_heap hbx 6).trans rfl
  have fz : ∀ j, W1.frozen? ⟨w.heap.size, j, none⟩ = false := fun j => frozen?_heap hbx j
  clear h hk hp hbx hne ep
  go_enter Tryz.func104, Tryz.ntmps104
  go_wp2
  obtain ⟨hz, hb⟩ := HF.out _ rfl
  exact bodyPost_ret (results_row_tmp (p := 4) (ty := 188) (q := 5) rfl _ _ w.heap.size 188 _ (0, 0) _ rfl hz Tryz.underlying188 rfl (by kernel_rfl)) rfl ⟨rfl, hb⟩
end Go.Proofs.YtdjklcmkcccpeaaGreat

namespace Go.Proofs.YtdjklcmkcccpeaaGreat
set_option linter.unusedSimpArgs false
open Go.ChangeShapes Go.WideShapes Go.ChangeAt Go.RowKit Go.MuLone Go.RwLone
set_option linter.unusedVariables false
set_option maxRecDepth 100000
set_option maxHeartbeats 6400000
theorem rwlk_ended (w : World) (mb xb : Nat) (m : MW) (h : RwlH w mb xb m) : Calls Tryz.prog 159 #[.pointer (some ⟨mb, 0, none⟩)] w fun e w' => e = .returned (.bool m.ended) ∧ w' = w := by
  obtain ⟨bk, fr, wh, lo, nx, h1, _⟩ := h
  have c7 : w.cell? ⟨mb, 7, none⟩ = some (.bool m.ended) := (cell?_heap h1 7).trans rfl
  clear h1
  go_enter Tryz.func159, Tryz.ntmps159
  go_wp2
  go_ret
  exact ⟨rfl, rfl⟩
theorem law_ask1 (w : World) (B wb : Nat) (hold : Int) (l : WL) (qv av : Value) (s : WS) (k : Nat) (m : PM) (h : St4 w B wb hold l qv av s) (hk : s.ms[k]? = some m) (hkd : m.kd = 1) : Calls Tryz.prog 106 #[.pointer (some ⟨wb, 0, none⟩), .agg #[.int .i64 1, .pointer (some ⟨m.pb, 0, none⟩), .pointer none, .pointer none, .pointer (some ⟨m.rb, 0, none⟩), .pointer none, .pointer none]] w fun e w' => e = .returned (.bool true) ∧ Below w.heap.size w w' := by
  have hmem := List.mem_of_getElem? hk
  obtain ⟨m1, mi, m3, m4, m5, m6, m7, m8⟩ := h.b.m m hmem
  have hpr : InsH w m.pb (l.X m.ix).x m.i ∧ RinH w m.rb (l.Y m.ix).x m.i := by
    rcases m1 with ⟨_, a, b⟩ | ⟨e, _⟩ | ⟨e, _⟩
    · exact ⟨a, b⟩
    · omega
    · omega
  have hbx := heap_alloc_new w (.cells #[.int .i64 1, .pointer (some ⟨m.pb, 0, none⟩), .pointer none, .pointer none, .pointer (some ⟨m.rb, 0, none⟩), .pointer none, .pointer none] 188)
  obtain ⟨W, hW⟩ : ∃ W, (w.alloc (.cells #[.int .i64 1, .pointer (some ⟨m.pb, 0, none⟩), .pointer none, .pointer none, .pointer (some ⟨m.rb, 0, none⟩), .pointer none, .pointer none] 188)).drew = W := ⟨_, rfl⟩
  have hb1 : Below w.heap.size w W := by rw [← hW]; exact ((Below.refl _ _).alloc (Nat.le_refl _) _).drew
  have b0 : W.heap[w.heap.size]? = some (.cells #[.int .i64 1, .pointer (some ⟨m.pb, 0, none⟩), .pointer none, .pointer none, .pointer (some ⟨m.rb, 0, none⟩), .pointer none, .pointer none] 188) := by rw [← hW]; exact hbx
  have HBE : Hid (Below w.heap.size w W) := hb1
  have sx : W.cell? ⟨wb, 7, none⟩ = some (.int .i64 hold) ∧ W.cell? ⟨w.heap.size, 0, none⟩ = some (.int .i64 1) := ⟨(hb1.cell (p := ⟨wb, 7, none⟩) h.lw).trans h.c7, (cell?_heap b0 0).trans rfl⟩
  have HD2 : Hid (W.drew.cell? ⟨w.heap.size, 0, none⟩ = some (.int .i64 1)) := sx.2
  have hp0 : InsH W m.pb (l.X m.ix).x m.i := hpr.1.keeps (Below.keeps hb1 (fun _ => False)) (fun e => e)
  have hr0 : RinH W m.rb (l.Y m.ix).x m.i := hpr.2.keeps (Below.keeps hb1 (fun _ => False)) (fun e => e)
  have HM : Hid (InsH W.drew m.pb (l.X m.ix).x m.i ∧ RinH W.drew m.rb (l.Y m.ix).x m.i ∧ W.drew.heap[w.heap.size]? = some (.cells #[.int .i64 1, .pointer (some ⟨m.pb, 0, none⟩), .pointer none, .pointer none, .pointer (some ⟨m.rb, 0, none⟩), .pointer none, .pointer none] 188) ∧ Below w.heap.size w W.drew) := ⟨hp0, hr0, b0, hb1.drew⟩
  rw [← hW] at sx
  clear h hk hmem m1 m3 m4 m5 m6 m7 m8 hpr hbx hb1 b0 hp0 hr0
  go_enter Tryz.func106, Tryz.ntmps106
  go_wp2_with fail
  (refine wp_region_held_drew (S := (fun Z => Z.cell? ⟨wb, 7, none⟩ = some (.int .i64 hold) ∧ Z.cell? ⟨w.heap.size, 0, none⟩ = some (.int .i64 1))) (by kernel_rfl) sx (fun hHeld => ?_); simp only [List.size_toArray, List.length_cons, List.length_nil, Nat.reduceAdd, Array.replicate_succ, Array.replicate_zero, List.push_toArray, List.append_toArray, List.nil_append, List.cons_append])
  clear sx
  rw [hW] at hHeld ⊢
  clear hW
  refine rgT 0 (h := ?_)
  refine rgT 1 (h := ?_)
  refine rgT 2 (h := ?_)
  refine rgT 3 (h := ?_)
  refine rgT 4 (h := ?_)
  refine rgT 5 (h := ?_)
  refine rgT 6 (h := ?_)
  refine rgT 7 (h := ?_)
  refine wpAnyH_done (by kernel_rfl) ?_ _
  obtain ⟨-, l0⟩ := hHeld
  generalize (bits BinOp.and IntKind.i64 hold 1 == 0) = q at *
  cases q with
  | true =>
    go_wp2
    go_ret
    exact ⟨rfl, HBE.out⟩
  | false =>
    obtain ⟨hp, hr, b0, hb⟩ := HM.out
    have HA : Hid (∀ _ : Unit, _) := fun _ => ins_Code W.drew m.pb (l.X m.ix).x m.i hp
    have HB : Hid (∀ _ : Unit, _) := fun _ => ins_Tries W.drew m.pb (l.X m.ix).x m.i hp
    have HF : Hid (Below w.heap.size w W.drew) := hb
    have sy : (fun Z => Z.cell? ⟨w.heap.size, 1, none⟩ = some (.pointer (some ⟨m.pb, 0, none⟩)) ∧ Z.cell? ⟨w.heap.size, 4, none⟩ = some (.pointer (some ⟨m.rb, 0, none⟩)) ∧ Z.cell? ⟨m.rb, 6, none⟩ = some (.int .i64 m.i.code) ∧ Z.cell? ⟨m.rb, 7, none⟩ = some (.int .i64 m.i.tr)) W.drew := by
      obtain ⟨at_, dn, hr1, _⟩ := hr
      exact ⟨(cell?_heap b0 1).trans rfl, (cell?_heap b0 4).trans rfl, (cell?_heap hr1 6).trans rfl, (cell?_heap hr1 7).trans rfl⟩
    clear hp hr b0 hb HM HD2
    go_wp2_with fail
    (refine wp_region_held_drew (S := (fun Z => Z.cell? ⟨w.heap.size, 1, none⟩ = some (.pointer (some ⟨m.pb, 0, none⟩)) ∧ Z.cell? ⟨w.heap.size, 4, none⟩ = some (.pointer (some ⟨m.rb, 0, none⟩)) ∧ Z.cell? ⟨m.rb, 6, none⟩ = some (.int .i64 m.i.code) ∧ Z.cell? ⟨m.rb, 7, none⟩ = some (.int .i64 m.i.tr))) (by kernel_rfl) sy (fun hHeld => ?_); simp only [List.size_toArray, List.length_cons, List.length_nil, Nat.reduceAdd, Array.replicate_succ, Array.replicate_zero, List.push_toArray, List.append_toArray, List.nil_append, List.cons_append])
    clear sy l0
    generalize W.drew = W2 at *
    refine rgT 0 (h := ?_)
    refine rgT 1 (h := ?_)
    refine rgT 4 (h := ?_)
    refine rgT 5 (h := ?_)
    refine rgT 6 (h := ?_)
    refine rgT 7 (h := ?_)
    refine rgT 8 (h := ?_)
    (refine rgS 2 (h := fun K hK => ?_); go_simp)
    refine (HA.out ()).mono ?_
    rintro e w1 ⟨rfl, hw1⟩
    rw [hw1]
    clear hw1 w1
    (refine hK.out _ _ hHeld (fun hHeld => ?_); clear hK K; try simp only [Act.put, List.setIfInBounds_toArray, List.set_cons_zero, List.set_cons_succ])
    (refine rgS 3 (h := fun K hK => ?_); go_simp)
    refine (law_num _ _).mono ?_
    rintro e w1 ⟨rfl, hw1⟩
    rw [hw1]
    clear hw1 w1
    (refine hK.out _ _ hHeld (fun hHeld => ?_); clear hK K; try simp only [Act.put, List.setIfInBounds_toArray, List.set_cons_zero, List.set_cons_succ])
    refine rgT 9 (h := ?_)
    refine rgT 10 (h := ?_)
    refine rgT 11 (h := ?_)
    refine rgT 12 (h := ?_)
    refine rgT 14 (h := ?_)
    refine rgT 15 (h := ?_)
    refine rgT 16 (h := ?_)
    refine rgT 17 (h := ?_)
    refine rgT 18 (h := ?_)
    (refine rgS 13 (h := fun K hK => ?_); go_simp)
    refine (HB.out ()).mono ?_
    rintro e w1 ⟨rfl, hw1⟩
    rw [hw1]
    clear hw1 w1
    (refine hK.out _ _ hHeld (fun hHeld => ?_); clear hK K; try simp only [Act.put, List.setIfInBounds_toArray, List.set_cons_zero, List.set_cons_succ])
    refine rgT 19 (h := ?_)
    refine rgT 20 (h := ?_)
    refine rgT 21 (h := ?_)
    refine wpAnyH_done (by kernel_rfl) ?_ _
    clear hHeld HA HB
    go_wp2
    go_ret
    exact ⟨rfl, HF.out⟩
theorem law_ask2 (w : World) (B wb : Nat) (hold : Int) (l : WL) (qv av : Value) (s : WS) (k : Nat) (m : PM) (h : St4 w B wb hold l qv av s) (hk : s.ms[k]? = some m) (hkd : m.kd = 2) : Calls Tryz.prog 106 #[.pointer (some ⟨wb, 0, none⟩), .agg #[.int .i64 2, .pointer none, .pointer (some ⟨m.pb, 0, none⟩), .pointer none, .pointer none, .pointer (some ⟨m.rb, 0, none⟩), .pointer none]] w fun e w' => e = .returned (.bool true) ∧ Below w.heap.size w w' := by
  have hmem := List.mem_of_getElem? hk
  obtain ⟨m1, mi, m3, m4, m5, m6, m7, m8⟩ := h.b.m m hmem
  have hpr : WlkH w m.pb (l.X m.ix).x m.k ∧ RwlH w m.rb (l.Y m.ix).x m.k := by
    rcases m1 with ⟨e, _⟩ | ⟨_, a, b⟩ | ⟨e, _⟩
    · omega
    · exact ⟨a, b⟩
    · omega
  have hbx := heap_alloc_new w (.cells #[.int .i64 2, .pointer none, .pointer (some ⟨m.pb, 0, none⟩), .pointer none, .pointer none, .pointer (some ⟨m.rb, 0, none⟩), .pointer none] 188)
  obtain ⟨W, hW⟩ : ∃ W, (w.alloc (.cells #[.int .i64 2, .pointer none, .pointer (some ⟨m.pb, 0, none⟩), .pointer none, .pointer none, .pointer (some ⟨m.rb, 0, none⟩), .pointer none] 188)).drew = W := ⟨_, rfl⟩
  have hb1 : Below w.heap.size w W := by rw [← hW]; exact ((Below.refl _ _).alloc (Nat.le_refl _) _).drew
  have b0 : W.heap[w.heap.size]? = some (.cells #[.int .i64 2, .pointer none, .pointer (some ⟨m.pb, 0, none⟩), .pointer none, .pointer none, .pointer (some ⟨m.rb, 0, none⟩), .pointer none] 188) := by rw [← hW]; exact hbx
  have HBE : Hid (Below w.heap.size w W) := hb1
  have sx : W.cell? ⟨wb, 7, none⟩ = some (.int .i64 hold) ∧ W.cell? ⟨w.heap.size, 0, none⟩ = some (.int .i64 2) := ⟨(hb1.cell (p := ⟨wb, 7, none⟩) h.lw).trans h.c7, (cell?_heap b0 0).trans rfl⟩
  have HD2 : Hid (W.drew.cell? ⟨w.heap.size, 0, none⟩ = some (.int .i64 2)) := sx.2
  have hp0 : WlkH W m.pb (l.X m.ix).x m.k := hpr.1.keeps (Below.keeps hb1 (fun _ => False)) (fun e => e)
  have hr0 : RwlH W m.rb (l.Y m.ix).x m.k := hpr.2.keeps (Below.keeps hb1 (fun _ => False)) (fun e => e)
  have HM : Hid (WlkH W.drew m.pb (l.X m.ix).x m.k ∧ RwlH W.drew m.rb (l.Y m.ix).x m.k ∧ W.drew.heap[w.heap.size]? = some (.cells #[.int .i64 2, .pointer none, .pointer (some ⟨m.pb, 0, none⟩), .pointer none, .pointer none, .pointer (some ⟨m.rb, 0, none⟩), .pointer none] 188) ∧ Below w.heap.size w W.drew) := ⟨hp0, hr0, b0, hb1.drew⟩
  rw [← hW] at sx
  clear h hk hmem m1 m3 m4 m5 m6 m7 m8 hpr hbx hb1 b0 hp0 hr0
  go_enter Tryz.func106, Tryz.ntmps106
  go_wp2_with fail
  (refine wp_region_held_drew (S := (fun Z => Z.cell? ⟨wb, 7, none⟩ = some (.int .i64 hold) ∧ Z.cell? ⟨w.heap.size, 0, none⟩ = some (.int .i64 2))) (by kernel_rfl) sx (fun hHeld => ?_); simp only [List.size_toArray, List.length_cons, List.length_nil, Nat.reduceAdd, Array.replicate_succ, Array.replicate_zero, List.push_toArray, List.append_toArray, List.nil_append, List.cons_append])
  clear sx
  rw [hW] at hHeld ⊢
  clear hW
  refine rgT 0 (h := ?_)
  refine rgT 1 (h := ?_)
  refine rgT 2 (h := ?_)
  refine rgT 3 (h := ?_)
  refine rgT 4 (h := ?_)
  refine rgT 5 (h := ?_)
  refine rgT 6 (h := ?_)
  refine rgT 7 (h := ?_)
  refine wpAnyH_done (by kernel_rfl) ?_ _
  obtain ⟨-, l0⟩ := hHeld
  generalize (bits BinOp.and IntKind.i64 hold 2 == 0) = q at *
  cases q with
  | true =>
    go_wp2
    go_ret
    exact ⟨rfl, HBE.out⟩
  | false =>
    obtain ⟨hp, hr, b0, hb⟩ := HM.out
    have HA : Hid (∀ _ : Unit, _) := fun _ => wlk_Code W.drew m.pb (l.X m.ix).x m.k hp
    have HB : Hid (∀ _ : Unit, _) := fun _ => wlk_Slot W.drew m.pb (l.X m.ix).x m.k hp
    have HC : Hid (∀ _ : Unit, _) := fun _ => wlk_Ended W.drew m.pb (l.X m.ix).x m.k hp
    have HD : Hid (∀ _ : Unit, _) := fun _ => rwlk_ended W.drew m.rb (l.Y m.ix).x m.k hr
    have HF : Hid (Below w.heap.size w W.drew) := hb
    have sy : (fun Z => Z.cell? ⟨w.heap.size, 2, none⟩ = some (.pointer (some ⟨m.pb, 0, none⟩)) ∧ Z.cell? ⟨w.heap.size, 5, none⟩ = some (.pointer (some ⟨m.rb, 0, none⟩)) ∧ Z.cell? ⟨m.rb, 8, none⟩ = some (.int .i64 m.k.code) ∧ Z.cell? ⟨m.rb, 6, none⟩ = some (.int .i64 m.k.slot)) W.drew := by
      obtain ⟨bk, fr, wh, lo, nx, hr1, _⟩ := hr
      exact ⟨(cell?_heap b0 2).trans rfl, (cell?_heap b0 5).trans rfl, (cell?_heap hr1 8).trans rfl, (cell?_heap hr1 6).trans rfl⟩
    clear hp hr b0 hb HM HD2
    go_wp2_with fail
    (refine wp_region_held_drew (S := (fun Z => Z.cell? ⟨w.heap.size, 2, none⟩ = some (.pointer (some ⟨m.pb, 0, none⟩)) ∧ Z.cell? ⟨w.heap.size, 5, none⟩ = some (.pointer (some ⟨m.rb, 0, none⟩)) ∧ Z.cell? ⟨m.rb, 8, none⟩ = some (.int .i64 m.k.code) ∧ Z.cell? ⟨m.rb, 6, none⟩ = some (.int .i64 m.k.slot))) (by kernel_rfl) sy (fun hHeld => ?_); simp only [List.size_toArray, List.length_cons, List.length_nil, Nat.reduceAdd, Array.replicate_succ, Array.replicate_zero, List.push_toArray, List.append_toArray, List.nil_append, List.cons_append])
    clear sy l0
    generalize W.drew = W2 at *
    refine rgT 0 (h := ?_)
    refine rgT 1 (h := ?_)
    refine rgT 4 (h := ?_)
    refine rgT 5 (h := ?_)
    refine rgT 6 (h := ?_)
    refine rgT 7 (h := ?_)
    refine rgT 8 (h := ?_)
    (refine rgS 2 (h := fun K hK => ?_); go_simp)
    refine (HA.out ()).mono ?_
    rintro e w1 ⟨rfl, hw1⟩
    rw [hw1]
    clear hw1 w1
    (refine hK.out _ _ hHeld (fun hHeld => ?_); clear hK K; try simp only [Act.put, List.setIfInBounds_toArray, List.set_cons_zero, List.set_cons_succ])
    (refine rgS 3 (h := fun K hK => ?_); go_simp)
    refine (law_num _ _).mono ?_
    rintro e w1 ⟨rfl, hw1⟩
    rw [hw1]
    clear hw1 w1
    (refine hK.out _ _ hHeld (fun hHeld => ?_); clear hK K; try simp only [Act.put, List.setIfInBounds_toArray, List.set_cons_zero, List.set_cons_succ])
    refine rgT 9 (h := ?_)
    refine rgT 10 (h := ?_)
    refine rgT 11 (h := ?_)
    refine rgT 12 (h := ?_)
    refine rgT 14 (h := ?_)
    refine rgT 15 (h := ?_)
    refine rgT 16 (h := ?_)
    refine rgT 17 (h := ?_)
    refine rgT 18 (h := ?_)
    (refine rgS 13 (h := fun K hK => ?_); go_simp)
    refine (HB.out ()).mono ?_
    rintro e w1 ⟨rfl, hw1⟩
    rw [hw1]
    clear hw1 w1
    (refine hK.out _ _ hHeld (fun hHeld => ?_); clear hK K; try simp only [Act.put, List.setIfInBounds_toArray, List.set_cons_zero, List.set_cons_succ])
    refine rgT 19 (h := ?_)
    refine rgT 20 (h := ?_)
    refine rgT 21 (h := ?_)
    refine rgT 22 (h := ?_)
    refine rgT 23 (h := ?_)
    refine rgT 25 (h := ?_)
    refine rgT 26 (h := ?_)
    (refine rgS 24 (h := fun K hK => ?_); go_simp)
    refine (HC.out ()).mono ?_
    rintro e w1 ⟨rfl, hw1⟩
    rw [hw1]
    clear hw1 w1
    (refine hK.out _ _ hHeld (fun hHeld => ?_); clear hK K; try simp only [Act.put, List.setIfInBounds_toArray, List.set_cons_zero, List.set_cons_succ])
    (refine rgS 27 (h := fun K hK => ?_); go_simp)
    refine (HD.out ()).mono ?_
    rintro e w1 ⟨rfl, hw1⟩
    rw [hw1]
    clear hw1 w1
    (refine hK.out _ _ hHeld (fun hHeld => ?_); clear hK K; try simp only [Act.put, List.setIfInBounds_toArray, List.set_cons_zero, List.set_cons_succ])
    refine rgT 28 (h := ?_)
    refine rgT 29 (h := ?_)
    refine rgT 30 (h := ?_)
    refine wpAnyH_done (by kernel_rfl) ?_ _
    clear hHeld HA HB HC HD
    go_wp2
    go_ret
    exact ⟨rfl, HF.out⟩
theorem law_ask4 (w : World) (B wb : Nat) (hold : Int) (l : WL) (qv av : Value) (s : WS) (k : Nat) (m : PM) (h : St4 w B wb hold l qv av s) (hk : s.ms[k]? = some m) (hkd : m.kd = 4) : Calls Tryz.prog 106 #[.pointer (some ⟨wb, 0, none⟩), .agg #[.int .i64 4, .pointer none, .pointer none, .pointer (some ⟨m.pb, 0, none⟩), .pointer none, .pointer none, .pointer (some ⟨m.rb, 0, none⟩)]] w fun e w' => e = .returned (.bool true) ∧ Below w.heap.size w w' := by
  have hmem := List.mem_of_getElem? hk
  obtain ⟨m1, mi, m3, m4, m5, m6, m7, m8⟩ := h.b.m m hmem
  have hpr : RemH w m.pb (l.X m.ix).x m.r ∧ RrmH w m.rb (l.Y m.ix).x m.r := by
    rcases m1 with ⟨e, _⟩ | ⟨e, _⟩ | ⟨_, a, b⟩
    · omega
    · omega
    · exact ⟨a, b⟩
  have hbx := heap_alloc_new w (.cells #[.int .i64 4, .pointer none, .pointer none, .pointer (some ⟨m.pb, 0, none⟩), .pointer none, .pointer none, .pointer (some ⟨m.rb, 0, none⟩)] 188)
  obtain ⟨W, hW⟩ : ∃ W, (w.alloc (.cells #[.int .i64 4, .pointer none, .pointer none, .pointer (some ⟨m.pb, 0, none⟩), .pointer none, .pointer none, .pointer (some ⟨m.rb, 0, none⟩)] 188)).drew = W := ⟨_, rfl⟩
  have hb1 : Below w.heap.size w W := by rw [← hW]; exact ((Below.refl _ _).alloc (Nat.le_refl _) _).drew
  have b0 : W.heap[w.heap.size]? = some (.cells #[.int .i64 4, .pointer none, .pointer none, .pointer (some ⟨m.pb, 0, none⟩), .pointer none, .pointer none, .pointer (some ⟨m.rb, 0, none⟩)] 188) := by rw [← hW]; exact hbx
  have HBE : Hid (Below w.heap.size w W) := hb1
  have sx : W.cell? ⟨wb, 7, none⟩ = some (.int .i64 hold) ∧ W.cell? ⟨w.heap.size, 0, none⟩ = some (.int .i64 4) := ⟨(hb1.cell (p := ⟨wb, 7, none⟩) h.lw).trans h.c7, (cell?_heap b0 0).trans rfl⟩
  have HD2 : Hid (W.drew.cell? ⟨w.heap.size, 0, none⟩ = some (.int .i64 4)) := sx.2
  have hp0 : RemH W m.pb (l.X m.ix).x m.r := hpr.1.keeps (Below.keeps hb1 (fun _ => False)) (fun e => e)
  have hr0 : RrmH W m.rb (l.Y m.ix).x m.r := hpr.2.keeps (Below.keeps hb1 (fun _ => False)) (fun e => e)
  have HM : Hid (RemH W.drew m.pb (l.X m.ix).x m.r ∧ RrmH W.drew m.rb (l.Y m.ix).x m.r ∧ W.drew.heap[w.heap.size]? = some (.cells #[.int .i64 4, .pointer none, .pointer none, .pointer (some ⟨m.pb, 0, none⟩), .pointer none, .pointer none, .pointer (some ⟨m.rb, 0, none⟩)] 188) ∧ Below w.heap.size w W.drew) := ⟨hp0, hr0, b0, hb1.drew⟩
  rw [← hW] at sx
  clear h hk hmem m1 m3 m4 m5 m6 m7 m8 hpr hbx hb1 b0 hp0 hr0
  go_enter Tryz.func106, Tryz.ntmps106
  go_wp2_with fail
  (refine wp_region_held_drew (S := (fun Z => Z.cell? ⟨wb, 7, none⟩ = some (.int .i64 hold) ∧ Z.cell? ⟨w.heap.size, 0, none⟩ = some (.int .i64 4))) (by kernel_rfl) sx (fun hHeld => ?_); simp only [List.size_toArray, List.length_cons, List.length_nil, Nat.reduceAdd, Array.replicate_succ, Array.replicate_zero, List.push_toArray, List.append_toArray, List.nil_append, List.cons_append])
  clear sx
  rw [hW] at hHeld ⊢
  clear hW
  refine rgT 0 (h := ?_)
  refine rgT 1 (h := ?_)
  refine rgT 2 (h := ?_)
  refine rgT 3 (h := ?_)
  refine rgT 4 (h := ?_)
  refine rgT 5 (h := ?_)
  refine rgT 6 (h := ?_)
  refine rgT 7 (h := ?_)
  refine wpAnyH_done (by kernel_rfl) ?_ _
  obtain ⟨-, l0⟩ := hHeld
  generalize (bits BinOp.and IntKind.i64 hold 4 == 0) = q at *
  cases q with
  | true =>
    go_wp2
    go_ret
    exact ⟨rfl, HBE.out⟩
  | false =>
    obtain ⟨hp, hr, b0, hb⟩ := HM.out
    have HA : Hid (∀ _ : Unit, _) := fun _ => rem_Code W.drew m.pb (l.X m.ix).x m.r hp
    have HB : Hid (∀ _ : Unit, _) := fun _ => rem_Marked W.drew m.pb (l.X m.ix).x m.r hp
    have HC : Hid (∀ _ : Unit, _) := fun _ => rem_Helped W.drew m.pb (l.X m.ix).x m.r hp
    have HF : Hid (Below w.heap.size w W.drew) := hb
    have sy : (fun Z => Z.cell? ⟨w.heap.size, 3, none⟩ = some (.pointer (some ⟨m.pb, 0, none⟩)) ∧ Z.cell? ⟨w.heap.size, 6, none⟩ = some (.pointer (some ⟨m.rb, 0, none⟩)) ∧ Z.cell? ⟨m.rb, 8, none⟩ = some (.int .i64 m.r.co) ∧ Z.cell? ⟨m.rb, 9, none⟩ = some (.bool m.r.ma) ∧ Z.cell? ⟨m.rb, 10, none⟩ = some (.int .i64 m.r.he)) W.drew := by
      obtain ⟨at_, wv, ah, nw, dn, hr1, _⟩ := hr
      exact ⟨(cell?_heap b0 3).trans rfl, (cell?_heap b0 6).trans rfl, (cell?_heap hr1 8).trans rfl, (cell?_heap hr1 9).trans rfl, (cell?_heap hr1 10).trans rfl⟩
    clear hp hr b0 hb HM HD2
    go_wp2_with fail
    (refine wp_region_held_drew (S := (fun Z => Z.cell? ⟨w.heap.size, 3, none⟩ = some (.pointer (some ⟨m.pb, 0, none⟩)) ∧ Z.cell? ⟨w.heap.size, 6, none⟩ = some (.pointer (some ⟨m.rb, 0, none⟩)) ∧ Z.cell? ⟨m.rb, 8, none⟩ = some (.int .i64 m.r.co) ∧ Z.cell? ⟨m.rb, 9, none⟩ = some (.bool m.r.ma) ∧ Z.cell? ⟨m.rb, 10, none⟩ = some (.int .i64 m.r.he))) (by kernel_rfl) sy (fun hHeld => ?_); simp only [List.size_toArray, List.length_cons, List.length_nil, Nat.reduceAdd, Array.replicate_succ, Array.replicate_zero, List.push_toArray, List.append_toArray, List.nil_append, List.cons_append])
    clear sy l0
    generalize W.drew = W2 at *
    refine rgT 0 (h := ?_)
    refine rgT 1 (h := ?_)
    refine rgT 4 (h := ?_)
    refine rgT 5 (h := ?_)
    refine rgT 6 (h := ?_)
    refine rgT 7 (h := ?_)
    refine rgT 8 (h := ?_)
    (refine rgS 2 (h := fun K hK => ?_); go_simp)
    refine (HA.out ()).mono ?_
    rintro e w1 ⟨rfl, hw1⟩
    rw [hw1]
    clear hw1 w1
    (refine hK.out _ _ hHeld (fun hHeld => ?_); clear hK K; try simp only [Act.put, List.setIfInBounds_toArray, List.set_cons_zero, List.set_cons_succ])
    (refine rgS 3 (h := fun K hK => ?_); go_simp)
    refine (law_num _ _).mono ?_
    rintro e w1 ⟨rfl, hw1⟩
    rw [hw1]
    clear hw1 w1
    (refine hK.out _ _ hHeld (fun hHeld => ?_); clear hK K; try simp only [Act.put, List.setIfInBounds_toArray, List.set_cons_zero, List.set_cons_succ])
    refine rgT 9 (h := ?_)
    refine rgT 10 (h := ?_)
    refine rgT 11 (h := ?_)
    refine rgT 12 (h := ?_)
    refine rgT 14 (h := ?_)
    refine rgT 15 (h := ?_)
    refine rgT 16 (h := ?_)
    refine rgT 17 (h := ?_)
    refine rgT 18 (h := ?_)
    (refine rgS 13 (h := fun K hK => ?_); go_simp)
    refine (HB.out ()).mono ?_
    rintro e w1 ⟨rfl, hw1⟩
    rw [hw1]
    clear hw1 w1
    (refine hK.out _ _ hHeld (fun hHeld => ?_); clear hK K; try simp only [Act.put, List.setIfInBounds_toArray, List.set_cons_zero, List.set_cons_succ])
    refine rgT 19 (h := ?_)
    refine rgT 20 (h := ?_)
    refine rgT 21 (h := ?_)
    refine rgT 22 (h := ?_)
    refine rgT 23 (h := ?_)
    refine rgT 25 (h := ?_)
    refine rgT 26 (h := ?_)
    refine rgT 27 (h := ?_)
    refine rgT 28 (h := ?_)
    refine rgT 29 (h := ?_)
    (refine rgS 24 (h := fun K hK => ?_); go_simp)
    refine (HC.out ()).mono ?_
    rintro e w1 ⟨rfl, hw1⟩
    rw [hw1]
    clear hw1 w1
    (refine hK.out _ _ hHeld (fun hHeld => ?_); clear hK K; try simp only [Act.put, List.setIfInBounds_toArray, List.set_cons_zero, List.set_cons_succ])
    refine rgT 30 (h := ?_)
    refine rgT 31 (h := ?_)
    refine rgT 32 (h := ?_)
    refine wpAnyH_done (by kernel_rfl) ?_ _
    clear hHeld HA HB HC
    go_wp2
    go_ret
    exact ⟨rfl, HF.out⟩
end Go.Proofs.YtdjklcmkcccpeaaGreat

namespace Go.Proofs.YtdjklcmkcccpeaaGreat
set_option linter.unusedSimpArgs false
open Go.ChangeShapes Go.WideShapes Go.ChangeAt Go.RowKit Go.MuLone Go.RwLone
set_option linter.unusedVariables false
set_option maxRecDepth 100000
set_option maxHeartbeats 6400000
/-- The program's arena was looked at. -/
theorem St4.arn {w w' : World} {B wb : Nat} {hold : Int} {l : WL} {qv av : Value} {s : WS} (h : St4 w B wb hold l qv av s) (ha : Arn w' l.L s.Q s.S) (k : Keeps l.L.has w w') (hB : B ≤ w.heap.size) : St4 w' B wb hold l qv av s :=
  (h.go (h.b.arn ha k) k (fun g hg => .inl (.inl hg)) (fun g hg => .inl hg) rfl rfl rfl rfl (.inl rfl) hB).1
theorem noK {w w' : World} {D : Nat → Prop} (k : Keeps (fun _ => False) w w') : Keeps D w w' := k.mono (fun _ e => e.elim)
theorem law_same (w : World) (v1 v2 : Value) (xs : List Int) (B1 B2 : Nat) (h1 : OwI w B1 v1 xs) (h2 : OwI w B2 v2 xs) (hl : xs.length ≤ 4096) : Calls Tryz.prog 49 #[v1, v2] w fun e w' => e = .returned (.bool true) ∧ Keeps (fun _ => False) w w' := by
  obtain ⟨a1, c1, e1⟩ := h1.form
  obtain ⟨a2, c2, e2⟩ := h2.form
  subst e1 e2
  have HC : Hid (∀ W, Keeps (fun _ => False) w W → ∀ t (ht : t < xs.length), ∃ g1 g2, a1 = some ⟨g1, 0, none⟩ ∧ a2 = some ⟨g2, 0, none⟩ ∧ W.cell? ⟨g1, t, none⟩ = some (.int .i64 xs[t]) ∧ W.cell? ⟨g2, t, none⟩ = some (.int .i64 xs[t])) := fun W k t ht => by
    have hne : xs ≠ [] := by intro e; rw [e] at ht; simp at ht
    obtain ⟨g1, d1, e1, _, l1⟩ := owG_some h1 hne
    obtain ⟨g2, d2, e2, _, l2⟩ := owG_some h2 hne
    injection e1 with e1 _ _
    injection e2 with e2 _ _
    subst e1 e2
    exact ⟨g1, g2, rfl, rfl, (k.cell (p := ⟨g1, t, none⟩) l1 (fun e => e)).trans (ow_at flat_inZ h1 t ht), (k.cell (p := ⟨g2, t, none⟩) l2 (fun e => e)).trans (ow_at flat_inZ h2 t ht)⟩
  clear h1 h2
  go_enter Tryz.func49, Tryz.ntmps49
  go_wp2_with fail
  go_loopw [5] (fun i wr => ∃ t : Nat, t ≤ xs.length ∧ i = .int .i64 (t : Int) ∧ Keeps (fun _ => False) w wr) (fun i _ => xs.length - (intOf i).toNat)
  case atStart => exact ⟨0, by omega, rfl, Keeps.refl _ _⟩
  case round =>
    obtain ⟨t, ht, rfl, hk⟩ := hrel
    by_cases h5 : t < xs.length
    · have t0 : (0 : Int) ≤ (t : Int) := Int.natCast_nonneg _
      have t1 : (t : Int) < (xs.length : Int) := by omega
      have HK : Hid (Keeps (fun _ => False) w wr.drew) := hk.drew
      obtain ⟨g1, g2, rfl, rfl, d1, d2⟩ := HC.out wr.drew HK.out t h5
      obtain ⟨y, hy⟩ : ∃ y, xs[t] = y := ⟨_, rfl⟩
      rw [hy] at d1 d2
      clear hk hy
      go_wp2_with fail
      (refine wp_region_held_drew (S := (fun Z => Z.cell? ⟨g1, t, none⟩ = some (.int .i64 y) ∧ Z.cell? ⟨g2, t, none⟩ = some (.int .i64 y))) (by kernel_rfl) ⟨d1, d2⟩ (fun hHeld => ?_); simp only [List.size_toArray, List.length_cons, List.length_nil, Nat.reduceAdd, Array.replicate_succ, Array.replicate_zero, List.push_toArray, List.append_toArray, List.nil_append, List.cons_append])
      clear d1 d2
      refine rgT 0 (h := ?_)
      refine rgT 1 (h := ?_)
      refine rgT 2 (h := ?_)
      refine rgT 3 (h := ?_)
      refine rgT 4 (h := ?_)
      refine rgT 5 (h := ?_)
      refine rgT 6 (h := ?_)
      refine rgT 7 (h := ?_)
      refine rgT 8 (h := ?_)
      refine wpAnyH_done (by kernel_rfl) ?_ _
      clear hHeld
      go_wp2
      go_roundw
      case rel => exact ⟨t + 1, by omega, by go_num, HK.out⟩
      case measure => simp [intOf]; omega
    · have HK : Hid (Keeps (fun _ => False) w wr) := hk
      clear hk
      go_wp2
      go_ret
      exact ⟨rfl, HK.out⟩
theorem law_look (w : World) (B wb : Nat) (hold : Int) (l : WL) (qv av : Value) (s : WS) (i : Nat) (b : Int) (h : St4 w B wb hold l qv av s) (hi : i < 2) (hB : B ≤ w.heap.size) : Calls Tryz.prog 107 #[.pointer (some ⟨wb, 0, none⟩), .int .i64 (i : Int), .int .i64 b] w fun e w' => e = .returned (.bool true) ∧ St4 w' B wb hold l qv av s ∧ Keeps l.L.has w w' := by
  have c7 := h.c7
  have c1 := h.c1 i hi
  have i0 : (0 : Int) ≤ (i : Int) := Int.natCast_nonneg _
  have i1 : (i : Int) < 2 := by omega
  have HS : Hid (St4 w B wb hold l qv av s ∧ Keeps l.L.has w w) := ⟨h, Keeps.refl _ _⟩
  clear h
  go_enter Tryz.func107, Tryz.ntmps107
  cases hq : (bits BinOp.and IntKind.i64 hold 8 == 0) with
  | true =>
    go_wp2
    go_ret
    exact ⟨rfl, HS.out⟩
  | false =>
    by_cases hb : inB (s.x i) b = true
    · obtain ⟨kb, hk, hkb⟩ := inB_yes hb
      subst hkb
      have HL : Hid (∀ _ : Unit, _) := fun _ => ix_list w l.L s.Q s.S (l.X i) (s.x i) kb hk (HS.out.1.b.ch i hi) (HS.out.1.b.wd i hi) HS.out.1.b.n
      clear hb
      go_wp2_with fail
      refine (HL.out ()).mono ?_
      rintro e w1 ⟨v1, rfl, ⟨o1, ch1⟩, k1⟩
      have H1 : Hid (St4 w1 B wb hold l qv av s ∧ Keeps l.L.has w w1 ∧ OwI w1 w.heap.size v1 (pickL (rowX s.S (s.x i) kb))) := ⟨HS.out.1.arn ch1.a k1 hB, k1, o1⟩
      have c4 := H1.out.1.c4 i hi
      have HR : Hid (∀ _ : Unit, _) := fun _ => rx_list w1 l.R l.cap qv s.Q s.S (l.Y i) (l.hc i) (s.x i) kb hk (H1.out.1.b.rc i hi) (H1.out.1.b.wd i hi)
      clear o1 ch1 k1 HS HL c1 c7
      go_wp2_with fail
      refine (HR.out ()).mono ?_
      rintro e w2 ⟨v2, rfl, o2, b2⟩
      have hpl : (pickL (rowX s.S (s.x i) kb)).length ≤ 4096 := Nat.le_trans (pickL_len _) (rowL_len _ _ _ _)
      have H2 : Hid (St4 w2 B wb hold l qv av s ∧ Keeps l.L.has w w2) := ⟨H1.out.1.later b2, H1.out.2.1.trans (Below.keeps b2 _)⟩
      have HSM : Hid (∀ _ : Unit, _) := fun _ => law_same w2 v1 v2 _ _ _ (H1.out.2.2.later b2) o2 hpl
      clear o2 b2 H1 HR c4 hpl
      go_wp2_with fail
      refine (HSM.out ()).mono ?_
      rintro e w3 ⟨rfl, k3⟩
      have H3 : Hid (St4 w3 B wb hold l qv av s ∧ Keeps l.L.has w w3) := ⟨H2.out.1.keeps k3 (fun _ _ e => e), H2.out.2.trans (noK k3)⟩
      have hs3 : B ≤ w3.heap.size := Nat.le_trans hB H3.out.2.size
      have c1 := H3.out.1.c1 i hi
      have HL : Hid (∀ _ : Unit, _) := fun _ => ix_held w3 l.L s.Q s.S (l.X i) (s.x i) kb hk (H3.out.1.b.ch i hi) (H3.out.1.b.wd i hi) H3.out.1.b.n
      clear k3 HSM H2
      go_wp2_with fail
      refine (law_num _ _).mono ?_
      rintro e wn ⟨rfl, hwn⟩
      rw [hwn]
      clear hwn wn
      go_wp2_with fail
      refine (HL.out ()).mono ?_
      rintro e w4 ⟨rfl, ch4, k4⟩
      have H4 : Hid (St4 w4 B wb hold l qv av s ∧ Keeps l.L.has w w4) := ⟨H3.out.1.arn ch4.a k4 hs3, H3.out.2.trans k4⟩
      have c4 := H4.out.1.c4 i hi
      have HR : Hid (∀ _ : Unit, _) := fun _ => rx_held w4 l.R l.cap qv s.Q s.S (l.Y i) (l.hc i) (s.x i) kb hk (H4.out.1.b.rc i hi) (H4.out.1.b.wd i hi)
      clear ch4 k4 HL H3 c1 hs3
      go_wp2_with fail
      refine (HR.out ()).mono ?_
      rintro e w5 ⟨rfl, b5⟩
      have H5 : Hid (St4 w5 B wb hold l qv av s ∧ Keeps l.L.has w w5) := ⟨H4.out.1.later b5, H4.out.2.trans (Below.keeps b5 _)⟩
      clear b5 HR H4 c4
      go_wp2_with fail
      refine (law_num _ _).mono ?_
      rintro e wn ⟨rfl, hwn⟩
      rw [hwn]
      clear hwn wn
      go_wp2
      go_ret
      exact ⟨rfl, H5.out⟩
    · have hb : inB (s.x i) b = false := by cases e : inB (s.x i) b; rfl; exact absurd e hb
      have HL : Hid (∀ _ : Unit, _) := fun _ => ix_list_no w l.L s.Q s.S (l.X i) (s.x i) b hb (HS.out.1.b.ch i hi)
      have HB : Hid (inB (s.x i) b = false) := hb
      clear hb
      go_wp2_with fail
      refine (HL.out ()).mono ?_
      rintro e w1 ⟨rfl, ch1, k1⟩
      have H1 : Hid (St4 w1 B wb hold l qv av s ∧ Keeps l.L.has w w1) := ⟨HS.out.1.keeps k1 (fun _ _ e => e), noK k1⟩
      have c4 := H1.out.1.c4 i hi
      have HR : Hid (∀ _ : Unit, _) := fun _ => rx_list_no w1 l.R l.cap qv s.Q s.S (l.Y i) (l.hc i) (s.x i) b HB.out (H1.out.1.b.rc i hi)
      clear ch1 k1 HS HL c1 c7
      go_wp2_with fail
      refine (HR.out ()).mono ?_
      rintro e w2 ⟨rfl, hw2⟩
      rw [hw2]
      clear hw2 w2 HR c4
      have HSM : Hid (∀ _ : Unit, _) := fun _ => law_same w1 (.slice none 0 0) (.slice none 0 0) [] 0 0 (OwG.nil _ _ _ _ _) (OwG.nil _ _ _ _ _) (by simp)
      go_wp2_with fail
      refine (HSM.out ()).mono ?_
      rintro e w3 ⟨rfl, k3⟩
      have H3 : Hid (St4 w3 B wb hold l qv av s ∧ Keeps l.L.has w w3) := ⟨H1.out.1.keeps k3 (fun _ _ e => e), H1.out.2.trans (noK k3)⟩
      have c1 := H3.out.1.c1 i hi
      have HL : Hid (∀ _ : Unit, _) := fun _ => ix_held_no w3 l.L s.Q s.S (l.X i) (s.x i) b HB.out (H3.out.1.b.ch i hi)
      clear k3 HSM H1
      go_wp2_with fail
      refine (law_num _ _).mono ?_
      rintro e wn ⟨rfl, hwn⟩
      rw [hwn]
      clear hwn wn
      go_wp2_with fail
      refine (HL.out ()).mono ?_
      rintro e w4 ⟨rfl, ch4, k4⟩
      have H4 : Hid (St4 w4 B wb hold l qv av s ∧ Keeps l.L.has w w4) := ⟨H3.out.1.keeps k4 (fun _ _ e => e), H3.out.2.trans (noK k4)⟩
      have c4 := H4.out.1.c4 i hi
      have HR : Hid (∀ _ : Unit, _) := fun _ => rx_held_no w4 l.R l.cap qv s.Q s.S (l.Y i) (l.hc i) (s.x i) b HB.out (H4.out.1.b.rc i hi)
      clear ch4 k4 HL H3 c1
      go_wp2_with fail
      refine (HR.out ()).mono ?_
      rintro e w5 ⟨rfl, hw5⟩
      rw [hw5]
      clear hw5 w5 HR c4
      go_wp2_with fail
      refine (law_num _ _).mono ?_
      rintro e wn ⟨rfl, hwn⟩
      rw [hwn]
      clear hwn wn
      go_wp2
      go_ret
      exact ⟨rfl, H4.out⟩
end Go.Proofs.YtdjklcmkcccpeaaGreat

namespace Go.Proofs.YtdjklcmkcccpeaaGreat
set_option linter.unusedSimpArgs false
open Go.ChangeShapes Go.WideShapes Go.ChangeAt Go.RowKit Go.MuLone Go.RwLone
set_option linter.unusedVariables false
set_option maxRecDepth 100000
set_option maxHeartbeats 6400000
theorem law_counts (w : World) (B wb : Nat) (hold : Int) (l : WL) (qv av : Value) (s : WS) (h : St4 w B wb hold l qv av s) (hB : B ≤ w.heap.size) : Calls Tryz.prog 108 #[.pointer (some ⟨wb, 0, none⟩)] w fun e w' => e = .returned (.bool true) ∧ St4 w' B wb hold l qv av s ∧ Keeps l.L.has w w' := by
  have c7 := h.c7
  have HS : Hid (St4 w B wb hold l qv av s ∧ Keeps l.L.has w w) := ⟨h, Keeps.refl _ _⟩
  clear h
  go_enter Tryz.func108, Tryz.ntmps108
  cases hq : (bits BinOp.and IntKind.i64 hold 8 == 0) with
  | true =>
    go_wp2
    go_ret
    exact ⟨rfl, HS.out⟩
  | false =>
    go_wp2_with fail
    clear c7
    go_loopw [3] (fun i wr => ∃ t : Nat, t ≤ 2 ∧ i = .int .i64 (t : Int) ∧ St4 wr B wb hold l qv av s ∧ Keeps l.L.has w wr) (fun i _ => 2 - (intOf i).toNat)
    case atStart => exact ⟨0, by omega, rfl, HS.out⟩
    case round =>
      obtain ⟨t, ht, rfl, hS, hk⟩ := hrel
      clear HS
      by_cases h5 : t < 2
      · have t0 : (0 : Int) ≤ (t : Int) := Int.natCast_nonneg _
        have t1 : (t : Int) < 2 := by omega
        have H0 : Hid (St4 wr.drew B wb hold l qv av s ∧ Keeps l.L.has w wr.drew) := ⟨hS.keeps (Keeps.refl (fun _ => False) _).drew (fun _ _ e => e), hk.drew⟩
        clear hS hk
        have sx : wr.drew.cell? ⟨wb, 1 + t, none⟩ = some (.pointer (some ⟨(l.X t).x, 0, none⟩)) ∧ wr.drew.cell? ⟨wb, 4 + t, none⟩ = some (.pointer (some ⟨(l.Y t).x, 0, none⟩)) ∧ wr.drew.cell? ⟨(l.Y t).x, 3, none⟩ = some (.int .i64 (s.x t).cn) ∧ wr.drew.cell? ⟨(l.Y t).x, 2, none⟩ = some (.slice (some ⟨(l.Y t).h, 0, none⟩) (s.x t).nb (l.hc t)) := ⟨H0.out.1.c1 t h5, H0.out.1.c4 t h5, (H0.out.1.b.j t h5).c3, (H0.out.1.b.j t h5).c2⟩
        have HA : Hid (∀ _ : Unit, _) := fun _ => ix_accesses wr.drew l.L.b (l.X t) (s.x t) (H0.out.1.b.i t h5)
        have HBk : Hid (∀ _ : Unit, _) := fun _ => ix_buckets wr.drew l.L.b (l.X t) (s.x t) (H0.out.1.b.i t h5)
        go_wp2_with fail
        (refine wp_region_held_drew (S := (fun Z => Z.cell? ⟨wb, 1 + t, none⟩ = some (.pointer (some ⟨(l.X t).x, 0, none⟩)) ∧ Z.cell? ⟨wb, 4 + t, none⟩ = some (.pointer (some ⟨(l.Y t).x, 0, none⟩)) ∧ Z.cell? ⟨(l.Y t).x, 3, none⟩ = some (.int .i64 (s.x t).cn) ∧ Z.cell? ⟨(l.Y t).x, 2, none⟩ = some (.slice (some ⟨(l.Y t).h, 0, none⟩) (s.x t).nb (l.hc t)))) (by kernel_rfl) sx (fun hHeld => ?_); simp only [List.size_toArray, List.length_cons, List.length_nil, Nat.reduceAdd, Array.replicate_succ, Array.replicate_zero, List.push_toArray, List.append_toArray, List.nil_append, List.cons_append])
        clear sx
        generalize wr.drew = wd at *
        refine rgT 0 (h := ?_)
        refine rgT 1 (h := ?_)
        refine rgT 2 (h := ?_)
        refine rgT 3 (h := ?_)
        refine rgT 4 (h := ?_)
        refine rgT 5 (h := ?_)
        refine rgT 7 (h := ?_)
        refine rgT 8 (h := ?_)
        refine rgT 9 (h := ?_)
        refine rgT 10 (h := ?_)
        refine rgT 11 (h := ?_)
        refine rgT 12 (h := ?_)
        refine rgT 13 (h := ?_)
        refine rgT 14 (h := ?_)
        refine rgT 15 (h := ?_)
        (refine rgS 6 (h := fun K hK => ?_); go_simp)
        refine (HA.out ()).mono ?_
        rintro e w1 ⟨rfl, hw1⟩
        rw [hw1]
        clear hw1 w1
        (refine hK.out _ _ hHeld (fun hHeld => ?_); clear hK K; try simp only [Act.put, List.setIfInBounds_toArray, List.set_cons_zero, List.set_cons_succ])
        refine rgT 16 (h := ?_)
        refine rgT 17 (h := ?_)
        refine rgT 18 (h := ?_)
        refine rgT 19 (h := ?_)
        refine rgT 20 (h := ?_)
        refine rgT 21 (h := ?_)
        refine rgT 22 (h := ?_)
        refine rgT 23 (h := ?_)
        refine rgT 25 (h := ?_)
        refine rgT 26 (h := ?_)
        refine rgT 27 (h := ?_)
        refine rgT 28 (h := ?_)
        refine rgT 29 (h := ?_)
        refine rgT 30 (h := ?_)
        refine rgT 31 (h := ?_)
        refine rgT 32 (h := ?_)
        refine rgT 33 (h := ?_)
        refine rgT 34 (h := ?_)
        (refine rgS 24 (h := fun K hK => ?_); go_simp)
        refine (HBk.out ()).mono ?_
        rintro e w1 ⟨rfl, hw1⟩
        rw [hw1]
        clear hw1 w1
        (refine hK.out _ _ hHeld (fun hHeld => ?_); clear hK K; try simp only [Act.put, List.setIfInBounds_toArray, List.set_cons_zero, List.set_cons_succ])
        refine rgT 35 (h := ?_)
        refine rgT 36 (h := ?_)
        refine wpAnyH_done (by kernel_rfl) ?_ _
        clear hHeld HA HBk
        go_wp2
        go_roundw
        case rel => exact ⟨t + 1, by omega, by go_num, H0.out⟩
        case measure => simp [intOf]; omega
      · have e5 : t = 2 := by omega
        subst e5
        have H0 : Hid (St4 wr.drew B wb hold l qv av s ∧ Keeps l.L.has w wr.drew) := ⟨hS.keeps (Keeps.refl (fun _ => False) _).drew (fun _ _ e => e), hk.drew⟩
        clear hS hk
        have sx : wr.drew.cell? ⟨wb, 0, none⟩ = some (.pointer (some ⟨l.L.b, 0, none⟩)) ∧ wr.drew.cell? ⟨wb, 3, none⟩ = some (.pointer (some ⟨l.R.b, 0, none⟩)) := ⟨H0.out.1.c0, H0.out.1.c3⟩
        have HA : Hid (∀ _ : Unit, _) := fun _ => arn_accesses l.L s.S wr.drew s.Q H0.out.1.b.a
        have HBz : Hid (B ≤ wr.drew.heap.size) := Nat.le_trans hB H0.out.2.size
        go_wp2_with fail
        (refine wp_region_held_drew (S := (fun Z => Z.cell? ⟨wb, 0, none⟩ = some (.pointer (some ⟨l.L.b, 0, none⟩)) ∧ Z.cell? ⟨wb, 3, none⟩ = some (.pointer (some ⟨l.R.b, 0, none⟩)))) (by kernel_rfl) sx (fun hHeld => ?_); simp only [List.size_toArray, List.length_cons, List.length_nil, Nat.reduceAdd, Array.replicate_succ, Array.replicate_zero, List.push_toArray, List.append_toArray, List.nil_append, List.cons_append])
        clear sx
        generalize wr.drew = wd at *
        refine rgT 0 (h := ?_)
        refine rgT 1 (h := ?_)
        refine rgT 2 (h := ?_)
        refine rgT 3 (h := ?_)
        refine rgT 5 (h := ?_)
        refine rgT 6 (h := ?_)
        refine rgT 7 (h := ?_)
        refine rgT 8 (h := ?_)
        (refine rgS 4 (h := fun K hK => ?_); go_simp)
        refine (HA.out ()).mono ?_
        rintro e w1 ⟨rfl, ha, ka⟩
        have H1 : Hid (St4 w1 B wb hold l qv av s ∧ Keeps l.L.has w w1) := ⟨H0.out.1.arn ha ka HBz.out, H0.out.2.trans ka⟩
        clear ha ka HA hHeld
        have HRA : Hid (∀ _ : Unit, _) := fun _ => ra_accesses w1 l.R l.cap qv s.Q s.S H1.out.1.b.r
        (refine hK.out _ _ ⟨H1.out.1.c0, H1.out.1.c3⟩ (fun hHeld => ?_); clear hK K; try simp only [Act.put, List.setIfInBounds_toArray, List.set_cons_zero, List.set_cons_succ])
        (refine rgS 9 (h := fun K hK => ?_); go_simp)
        refine (HRA.out ()).mono ?_
        rintro e w2 ⟨rfl, hw2⟩
        rw [hw2]
        clear hw2 w2
        (refine hK.out _ _ hHeld (fun hHeld => ?_); clear hK K; try simp only [Act.put, List.setIfInBounds_toArray, List.set_cons_zero, List.set_cons_succ])
        refine rgT 10 (h := ?_)
        refine rgT 11 (h := ?_)
        refine wpAnyH_done (by kernel_rfl) ?_ _
        clear hHeld HRA H0
        go_wp2
        go_ret
        exact ⟨rfl, H1.out⟩
theorem law_peek (w : World) (B wb : Nat) (hold : Int) (l : WL) (qv av : Value) (s : WS) (x : Int) (h : St4 w B wb hold l qv av s) (hB : B ≤ w.heap.size) : Calls Tryz.prog 109 #[.pointer (some ⟨wb, 0, none⟩), .int .i64 x] w fun e w' => e = .returned (.bool true) ∧ St4 w' B wb hold l qv av s ∧ Keeps l.L.has w w' := by
  have c0 := h.c0
  have hwd := h.b.r.hw.2
  cases hl : liv s.S x with
  | false =>
    have HP : Hid (∀ _ : Unit, _) := fun _ => arn_peek_no l.L s.S w s.Q x h.b.a hl
    have HL : Hid (liv s.S x = false) := hl
    have HS : Hid (St4 w B wb hold l qv av s) := h
    clear h hl
    go_enter Tryz.func109, Tryz.ntmps109
    go_wp2_with fail
    refine (HP.out ()).mono ?_
    rintro e w1 ⟨rfl, ha, ka⟩
    have H1 : Hid (St4 w1 B wb hold l qv av s ∧ Keeps l.L.has w w1) := ⟨HS.out.arn ha ka hB, ka⟩
    have c3 := H1.out.1.c3
    have c7 := H1.out.1.c7
    have HR : Hid (∀ _ : Unit, _) := fun _ => ra_peek_no w1 l.R l.cap qv s.Q s.S x H1.out.1.b.r HL.out
    clear ha ka HP HS c0
    go_wp2_with fail
    refine (HR.out ()).mono ?_
    rintro e w2 ⟨rfl, hw2⟩
    rw [hw2]
    clear hw2 w2 HR c3
    by_cases hh : hold = 15
    · subst hh
      go_wp2_with fail
      refine (law_num _ _).mono ?_
      rintro e wn ⟨rfl, hwn⟩
      rw [hwn]
      clear hwn wn
      go_wp2_with fail
      go_loopw [9] (fun i wr => i = .int .i64 0 ∧ wr = w1) (fun _ _ => 0)
      case atStart => exact ⟨rfl, rfl⟩
      case round =>
        obtain ⟨rfl, hwr⟩ := hrel
        rw [hwr]
        clear hwr
        go_wp2
        go_ret
        exact ⟨rfl, H1.out⟩
    · go_wp2
      go_ret
      exact ⟨rfl, H1.out⟩
  | true =>
    have HP : Hid (∀ _ : Unit, _) := fun _ => arn_peek l.L s.S w s.Q x h.b.a hl
    have HL : Hid (liv s.S x = true) := hl
    have HS : Hid (St4 w B wb hold l qv av s) := h
    clear h hl
    go_enter Tryz.func109, Tryz.ntmps109
    go_wp2_with fail
    refine (HP.out ()).mono ?_
    rintro e w1 ⟨g, rfl, ⟨ha, ka⟩, pk⟩
    have H1 : Hid (St4 w1 B wb hold l qv av s ∧ Keeps l.L.has w w1 ∧ PkW w s.S x g w1) := ⟨HS.out.arn ha ka hB, ka, pk⟩
    have c3 := H1.out.1.c3
    have HR : Hid (∀ _ : Unit, _) := fun _ => ra_peek w1 l.R l.cap qv s.Q s.S x H1.out.1.b.r HL.out
    clear ha ka pk HP HS c0
    go_wp2_with fail
    refine (HR.out ()).mono ?_
    rintro e w2 ⟨g', cp, rfl, ⟨pk2, _⟩, b2⟩
    have H2 : Hid (St4 w2 B wb hold l qv av s ∧ Keeps l.L.has w w2) := ⟨H1.out.1.later b2, H1.out.2.1.trans (Below.keeps b2 _)⟩
    have c7 := H2.out.1.c7
    have HC : Hid (∀ W, Keeps (fun _ => False) w2 W → ∀ t, t < s.S.wd → W.cell? ⟨g, t, none⟩ = some (.int .u64 (s.S.word (atC s.S x t))) ∧ W.cell? ⟨g', t, none⟩ = some (.int .u64 (s.S.word (atC s.S x t)))) := fun W k t ht => by
      have p1 := H1.out.2.2
      refine ⟨?_, (k.cell (p := ⟨g', t, none⟩) pk2.g1 (fun e => e)).trans (pk2.wd t ht)⟩
      rw [k.cell (p := ⟨g, t, none⟩) (Nat.lt_of_lt_of_le p1.g1 b2.size) (fun e => e), b2.cell (p := ⟨g, t, none⟩) p1.g1]
      exact p1.wd t ht
    clear pk2 b2 H1 HR c3
    by_cases hh : hold = 15
    · subst hh
      go_wp2_with fail
      refine (law_num _ _).mono ?_
      rintro e wn ⟨rfl, hwn⟩
      rw [hwn]
      clear hwn wn
      go_wp2_with fail
      clear c7
      go_loopw [9] (fun i wr => ∃ t : Nat, t ≤ s.S.wd ∧ i = .int .i64 (t : Int) ∧ Keeps (fun _ => False) w2 wr) (fun i _ => s.S.wd - (intOf i).toNat)
      case atStart => exact ⟨0, by omega, rfl, Keeps.refl _ _⟩
      case round =>
        obtain ⟨t, ht, rfl, hk⟩ := hrel
        by_cases h5 : t < s.S.wd
        · have t0 : (0 : Int) ≤ (t : Int) := Int.natCast_nonneg _
          have t1 : (t : Int) < (s.S.wd : Int) := by omega
          have HK : Hid (Keeps (fun _ => False) w2 wr.drew) := hk.drew
          obtain ⟨d1, d2⟩ := HC.out wr.drew HK.out t h5
          obtain ⟨y, hy⟩ : ∃ y, s.S.word (atC s.S x t) = y := ⟨_, rfl⟩
          rw [hy] at d1 d2
          clear hk hy
          go_wp2_with fail
          (refine wp_region_held_drew (S := (fun Z => Z.cell? ⟨g, t, none⟩ = some (.int .u64 y) ∧ Z.cell? ⟨g', t, none⟩ = some (.int .u64 y))) (by kernel_rfl) ⟨d1, d2⟩ (fun hHeld => ?_); simp only [List.size_toArray, List.length_cons, List.length_nil, Nat.reduceAdd, Array.replicate_succ, Array.replicate_zero, List.push_toArray, List.append_toArray, List.nil_append, List.cons_append])
          clear d1 d2
          refine rgT 0 (h := ?_)
          refine rgT 1 (h := ?_)
          refine rgT 2 (h := ?_)
          refine rgT 3 (h := ?_)
          refine rgT 4 (h := ?_)
          refine rgT 5 (h := ?_)
          refine rgT 6 (h := ?_)
          refine rgT 7 (h := ?_)
          refine rgT 8 (h := ?_)
          refine wpAnyH_done (by kernel_rfl) ?_ _
          clear hHeld
          go_wp2
          go_roundw
          case rel => exact ⟨t + 1, by omega, by go_num, HK.out⟩
          case measure => simp [intOf]; omega
        · have HK : Hid (St4 wr B wb 15 l qv av s ∧ Keeps l.L.has w wr) := ⟨H2.out.1.keeps hk (fun _ _ e => e), H2.out.2.trans (noK hk)⟩
          clear hk
          go_wp2
          go_ret
          exact ⟨rfl, HK.out⟩
    · go_wp2
      go_ret
      exact ⟨rfl, H2.out⟩
end Go.Proofs.YtdjklcmkcccpeaaGreat
