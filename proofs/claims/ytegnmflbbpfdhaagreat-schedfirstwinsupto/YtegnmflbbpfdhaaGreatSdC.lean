import Derived.Test.YtegnmflbbpfdhaaGreatSdB
namespace Go.Proofs.YtegnmflbbpfdhaaGreat
set_option linter.unusedSimpArgs false
open Go.ChangeShapes Go.WideShapes Go.ChangeAt Go.RowKit Go.MuLone Go.RwLone
set_option linter.unusedVariables false
set_option maxRecDepth 100000
set_option maxHeartbeats 3200000
/-- The instruction number k of the row in the block ib. -/
structure In8 (w : World) (ib k : Nat) (op c r nr ni orr oi n : Int) : Prop where
  c0 : w.cell? ⟨ib, k * 8, none⟩ = some (.int .i64 op)
  c1 : w.cell? ⟨ib, k * 8 + 1, none⟩ = some (.int .i64 c)
  c2 : w.cell? ⟨ib, k * 8 + 2, none⟩ = some (.int .i64 r)
  c3 : w.cell? ⟨ib, k * 8 + 3, none⟩ = some (.int .i64 nr)
  c4 : w.cell? ⟨ib, k * 8 + 4, none⟩ = some (.int .u64 ni)
  c5 : w.cell? ⟨ib, k * 8 + 5, none⟩ = some (.int .i64 orr)
  c6 : w.cell? ⟨ib, k * 8 + 6, none⟩ = some (.int .u64 oi)
  c7 : w.cell? ⟨ib, k * 8 + 7, none⟩ = some (.int .i64 n)
  lt : ib < w.heap.size
theorem In8.keeps {w w' : World} {ib k : Nat} {op c r nr ni orr oi n : Int} {B : Nat → Prop} (h : In8 w ib k op c r nr ni orr oi n) (kp : Keeps B w w') (hn : ¬ B ib) : In8 w' ib k op c r nr ni orr oi n := by
  have e : ∀ j, w'.cell? ⟨ib, j, none⟩ = w.cell? ⟨ib, j, none⟩ := fun j => kp.cell (p := ⟨ib, j, none⟩) h.lt hn
  exact ⟨(e _).trans h.c0, (e _).trans h.c1, (e _).trans h.c2, (e _).trans h.c3, (e _).trans h.c4, (e _).trans h.c5, (e _).trans h.c6, (e _).trans h.c7, Nat.lt_of_lt_of_le h.lt kp.size⟩
theorem step_swap (L : Lay) (S : AS) (w : World) (T ib m cap : Nat) (rg : Nat → Int) (pl j r : Nat) (ni oi n : Int) (b : Bool) (wo : Nat → Int) (HB : Hid (b = decide (S.word j = oi) ∧ wo = if S.word j = oi then upd S.word j ni else S.word))
    (h : Holds w L S) (ht : Th w T L ib m cap rg pl) (hi : In8 w ib pl 3 j r (-1) ni (-1) oi n) (hT : ¬ L.has T) (hib : ¬ (L.has ib ∨ ib = T)) (hr : S.rc = 0) (hn : S.n = 1) (hu : S.use 0 = true) (hj : j < S.wd) (hr4 : r < 4) (hpl : pl < m) (hm : m ≤ 1000) :
    Calls Tryz.prog 142 #[.pointer (some ⟨T, 0, none⟩)] w fun e w' => e = .returned (.bool (decide (m ≤ pl + 1))) ∧ Holds w' L { S with rc := 0, acc := wrap64 (S.acc + 1), word := wo } ∧ Th w' T L ib m cap (upd rg r (bitI b)) (pl + 1) ∧ Keeps (fun k => L.has k ∨ k = T) w w' := by
  have H : Hid (Holds w L S ∧ Th w T L ib m cap rg pl ∧ In8 w ib pl 3 j r (-1) ni (-1) oi n) := ⟨h, ht, hi⟩
  have hnd : decide (m ≤ pl) = false := by simp; omega
  have hp0 : (0 : Int) ≤ (pl : Int) := Int.natCast_nonneg _
  have hp1 : (pl : Int) < (m : Int) := by omega
  clear h ht hi
  go_enter Tryz.func142, Tryz.ntmps142
  go_wp2_with fail
  refine (done_any w T L ib m cap rg pl H.out.2.1).mono ?_
  rintro e W1 ⟨rfl, k1⟩
  have H1 : Hid (Holds W1 L S ∧ Th W1 T L ib m cap rg pl ∧ In8 W1 ib pl 3 j r (-1) ni (-1) oi n ∧ Keeps (fun k => L.has k ∨ k = T) w W1) := ⟨H.out.1.keeps k1 (fun _ _ e => e), H.out.2.1.keeps k1 (fun e => e), H.out.2.2.keeps k1 (fun e => e), k1.mono (fun _ e => e.elim)⟩
  clear H k1
  rw [hnd]
  clear hnd
  go_wp2_with fail
  (refine wp_region_held_drew (S := (fun W => W.cell? ⟨T, 2, none⟩ = some (.slice (some ⟨ib, 0, none⟩) m cap) ∧ W.cell? ⟨ib, pl * 8, none⟩ = some (.int .i64 3) ∧ W.cell? ⟨ib, pl * 8 + 1, none⟩ = some (.int .i64 j) ∧ W.cell? ⟨ib, pl * 8 + 2, none⟩ = some (.int .i64 r) ∧ W.cell? ⟨ib, pl * 8 + 3, none⟩ = some (.int .i64 (-1)) ∧ W.cell? ⟨ib, pl * 8 + 4, none⟩ = some (.int .u64 ni) ∧ W.cell? ⟨ib, pl * 8 + 5, none⟩ = some (.int .i64 (-1)) ∧ W.cell? ⟨ib, pl * 8 + 6, none⟩ = some (.int .u64 oi) ∧ W.cell? ⟨ib, pl * 8 + 7, none⟩ = some (.int .i64 n))) (by kernel_rfl) ⟨H1.out.2.1.i, H1.out.2.2.1.c0, H1.out.2.2.1.c1, H1.out.2.2.1.c2, H1.out.2.2.1.c3, H1.out.2.2.1.c4, H1.out.2.2.1.c5, H1.out.2.2.1.c6, H1.out.2.2.1.c7⟩ (fun hHeld => ?_); simp only [List.size_toArray, List.length_cons, List.length_nil, Nat.reduceAdd, Array.replicate_succ, Array.replicate_zero, List.push_toArray, List.append_toArray, List.nil_append, List.cons_append])
  (refine tk0 (v := ?_) (by kernel_rfl) (by kernel_rfl) (by kernel_rfl) (fun _ _ _ h => h) (Or.inl ⟨by rfl, ?_⟩) (by assumption) ?_; rotate_left; (focus (intro w hSw; (try dsimp only at hSw); go_simp; (try first | (rw [dif_pos (by omega)]; simp only [Result.andThen_ok]) | rw [if_pos (by omega)]); (try with_reducible rfl); done)); try simp only [Act.put, List.setIfInBounds_toArray, List.set_cons_zero, List.set_cons_succ])
  (refine tk1 (v := ?_) (by kernel_rfl) (by kernel_rfl) (by kernel_rfl) (fun _ _ _ h => h) (Or.inl ⟨by rfl, ?_⟩) (by assumption) ?_; rotate_left; (focus (intro w hSw; (try dsimp only at hSw); go_simp; (try first | (rw [dif_pos (by omega)]; simp only [Result.andThen_ok]) | rw [if_pos (by omega)]); (try with_reducible rfl); done)); try simp only [Act.put, List.setIfInBounds_toArray, List.set_cons_zero, List.set_cons_succ])
  (refine tk2 (v := ?_) (by kernel_rfl) (by kernel_rfl) (by kernel_rfl) (fun _ _ _ h => h) (Or.inl ⟨by rfl, ?_⟩) (by assumption) ?_; rotate_left; (focus (intro w hSw; (try dsimp only at hSw); go_simp; (try first | (rw [dif_pos (by omega)]; simp only [Result.andThen_ok]) | rw [if_pos (by omega)]); (try with_reducible rfl); done)); try simp only [Act.put, List.setIfInBounds_toArray, List.set_cons_zero, List.set_cons_succ])
  (refine tk3 (v := ?_) (by kernel_rfl) (by kernel_rfl) (by kernel_rfl) (fun _ _ _ h => h) (Or.inl ⟨by rfl, ?_⟩) (by assumption) ?_; rotate_left; (focus (intro w hSw; (try dsimp only at hSw); go_simp; (try first | (rw [dif_pos (by omega)]; simp only [Result.andThen_ok]) | rw [if_pos (by omega)]); (try with_reducible rfl); done)); try simp only [Act.put, List.setIfInBounds_toArray, List.set_cons_zero, List.set_cons_succ])
  (refine tk4 (v := ?_) (by kernel_rfl) (by kernel_rfl) (by kernel_rfl) (fun _ _ _ h => h) (Or.inl ⟨by rfl, ?_⟩) (by assumption) ?_; rotate_left; (focus (intro w hSw; (try dsimp only at hSw); go_simp; (try first | (rw [dif_pos (by omega)]; simp only [Result.andThen_ok]) | rw [if_pos (by omega)]); (try with_reducible rfl); done)); try simp only [Act.put, List.setIfInBounds_toArray, List.set_cons_zero, List.set_cons_succ])
  (refine tk5 (v := ?_) (by kernel_rfl) (by kernel_rfl) (by kernel_rfl) (fun _ _ _ h => h) (Or.inl ⟨by rfl, ?_⟩) (by assumption) ?_; rotate_left; (focus (intro w hSw; (try dsimp only at hSw); go_simp; (try first | (rw [dif_pos (by omega)]; simp only [Result.andThen_ok]) | rw [if_pos (by omega)]); (try with_reducible rfl); done)); try simp only [Act.put, List.setIfInBounds_toArray, List.set_cons_zero, List.set_cons_succ])
  (refine tk6 (v := ?_) (by kernel_rfl) (by kernel_rfl) (by kernel_rfl) (fun _ _ _ h => h) (Or.inl ⟨by rfl, ?_⟩) (by assumption) ?_; rotate_left; (focus (intro w hSw; (try dsimp only at hSw); go_simp; (try first | (rw [dif_pos (by omega)]; simp only [Result.andThen_ok]) | rw [if_pos (by omega)]); (try with_reducible rfl); done)); try simp only [Act.put, List.setIfInBounds_toArray, List.set_cons_zero, List.set_cons_succ])
  (refine tk7 (v := ?_) (by kernel_rfl) (by kernel_rfl) (by kernel_rfl) (fun _ _ _ h => h) (Or.inl ⟨by rfl, ?_⟩) (by assumption) ?_; rotate_left; (focus (intro w hSw; (try dsimp only at hSw); go_simp; (try first | (rw [dif_pos (by omega)]; simp only [Result.andThen_ok]) | rw [if_pos (by omega)]); (try with_reducible rfl); done)); try simp only [Act.put, List.setIfInBounds_toArray, List.set_cons_zero, List.set_cons_succ])
  have c7 : W1.drew.cell? ⟨T, 7, none⟩ = some (.int .i64 pl) := H1.out.2.1.p
  (refine wpAnyH_ready (rs := [8]) (by kernel_rfl) (by simp) ?_; refine ar8 (fun K hK => ?_) AllReadyH.nil; go_simp)
  (refine hK.out _ _ ⟨H1.out.2.1.i, H1.out.2.2.1.c0, H1.out.2.2.1.c1, H1.out.2.2.1.c2, H1.out.2.2.1.c3, H1.out.2.2.1.c4, H1.out.2.2.1.c5, H1.out.2.2.1.c6, H1.out.2.2.1.c7⟩ (fun hHeld => ?_); clear hK K; try simp only [Act.put, List.setIfInBounds_toArray, List.set_cons_zero, List.set_cons_succ])
  clear c7
  (refine tk9 (v := ?_) (by kernel_rfl) (by kernel_rfl) (by kernel_rfl) (fun _ _ _ h => h) (Or.inl ⟨by rfl, ?_⟩) (by assumption) ?_; rotate_left; (focus (intro w hSw; (try dsimp only at hSw); go_simp; (try first | (rw [dif_pos (by omega)]; simp only [Result.andThen_ok]) | rw [if_pos (by omega)]); (try with_reducible rfl); done)); try simp only [Act.put, List.setIfInBounds_toArray, List.set_cons_zero, List.set_cons_succ])
  (refine tk10 (v := ?_) (by kernel_rfl) (by kernel_rfl) (by kernel_rfl) (fun _ _ _ h => h) (Or.inl ⟨by rfl, ?_⟩) (by assumption) ?_; rotate_left; (focus (intro w hSw; (try dsimp only at hSw); go_simp; (try first | (rw [dif_pos (by omega)]; simp only [Result.andThen_ok]) | rw [if_pos (by omega)]); (try with_reducible rfl); done)); try simp only [Act.put, List.setIfInBounds_toArray, List.set_cons_zero, List.set_cons_succ])
  (refine wpAnyH_ready (rs := [11]) (by kernel_rfl) (by simp) ?_; refine ar11 (fun K hK => ?_) AllReadyH.nil; go_simp)
  refine (work_swap L S W1.drew T ib m cap rg pl j r ni oi n b wo HB H1.out.1.drew (H1.out.2.1.keeps (Keeps.refl (fun _ => False) _).drew (fun e => e)) hT hr hn hu hj hr4 hpl hm).mono ?_
  rintro e W2 ⟨rfl, h2, t2, k2⟩
  have H2 : Hid (Holds W2 L { S with rc := 0, acc := wrap64 (S.acc + 1), word := wo } ∧ Th W2 T L ib m cap (upd rg r (bitI b)) (pl + 1) ∧ In8 W2 ib pl 3 j r (-1) ni (-1) oi n ∧ Keeps (fun k => L.has k ∨ k = T) w W2) := ⟨h2, t2, H1.out.2.2.1.keeps ((Keeps.refl _ _).drew.trans k2) hib, H1.out.2.2.2.trans ((Keeps.refl _ _).drew.trans k2)⟩
  clear H1 h2 t2 k2 HB
  (refine hK.out _ _ ⟨H2.out.2.1.i, H2.out.2.2.1.c0, H2.out.2.2.1.c1, H2.out.2.2.1.c2, H2.out.2.2.1.c3, H2.out.2.2.1.c4, H2.out.2.2.1.c5, H2.out.2.2.1.c6, H2.out.2.2.1.c7⟩ (fun hHeld => ?_); clear hK K; try simp only [Act.put, List.setIfInBounds_toArray, List.set_cons_zero, List.set_cons_succ])
  refine wpAnyH_done (by kernel_rfl) ?_ _
  go_wp2_with fail
  refine (done_any W2 T L ib m cap _ (pl + 1) H2.out.2.1).mono ?_
  rintro e W3 ⟨rfl, k3⟩
  go_wp2
  go_ret
  exact ⟨rfl, H2.out.1.keeps k3 (fun _ _ e => e), H2.out.2.1.keeps k3 (fun e => e), H2.out.2.2.2.trans (k3.mono (fun _ e => e.elim))⟩
end Go.Proofs.YtegnmflbbpfdhaaGreat
