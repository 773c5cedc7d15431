import Derived.Test.YtegnmflbbpfdhaaGreatSdG
import Derived.Handy
namespace Go.Proofs.YtegnmflbbpfdhaaGreat
set_option linter.unusedSimpArgs false
open Go.ChangeShapes Go.WideShapes Go.ChangeAt Go.RowKit Go.MuLone Go.RwLone
set_option linter.unusedVariables false
set_option maxRecDepth 100000
set_option maxHeartbeats 3200000
theorem hstep_swap (w : World) (B : Nat) (L : Lay) (S : AS) (hb qb n : Nat) (pb ln cp : Nat → Nat) (st : Int) (ev en : Value) (i T ib cap : Nat) (rg : Nat → Int) (j r : Nat) (ni oi nn : Int) (tg : Int) (es : List (Int × Int × Int × Int)) (ts : List Nat) (b : Bool) (wo : Nat → Int) (HB : Hid (b = decide (S.word j = oi) ∧ wo = if S.word j = oi then upd S.word j ni else S.word))
    (a : Ap L T ib hb qb (pb i) B) (h : Md w w B L S hb qb n pb ln cp st ev en i T ib 1 cap rg 0 tg false es ts) (hin : In8 w ib 0 3 j r (-1) ni (-1) oi nn) (hi : i < n) (hl : ln i = 1) (hc : 1 ≤ cp i ∧ cp i ≤ 9223372036854775807) (hr : S.rc = 0) (hn : S.n = 1) (hu : S.use 0 = true) (hj : j < S.wd) (hr4 : r < 4) (he : es.length ≤ 900) (ht : ts.length ≤ 900) :
    Calls Tryz.prog 110 #[.pointer (some ⟨hb, 0, none⟩), .int .i64 (i : Int)] w fun e w' => e = .returned (.bool true) ∧ ∃ ev' en', Keeps (Mv L T hb qb (pb i) B) w w' ∧ Holds w' L { S with rc := 0, acc := wrap64 (S.acc + 1), word := wo } ∧ Hr w' hb qb n pb (upd ln i 0) cp (wrap64 (st + 1)) ev' en' ∧ Th w' T L ib 1 cap (upd rg r (bitI b)) 1 ∧ OwE w' B ev' (es ++ [(1, (i : Int), tg, st)] ++ [(2, (i : Int), tg, wrap64 (st + 1))]) ∧ OwT w' B en' (ts ++ [T]) ∧ B ≤ w'.heap.size ∧ ∀ (k : Nat) (c : Array Value) (t : TypeId) (f : Nat × Nat), B ≤ k → w.heap[k]? = some (.cells c t f) → t ≠ 161 → t ≠ 75 → w'.heap[k]? = w.heap[k]? := by
  have HI : Hid (In8 w ib 0 3 j r (-1) ni (-1) oi nn) := hin
  have H : Hid (Md w w B L S hb qb n pb ln cp st ev en i T ib 1 cap rg 0 tg false es ts) := h
  have HA : Hid (Ap L T ib hb qb (pb i) B) := a
  have cq := h.hr.q
  have cr := h.hr.r i hi
  have c2 := h.c2
  have f2 := h.pf 2
  have h0 : (0 : Int) ≤ (i : Int) := Int.natCast_nonneg _
  have h1 : (i : Int) < (n : Int) := by omega
  have hl1 : (0 : Int) < (ln i : Int) := by omega
  clear h hin a
  go_enter Tryz.func110, Tryz.ntmps110
  go_wp2_with fail
  have H1 : Hid (Md w (w.setCell ⟨pb i, 2, none⟩ (.bool true)) B L S hb qb n pb ln cp st ev en i T ib 1 cap rg 0 tg true es ts) := H.out.call HA.out
  clear H cq cr c2 f2
  generalize w.setCell ⟨pb i, 2, none⟩ (.bool true) = W1 at *
  refine (rec_any W1 hb qb n pb ln cp st ev en B i 1 tg es hi H1.out.hr (by omega) H1.out.c1 H1.out.oe HA.out.bh HA.out.bq HA.out.bp H1.out.bs HA.out.hp (by omega)).mono ?_
  rintro e W2 ⟨rfl, ev2, hr2, oe2, k2, ot2, fr2⟩
  have H2 : Hid (Md w W2 B L S hb qb n pb ln cp st ev2 en i T ib 1 cap rg 0 tg true (es ++ [(1, (i : Int), tg, st)]) ts) := H1.out.event HA.out hr2 oe2 k2 ot2 fr2
  clear H1 hr2 oe2 k2 ot2 fr2
  have cs := H2.out.hr.s
  have fs := H2.out.hr.fh 1
  have hws : IntKind.i64.wrap (st + 1) = wrap64 (st + 1) := by rw [IntKind.wrap_i64]; unfold wrap64; omega
  have c0 : (W2.setCell ⟨hb, 1, none⟩ (.int .i64 (wrap64 (st + 1)))).cell? ⟨pb i, 0, none⟩ = some (.pointer (some ⟨T, 0, none⟩)) := (H2.out.steps HA.out (wrap64 (st + 1))).c0
  have H3 : Hid (Md w (W2.setCell ⟨hb, 1, none⟩ (.int .i64 (wrap64 (st + 1)))) B L S hb qb n pb ln cp (wrap64 (st + 1)) ev2 en i T ib 1 cap rg 0 tg true (es ++ [(1, (i : Int), tg, st)]) ts) := H2.out.steps HA.out _
  clear H2
  go_wp2_with fail
  clear cs fs hws c0
  generalize W2.setCell ⟨hb, 1, none⟩ (.int .i64 (wrap64 (st + 1))) = W3 at *
  refine (step_swap L S W3 T ib 1 cap rg 0 j r ni oi nn b wo HB H3.out.hd H3.out.th (HI.out.keeps H3.out.k HA.out.ins) HA.out.lT (fun e => e.elim HA.out.li HA.out.Ti) hr hn hu hj hr4 (by omega) (by omega)).mono ?_
  rintro e W4 ⟨rfl, hd4, th4, k4⟩
  have H4 : Hid (Md w W4 B L { S with rc := 0, acc := wrap64 (S.acc + 1), word := wo } hb qb n pb ln cp (wrap64 (st + 1)) ev2 en i T ib 1 cap (upd rg r (bitI b)) 1 tg true (es ++ [(1, (i : Int), tg, st)]) ts) := H3.out.work HA.out hd4 th4 k4
  clear H3 hd4 th4 k4 HB HI
  rw [show decide (1 ≤ 0 + 1) = true from rfl]
  go_wp2_with fail
  refine (rec_any W4 hb qb n pb ln cp (wrap64 (st + 1)) ev2 en B i 2 tg _ hi H4.out.hr (by omega) H4.out.c1 H4.out.oe HA.out.bh HA.out.bq HA.out.bp H4.out.bs HA.out.hp (by simp; omega)).mono ?_
  rintro e W5 ⟨rfl, ev5, hr5, oe5, k5, ot5, fr5⟩
  have H5 : Hid (Md w W5 B L { S with rc := 0, acc := wrap64 (S.acc + 1), word := wo } hb qb n pb ln cp (wrap64 (st + 1)) ev5 en i T ib 1 cap (upd rg r (bitI b)) 1 tg true (es ++ [(1, (i : Int), tg, st)] ++ [(2, (i : Int), tg, wrap64 (st + 1))]) ts) := H4.out.event HA.out hr5 oe5 k5 ot5 fr5
  clear H4 hr5 oe5 k5 ot5 fr5
  go_wp2_with fail
  obtain ⟨ta, tc, hen⟩ := H5.out.ot.form
  have cT : W5.drew.cell? ⟨hb, 3, none⟩ = some (.slice ta ts.length tc) := by rw [← hen]; exact H5.out.hr.d
  have cT2 : (W5.alloc (.cells #[.pointer (some ⟨T, 0, none⟩)] 75)).cell? ⟨hb, 3, none⟩ = some (.slice ta ts.length tc) := by rw [← hen]; exact (World.cell?_of_block (w := W5) (Below.heap_alloc W5 _ hb (Nat.lt_of_lt_of_le HA.out.bh H5.out.bs))).trans H5.out.hr.d
  have HO : Hid (OwT W5.drew B (.slice ta ts.length tc) ts) := by rw [← hen]; exact (H5.out.drew HA.out).ot
  have HP : Hid (∀ o : Obj, (W5.drew.alloc o).cell? ⟨pb i, 0, none⟩ = some (.pointer (some ⟨T, 0, none⟩))) := fun o => (World.cell?_of_block (w := W5) (Below.heap_alloc W5.drew o (pb i) (Nat.lt_of_lt_of_le HA.out.bp H5.out.bs))).trans H5.out.c0
  clear hen
  (refine wp_region_held_drew (S := (fun W => W.cell? ⟨pb i, 0, none⟩ = some (.pointer (some ⟨T, 0, none⟩)))) (by kernel_rfl) H5.out.c0 (fun hHeld => ?_); simp only [List.size_toArray, List.length_cons, List.length_nil, Nat.reduceAdd, Array.replicate_succ, Array.replicate_zero, List.push_toArray, List.append_toArray, List.nil_append, List.cons_append])
  (refine tk0 (v := ?_) (by kernel_rfl) (by kernel_rfl) (by kernel_rfl) (fun _ _ _ h => h) (Or.inl ⟨by rfl, ?_⟩) (by assumption) ?_; rotate_left; (focus (intro w hSw; (try dsimp only at hSw); go_simp; (try first | (rw [dif_pos (by omega)]; simp only [Result.andThen_ok]) | rw [if_pos (by omega)]); (try with_reducible rfl); done)); try simp only [Act.put, List.setIfInBounds_toArray, List.set_cons_zero, List.set_cons_succ])
  (refine tk1 (v := ?_) (by kernel_rfl) (by kernel_rfl) (by kernel_rfl) (fun _ _ _ h => h) (Or.inl ⟨by rfl, ?_⟩) (by assumption) ?_; rotate_left; (focus (intro w hSw; (try dsimp only at hSw); go_simp; (try first | (rw [dif_pos (by omega)]; simp only [Result.andThen_ok]) | rw [if_pos (by omega)]); (try with_reducible rfl); done)); try simp only [Act.put, List.setIfInBounds_toArray, List.set_cons_zero, List.set_cons_succ])
  (refine tk2 (v := ?_) (by kernel_rfl) (by kernel_rfl) (by kernel_rfl) (fun _ _ _ h => h) (Or.inl ⟨by rfl, ?_⟩) (by assumption) ?_; rotate_left; (focus (intro w hSw; (try dsimp only at hSw); go_simp; (try first | (rw [dif_pos (by omega)]; simp only [Result.andThen_ok]) | rw [if_pos (by omega)]); (try with_reducible rfl); done)); try simp only [Act.put, List.setIfInBounds_toArray, List.set_cons_zero, List.set_cons_succ])
  (refine tk3 (v := ?_) (by kernel_rfl) (by kernel_rfl) (by kernel_rfl) (fun _ _ _ h => h) (Or.inl ⟨by rfl, ?_⟩) (by assumption) ?_; rotate_left; (focus (intro w hSw; (try dsimp only at hSw); go_simp; (try first | (rw [dif_pos (by omega)]; simp only [Result.andThen_ok]) | rw [if_pos (by omega)]); (try with_reducible rfl); done)); try simp only [Act.put, List.setIfInBounds_toArray, List.set_cons_zero, List.set_cons_succ])
  (refine tk5 (v := ?_) (by kernel_rfl) (by kernel_rfl) (by kernel_rfl) (fun _ _ _ h => h) (Or.inl ⟨by rfl, ?_⟩) (by assumption) ?_; rotate_left; (focus (intro w hSw; (try dsimp only at hSw); go_simp; (try first | (rw [dif_pos (by omega)]; simp only [Result.andThen_ok]) | rw [if_pos (by omega)]); (try with_reducible rfl); done)); try simp only [Act.put, List.setIfInBounds_toArray, List.set_cons_zero, List.set_cons_succ])
  (refine tk6 (v := ?_) (by kernel_rfl) (by kernel_rfl) (by kernel_rfl) (fun _ _ _ h => h) (Or.inl ⟨by rfl, ?_⟩) (by assumption) ?_; rotate_left; (focus (intro w hSw; (try dsimp only at hSw); go_simp; (try first | (rw [dif_pos (by omega)]; simp only [Result.andThen_ok]) | rw [if_pos (by omega)]); (try with_reducible rfl); done)); try simp only [Act.put, List.setIfInBounds_toArray, List.set_cons_zero, List.set_cons_succ])
  (refine tk7 (v := ?_) (by kernel_rfl) (by kernel_rfl) (by kernel_rfl) (fun _ _ _ h => h) (Or.inl ⟨by rfl, ?_⟩) (by assumption) ?_; rotate_left; (focus (intro w hSw; (try dsimp only at hSw); go_simp; (try first | (rw [dif_pos (by omega)]; simp only [Result.andThen_ok]) | rw [if_pos (by omega)]); (try with_reducible rfl); done)); try simp only [Act.put, List.setIfInBounds_toArray, List.set_cons_zero, List.set_cons_succ])
  (refine tk8 (v := ?_) (by kernel_rfl) (by kernel_rfl) (by kernel_rfl) (fun _ _ _ h => h) (Or.inl ⟨by rfl, ?_⟩) (by assumption) ?_; rotate_left; (focus (intro w hSw; (try dsimp only at hSw); go_simp; (try first | (rw [dif_pos (by omega)]; simp only [Result.andThen_ok]) | rw [if_pos (by omega)]); (try with_reducible rfl); done)); try simp only [Act.put, List.setIfInBounds_toArray, List.set_cons_zero, List.set_cons_succ])
  (refine wpAnyH_ready (rs := [4, 9]) (by kernel_rfl) (by simp) ?_; refine ar4 (fun K hK => ?_) (ar9 (fun K hK => ?_) AllReadyH.nil) <;> go_simp)
  (refine hK.out _ _ H5.out.c0 (fun hHeld => ?_); clear hK K; try simp only [Act.put, List.setIfInBounds_toArray, List.set_cons_zero, List.set_cons_succ])
  (refine wpAnyH_ready (rs := [9]) (by kernel_rfl) (by simp) ?_; refine ar9 (fun K hK => ?_) AllReadyH.nil; go_simp)
  (refine hK.out _ _ (HP.out _) (fun hHeld => ?_); clear hK K; try simp only [Act.put, List.setIfInBounds_toArray, List.set_cons_zero, List.set_cons_succ])
  rotate_left 1
  (refine hK.out _ _ (HP.out _) (fun hHeld => ?_); clear hK K; try simp only [Act.put, List.setIfInBounds_toArray, List.set_cons_zero, List.set_cons_succ])
  (refine wpAnyH_ready (rs := [4]) (by kernel_rfl) (by simp) ?_; refine ar4 (fun K hK => ?_) AllReadyH.nil; go_simp)
  (refine hK.out _ _ (HP.out _) (fun hHeld => ?_); clear hK K; try simp only [Act.put, List.setIfInBounds_toArray, List.set_cons_zero, List.set_cons_succ])
  all_goals
    clear cT cT2
    (refine wpAnyH_ready (rs := [10]) (by kernel_rfl) (by simp) ?_; refine ar10 (fun K hK => ?_) AllReadyH.nil; rw [if_pos (by rfl)])
    refine app_one_wp (cs := thC) (wr := W5.drew) (.tmp 46) (.tmp 51) 70 75 (by rfl) Tryz.underlying70 infoTh rfl (by decide) (fun _ => rfl) B _ ts T HO.out (by rfl) W5.heap.size rfl (by rfl) (by intro u hu; simp [thC] at hu; subst hu; rfl) _ rfl (by unfold maxLen; omega) (by omega) H5.out.bs ?_
    intro v' W6 ho hbl hkp
    obtain ⟨va, vc, rfl⟩ := ho.form
    generalize (ts ++ [T]).length = mm at *
    have H6 : Hid (Md w (W6.setCell ⟨hb, 3, none⟩ (.slice va mm vc)) B L { S with rc := 0, acc := wrap64 (S.acc + 1), word := wo } hb qb n pb ln cp (wrap64 (st + 1)) ev5 (.slice va mm vc) i T ib 1 cap (upd rg r (bitI b)) 1 tg true (es ++ [(1, (i : Int), tg, st)] ++ [(2, (i : Int), tg, wrap64 (st + 1))]) (ts ++ [T])) := (H5.out.drew HA.out).ended HA.out ho hbl hkp
    have e6 : ∀ g k, g < B → W6.cell? ⟨g, k, none⟩ = W5.cell? ⟨g, k, none⟩ := fun g k hg => World.cell?_of_block (w := W5) (hbl.block g hg)
    have c6 : W6.cell? ⟨pb i, 0, none⟩ = some (.pointer (some ⟨T, 0, none⟩)) := (e6 _ _ HA.out.bp).trans H5.out.c0
    have d6 : W6.cell? ⟨hb, 3, none⟩ = some en := (e6 _ _ HA.out.bh).trans H5.out.hr.d
    have f6 : W6.frozen? ⟨hb, 3, none⟩ = false := (World.frozen?_of_block (w := W5) (hbl.block hb HA.out.bh)).trans (H5.out.hr.fh 3)
    clear e6 ho hbl hkp HO HP H5
    (refine hK.out _ _ c6 (fun hHeld => ?_); clear hK K; try simp only [Act.put, List.setIfInBounds_toArray, List.set_cons_zero, List.set_cons_succ])
    (refine tk11 (v := ?_) (by kernel_rfl) (by kernel_rfl) (by kernel_rfl) (fun _ _ _ h => h) (Or.inl ⟨by rfl, ?_⟩) (by assumption) ?_; rotate_left; (focus (intro w hSw; (try dsimp only at hSw); go_simp; (try first | (rw [dif_pos (by omega)]; simp only [Result.andThen_ok]) | rw [if_pos (by omega)]); (try with_reducible rfl); done)); try simp only [Act.put, List.setIfInBounds_toArray, List.set_cons_zero, List.set_cons_succ])
    (refine tk12 (v := ?_) (by kernel_rfl) (by kernel_rfl) (by kernel_rfl) (fun _ _ _ h => h) (Or.inl ⟨by rfl, ?_⟩) (by assumption) ?_; rotate_left; (focus (intro w hSw; (try dsimp only at hSw); go_simp; (try first | (rw [dif_pos (by omega)]; simp only [Result.andThen_ok]) | rw [if_pos (by omega)]); (try with_reducible rfl); done)); try simp only [Act.put, List.setIfInBounds_toArray, List.set_cons_zero, List.set_cons_succ])
    (refine wpAnyH_ready (rs := [13]) (by kernel_rfl) (by simp) ?_; refine ar13 (fun K hK => ?_) AllReadyH.nil; go_simp)
    (refine hK.out _ _ H6.out.c0 (fun hHeld => ?_); clear hK K; try simp only [Act.put, List.setIfInBounds_toArray, List.set_cons_zero, List.set_cons_succ])
    refine wpAnyH_done (by kernel_rfl) ?_ _
    clear c6 d6 f6
    generalize W6.setCell ⟨hb, 3, none⟩ (.slice va mm vc) = W7 at *
    go_wp2_with fail
    (refine wp_region_held_drew (S := (fun W => W.cell? ⟨hb, 0, none⟩ = some (.slice (some ⟨qb, 0, none⟩) n n))) (by kernel_rfl) H6.out.hr.q (fun hHeld => ?_); simp only [List.size_toArray, List.length_cons, List.length_nil, Nat.reduceAdd, Array.replicate_succ, Array.replicate_zero, List.push_toArray, List.append_toArray, List.nil_append, List.cons_append])
    (refine tk0 (v := ?_) (by kernel_rfl) (by kernel_rfl) (by kernel_rfl) (fun _ _ _ h => h) (Or.inl ⟨by rfl, ?_⟩) (by assumption) ?_; rotate_left; (focus (intro w hSw; (try dsimp only at hSw); go_simp; (try first | (rw [dif_pos (by omega)]; simp only [Result.andThen_ok]) | rw [if_pos (by omega)]); (try with_reducible rfl); done)); try simp only [Act.put, List.setIfInBounds_toArray, List.set_cons_zero, List.set_cons_succ])
    (refine tk1 (v := ?_) (by kernel_rfl) (by kernel_rfl) (by kernel_rfl) (fun _ _ _ h => h) (Or.inl ⟨by rfl, ?_⟩) (by assumption) ?_; rotate_left; (focus (intro w hSw; (try dsimp only at hSw); go_simp; (try first | (rw [dif_pos (by omega)]; simp only [Result.andThen_ok]) | rw [if_pos (by omega)]); (try with_reducible rfl); done)); try simp only [Act.put, List.setIfInBounds_toArray, List.set_cons_zero, List.set_cons_succ])
    (refine tk2 (v := ?_) (by kernel_rfl) (by kernel_rfl) (by kernel_rfl) (fun _ _ _ h => h) (Or.inl ⟨by rfl, ?_⟩) (by assumption) ?_; rotate_left; (focus (intro w hSw; (try dsimp only at hSw); go_simp; (try first | (rw [dif_pos (by omega)]; simp only [Result.andThen_ok]) | rw [if_pos (by omega)]); (try with_reducible rfl); done)); try simp only [Act.put, List.setIfInBounds_toArray, List.set_cons_zero, List.set_cons_succ])
    (refine tk3 (v := ?_) (by kernel_rfl) (by kernel_rfl) (by kernel_rfl) (fun _ _ _ h => h) (Or.inl ⟨by rfl, ?_⟩) (by assumption) ?_; rotate_left; (focus (intro w hSw; (try dsimp only at hSw); go_simp; (try first | (rw [dif_pos (by omega)]; simp only [Result.andThen_ok]) | rw [if_pos (by omega)]); (try with_reducible rfl); done)); try simp only [Act.put, List.setIfInBounds_toArray, List.set_cons_zero, List.set_cons_succ])
    (refine tk4 (v := ?_) (by kernel_rfl) (by kernel_rfl) (by kernel_rfl) (fun _ _ _ h => h) (Or.inl ⟨by rfl, ?_⟩) (by assumption) ?_; rotate_left; (focus (intro w hSw; (try dsimp only at hSw); go_simp; (try first | (rw [dif_pos (by omega)]; simp only [Result.andThen_ok]) | rw [if_pos (by omega)]); (try with_reducible rfl); done)); try simp only [Act.put, List.setIfInBounds_toArray, List.set_cons_zero, List.set_cons_succ])
    (refine tk5 (v := ?_) (by kernel_rfl) (by kernel_rfl) (by kernel_rfl) (fun _ _ _ h => h) (Or.inl ⟨by rfl, ?_⟩) (by assumption) ?_; rotate_left; (focus (intro w hSw; (try dsimp only at hSw); go_simp; (try first | (rw [dif_pos (by omega)]; simp only [Result.andThen_ok]) | rw [if_pos (by omega)]); (try with_reducible rfl); done)); try simp only [Act.put, List.setIfInBounds_toArray, List.set_cons_zero, List.set_cons_succ])
    (refine tk6 (v := ?_) (by kernel_rfl) (by kernel_rfl) (by kernel_rfl) (fun _ _ _ h => h) (Or.inl ⟨by rfl, ?_⟩) (by assumption) ?_; rotate_left; (focus (intro w hSw; (try dsimp only at hSw); go_simp; (try first | (rw [dif_pos (by omega)]; simp only [Result.andThen_ok]) | rw [if_pos (by omega)]); (try with_reducible rfl); done)); try simp only [Act.put, List.setIfInBounds_toArray, List.set_cons_zero, List.set_cons_succ])
    (refine tk7 (v := ?_) (by kernel_rfl) (by kernel_rfl) (by kernel_rfl) (fun _ _ _ h => h) (Or.inl ⟨by rfl, ?_⟩) (by assumption) ?_; rotate_left; (focus (intro w hSw; (try dsimp only at hSw); go_simp; (try first | (rw [dif_pos (by omega)]; simp only [Result.andThen_ok]) | rw [if_pos (by omega)]); (try with_reducible rfl); done)); try simp only [Act.put, List.setIfInBounds_toArray, List.set_cons_zero, List.set_cons_succ])
    (refine tk8 (v := ?_) (by kernel_rfl) (by kernel_rfl) (by kernel_rfl) (fun _ _ _ h => h) (Or.inl ⟨by rfl, ?_⟩) (by assumption) ?_; rotate_left; (focus (intro w hSw; (try dsimp only at hSw); go_simp; (try first | (rw [dif_pos (by omega)]; simp only [Result.andThen_ok]) | rw [if_pos (by omega)]); (try with_reducible rfl); done)); try simp only [Act.put, List.setIfInBounds_toArray, List.set_cons_zero, List.set_cons_succ])
    (refine tk9 (v := ?_) (by kernel_rfl) (by kernel_rfl) (by kernel_rfl) (fun _ _ _ h => h) (Or.inl ⟨by rfl, ?_⟩) (by assumption) ?_; rotate_left; (focus (intro w hSw; (try dsimp only at hSw); go_simp; (try first | (rw [dif_pos (by omega)]; simp only [Result.andThen_ok]) | rw [if_pos (by omega)]); (try with_reducible rfl); done)); try simp only [Act.put, List.setIfInBounds_toArray, List.set_cons_zero, List.set_cons_succ])
    (refine tk10 (v := ?_) (by kernel_rfl) (by kernel_rfl) (by kernel_rfl) (fun _ _ _ h => h) (Or.inl ⟨by rfl, ?_⟩) (by assumption) ?_; rotate_left; (focus (intro w hSw; (try dsimp only at hSw); go_simp; (try first | (rw [dif_pos (by omega)]; simp only [Result.andThen_ok]) | rw [if_pos (by omega)]); (try with_reducible rfl); done)); try simp only [Act.put, List.setIfInBounds_toArray, List.set_cons_zero, List.set_cons_succ])
    have cr7 : W7.drew.cell? ⟨qb, i, none⟩ = some (.slice (some ⟨pb i, 0, none⟩) 1 (cp i)) := by rw [← hl]; exact H6.out.hr.r i hi
    (refine wpAnyH_ready (rs := [11]) (by kernel_rfl) (by simp) ?_; refine ar11 (fun K hK => ?_) AllReadyH.nil; go_simp)
    (refine hK.out _ _ H6.out.hr.q (fun hHeld => ?_); clear hK K; try simp only [Act.put, List.setIfInBounds_toArray, List.set_cons_zero, List.set_cons_succ])
    clear cr7
    (refine wpAnyH_ready (rs := [12]) (by kernel_rfl) (by simp) ?_; refine ar12 (fun K hK => ?_) AllReadyH.nil; go_simp)
    refine (del_one W7.drew (pb i) (cp i) _ _ _ H6.out.c0 H6.out.c1 H6.out.c2 H6.out.pf hc.1 hc.2).mono ?_
    rintro e W8 ⟨rfl, k8⟩
    have k8' : Keeps (fun k => k = pb i) W7 W8 := (Keeps.refl _ _).drew.trans k8
    have kq : Keeps (fun k => k = qb) W8 (W8.setCell ⟨qb, i, none⟩ (.slice (some ⟨pb i, 0, none⟩) 0 (cp i))) := Keeps.setCell (B := fun k => k = qb) (Keeps.refl _ _) rfl _
    have HF : Hid (Keeps (Mv L T hb qb (pb i) B) w (W8.setCell ⟨qb, i, none⟩ (.slice (some ⟨pb i, 0, none⟩) 0 (cp i))) ∧ Holds (W8.setCell ⟨qb, i, none⟩ (.slice (some ⟨pb i, 0, none⟩) 0 (cp i))) L { S with rc := 0, acc := wrap64 (S.acc + 1), word := wo } ∧ Hr (W8.setCell ⟨qb, i, none⟩ (.slice (some ⟨pb i, 0, none⟩) 0 (cp i))) hb qb n pb (upd ln i 0) cp (wrap64 (st + 1)) ev5 (.slice va mm vc) ∧ Th (W8.setCell ⟨qb, i, none⟩ (.slice (some ⟨pb i, 0, none⟩) 0 (cp i))) T L ib 1 cap (upd rg r (bitI b)) 1 ∧ OwE (W8.setCell ⟨qb, i, none⟩ (.slice (some ⟨pb i, 0, none⟩) 0 (cp i))) B ev5 (es ++ [(1, (i : Int), tg, st)] ++ [(2, (i : Int), tg, wrap64 (st + 1))]) ∧ OwT (W8.setCell ⟨qb, i, none⟩ (.slice (some ⟨pb i, 0, none⟩) 0 (cp i))) B (.slice va mm vc) (ts ++ [T]) ∧ B ≤ (W8.setCell ⟨qb, i, none⟩ (.slice (some ⟨pb i, 0, none⟩) 0 (cp i))).heap.size ∧ ∀ (k : Nat) (c : Array Value) (t : TypeId) (f : Nat × Nat), B ≤ k → w.heap[k]? = some (.cells c t f) → t ≠ 161 → t ≠ 75 → (W8.setCell ⟨qb, i, none⟩ (.slice (some ⟨pb i, 0, none⟩) 0 (cp i))).heap[k]? = w.heap[k]?) :=
      ⟨(H6.out.k.trans (k8'.mono (fun _ e => .inr (.inr (.inr (.inr (.inl e))))))).trans (kq.mono (fun _ e => .inr (.inr (.inr (.inl e))))), (H6.out.hd.keeps k8' (fun g hg e => HA.out.lp (e ▸ hg))).far (p := ⟨qb, i, none⟩) HA.out.lq _, (H6.out.hr.keeps k8' HA.out.hp HA.out.qp).setQ i 0, (H6.out.th.keeps k8' (fun e => HA.out.Tp e.symm)).keeps kq (fun e => HA.out.Tq e.symm), (H6.out.oe.keeps k8' (fun x e => by rw [e]; exact HA.out.bp)).set (p := ⟨qb, i, none⟩) HA.out.bq _, (H6.out.ot.keeps k8' (fun x e => by rw [e]; exact HA.out.bp)).set (p := ⟨qb, i, none⟩) HA.out.bq _, Nat.le_trans H6.out.bs (Nat.le_trans k8'.size kq.size), fun g c t f hg hc h1 h2 => (Below.heap_setCell _ _ _ _ (by show g ≠ qb; have := HA.out.bq; omega)).trans (H6.out.fr' k8' (fun x e => by rw [e]; exact HA.out.bp) g c t f hg hc h1 h2)⟩
    have cq8 : W8.cell? ⟨hb, 0, none⟩ = some (.slice (some ⟨qb, 0, none⟩) n n) := (H6.out.hr.keeps k8' HA.out.hp HA.out.qp).q
    have cr8 := (H6.out.hr.keeps k8' HA.out.hp HA.out.qp).r i hi
    have fr8 := (H6.out.hr.keeps k8' HA.out.hp HA.out.qp).fq i
    clear k8 k8' kq H6
    (refine hK.out _ _ cq8 (fun hHeld => ?_); clear hK K; try simp only [Act.put, List.setIfInBounds_toArray, List.set_cons_zero, List.set_cons_succ])
    (refine tk13 (v := ?_) (by kernel_rfl) (by kernel_rfl) (by kernel_rfl) (fun _ _ _ h => h) (Or.inl ⟨by rfl, ?_⟩) (by assumption) ?_; rotate_left; (focus (intro w hSw; (try dsimp only at hSw); go_simp; (try first | (rw [dif_pos (by omega)]; simp only [Result.andThen_ok]) | rw [if_pos (by omega)]); (try with_reducible rfl); done)); try simp only [Act.put, List.setIfInBounds_toArray, List.set_cons_zero, List.set_cons_succ])
    (refine wpAnyH_ready (rs := [14]) (by kernel_rfl) (by simp) ?_; refine ar14 (fun K hK => ?_) AllReadyH.nil; go_simp)
    (refine hK.out _ _ HF.out.2.2.1.q (fun hHeld => ?_); clear hK K; try simp only [Act.put, List.setIfInBounds_toArray, List.set_cons_zero, List.set_cons_succ])
    refine wpAnyH_done (by kernel_rfl) ?_ _
    clear cq8 cr8 fr8
    go_wp2
    go_ret
    exact ⟨rfl, _, _, HF.out⟩
end Go.Proofs.YtegnmflbbpfdhaaGreat
