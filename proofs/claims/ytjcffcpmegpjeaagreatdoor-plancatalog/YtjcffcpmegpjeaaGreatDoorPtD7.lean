import Derived.Test.YtjcffcpmegpjeaaGreatDoorPtD6
namespace Go.Proofs.YtjcffcpmegpjeaaGreatDoor
set_option linter.unusedSimpArgs false
open Go.ChangeShapes Go.WideShapes Go.ChangeAt Go.RowKit
set_option linter.unusedVariables false
set_option maxRecDepth 100000
set_option maxHeartbeats 8000000 in
theorem readTableT (k d : ByteArray) (w : World) (hk : k.size ≤ 1125899906842624) (hd : d.size ≤ 512) : Calls Tryz.prog 67 #[pairV k d] w (RdT w k d) := by
  have HN : Hid (PRS w _ k d) := PRS.new w k d
  unfold pairV
  go_enter Tryz.func67, Tryz.ntmps67
  go_wp2_with fail
  refine (readKey_any k _ hk).mono ?_
  rintro e w3 ⟨⟨h0, h1⟩, hb3⟩
  have HN3 : Hid (PRS w w3 k d) := HN.out.later hb3 HN.out.size
  by_cases hc : (rkL k 0).2.2 = 0
  case neg =>
    have he := h1 hc
    subst he
    have HY : Hid (∀ nm num cs ks, ¬ Yt nm num cs ks k d) := no_key (.inl hc)
    have hcb : ((rkL k 0).2.2 != 0) = true := by simp [hc]
    clear h0 h1 hb3 HN hc
    generalize (rkL k 0).2.2 = c at *
    go_wp2
    exact ⟨rfl, RdT.no HN3.out.below HY.out⟩
  obtain ⟨v, rfl, hown⟩ := h0 hc
  obtain ⟨va, vn, vc, rfl⟩ := hown.form
  have hvn : vn = (rkL k 0).1.length := by
    rcases hown.2 with ⟨h', h''⟩ | ⟨g', cap', cur, h', _⟩
    · injection h' with h1 h2 h3
      omega
    · injection h' with h1 h2 h3
  have HRK : Hid (∀ _ : Unit, rkL k 0 = ((rkL k 0).1, (rkL k 0).2.1, 0)) := fun _ => by rw [← hc]
  have HO : Hid (ownV w3 (w.heap.size + 2) (.slice va vn vc) (rkL k 0).1) := hown.down (by simp)
  have HNO : Hid ((rkL k 0).1 = [] → ∀ nm num cs ks, ¬ Yt nm num cs ks k d) := fun h => no_key (.inr h)
  clear h0 h1 hb3 HN hown hc
  generalize (rkL k 0).1 = vs at *
  subst hvn
  by_cases hv : vs = []
  · have HY : Hid (∀ nm num cs ks, ¬ Yt nm num cs ks k d) := HNO.out hv
    have hl0 : vs.length = 0 := by rw [hv]; rfl
    clear hv HO HRK HNO
    generalize vs.length = n at *
    subst hl0
    go_wp2
    exact ⟨rfl, RdT.no HN3.out.below HY.out⟩
  clear HNO
  obtain ⟨m, hm⟩ : ∃ m, vs.length = m + 1 := ⟨vs.length - 1, by have := List.length_pos_iff.2 hv; omega⟩
  have h16 : vs.length ≤ 16 := by
    have := rkL_few k
    rw [HRK.out ()] at this
    simpa using this
  obtain ⟨b, off, rfl, x0, x1, x2⟩ := (HO.out.seesAll (by omega)).cell m (by omega)
  have HTX : Hid (∀ nm, vs = catV nm → (vs[m]'(by omega)).2.2 = nm) := by
    intro nm e
    subst e
    have : m = 1 := by have : (catV nm).length = 2 := rfl; omega
    subst this
    rfl
  have HST : Hid (∀ u q1 m' q2 : Nat, rU d 0 = ((u : Int), (q1 : Int), 0) → rU d q1 = ((m' : Int), (q2 : Int), 0) → AtC k d (vs[m]'(by omega)).2.2 (i64of u) (m' : Int) [] q2) := fun u q1 m' q2 h0 h1 => at_start (HRK.out ()) HTX.out h0 h1
  have hm15 : m ≤ 15 := by omega
  have hbl : b < w3.heap.size := World.block_lt_of_cell? _ _ x2
  generalize (vs[m]'(by omega)).2.2 = tx at *
  clear x0 x1 HO HRK HTX hv h16
  generalize vs.length = n at *
  subst hm
  obtain ⟨c0, c1⟩ := HN3.out.cells
  have hne : ¬ (((m + 1 : Nat) : Int) = 0) := by omega
  have HA : Hid (Below w3.heap.size w3 (w3.alloc (.cells #[.string d, .int .i64 0] 145))) := (Below.refl _ _).alloc (Nat.le_refl _) _
  have HP4 : Hid (PRS w (w3.alloc (.cells #[.string d, .int .i64 0] 145)) k d) := HN3.out.later HA.out HN3.out.size
  have HR4 : Hid (Rp (w3.alloc (.cells #[.string d, .int .i64 0] 145)) w3.heap.size d ((0 : Nat) : Int)) := heap_new _ _
  have x4 : (w3.alloc (.cells #[.string d, .int .i64 0] 145)).cell? ⟨b, off + m * 3 + 2, none⟩ = some (.string tx) := by rw [HA.out.cell hbl]; exact x2
  have hR2 := HN3.out.size
  have hwi : IntKind.i64.wrap (m : Int) = (m : Int) := by rw [IntKind.wrap_i64]; omega
  have HI : Hid (m ≤ 15) := hm15
  by_cases hu : (rU d ((0 : Nat) : Int)).2.2 = 0
  case neg =>
    have HY : Hid (∀ nm num cs ks, ¬ Yt nm num cs ks k d) := no_num hu
    have HNU : Hid (∀ W, Rp W w3.heap.size d ((0 : Nat) : Int) → _) := fun W h => nu_no hd (by omega) hu W h
    clear hu HST
    go_wp2_with fail
    generalize hW4 : w3.alloc (.cells #[.string d, .int .i64 0] 145) = W4 at *
    (refine wp_region_held_drew (S := (fun w' => w'.cell? ⟨b, off + m * 3 + 2, none⟩ = some (.string tx))) (by kernel_rfl) x4 (fun hHeld => ?_); simp only [List.size_toArray, List.length_cons, List.length_nil, Nat.reduceAdd, Array.replicate_succ, Array.replicate_zero, List.push_toArray, List.append_toArray, List.nil_append, List.cons_append])
    have HP5 : Hid (PRS w W4.drew k d) := ⟨HP4.out.below.drew, HP4.out.pair, HP4.out.z, HP4.out.size⟩
    have HR5 : Hid (Rp W4.drew w3.heap.size d ((0 : Nat) : Int)) := HR4.out
    have hR5 : w3.heap.size < W4.drew.heap.size := HR4.out.cells.2.2.2
    have hb5 : b < W4.drew.heap.size := by omega
    generalize W4.drew = W5 at *
    have HA5 : Hid (Below W5.heap.size W5 (W5.alloc (.cells #[.string ⟨#[]⟩, .int .i64 0, .slice none 0 0, .slice none 0 0] 25))) := (Below.refl _ _).alloc (Nat.le_refl _) _
    clear HP4 HR4 x4 hW4
    (refine tk0 (v := ?_) (by kernel_rfl) (by kernel_rfl) (by kernel_rfl) (fun _ _ _ h => h) (Or.inl ⟨by rfl, ?_⟩) (by assumption) ?_; rotate_left; (focus (intro w hSw; (try dsimp only at hSw); go_simp; (try first | (rw [dif_pos (by omega)]; simp only [Result.andThen_ok]) | rw [if_pos (by omega)]); (try with_reducible rfl); done)); try simp only [Act.put, List.setIfInBounds_toArray, List.set_cons_zero, List.set_cons_succ])
    (refine tk1 (v := ?_) (by kernel_rfl) (by kernel_rfl) (by kernel_rfl) (fun _ _ _ h => h) (Or.inl ⟨by rfl, ?_⟩) (by assumption) ?_; rotate_left; (focus (intro w hSw; (try dsimp only at hSw); go_simp; (try first | (rw [dif_pos (by omega)]; simp only [Result.andThen_ok]) | rw [if_pos (by omega)]); (try with_reducible rfl); done)); try simp only [Act.put, List.setIfInBounds_toArray, List.set_cons_zero, List.set_cons_succ])
    (refine tk2 (v := ?_) (by kernel_rfl) (by kernel_rfl) (by kernel_rfl) (fun _ _ _ h => h) (Or.inl ⟨by rfl, ?_⟩) (by assumption) ?_; rotate_left; (focus (intro w hSw; (try dsimp only at hSw); go_simp; (try first | (rw [dif_pos (by omega)]; simp only [Result.andThen_ok]) | rw [if_pos (by omega)]); (try with_reducible rfl); done)); try simp only [Act.put, List.setIfInBounds_toArray, List.set_cons_zero, List.set_cons_succ])
    (refine tk3 (v := ?_) (by kernel_rfl) (by kernel_rfl) (by kernel_rfl) (fun _ _ _ h => h) (Or.inl ⟨by rfl, ?_⟩) (by assumption) ?_; rotate_left; (focus (intro w hSw; (try dsimp only at hSw); go_simp; (try first | (rw [dif_pos (by omega)]; simp only [Result.andThen_ok]) | rw [if_pos (by omega)]); (try with_reducible rfl); done)); try simp only [Act.put, List.setIfInBounds_toArray, List.set_cons_zero, List.set_cons_succ])
    (refine tk4 (v := ?_) (by kernel_rfl) (by kernel_rfl) (by kernel_rfl) (fun _ _ _ h => h) (Or.inl ⟨by rfl, ?_⟩) (by assumption) ?_; rotate_left; (focus (intro w hSw; (try dsimp only at hSw); go_simp; (try first | (rw [dif_pos (by omega)]; simp only [Result.andThen_ok]) | rw [if_pos (by omega)]); (try with_reducible rfl); done)); try simp only [Act.put, List.setIfInBounds_toArray, List.set_cons_zero, List.set_cons_succ])
    (refine tk5 (v := ?_) (by kernel_rfl) (by kernel_rfl) (by kernel_rfl) (fun _ _ _ h => h) (Or.inl ⟨by rfl, ?_⟩) (by assumption) ?_; rotate_left; (focus (intro w hSw; (try dsimp only at hSw); go_simp; (try first | (rw [dif_pos (by omega)]; simp only [Result.andThen_ok]) | rw [if_pos (by omega)]); (try with_reducible rfl); done)); try simp only [Act.put, List.setIfInBounds_toArray, List.set_cons_zero, List.set_cons_succ])
    (refine tk6 (v := ?_) (by kernel_rfl) (by kernel_rfl) (by kernel_rfl) (fun _ _ _ h => h) (Or.inl ⟨by rfl, ?_⟩) (by assumption) ?_; rotate_left; (focus (intro w hSw; (try dsimp only at hSw); go_simp; (try first | (rw [dif_pos (by omega)]; simp only [Result.andThen_ok]) | rw [if_pos (by omega)]); (try with_reducible rfl); done)); try simp only [Act.put, List.setIfInBounds_toArray, List.set_cons_zero, List.set_cons_succ])
    (refine tk7 (v := ?_) (by kernel_rfl) (by kernel_rfl) (by kernel_rfl) (fun _ _ _ h => h) (Or.inl ⟨by rfl, ?_⟩) (by assumption) ?_; rotate_left; (focus (intro w hSw; (try dsimp only at hSw); go_simp; (try first | (rw [dif_pos (by omega)]; simp only [Result.andThen_ok]) | rw [if_pos (by omega)]); (try with_reducible rfl); done)); try simp only [Act.put, List.setIfInBounds_toArray, List.set_cons_zero, List.set_cons_succ])
    (refine wpAnyH_ready (rs := [8, 11]) (by kernel_rfl) (by simp) ?_; refine ar8 (fun K hK => ?_) (ar11 (fun K hK => ?_) AllReadyH.nil) <;> go_simp)
    · refine (HNU.out _ HR5.out).mono ?_
      rintro e w5 ⟨rfl, hf⟩
      exact ⟨rfl, RdT.no (HP5.out.below.trans (hf.toBelow.mono (by omega))) HY.out⟩
    · (refine hK.out _ _ ((HA5.out.cell hb5).trans hHeld) (fun hHeld => ?_); clear hK K; try simp only [Act.put, List.setIfInBounds_toArray, List.set_cons_zero, List.set_cons_succ])
      (refine wpAnyH_ready (rs := [8]) (by kernel_rfl) (by simp) ?_; refine ar8 (fun K hK => ?_) AllReadyH.nil; go_simp)
      refine (HNU.out _ ((HA5.out.block _ hR5).trans HR5.out)).mono ?_
      rintro e w5 ⟨rfl, hf⟩
      exact ⟨rfl, RdT.no ((HP5.out.below.trans (HA5.out.mono HP5.out.below.size)).trans (hf.toBelow.mono (by omega))) HY.out⟩
  obtain ⟨u, q1, hu1, hq1, hq1s, huu⟩ := nu_place hu
  have HUU : Hid (∀ _ : Unit, rU d ((0 : Nat) : Int) = ((u : Int), (q1 : Int), 0)) := fun _ => hu1
  have HNU : Hid (∀ W, Rp W w3.heap.size d ((0 : Nat) : Int) → _) := fun W h => nu_yes hd (by omega) hu1 W h
  obtain ⟨x, hx⟩ : ∃ x, i64of u = x := ⟨_, rfl⟩
  have hxb := i64of_in u huu
  have HX : Hid (∀ _ : Unit, i64of u = x) := fun _ => hx
  have hcv : IntKind.i64.wrap (u : Int) = x := hx
  rw [hx] at hxb
  clear hx hu hu1
  go_wp2_with fail
  generalize hW4 : w3.alloc (.cells #[.string d, .int .i64 0] 145) = W4 at *
  refine wp_onceG (fun g W => TbS w w3.heap.size g d tx x W q1 (.slice none 0 0) [] (.slice none 0 0) []) ?_
  apply Exists.intro
  constructor
  · (refine wp_region_held_drew (S := (fun w' => w'.cell? ⟨b, off + m * 3 + 2, none⟩ = some (.string tx))) (by kernel_rfl) x4 (fun hHeld => ?_); simp only [List.size_toArray, List.length_cons, List.length_nil, Nat.reduceAdd, Array.replicate_succ, Array.replicate_zero, List.push_toArray, List.append_toArray, List.nil_append, List.cons_append])
    have HP5 : Hid (PRS w W4.drew k d) := ⟨HP4.out.below.drew, HP4.out.pair, HP4.out.z, HP4.out.size⟩
    have HR5 : Hid (Rp W4.drew w3.heap.size d ((0 : Nat) : Int)) := HR4.out
    have hR5 : w3.heap.size < W4.drew.heap.size := HR4.out.cells.2.2.2
    have hb5 : b < W4.drew.heap.size := by omega
    generalize W4.drew = W5 at *
    have HA5 : Hid (Below W5.heap.size W5 (W5.alloc (.cells #[.string ⟨#[]⟩, .int .i64 0, .slice none 0 0, .slice none 0 0] 25))) := (Below.refl _ _).alloc (Nat.le_refl _) _
    (refine tk0 (v := ?_) (by kernel_rfl) (by kernel_rfl) (by kernel_rfl) (fun _ _ _ h => h) (Or.inl ⟨by rfl, ?_⟩) (by assumption) ?_; rotate_left; (focus (intro w hSw; (try dsimp only at hSw); go_simp; (try first | (rw [dif_pos (by omega)]; simp only [Result.andThen_ok]) | rw [if_pos (by omega)]); (try with_reducible rfl); done)); try simp only [Act.put, List.setIfInBounds_toArray, List.set_cons_zero, List.set_cons_succ])
    (refine tk1 (v := ?_) (by kernel_rfl) (by kernel_rfl) (by kernel_rfl) (fun _ _ _ h => h) (Or.inl ⟨by rfl, ?_⟩) (by assumption) ?_; rotate_left; (focus (intro w hSw; (try dsimp only at hSw); go_simp; (try first | (rw [dif_pos (by omega)]; simp only [Result.andThen_ok]) | rw [if_pos (by omega)]); (try with_reducible rfl); done)); try simp only [Act.put, List.setIfInBounds_toArray, List.set_cons_zero, List.set_cons_succ])
    (refine tk2 (v := ?_) (by kernel_rfl) (by kernel_rfl) (by kernel_rfl) (fun _ _ _ h => h) (Or.inl ⟨by rfl, ?_⟩) (by assumption) ?_; rotate_left; (focus (intro w hSw; (try dsimp only at hSw); go_simp; (try first | (rw [dif_pos (by omega)]; simp only [Result.andThen_ok]) | rw [if_pos (by omega)]); (try with_reducible rfl); done)); try simp only [Act.put, List.setIfInBounds_toArray, List.set_cons_zero, List.set_cons_succ])
    (refine tk3 (v := ?_) (by kernel_rfl) (by kernel_rfl) (by kernel_rfl) (fun _ _ _ h => h) (Or.inl ⟨by rfl, ?_⟩) (by assumption) ?_; rotate_left; (focus (intro w hSw; (try dsimp only at hSw); go_simp; (try first | (rw [dif_pos (by omega)]; simp only [Result.andThen_ok]) | rw [if_pos (by omega)]); (try with_reducible rfl); done)); try simp only [Act.put, List.setIfInBounds_toArray, List.set_cons_zero, List.set_cons_succ])
    (refine tk4 (v := ?_) (by kernel_rfl) (by kernel_rfl) (by kernel_rfl) (fun _ _ _ h => h) (Or.inl ⟨by rfl, ?_⟩) (by assumption) ?_; rotate_left; (focus (intro w hSw; (try dsimp only at hSw); go_simp; (try first | (rw [dif_pos (by omega)]; simp only [Result.andThen_ok]) | rw [if_pos (by omega)]); (try with_reducible rfl); done)); try simp only [Act.put, List.setIfInBounds_toArray, List.set_cons_zero, List.set_cons_succ])
    (refine tk5 (v := ?_) (by kernel_rfl) (by kernel_rfl) (by kernel_rfl) (fun _ _ _ h => h) (Or.inl ⟨by rfl, ?_⟩) (by assumption) ?_; rotate_left; (focus (intro w hSw; (try dsimp only at hSw); go_simp; (try first | (rw [dif_pos (by omega)]; simp only [Result.andThen_ok]) | rw [if_pos (by omega)]); (try with_reducible rfl); done)); try simp only [Act.put, List.setIfInBounds_toArray, List.set_cons_zero, List.set_cons_succ])
    (refine tk6 (v := ?_) (by kernel_rfl) (by kernel_rfl) (by kernel_rfl) (fun _ _ _ h => h) (Or.inl ⟨by rfl, ?_⟩) (by assumption) ?_; rotate_left; (focus (intro w hSw; (try dsimp only at hSw); go_simp; (try first | (rw [dif_pos (by omega)]; simp only [Result.andThen_ok]) | rw [if_pos (by omega)]); (try with_reducible rfl); done)); try simp only [Act.put, List.setIfInBounds_toArray, List.set_cons_zero, List.set_cons_succ])
    (refine tk7 (v := ?_) (by kernel_rfl) (by kernel_rfl) (by kernel_rfl) (fun _ _ _ h => h) (Or.inl ⟨by rfl, ?_⟩) (by assumption) ?_; rotate_left; (focus (intro w hSw; (try dsimp only at hSw); go_simp; (try first | (rw [dif_pos (by omega)]; simp only [Result.andThen_ok]) | rw [if_pos (by omega)]); (try with_reducible rfl); done)); try simp only [Act.put, List.setIfInBounds_toArray, List.set_cons_zero, List.set_cons_succ])
    (refine wpAnyH_ready (rs := [8, 11]) (by kernel_rfl) (by simp) ?_; refine ar8 (fun K hK => ?_) (ar11 (fun K hK => ?_) AllReadyH.nil) <;> go_simp)
    · refine (HNU.out _ HR5.out).mono ?_
      rintro e w6 ⟨rfl, hr6, hf⟩
      have HP6 : Hid (Below w.heap.size w w6 ∧ w6.heap[w.heap.size + 1]? = some (.cells #[.string ⟨#[]⟩, .int .i64 0, .slice none 0 0, .slice none 0 0] 25)) := ⟨HP5.out.below.trans (hf.toBelow.mono (by omega)), (hf.rest _ (by omega) (by omega)).trans HP5.out.z⟩
      have x6 : w6.cell? ⟨b, off + m * 3 + 2, none⟩ = some (.string tx) := by rw [World.cell?, hf.rest _ hb5 (by omega)]; exact hHeld
      have hs6 := hf.toBelow.size
      have HR6 : Hid (Rp w6 w3.heap.size d (q1 : Int)) := hr6
      clear hf hr6
      (refine hK.out _ _ x6 (fun hHeld => ?_); clear hK K; try simp only [Act.put, List.setIfInBounds_toArray, List.set_cons_zero, List.set_cons_succ])
      (refine tk9 (v := ?_) (by kernel_rfl) (by kernel_rfl) (by kernel_rfl) (fun _ _ _ h => h) (Or.inl ⟨by rfl, ?_⟩) (by assumption) ?_; rotate_left; (focus (intro w hSw; (try dsimp only at hSw); go_simp; (try first | (rw [dif_pos (by omega)]; simp only [Result.andThen_ok]) | rw [if_pos (by omega)]); (try with_reducible rfl); done)); try simp only [Act.put, List.setIfInBounds_toArray, List.set_cons_zero, List.set_cons_succ])
      (refine tk10 (v := ?_) (by kernel_rfl) (by kernel_rfl) (by kernel_rfl) (fun _ _ _ h => h) (Or.inl ⟨by rfl, ?_⟩) (by assumption) ?_; rotate_left; (focus (intro w hSw; (try dsimp only at hSw); go_simp; (try first | (rw [dif_pos (by omega)]; simp only [Result.andThen_ok]) | rw [if_pos (by omega)]); (try with_reducible rfl); done)); try simp only [Act.put, List.setIfInBounds_toArray, List.set_cons_zero, List.set_cons_succ])
      (refine wpAnyH_ready (rs := [11]) (by kernel_rfl) (by simp) ?_; refine ar11 (fun K hK => ?_) AllReadyH.nil; go_simp)
      have HT6 : Hid (TbS w w3.heap.size w6.heap.size d tx x (w6.alloc (.cells #[.string tx, .int .i64 x, .slice none 0 0, .slice none 0 0] 25)) q1 (.slice none 0 0) [] (.slice none 0 0) []) := TbS.fresh (HP6.out.1.alloc HP6.out.1.size _) ((Below.heap_alloc w6 _ (w.heap.size + 1) (by omega)).trans HP6.out.2) ((Below.heap_alloc w6 _ w3.heap.size (by omega)).trans HR6.out) (by omega) _ (by omega) (heap_new _ _)
      have x7 : ∀ o, (w6.alloc o).cell? ⟨b, off + m * 3 + 2, none⟩ = some (.string tx) := fun o => by rw [World.cell?, Below.heap_alloc w6 _ b (by omega)]; exact x6
      (refine hK.out _ _ (x7 _) (fun hHeld => ?_); clear hK K; try simp only [Act.put, List.setIfInBounds_toArray, List.set_cons_zero, List.set_cons_succ])
      (refine wpAnyH_ready (rs := [12]) (by kernel_rfl) (by simp) ?_; refine ar12 (fun K hK => ?_) AllReadyH.nil; go_simp)
      (refine hK.out _ _ (x7 _) (fun hHeld => ?_); clear hK K; try simp only [Act.put, List.setIfInBounds_toArray, List.set_cons_zero, List.set_cons_succ])
      refine wpAnyH_done (by kernel_rfl) ?_ _
      generalize hg6 : w6.heap.size = g6 at *
      generalize w6.alloc (.cells #[.string tx, .int .i64 x, .slice none 0 0, .slice none 0 0] 25) = W7 at *
      exact Post3.here _ g6 HT6.out
    · have hs5 := szAl W5 (.cells #[.string ⟨#[]⟩, .int .i64 0, .slice none 0 0, .slice none 0 0] 25)
      (refine hK.out _ _ ((HA5.out.cell hb5).trans hHeld) (fun hHeld => ?_); clear hK K; try simp only [Act.put, List.setIfInBounds_toArray, List.set_cons_zero, List.set_cons_succ])
      (refine wpAnyH_ready (rs := [8]) (by kernel_rfl) (by simp) ?_; refine ar8 (fun K hK => ?_) AllReadyH.nil; go_simp)
      refine (HNU.out _ ((HA5.out.block _ hR5).trans HR5.out)).mono ?_
      rintro e w6 ⟨rfl, hr6, hf⟩
      have HP6 : Hid (Below w.heap.size w w6 ∧ w6.heap[w.heap.size + 1]? = some (.cells #[.string ⟨#[]⟩, .int .i64 0, .slice none 0 0, .slice none 0 0] 25)) := ⟨(HP5.out.below.trans (HA5.out.mono HP5.out.below.size)).trans (hf.toBelow.mono (by omega)), (hf.rest _ (by omega) (by omega)).trans ((HA5.out.block _ (by omega)).trans HP5.out.z)⟩
      have x6 : w6.cell? ⟨b, off + m * 3 + 2, none⟩ = some (.string tx) := by rw [World.cell?, hf.rest b (by omega) (by omega)]; exact hHeld
      have t6 : w6.heap[W5.heap.size]? = some (.cells #[.string ⟨#[]⟩, .int .i64 0, .slice none 0 0, .slice none 0 0] 25) := (hf.rest _ (by omega) (by omega)).trans (heap_new _ _)
      have hs6 := hf.toBelow.size
      have HR6 : Hid (Rp w6 w3.heap.size d (q1 : Int)) := hr6
      clear hf hr6
      have HT6 : Hid (TbS w w3.heap.size W5.heap.size d tx x ((((w6.setCell ⟨W5.heap.size, 0, none⟩ (.string tx)).setCell ⟨W5.heap.size, 1, none⟩ (.int .i64 x)).setCell ⟨W5.heap.size, 2, none⟩ (.slice none 0 0)).setCell ⟨W5.heap.size, 3, none⟩ (.slice none 0 0)) q1 (.slice none 0 0) [] (.slice none 0 0) []) := by
        have e0 : ∀ k, k ≠ W5.heap.size → ((((w6.setCell ⟨W5.heap.size, 0, none⟩ (.string tx)).setCell ⟨W5.heap.size, 1, none⟩ (.int .i64 x)).setCell ⟨W5.heap.size, 2, none⟩ (.slice none 0 0)).setCell ⟨W5.heap.size, 3, none⟩ (.slice none 0 0)).heap[k]? = w6.heap[k]? := fun k hk => (heap_off hk.symm _).trans ((heap_off hk.symm _).trans ((heap_off hk.symm _).trans (heap_off hk.symm _)))
        exact TbS.fresh ((((HP6.out.1.setCell (by simp only; omega) _).setCell (by simp only; omega) _).setCell (by simp only; omega) _).setCell (by simp only; omega) _) ((e0 _ (by omega)).trans HP6.out.2) ((e0 _ (by omega)).trans HR6.out) (by omega) _ (by omega) (heap_set (heap_set (heap_set (heap_set t6 _) _) _) _)
      have x7 : ((((w6.setCell ⟨W5.heap.size, 0, none⟩ (.string tx)).setCell ⟨W5.heap.size, 1, none⟩ (.int .i64 x)).setCell ⟨W5.heap.size, 2, none⟩ (.slice none 0 0)).setCell ⟨W5.heap.size, 3, none⟩ (.slice none 0 0)).cell? ⟨b, off + m * 3 + 2, none⟩ = some (.string tx) := by
        have e0 : b ≠ W5.heap.size := by omega
        show World.cell? _ _ = _; unfold World.cell?; simp only []; rw [heap_off e0.symm, heap_off e0.symm, heap_off e0.symm, heap_off e0.symm]; exact x6
      have k0 : w6.cell? ⟨W5.heap.size, 0, none⟩ = some (.string ⟨#[]⟩) := by unfold World.cell?; rw [t6]; rfl
      have k1 : w6.cell? ⟨W5.heap.size, 1, none⟩ = some (.int .i64 0) := by unfold World.cell?; rw [t6]; rfl
      have k2 : w6.cell? ⟨W5.heap.size, 2, none⟩ = some (.slice none 0 0) := by unfold World.cell?; rw [t6]; rfl
      have k3 : w6.cell? ⟨W5.heap.size, 3, none⟩ = some (.slice none 0 0) := by unfold World.cell?; rw [t6]; rfl
      have f0 : ∀ j, w6.frozen? ⟨W5.heap.size, j, none⟩ = false := fun j => by unfold World.frozen?; rw [t6]; rfl
      have f00 := f0 0
      have f01 := f0 1
      have f02 := f0 2
      have f03 := f0 3
      (refine hK.out _ _ x6 (fun hHeld => ?_); clear hK K; try simp only [Act.put, List.setIfInBounds_toArray, List.set_cons_zero, List.set_cons_succ])
      (refine tk9 (v := ?_) (by kernel_rfl) (by kernel_rfl) (by kernel_rfl) (fun _ _ _ h => h) (Or.inl ⟨by rfl, ?_⟩) (by assumption) ?_; rotate_left; (focus (intro w hSw; (try dsimp only at hSw); go_simp; (try first | (rw [dif_pos (by omega)]; simp only [Result.andThen_ok]) | rw [if_pos (by omega)]); (try with_reducible rfl); done)); try simp only [Act.put, List.setIfInBounds_toArray, List.set_cons_zero, List.set_cons_succ])
      (refine tk10 (v := ?_) (by kernel_rfl) (by kernel_rfl) (by kernel_rfl) (fun _ _ _ h => h) (Or.inl ⟨by rfl, ?_⟩) (by assumption) ?_; rotate_left; (focus (intro w hSw; (try dsimp only at hSw); go_simp; (try first | (rw [dif_pos (by omega)]; simp only [Result.andThen_ok]) | rw [if_pos (by omega)]); (try with_reducible rfl); done)); try simp only [Act.put, List.setIfInBounds_toArray, List.set_cons_zero, List.set_cons_succ])
      (refine wpAnyH_ready (rs := [12]) (by kernel_rfl) (by simp) ?_; refine ar12 (fun K hK => ?_) AllReadyH.nil; go_simp)
      (refine hK.out _ _ x7 (fun hHeld => ?_); clear hK K; try simp only [Act.put, List.setIfInBounds_toArray, List.set_cons_zero, List.set_cons_succ])
      refine wpAnyH_done (by kernel_rfl) ?_ _
      generalize W5.heap.size = g6 at *
      exact Post3.here _ g6 HT6.out
  intro g W6 hS
  have HS : Hid (TbS w w3.heap.size g d tx x W6 q1 (.slice none 0 0) [] (.slice none 0 0) []) := hS
  clear hS HNU
  by_cases hv : (rU d (q1 : Int)).2.2 = 0
  case neg =>
    have HY : Hid (∀ nm num cs ks, ¬ Yt nm num cs ks k d) := no_cnt (HUU.out ()) hv
    have HNU : Hid (∀ W, Rp W w3.heap.size d (q1 : Int) → _) := fun W h => nu_no hd hq1s hv W h
    clear hv HST
    go_wp2_with fail
    refine (HNU.out _ HS.out.rd).mono ?_
    rintro e w7 ⟨rfl, hf⟩
    exact ⟨rfl, RdT.no (HS.out.bel.trans (hf.toBelow.mono (by omega))) HY.out⟩
  obtain ⟨mc, q2, hv1, hq2, hq2s, hmc⟩ := nu_place hv
  have HAT : Hid (AtC k d tx x (mc : Int) [] q2) := by
    have := HST.out u q1 mc q2 (HUU.out ()) hv1
    rw [HX.out ()] at this
    exact this
  have HNU : Hid (∀ W, Rp W w3.heap.size d (q1 : Int) → _) := fun W h => nu_yes hd hq1s hv1 W h
  clear HST HUU HX hv hv1
  go_wp2_with fail
  refine (HNU.out _ HS.out.rd).mono ?_
  rintro e w7 ⟨rfl, hr, hf⟩
  have HS7 : Hid (TbS w w3.heap.size g d tx x w7 q2 (.slice none 0 0) [] (.slice none 0 0) []) := HS.out.read hf hr
  clear hf hr HNU HS hm15 HI hne hwi c0 c1 x2 x4 HP4 HR4 HA hW4 hcv huu HN3
  go_wp2_with fail
  go_loopw [38] (fun y wr => ∃ (n q : Nat) (v : Value) (vs : List CD), vs.length = n ∧ (n : Int) ≤ (mc : Int) ∧ y = .int .u64 (n : Int) ∧ n ≤ q ∧ q ≤ d.size ∧ TbS w w3.heap.size g d tx x wr q v vs (.slice none 0 0) [] ∧ AtC k d tx x (mc : Int) vs q) (fun y _ => mc - (intOf y).toNat)
  case atStart => exact ⟨0, q2, .slice none 0 0, [], rfl, by omega, rfl, by omega, hq2s, HS7.out, HAT.out⟩
  case round =>
    obtain ⟨n, q, v, vs, hln, hn, rfl, hnq, hqs, hS, hat⟩ := hrel
    have HSr : Hid (TbS w w3.heap.size g d tx x wr q v vs (.slice none 0 0) []) := hS
    have HATr : Hid (AtC k d tx x (mc : Int) vs q) := hat
    have HLN : Hid (∀ _ : Unit, vs.length = n) := fun _ => hln
    have hvl : vs.length ≤ 512 := by omega
    have HVL : Hid (vs.length ≤ 512) := hvl
    have HNQ : Hid (n ≤ q) := hnq
    clear hS hat hvl HS7 HAT
    by_cases hlt : (n : Int) < (mc : Int)
    case pos =>
      have hnx := HATr.out.next (by rw [hln]; exact hlt)
      clear hln
      by_cases he : cdE d q = 0
      case neg =>
        have HY : Hid (∀ nm num cs ks, ¬ Yt nm num cs ks k d) := fun nm num cs ks y => he (hnx.1 nm num cs ks y)
        have HC : Hid (∀ W, Rp W w3.heap.size d (q : Int) → _) := fun W h => cd_no hd hqs he W h
        clear hnx he
        obtain ⟨va, vc2, rfl⟩ := HSr.out.oc.isSlice
        have HSd : Hid (TbS w w3.heap.size g d tx x wr.drew q (.slice va vs.length vc2) vs (.slice none 0 0) []) := HSr.out.drew
        obtain ⟨_, _, t2, t3, _, _⟩ := HSd.out.cells
        go_wp2_with fail
        (refine wp_region_held_drew (S := (fun _ => True)) (by kernel_rfl) trivial (fun hHeld => ?_); simp only [List.size_toArray, List.length_cons, List.length_nil, Nat.reduceAdd, Array.replicate_succ, Array.replicate_zero, List.push_toArray, List.append_toArray, List.nil_append, List.cons_append])
        (refine tk0 (v := ?_) (by kernel_rfl) (by kernel_rfl) (by kernel_rfl) (fun _ _ _ h => h) (Or.inl ⟨by rfl, ?_⟩) (by assumption) ?_; rotate_left; (focus (intro w hSw; (try dsimp only at hSw); go_simp; (try first | (rw [dif_pos (by omega)]; simp only [Result.andThen_ok]) | rw [if_pos (by omega)]); (try with_reducible rfl); done)); try simp only [Act.put, List.setIfInBounds_toArray, List.set_cons_zero, List.set_cons_succ])
        (refine tk2 (v := ?_) (by kernel_rfl) (by kernel_rfl) (by kernel_rfl) (fun _ _ _ h => h) (Or.inl ⟨by rfl, ?_⟩) (by assumption) ?_; rotate_left; (focus (intro w hSw; (try dsimp only at hSw); go_simp; (try first | (rw [dif_pos (by omega)]; simp only [Result.andThen_ok]) | rw [if_pos (by omega)]); (try with_reducible rfl); done)); try simp only [Act.put, List.setIfInBounds_toArray, List.set_cons_zero, List.set_cons_succ])
        (refine wpAnyH_ready (rs := [1, 3]) (by kernel_rfl) (by simp) ?_; refine ar1 (fun K hK => ?_) (ar3 (fun K hK => ?_) AllReadyH.nil) <;> go_simp)
        · (refine hK.out _ _ trivial (fun hHeld => ?_); clear hK K; try simp only [Act.put, List.setIfInBounds_toArray, List.set_cons_zero, List.set_cons_succ])
          (refine wpAnyH_ready (rs := [3]) (by kernel_rfl) (by simp) ?_; refine ar3 (fun K hK => ?_) AllReadyH.nil; go_simp)
          refine (HC.out _ HSd.out.rd).mono ?_
          rintro e w8 ⟨rfl, hf⟩
          exact ⟨rfl, RdT.no (HSd.out.bel.trans (hf.toBelow.mono (by omega))) HY.out⟩
        · refine (HC.out _ HSd.out.rd).mono ?_
          rintro e w8 ⟨rfl, hf⟩
          exact ⟨rfl, RdT.no (HSd.out.bel.trans (hf.toBelow.mono (by omega))) HY.out⟩
      obtain ⟨q', hq', hqq, hqs'⟩ := cd_place he
      have HN : Hid (AtC k d tx x (mc : Int) (vs ++ [cdV d q]) q') := hnx.2 q' hq'
      have HC : Hid (∀ W, Rp W w3.heap.size d (q : Int) → _) := fun W h => cd_yes hd hqs he hq' W h
      clear hnx he hq'
      generalize cdV d q = c at *
      obtain ⟨cn, ct, nn⟩ := c
      dsimp only at HC
      obtain ⟨va, vc2, rfl⟩ := HSr.out.oc.isSlice
      have HSd : Hid (TbS w w3.heap.size g d tx x wr.drew q (.slice va vs.length vc2) vs (.slice none 0 0) []) := HSr.out.drew
      obtain ⟨_, _, t2, t3, _, _⟩ := HSd.out.cells
      go_wp2_with fail
      (refine wp_region_held_drew (S := (fun _ => True)) (by kernel_rfl) trivial (fun hHeld => ?_); simp only [List.size_toArray, List.length_cons, List.length_nil, Nat.reduceAdd, Array.replicate_succ, Array.replicate_zero, List.push_toArray, List.append_toArray, List.nil_append, List.cons_append])
      (refine tk0 (v := ?_) (by kernel_rfl) (by kernel_rfl) (by kernel_rfl) (fun _ _ _ h => h) (Or.inl ⟨by rfl, ?_⟩) (by assumption) ?_; rotate_left; (focus (intro w hSw; (try dsimp only at hSw); go_simp; (try first | (rw [dif_pos (by omega)]; simp only [Result.andThen_ok]) | rw [if_pos (by omega)]); (try with_reducible rfl); done)); try simp only [Act.put, List.setIfInBounds_toArray, List.set_cons_zero, List.set_cons_succ])
      (refine tk2 (v := ?_) (by kernel_rfl) (by kernel_rfl) (by kernel_rfl) (fun _ _ _ h => h) (Or.inl ⟨by rfl, ?_⟩) (by assumption) ?_; rotate_left; (focus (intro w hSw; (try dsimp only at hSw); go_simp; (try first | (rw [dif_pos (by omega)]; simp only [Result.andThen_ok]) | rw [if_pos (by omega)]); (try with_reducible rfl); done)); try simp only [Act.put, List.setIfInBounds_toArray, List.set_cons_zero, List.set_cons_succ])
      (refine wpAnyH_ready (rs := [1, 3]) (by kernel_rfl) (by simp) ?_; refine ar1 (fun K hK => ?_) (ar3 (fun K hK => ?_) AllReadyH.nil) <;> go_simp)
      · (refine hK.out _ _ trivial (fun hHeld => ?_); clear hK K; try simp only [Act.put, List.setIfInBounds_toArray, List.set_cons_zero, List.set_cons_succ])
        (refine wpAnyH_ready (rs := [3]) (by kernel_rfl) (by simp) ?_; refine ar3 (fun K hK => ?_) AllReadyH.nil; go_simp)
        refine (HC.out _ HSd.out.rd).mono ?_
        rintro e w8 ⟨rfl, hr, hf⟩
        have HS8 : Hid (TbS w w3.heap.size g d tx x w8 q' (.slice va vs.length vc2) vs (.slice none 0 0) []) := HSd.out.read hf hr
        clear hf hr
        obtain ⟨_, _, u2, u3, _, _⟩ := HS8.out.cells
        have hgw : g < w8.heap.size := HS8.out.lt
        (refine hK.out _ _ trivial (fun hHeld => ?_); clear hK K; try simp only [Act.put, List.setIfInBounds_toArray, List.set_cons_zero, List.set_cons_succ])
        (refine wpAnyH_ready (rs := [4]) (by kernel_rfl) (by simp) ?_; refine ar4 (fun K hK => ?_) AllReadyH.nil; go_simp)
        (refine hK.out _ _ trivial (fun hHeld => ?_); clear hK K; try simp only [Act.put, List.setIfInBounds_toArray, List.set_cons_zero, List.set_cons_succ])
        (refine wpAnyH_ready (rs := [5]) (by kernel_rfl) (by simp) ?_; refine ar5 (fun K hK => ?_) AllReadyH.nil; rw [if_pos (by rfl)])
        refine app_col_wp _ _ (by rfl) (g + 1) _ vs (cn, ct, nn) HS8.out.oc (by rfl) w8.heap.size rfl (by rfl) (by have := HVL.out; omega) (by omega) ?_
        intro v' w' ho' hb' hk'
        obtain ⟨a', c', rfl⟩ := ho'.isSlice
        have HS9 : Hid (TbS w w3.heap.size g d tx x (w'.setCell ⟨g, 2, none⟩ (.slice a' (vs ++ [(cn, ct, nn)]).length c')) q' (.slice a' (vs ++ [(cn, ct, nn)]).length c') (vs ++ [(cn, ct, nn)]) (.slice none 0 0) []) := HS8.out.colPut ho' hb' hk'
        have k9 : w'.cell? ⟨g, 2, none⟩ = some (.slice va vs.length vc2) := (hb'.cell (by simp only; omega)).trans u2
        have f9 : w'.frozen? ⟨g, 2, none⟩ = false := (hb'.frozen (by simp only; omega)).trans HS8.out.cells.2.2.2.2.1
        clear ho' hb' hk'
        have HLA : Hid ((vs ++ [(cn, ct, nn)]).length = n + 1) := by rw [List.length_append, HLN.out ()]; rfl
        generalize hVS : vs ++ [(cn, ct, nn)] = vs' at *
        clear hVS
        (refine hK.out _ _ trivial (fun hHeld => ?_); clear hK K; try simp only [Act.put, List.setIfInBounds_toArray, List.set_cons_zero, List.set_cons_succ])
        (refine tk6 (v := ?_) (by kernel_rfl) (by kernel_rfl) (by kernel_rfl) (fun _ _ _ h => h) (Or.inl ⟨by rfl, ?_⟩) (by assumption) ?_; rotate_left; (focus (intro w hSw; (try dsimp only at hSw); go_simp; (try first | (rw [dif_pos (by omega)]; simp only [Result.andThen_ok]) | rw [if_pos (by omega)]); (try with_reducible rfl); done)); try simp only [Act.put, List.setIfInBounds_toArray, List.set_cons_zero, List.set_cons_succ])
        (refine wpAnyH_ready (rs := [7]) (by kernel_rfl) (by simp) ?_; refine ar7 (fun K hK => ?_) AllReadyH.nil; go_simp)
        (refine hK.out _ _ trivial (fun hHeld => ?_); clear hK K; try simp only [Act.put, List.setIfInBounds_toArray, List.set_cons_zero, List.set_cons_succ])
        refine wpAnyH_done (by kernel_rfl) ?_ _
        go_wp2
        go_roundw
        case rel => exact ⟨n + 1, q', _, vs', HLA.out, by omega, by go_num, by have := HNQ.out; omega, hqs', HS9.out, HN.out⟩
        case measure => simp [intOf]; omega
      · refine (HC.out _ HSd.out.rd).mono ?_
        rintro e w8 ⟨rfl, hr, hf⟩
        have HS8 : Hid (TbS w w3.heap.size g d tx x w8 q' (.slice va vs.length vc2) vs (.slice none 0 0) []) := HSd.out.read hf hr
        clear hf hr
        obtain ⟨_, _, u2, u3, _, _⟩ := HS8.out.cells
        have hgw : g < w8.heap.size := HS8.out.lt
        (refine hK.out _ _ trivial (fun hHeld => ?_); clear hK K; try simp only [Act.put, List.setIfInBounds_toArray, List.set_cons_zero, List.set_cons_succ])
        (refine wpAnyH_ready (rs := [1, 4]) (by kernel_rfl) (by simp) ?_; refine ar1 (fun K hK => ?_) (ar4 (fun K hK => ?_) AllReadyH.nil) <;> go_simp)
        · (refine hK.out _ _ trivial (fun hHeld => ?_); clear hK K; try simp only [Act.put, List.setIfInBounds_toArray, List.set_cons_zero, List.set_cons_succ])
          (refine wpAnyH_ready (rs := [4]) (by kernel_rfl) (by simp) ?_; refine ar4 (fun K hK => ?_) AllReadyH.nil; go_simp)
          (refine hK.out _ _ trivial (fun hHeld => ?_); clear hK K; try simp only [Act.put, List.setIfInBounds_toArray, List.set_cons_zero, List.set_cons_succ])
          (refine wpAnyH_ready (rs := [5]) (by kernel_rfl) (by simp) ?_; refine ar5 (fun K hK => ?_) AllReadyH.nil; rw [if_pos (by rfl)])
          refine app_col_wp _ _ (by rfl) (g + 1) _ vs (cn, ct, nn) HS8.out.oc (by rfl) w8.heap.size rfl (by rfl) (by have := HVL.out; omega) (by omega) ?_
          intro v' w' ho' hb' hk'
          obtain ⟨a', c', rfl⟩ := ho'.isSlice
          have HS9 : Hid (TbS w w3.heap.size g d tx x (w'.setCell ⟨g, 2, none⟩ (.slice a' (vs ++ [(cn, ct, nn)]).length c')) q' (.slice a' (vs ++ [(cn, ct, nn)]).length c') (vs ++ [(cn, ct, nn)]) (.slice none 0 0) []) := HS8.out.colPut ho' hb' hk'
          have k9 : w'.cell? ⟨g, 2, none⟩ = some (.slice va vs.length vc2) := (hb'.cell (by simp only; omega)).trans u2
          have f9 : w'.frozen? ⟨g, 2, none⟩ = false := (hb'.frozen (by simp only; omega)).trans HS8.out.cells.2.2.2.2.1
          clear ho' hb' hk'
          have HLA : Hid ((vs ++ [(cn, ct, nn)]).length = n + 1) := by rw [List.length_append, HLN.out ()]; rfl
          generalize hVS : vs ++ [(cn, ct, nn)] = vs' at *
          clear hVS
          (refine hK.out _ _ trivial (fun hHeld => ?_); clear hK K; try simp only [Act.put, List.setIfInBounds_toArray, List.set_cons_zero, List.set_cons_succ])
          (refine tk6 (v := ?_) (by kernel_rfl) (by kernel_rfl) (by kernel_rfl) (fun _ _ _ h => h) (Or.inl ⟨by rfl, ?_⟩) (by assumption) ?_; rotate_left; (focus (intro w hSw; (try dsimp only at hSw); go_simp; (try first | (rw [dif_pos (by omega)]; simp only [Result.andThen_ok]) | rw [if_pos (by omega)]); (try with_reducible rfl); done)); try simp only [Act.put, List.setIfInBounds_toArray, List.set_cons_zero, List.set_cons_succ])
          (refine wpAnyH_ready (rs := [7]) (by kernel_rfl) (by simp) ?_; refine ar7 (fun K hK => ?_) AllReadyH.nil; go_simp)
          (refine hK.out _ _ trivial (fun hHeld => ?_); clear hK K; try simp only [Act.put, List.setIfInBounds_toArray, List.set_cons_zero, List.set_cons_succ])
          refine wpAnyH_done (by kernel_rfl) ?_ _
          go_wp2
          go_roundw
          case rel => exact ⟨n + 1, q', _, vs', HLA.out, by omega, by go_num, by have := HNQ.out; omega, hqs', HS9.out, HN.out⟩
          case measure => simp [intOf]; omega
        · (refine hK.out _ _ trivial (fun hHeld => ?_); clear hK K; try simp only [Act.put, List.setIfInBounds_toArray, List.set_cons_zero, List.set_cons_succ])
          (refine wpAnyH_ready (rs := [1]) (by kernel_rfl) (by simp) ?_; refine ar1 (fun K hK => ?_) AllReadyH.nil; go_simp)
          (refine hK.out _ _ trivial (fun hHeld => ?_); clear hK K; try simp only [Act.put, List.setIfInBounds_toArray, List.set_cons_zero, List.set_cons_succ])
          (refine wpAnyH_ready (rs := [5]) (by kernel_rfl) (by simp) ?_; refine ar5 (fun K hK => ?_) AllReadyH.nil; rw [if_pos (by rfl)])
          refine app_col_wp _ _ (by rfl) (g + 1) _ vs (cn, ct, nn) HS8.out.oc (by rfl) w8.heap.size rfl (by rfl) (by have := HVL.out; omega) (by omega) ?_
          intro v' w' ho' hb' hk'
          obtain ⟨a', c', rfl⟩ := ho'.isSlice
          have HS9 : Hid (TbS w w3.heap.size g d tx x (w'.setCell ⟨g, 2, none⟩ (.slice a' (vs ++ [(cn, ct, nn)]).length c')) q' (.slice a' (vs ++ [(cn, ct, nn)]).length c') (vs ++ [(cn, ct, nn)]) (.slice none 0 0) []) := HS8.out.colPut ho' hb' hk'
          have k9 : w'.cell? ⟨g, 2, none⟩ = some (.slice va vs.length vc2) := (hb'.cell (by simp only; omega)).trans u2
          have f9 : w'.frozen? ⟨g, 2, none⟩ = false := (hb'.frozen (by simp only; omega)).trans HS8.out.cells.2.2.2.2.1
          clear ho' hb' hk'
          have HLA : Hid ((vs ++ [(cn, ct, nn)]).length = n + 1) := by rw [List.length_append, HLN.out ()]; rfl
          generalize hVS : vs ++ [(cn, ct, nn)] = vs' at *
          clear hVS
          (refine hK.out _ _ trivial (fun hHeld => ?_); clear hK K; try simp only [Act.put, List.setIfInBounds_toArray, List.set_cons_zero, List.set_cons_succ])
          (refine tk6 (v := ?_) (by kernel_rfl) (by kernel_rfl) (by kernel_rfl) (fun _ _ _ h => h) (Or.inl ⟨by rfl, ?_⟩) (by assumption) ?_; rotate_left; (focus (intro w hSw; (try dsimp only at hSw); go_simp; (try first | (rw [dif_pos (by omega)]; simp only [Result.andThen_ok]) | rw [if_pos (by omega)]); (try with_reducible rfl); done)); try simp only [Act.put, List.setIfInBounds_toArray, List.set_cons_zero, List.set_cons_succ])
          (refine wpAnyH_ready (rs := [7]) (by kernel_rfl) (by simp) ?_; refine ar7 (fun K hK => ?_) AllReadyH.nil; go_simp)
          (refine hK.out _ _ trivial (fun hHeld => ?_); clear hK K; try simp only [Act.put, List.setIfInBounds_toArray, List.set_cons_zero, List.set_cons_succ])
          refine wpAnyH_done (by kernel_rfl) ?_ _
          go_wp2
          go_roundw
          case rel => exact ⟨n + 1, q', _, vs', HLA.out, by omega, by go_num, by have := HNQ.out; omega, hqs', HS9.out, HN.out⟩
          case measure => simp [intOf]; omega
    have hEQ : (n : Int) = (mc : Int) := by omega
    have hdn := HATr.out.done (by rw [hln]; exact hEQ)
    clear hln HLN hEQ
    obtain ⟨ca, cc, rfl⟩ := HSr.out.oc.isSlice
    obtain ⟨cs, hcs⟩ : ∃ cs, cs = vs := ⟨_, rfl⟩
    subst hcs
    by_cases he : (rU d (q : Int)).2.2 = 0
    case neg =>
      have HY : Hid (∀ nm num cs ks, ¬ Yt nm num cs ks k d) := fun nm num cs ks y => he (hdn.1 nm num cs ks y)
      have HC : Hid (∀ W, Rp W w3.heap.size d (q : Int) → _) := fun W h => nu_no hd hqs he W h
      clear hdn he
      go_wp2_with fail
      refine (HC.out _ HSr.out.rd).mono ?_
      rintro e w8 ⟨rfl, hf⟩
      exact ⟨rfl, RdT.no (HSr.out.bel.trans (hf.toBelow.mono (by omega))) HY.out⟩
    obtain ⟨mk, q4, hz, hqq, hq4s, hmk⟩ := nu_place he
    have HAK : Hid (AtK k d tx x cs (mk : Int) [] q4) := hdn.2 mk q4 hz
    have HC : Hid (∀ W, Rp W w3.heap.size d (q : Int) → _) := fun W h => nu_yes hd hqs hz W h
    clear hdn he hz
    have HCL : Hid (cs.length ≤ 512) := HVL.out
    go_wp2_with fail
    refine (HC.out _ HSr.out.rd).mono ?_
    rintro e w9 ⟨rfl, hr, hf⟩
    have HS9 : Hid (TbS w w3.heap.size g d tx x w9 q4 (.slice ca cs.length cc) cs (.slice none 0 0) []) := HSr.out.read hf hr
    clear hf hr HC HSr HATr hn hlt hnq hqs HVL HNQ
    go_wp2_with fail
    go_loopw [50] (fun y wr => ∃ (n q : Nat) (v : Value) (vs : List Int), vs.length = n ∧ (n : Int) ≤ (mk : Int) ∧ y = .int .u64 (n : Int) ∧ n ≤ q ∧ q ≤ d.size ∧ TbS w w3.heap.size g d tx x wr q (.slice ca cs.length cc) cs v vs ∧ AtK k d tx x cs (mk : Int) vs q) (fun y _ => mk - (intOf y).toNat)
    case atStart => exact ⟨0, q4, .slice none 0 0, [], rfl, by omega, rfl, by omega, hq4s, HS9.out, HAK.out⟩
    case round =>
      obtain ⟨n, q, v, vs, hln, hn, rfl, hnq, hqs, hS, hat⟩ := hrel
      have HSr : Hid (TbS w w3.heap.size g d tx x wr q (.slice ca cs.length cc) cs v vs) := hS
      have HATr : Hid (AtK k d tx x cs (mk : Int) vs q) := hat
      have HLN : Hid (∀ _ : Unit, vs.length = n) := fun _ => hln
      have hvl : vs.length ≤ 512 := by omega
      have HVL : Hid (vs.length ≤ 512) := hvl
      have HNQ : Hid (n ≤ q) := hnq
      clear hS hat hvl HS9 HAK
      by_cases hlt : (n : Int) < (mk : Int)
      case pos =>
        have hnx := HATr.out.next (by rw [hln]; exact hlt)
        clear hln
        by_cases he : (rU d q).2.2 = 0
        case neg =>
          have HY : Hid (∀ nm num cs ks, ¬ Yt nm num cs ks k d) := fun nm num cs ks y => he (hnx.1 nm num cs ks y)
          have HC : Hid (∀ W, Rp W w3.heap.size d (q : Int) → _) := fun W h => nu_no hd hqs he W h
          clear hnx he
          obtain ⟨va, vc2, rfl⟩ := HSr.out.on.isSlice
          have HSd : Hid (TbS w w3.heap.size g d tx x wr.drew q (.slice ca cs.length cc) cs (.slice va vs.length vc2) vs) := HSr.out.drew
          obtain ⟨_, _, t2, t3, _, _⟩ := HSd.out.cells
          go_wp2_with fail
          (refine wp_region_held_drew (S := (fun _ => True)) (by kernel_rfl) trivial (fun hHeld => ?_); simp only [List.size_toArray, List.length_cons, List.length_nil, Nat.reduceAdd, Array.replicate_succ, Array.replicate_zero, List.push_toArray, List.append_toArray, List.nil_append, List.cons_append])
          (refine tk0 (v := ?_) (by kernel_rfl) (by kernel_rfl) (by kernel_rfl) (fun _ _ _ h => h) (Or.inl ⟨by rfl, ?_⟩) (by assumption) ?_; rotate_left; (focus (intro w hSw; (try dsimp only at hSw); go_simp; (try first | (rw [dif_pos (by omega)]; simp only [Result.andThen_ok]) | rw [if_pos (by omega)]); (try with_reducible rfl); done)); try simp only [Act.put, List.setIfInBounds_toArray, List.set_cons_zero, List.set_cons_succ])
          (refine tk2 (v := ?_) (by kernel_rfl) (by kernel_rfl) (by kernel_rfl) (fun _ _ _ h => h) (Or.inl ⟨by rfl, ?_⟩) (by assumption) ?_; rotate_left; (focus (intro w hSw; (try dsimp only at hSw); go_simp; (try first | (rw [dif_pos (by omega)]; simp only [Result.andThen_ok]) | rw [if_pos (by omega)]); (try with_reducible rfl); done)); try simp only [Act.put, List.setIfInBounds_toArray, List.set_cons_zero, List.set_cons_succ])
          (refine wpAnyH_ready (rs := [1, 3]) (by kernel_rfl) (by simp) ?_; refine ar1 (fun K hK => ?_) (ar3 (fun K hK => ?_) AllReadyH.nil) <;> go_simp)
          · (refine hK.out _ _ trivial (fun hHeld => ?_); clear hK K; try simp only [Act.put, List.setIfInBounds_toArray, List.set_cons_zero, List.set_cons_succ])
            (refine wpAnyH_ready (rs := [3]) (by kernel_rfl) (by simp) ?_; refine ar3 (fun K hK => ?_) AllReadyH.nil; go_simp)
            refine (HC.out _ HSd.out.rd).mono ?_
            rintro e w8 ⟨rfl, hf⟩
            exact ⟨rfl, RdT.no (HSd.out.bel.trans (hf.toBelow.mono (by omega))) HY.out⟩
          · refine (HC.out _ HSd.out.rd).mono ?_
            rintro e w8 ⟨rfl, hf⟩
            exact ⟨rfl, RdT.no (HSd.out.bel.trans (hf.toBelow.mono (by omega))) HY.out⟩
        obtain ⟨z, q', hz, hqq, hqs', hzb⟩ := nu_place he
        obtain ⟨c, hcz⟩ : ∃ c, i64of z = c := ⟨_, rfl⟩
        have HN : Hid (AtK k d tx x cs (mk : Int) (vs ++ [c]) q') := hnx.2 z q' c hz (fun h => by rw [← hcz]; exact i64of_small h)
        have HC : Hid (∀ W, Rp W w3.heap.size d (q : Int) → _) := fun W h => nu_yes hd hqs hz W h
        have hcw : IntKind.i64.wrap (z : Int) = c := hcz
        clear hnx he hz hcz
        obtain ⟨va, vc2, rfl⟩ := HSr.out.on.isSlice
        have HSd : Hid (TbS w w3.heap.size g d tx x wr.drew q (.slice ca cs.length cc) cs (.slice va vs.length vc2) vs) := HSr.out.drew
        obtain ⟨_, _, t2, t3, _, _⟩ := HSd.out.cells
        go_wp2_with fail
        (refine wp_region_held_drew (S := (fun _ => True)) (by kernel_rfl) trivial (fun hHeld => ?_); simp only [List.size_toArray, List.length_cons, List.length_nil, Nat.reduceAdd, Array.replicate_succ, Array.replicate_zero, List.push_toArray, List.append_toArray, List.nil_append, List.cons_append])
        (refine tk0 (v := ?_) (by kernel_rfl) (by kernel_rfl) (by kernel_rfl) (fun _ _ _ h => h) (Or.inl ⟨by rfl, ?_⟩) (by assumption) ?_; rotate_left; (focus (intro w hSw; (try dsimp only at hSw); go_simp; (try first | (rw [dif_pos (by omega)]; simp only [Result.andThen_ok]) | rw [if_pos (by omega)]); (try with_reducible rfl); done)); try simp only [Act.put, List.setIfInBounds_toArray, List.set_cons_zero, List.set_cons_succ])
        (refine tk2 (v := ?_) (by kernel_rfl) (by kernel_rfl) (by kernel_rfl) (fun _ _ _ h => h) (Or.inl ⟨by rfl, ?_⟩) (by assumption) ?_; rotate_left; (focus (intro w hSw; (try dsimp only at hSw); go_simp; (try first | (rw [dif_pos (by omega)]; simp only [Result.andThen_ok]) | rw [if_pos (by omega)]); (try with_reducible rfl); done)); try simp only [Act.put, List.setIfInBounds_toArray, List.set_cons_zero, List.set_cons_succ])
        (refine wpAnyH_ready (rs := [1, 3]) (by kernel_rfl) (by simp) ?_; refine ar1 (fun K hK => ?_) (ar3 (fun K hK => ?_) AllReadyH.nil) <;> go_simp)
        · (refine hK.out _ _ trivial (fun hHeld => ?_); clear hK K; try simp only [Act.put, List.setIfInBounds_toArray, List.set_cons_zero, List.set_cons_succ])
          (refine wpAnyH_ready (rs := [3]) (by kernel_rfl) (by simp) ?_; refine ar3 (fun K hK => ?_) AllReadyH.nil; go_simp)
          refine (HC.out _ HSd.out.rd).mono ?_
          rintro e w8 ⟨rfl, hr, hf⟩
          have HS8 : Hid (TbS w w3.heap.size g d tx x w8 q' (.slice ca cs.length cc) cs (.slice va vs.length vc2) vs) := HSd.out.read hf hr
          clear hf hr
          obtain ⟨_, _, u2, u3, _, _⟩ := HS8.out.cells
          have hgw : g < w8.heap.size := HS8.out.lt
          (refine hK.out _ _ trivial (fun hHeld => ?_); clear hK K; try simp only [Act.put, List.setIfInBounds_toArray, List.set_cons_zero, List.set_cons_succ])
          (refine tk4 (v := ?_) (by kernel_rfl) (by kernel_rfl) (by kernel_rfl) (fun _ _ _ h => h) (Or.inl ⟨by rfl, ?_⟩) (by assumption) ?_; rotate_left; (focus (intro w hSw; (try dsimp only at hSw); go_simp; (try first | (rw [dif_pos (by omega)]; simp only [Result.andThen_ok]) | rw [if_pos (by omega)]); (try with_reducible rfl); done)); try simp only [Act.put, List.setIfInBounds_toArray, List.set_cons_zero, List.set_cons_succ])
          (refine wpAnyH_ready (rs := [5]) (by kernel_rfl) (by simp) ?_; refine ar5 (fun K hK => ?_) AllReadyH.nil; go_simp)
          (refine hK.out _ _ trivial (fun hHeld => ?_); clear hK K; try simp only [Act.put, List.setIfInBounds_toArray, List.set_cons_zero, List.set_cons_succ])
          (refine wpAnyH_ready (rs := [6]) (by kernel_rfl) (by simp) ?_; refine ar6 (fun K hK => ?_) AllReadyH.nil; rw [if_pos (by rfl)])
          refine app_int_wp _ _ (by rfl) (g + 1) _ vs c HS8.out.on (by rfl) w8.heap.size rfl (by rfl) (by have := HVL.out; omega) (by omega) ?_
          intro v' w' ho' hb' hk'
          obtain ⟨a', c', rfl⟩ := ho'.isSlice
          have HS9 : Hid (TbS w w3.heap.size g d tx x (w'.setCell ⟨g, 3, none⟩ (.slice a' (vs ++ [c]).length c')) q' (.slice ca cs.length cc) cs (.slice a' (vs ++ [c]).length c') (vs ++ [c])) := HS8.out.keyPut ho' hb' hk'
          have k9 : w'.cell? ⟨g, 3, none⟩ = some (.slice va vs.length vc2) := (hb'.cell (by simp only; omega)).trans u3
          have f9 : w'.frozen? ⟨g, 3, none⟩ = false := (hb'.frozen (by simp only; omega)).trans HS8.out.cells.2.2.2.2.2
          clear ho' hb' hk'
          have HLA : Hid ((vs ++ [c]).length = n + 1) := by rw [List.length_append, HLN.out ()]; rfl
          generalize hVS : vs ++ [c] = vs' at *
          clear hVS
          (refine hK.out _ _ trivial (fun hHeld => ?_); clear hK K; try simp only [Act.put, List.setIfInBounds_toArray, List.set_cons_zero, List.set_cons_succ])
          (refine tk7 (v := ?_) (by kernel_rfl) (by kernel_rfl) (by kernel_rfl) (fun _ _ _ h => h) (Or.inl ⟨by rfl, ?_⟩) (by assumption) ?_; rotate_left; (focus (intro w hSw; (try dsimp only at hSw); go_simp; (try first | (rw [dif_pos (by omega)]; simp only [Result.andThen_ok]) | rw [if_pos (by omega)]); (try with_reducible rfl); done)); try simp only [Act.put, List.setIfInBounds_toArray, List.set_cons_zero, List.set_cons_succ])
          (refine wpAnyH_ready (rs := [8]) (by kernel_rfl) (by simp) ?_; refine ar8 (fun K hK => ?_) AllReadyH.nil; go_simp)
          (refine hK.out _ _ trivial (fun hHeld => ?_); clear hK K; try simp only [Act.put, List.setIfInBounds_toArray, List.set_cons_zero, List.set_cons_succ])
          refine wpAnyH_done (by kernel_rfl) ?_ _
          go_wp2
          go_roundw
          case rel => exact ⟨n + 1, q', _, vs', HLA.out, by omega, by go_num, by have := HNQ.out; omega, hqs', HS9.out, HN.out⟩
          case measure => simp [intOf]; omega
        · refine (HC.out _ HSd.out.rd).mono ?_
          rintro e w8 ⟨rfl, hr, hf⟩
          have HS8 : Hid (TbS w w3.heap.size g d tx x w8 q' (.slice ca cs.length cc) cs (.slice va vs.length vc2) vs) := HSd.out.read hf hr
          clear hf hr
          obtain ⟨_, _, u2, u3, _, _⟩ := HS8.out.cells
          have hgw : g < w8.heap.size := HS8.out.lt
          (refine hK.out _ _ trivial (fun hHeld => ?_); clear hK K; try simp only [Act.put, List.setIfInBounds_toArray, List.set_cons_zero, List.set_cons_succ])
          (refine tk4 (v := ?_) (by kernel_rfl) (by kernel_rfl) (by kernel_rfl) (fun _ _ _ h => h) (Or.inl ⟨by rfl, ?_⟩) (by assumption) ?_; rotate_left; (focus (intro w hSw; (try dsimp only at hSw); go_simp; (try first | (rw [dif_pos (by omega)]; simp only [Result.andThen_ok]) | rw [if_pos (by omega)]); (try with_reducible rfl); done)); try simp only [Act.put, List.setIfInBounds_toArray, List.set_cons_zero, List.set_cons_succ])
          (refine wpAnyH_ready (rs := [1, 5]) (by kernel_rfl) (by simp) ?_; refine ar1 (fun K hK => ?_) (ar5 (fun K hK => ?_) AllReadyH.nil) <;> go_simp)
          · (refine hK.out _ _ trivial (fun hHeld => ?_); clear hK K; try simp only [Act.put, List.setIfInBounds_toArray, List.set_cons_zero, List.set_cons_succ])
            (refine wpAnyH_ready (rs := [5]) (by kernel_rfl) (by simp) ?_; refine ar5 (fun K hK => ?_) AllReadyH.nil; go_simp)
            (refine hK.out _ _ trivial (fun hHeld => ?_); clear hK K; try simp only [Act.put, List.setIfInBounds_toArray, List.set_cons_zero, List.set_cons_succ])
            (refine wpAnyH_ready (rs := [6]) (by kernel_rfl) (by simp) ?_; refine ar6 (fun K hK => ?_) AllReadyH.nil; rw [if_pos (by rfl)])
            refine app_int_wp _ _ (by rfl) (g + 1) _ vs c HS8.out.on (by rfl) w8.heap.size rfl (by rfl) (by have := HVL.out; omega) (by omega) ?_
            intro v' w' ho' hb' hk'
            obtain ⟨a', c', rfl⟩ := ho'.isSlice
            have HS9 : Hid (TbS w w3.heap.size g d tx x (w'.setCell ⟨g, 3, none⟩ (.slice a' (vs ++ [c]).length c')) q' (.slice ca cs.length cc) cs (.slice a' (vs ++ [c]).length c') (vs ++ [c])) := HS8.out.keyPut ho' hb' hk'
            have k9 : w'.cell? ⟨g, 3, none⟩ = some (.slice va vs.length vc2) := (hb'.cell (by simp only; omega)).trans u3
            have f9 : w'.frozen? ⟨g, 3, none⟩ = false := (hb'.frozen (by simp only; omega)).trans HS8.out.cells.2.2.2.2.2
            clear ho' hb' hk'
            have HLA : Hid ((vs ++ [c]).length = n + 1) := by rw [List.length_append, HLN.out ()]; rfl
            generalize hVS : vs ++ [c] = vs' at *
            clear hVS
            (refine hK.out _ _ trivial (fun hHeld => ?_); clear hK K; try simp only [Act.put, List.setIfInBounds_toArray, List.set_cons_zero, List.set_cons_succ])
            (refine tk7 (v := ?_) (by kernel_rfl) (by kernel_rfl) (by kernel_rfl) (fun _ _ _ h => h) (Or.inl ⟨by rfl, ?_⟩) (by assumption) ?_; rotate_left; (focus (intro w hSw; (try dsimp only at hSw); go_simp; (try first | (rw [dif_pos (by omega)]; simp only [Result.andThen_ok]) | rw [if_pos (by omega)]); (try with_reducible rfl); done)); try simp only [Act.put, List.setIfInBounds_toArray, List.set_cons_zero, List.set_cons_succ])
            (refine wpAnyH_ready (rs := [8]) (by kernel_rfl) (by simp) ?_; refine ar8 (fun K hK => ?_) AllReadyH.nil; go_simp)
            (refine hK.out _ _ trivial (fun hHeld => ?_); clear hK K; try simp only [Act.put, List.setIfInBounds_toArray, List.set_cons_zero, List.set_cons_succ])
            refine wpAnyH_done (by kernel_rfl) ?_ _
            go_wp2
            go_roundw
            case rel => exact ⟨n + 1, q', _, vs', HLA.out, by omega, by go_num, by have := HNQ.out; omega, hqs', HS9.out, HN.out⟩
            case measure => simp [intOf]; omega
          · (refine hK.out _ _ trivial (fun hHeld => ?_); clear hK K; try simp only [Act.put, List.setIfInBounds_toArray, List.set_cons_zero, List.set_cons_succ])
            (refine wpAnyH_ready (rs := [1]) (by kernel_rfl) (by simp) ?_; refine ar1 (fun K hK => ?_) AllReadyH.nil; go_simp)
            (refine hK.out _ _ trivial (fun hHeld => ?_); clear hK K; try simp only [Act.put, List.setIfInBounds_toArray, List.set_cons_zero, List.set_cons_succ])
            (refine wpAnyH_ready (rs := [6]) (by kernel_rfl) (by simp) ?_; refine ar6 (fun K hK => ?_) AllReadyH.nil; rw [if_pos (by rfl)])
            refine app_int_wp _ _ (by rfl) (g + 1) _ vs c HS8.out.on (by rfl) w8.heap.size rfl (by rfl) (by have := HVL.out; omega) (by omega) ?_
            intro v' w' ho' hb' hk'
            obtain ⟨a', c', rfl⟩ := ho'.isSlice
            have HS9 : Hid (TbS w w3.heap.size g d tx x (w'.setCell ⟨g, 3, none⟩ (.slice a' (vs ++ [c]).length c')) q' (.slice ca cs.length cc) cs (.slice a' (vs ++ [c]).length c') (vs ++ [c])) := HS8.out.keyPut ho' hb' hk'
            have k9 : w'.cell? ⟨g, 3, none⟩ = some (.slice va vs.length vc2) := (hb'.cell (by simp only; omega)).trans u3
            have f9 : w'.frozen? ⟨g, 3, none⟩ = false := (hb'.frozen (by simp only; omega)).trans HS8.out.cells.2.2.2.2.2
            clear ho' hb' hk'
            have HLA : Hid ((vs ++ [c]).length = n + 1) := by rw [List.length_append, HLN.out ()]; rfl
            generalize hVS : vs ++ [c] = vs' at *
            clear hVS
            (refine hK.out _ _ trivial (fun hHeld => ?_); clear hK K; try simp only [Act.put, List.setIfInBounds_toArray, List.set_cons_zero, List.set_cons_succ])
            (refine tk7 (v := ?_) (by kernel_rfl) (by kernel_rfl) (by kernel_rfl) (fun _ _ _ h => h) (Or.inl ⟨by rfl, ?_⟩) (by assumption) ?_; rotate_left; (focus (intro w hSw; (try dsimp only at hSw); go_simp; (try first | (rw [dif_pos (by omega)]; simp only [Result.andThen_ok]) | rw [if_pos (by omega)]); (try with_reducible rfl); done)); try simp only [Act.put, List.setIfInBounds_toArray, List.set_cons_zero, List.set_cons_succ])
            (refine wpAnyH_ready (rs := [8]) (by kernel_rfl) (by simp) ?_; refine ar8 (fun K hK => ?_) AllReadyH.nil; go_simp)
            (refine hK.out _ _ trivial (fun hHeld => ?_); clear hK K; try simp only [Act.put, List.setIfInBounds_toArray, List.set_cons_zero, List.set_cons_succ])
            refine wpAnyH_done (by kernel_rfl) ?_ _
            go_wp2
            go_roundw
            case rel => exact ⟨n + 1, q', _, vs', HLA.out, by omega, by go_num, by have := HNQ.out; omega, hqs', HS9.out, HN.out⟩
            case measure => simp [intOf]; omega
      have hEQ : (n : Int) = (mk : Int) := by omega
      have HDN : Hid (∀ nm num cs' ks', Yt nm num cs' ks' k d → nm = tx ∧ num = x ∧ cs' = cs ∧ ks' = vs) := HATr.out.done (by rw [hln]; exact hEQ)
      clear hln HLN hEQ
      obtain ⟨va, vc2, rfl⟩ := HSr.out.on.isSlice
      obtain ⟨t0, t1, t2, t3, _, _⟩ := HSr.out.cells
      have hz := HSr.out.z
      have z0 : wr.cell? ⟨w.heap.size + 1, 0, none⟩ = some (.string ⟨#[]⟩) := by unfold World.cell?; rw [hz]; rfl
      have z1 : wr.cell? ⟨w.heap.size + 1, 1, none⟩ = some (.int .i64 0) := by unfold World.cell?; rw [hz]; rfl
      have z2 : wr.cell? ⟨w.heap.size + 1, 2, none⟩ = some (.slice none 0 0) := by unfold World.cell?; rw [hz]; rfl
      have z3 : wr.cell? ⟨w.heap.size + 1, 3, none⟩ = some (.slice none 0 0) := by unfold World.cell?; rw [hz]; rfl
      have fz : ∀ j, wr.frozen? ⟨w.heap.size + 1, j, none⟩ = false := fun j => by unfold World.frozen?; rw [hz]; rfl
      have fz0 := fz 0
      have fz1 := fz 1
      have fz2 := fz 2
      have fz3 := fz 3
      have HBZ : Hid (Below w.heap.size w ((((wr.setCell ⟨w.heap.size + 1, 0, none⟩ (.string tx)).setCell ⟨w.heap.size + 1, 1, none⟩ (.int .i64 x)).setCell ⟨w.heap.size + 1, 2, none⟩ (.slice ca cs.length cc)).setCell ⟨w.heap.size + 1, 3, none⟩ (.slice va vs.length vc2))) := (((HSr.out.bel.setCell (by simp only; omega) _).setCell (by simp only; omega) _).setCell (by simp only; omega) _).setCell (by simp only; omega) _
      have HHZ : Hid (((((wr.setCell ⟨w.heap.size + 1, 0, none⟩ (.string tx)).setCell ⟨w.heap.size + 1, 1, none⟩ (.int .i64 x)).setCell ⟨w.heap.size + 1, 2, none⟩ (.slice ca cs.length cc)).setCell ⟨w.heap.size + 1, 3, none⟩ (.slice va vs.length vc2)).heap[w.heap.size + 1]? = some (.cells #[.string tx, .int .i64 x, .slice ca cs.length cc, .slice va vs.length vc2] 25)) := heap_set (heap_set (heap_set (heap_set hz _) _) _) _
      have h1g := HSr.out.hR
      have h2g := HSr.out.hg
      have HOC : Hid (ownC ((((wr.setCell ⟨w.heap.size + 1, 0, none⟩ (.string tx)).setCell ⟨w.heap.size + 1, 1, none⟩ (.int .i64 x)).setCell ⟨w.heap.size + 1, 2, none⟩ (.slice ca cs.length cc)).setCell ⟨w.heap.size + 1, 3, none⟩ (.slice va vs.length vc2)) (g + 1) (.slice ca cs.length cc) cs) := HSr.out.oc.keep fun b hb => by
        have hne : w.heap.size + 1 ≠ b := by have := (HSr.out.oc.own b hb).1; omega
        exact (heap_off hne _).trans ((heap_off hne _).trans ((heap_off hne _).trans (heap_off hne _)))
      have HON : Hid (ownN ((((wr.setCell ⟨w.heap.size + 1, 0, none⟩ (.string tx)).setCell ⟨w.heap.size + 1, 1, none⟩ (.int .i64 x)).setCell ⟨w.heap.size + 1, 2, none⟩ (.slice ca cs.length cc)).setCell ⟨w.heap.size + 1, 3, none⟩ (.slice va vs.length vc2)) (g + 1) (.slice va vs.length vc2) vs) := HSr.out.on.keep fun b hb => by
        have hne : w.heap.size + 1 ≠ b := by have := (HSr.out.on.own b hb).1; omega
        exact (heap_off hne _).trans ((heap_off hne _).trans ((heap_off hne _).trans (heap_off hne _)))
      have hgs : w.heap.size ≤ g + 1 := by omega
      clear hz h1g h2g
      go_wp2
      refine bodyPost_ret (results_cell_row (p := 2) (ty := 25) rfl _ _ (w.heap.size + 1) 25 _ (0, 0) _ rfl HHZ.out Tryz.underlying25 rfl (by kernel_rfl)) rfl ⟨HBZ.out, .inr ⟨tx, x, _, _, cs, vs, rfl, HOC.out.down hgs, HON.out.down hgs, HCL.out, HVL.out, hxb.1, hxb.2, HDN.out⟩⟩
end Go.Proofs.YtjcffcpmegpjeaaGreatDoor
