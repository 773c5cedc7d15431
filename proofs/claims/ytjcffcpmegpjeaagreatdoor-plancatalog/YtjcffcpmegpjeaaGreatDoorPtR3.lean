import Derived.Test.YtjcffcpmegpjeaaGreatDoorPtR2
namespace Go.Proofs.YtjcffcpmegpjeaaGreatDoor
set_option linter.unusedSimpArgs false
open Go.ChangeShapes Go.WideShapes Go.ChangeAt Go.RowKit
set_option linter.unusedVariables false
set_option maxRecDepth 100000
/-- What is kept of the pair's block, of the result's and of the empty table's. -/
structure DNS (w W : World) (k d : ByteArray) : Prop where
  dq : DQS w W k d
  no : W.heap[w.heap.size + 2]? = some (.cells #[.string ⟨#[]⟩, .int .i64 0, .slice none 0 0, .slice none 0 0] 25)
theorem DNS.lt {w W : World} {k d : ByteArray} (h : DNS w W k d) : w.heap.size + 2 < W.heap.size := (Array.getElem?_eq_some_iff.1 h.no).1
theorem DNS.later {w W W' : World} {k d : ByteArray} (h : DNS w W k d) (hb : Below W.heap.size W W') : DNS w W' k d :=
  ⟨h.dq.later hb h.dq.size, (hb.block _ h.lt).trans h.no⟩
theorem DNS.drew {w W : World} {k d : ByteArray} (h : DNS w W k d) : DNS w W.drew k d := ⟨⟨h.dq.below.drew, h.dq.pair, h.dq.z, h.dq.size⟩, h.no⟩
theorem DNS.ncells {w W : World} {k d : ByteArray} (h : DNS w W k d) : W.cell? ⟨w.heap.size + 2, 0, none⟩ = some (.string ⟨#[]⟩) ∧ W.cell? ⟨w.heap.size + 2, 1, none⟩ = some (.int .i64 0) ∧ W.cell? ⟨w.heap.size + 2, 2, none⟩ = some (.slice none 0 0) ∧ W.cell? ⟨w.heap.size + 2, 3, none⟩ = some (.slice none 0 0) := by
  have h1 := h.no
  unfold World.cell?
  rw [h1]
  exact ⟨rfl, rfl, rfl, rfl⟩
theorem DNS.new (w : World) (k d : ByteArray) : DNS w (((w.alloc (.cells #[.string k, .string d] 28)).alloc (.cells #[.string ⟨#[]⟩, .int .i64 0, .slice none 0 0, .slice none 0 0] 25)).alloc (.cells #[.string ⟨#[]⟩, .int .i64 0, .slice none 0 0, .slice none 0 0] 25)) k d := by
  have h := DQS.new w k d
  have s1 := szAl w (.cells #[.string k, .string d] 28)
  have s2 := szAl (w.alloc (.cells #[.string k, .string d] 28)) (.cells #[.string ⟨#[]⟩, .int .i64 0, .slice none 0 0, .slice none 0 0] 25)
  refine ⟨h.later ((Below.refl _ _).alloc (Nat.le_refl _) _) h.size, ?_⟩
  have := heap_new ((w.alloc (.cells #[.string k, .string d] 28)).alloc (.cells #[.string ⟨#[]⟩, .int .i64 0, .slice none 0 0, .slice none 0 0] 25)) (.cells #[.string ⟨#[]⟩, .int .i64 0, .slice none 0 0, .slice none 0 0] 25)
  rw [s2, s1] at this
  exact this
theorem tab_cells {W : World} {g : Nat} {nm : ByteArray} {num : Int} {cv kv : Value} (h : W.heap[g]? = some (.cells #[.string nm, .int .i64 num, cv, kv] 25)) : W.cell? ⟨g, 0, none⟩ = some (.string nm) ∧ W.cell? ⟨g, 1, none⟩ = some (.int .i64 num) ∧ W.cell? ⟨g, 2, none⟩ = some cv ∧ W.cell? ⟨g, 3, none⟩ = some kv := by
  unfold World.cell?
  rw [h]
  exact ⟨rfl, rfl, rfl, rfl⟩
theorem tab_free {W : World} {g : Nat} {c : Array Value} (h : W.heap[g]? = some (.cells c 25)) (j : Nat) : W.frozen? ⟨g, j, none⟩ = false := by
  unfold World.frozen?
  rw [h]
  rfl
theorem no_keyR {k d : ByteArray} (h : (rkL k 0).2.2 ≠ 0 ∨ (rkL k 0).1.length ≠ 2) : ∀ nm num cs ks, ¬ Yt nm num cs ks k d := by
  intro nm num cs ks y
  have e := y.key_read
  rw [e] at h
  rcases h with h | h
  · exact h rfl
  · exact h rfl
theorem DNS.setT {w W : World} {k d : ByteArray} {g : Nat} (h : DNS w W k d) (hg : w.heap.size + 2 < g) (a b c e : Value) : DNS w ((((W.setCell ⟨g, 0, none⟩ a).setCell ⟨g, 1, none⟩ b).setCell ⟨g, 2, none⟩ c).setCell ⟨g, 3, none⟩ e) k d ∧ (∀ p : Addr, p.block ≠ g → ((((W.setCell ⟨g, 0, none⟩ a).setCell ⟨g, 1, none⟩ b).setCell ⟨g, 2, none⟩ c).setCell ⟨g, 3, none⟩ e).cell? p = W.cell? p) := by
  have e0 : ∀ j, j ≠ g → ((((W.setCell ⟨g, 0, none⟩ a).setCell ⟨g, 1, none⟩ b).setCell ⟨g, 2, none⟩ c).setCell ⟨g, 3, none⟩ e).heap[j]? = W.heap[j]? := fun j hj => (heap_off hj.symm _).trans ((heap_off hj.symm _).trans ((heap_off hj.symm _).trans (heap_off hj.symm _)))
  have hb : Below w.heap.size w ((((W.setCell ⟨g, 0, none⟩ a).setCell ⟨g, 1, none⟩ b).setCell ⟨g, 2, none⟩ c).setCell ⟨g, 3, none⟩ e) := (((h.dq.below.setCell (by simp only; omega) _).setCell (by simp only; omega) _).setCell (by simp only; omega) _).setCell (by simp only; omega) _
  have hn : ((((W.setCell ⟨g, 0, none⟩ a).setCell ⟨g, 1, none⟩ b).setCell ⟨g, 2, none⟩ c).setCell ⟨g, 3, none⟩ e).heap[w.heap.size + 2]? = some (.cells #[.string ⟨#[]⟩, .int .i64 0, .slice none 0 0, .slice none 0 0] 25) := (e0 _ (by omega)).trans h.no
  refine ⟨⟨⟨hb, (e0 _ (by omega)).trans h.dq.pair, (e0 _ (by omega)).trans h.dq.z, ?_⟩, hn⟩, fun p hp => ?_⟩
  · have := (Array.getElem?_eq_some_iff.1 hn).1; omega
  · unfold World.cell?
    rw [e0 _ hp]
set_option maxHeartbeats 8000000 in
theorem DecTabR (k d : ByteArray) (w : World) (hk : k.size ≤ 1125899906842624) (hdz : d.size ≤ 140737488355328) : Calls Tryz.prog 17 #[pairV k d] w (DcT (.int .i64 0) (.int .i64 169) w k d) := by
  have HN : Hid (DNS w _ k d) := DNS.new w k d
  unfold pairV
  obtain ⟨c0, c1, _⟩ := HN.out.dq.cells
  go_enter Tryz.func17, Tryz.ntmps17
  go_wp2_with fail
  refine (refKey k _ hk).mono ?_
  generalize ((w.alloc (.cells #[.string k, .string d] 28)).alloc (.cells #[.string ⟨#[]⟩, .int .i64 0, .slice none 0 0, .slice none 0 0] 25)).alloc (.cells #[.string ⟨#[]⟩, .int .i64 0, .slice none 0 0, .slice none 0 0] 25) = W2 at *
  rintro e w3 ⟨⟨h0, h1⟩, hb3⟩
  have HN3 : Hid (DNS w w3 k d) := HN.out.later hb3
  by_cases hc : (rkL k 0).2.2 = 0
  case neg =>
    have he := h1 hc
    subst he
    have HY : Hid (∀ nm num cs ks, ¬ Yt nm num cs ks k d) := no_keyR (.inl hc)
    have hcb : ((rkL k 0).2.2 != 0) = true := by simp [hc]
    clear h0 h1 hb3 HN hc c0 c1
    generalize (rkL k 0).2.2 = c at *
    obtain ⟨_, _, z0, z1, z2, z3, f0, f1, f2, f3⟩ := HN3.out.dq.cells
    obtain ⟨n0, n1, n2, n3⟩ := HN3.out.ncells
    obtain ⟨p1, p2, _⟩ := HN3.out.dq.put ⟨#[]⟩ 0 (.slice none 0 0) (.slice none 0 0)
    have HP1 : Hid _ := p1
    have HP2 : Hid _ := p2
    clear p1 p2
    go_wp2
    exact bodyPost_ret (res_row_tmp (p := 2) (ty := 25) (q := 3) rfl _ _ (w.heap.size + 1) 25 _ (0, 0) _ rfl HP2.out Tryz.underlying25 rfl (by kernel_rfl)) rfl ⟨HP1.out, .inl ⟨rfl, HY.out⟩⟩
  obtain ⟨v, rfl, hown⟩ := h0 hc
  obtain ⟨va, vn, vc, rfl⟩ := hown.form
  have hvn : vn = (rkL k 0).1.length := by
    rcases hown.2 with ⟨h', h''⟩ | ⟨g', cap', cur, h', _⟩
    · injection h' with h1 h2 h3
      omega
    · injection h' with h1 h2 h3
  have HO : Hid (ownV w3 W2.heap.size (.slice va vn vc) (rkL k 0).1) := hown
  have HNO : Hid ((rkL k 0).1.length ≠ 2 → ∀ nm num cs ks, ¬ Yt nm num cs ks k d) := fun h => no_keyR (.inr h)
  have HKR : Hid (∀ nm num cs ks, Yt nm num cs ks k d → (rkL k 0).1 = catV nm) := fun nm num cs ks y => by rw [y.key_read]
  clear h0 h1 hb3 HN hown hc c0 c1
  generalize (rkL k 0).1 = vs at *
  subst hvn
  by_cases hv : vs.length = 2
  case neg =>
    have HY : Hid (∀ nm num cs ks, ¬ Yt nm num cs ks k d) := HNO.out hv
    have hvb : ((vs.length : Int) != 2) = true := by simp; omega
    clear HO HKR HNO
    generalize vs.length = n at *
    clear hv
    obtain ⟨_, _, z0, z1, z2, z3, f0, f1, f2, f3⟩ := HN3.out.dq.cells
    obtain ⟨n0, n1, n2, n3⟩ := HN3.out.ncells
    obtain ⟨p1, p2, _⟩ := HN3.out.dq.put ⟨#[]⟩ 0 (.slice none 0 0) (.slice none 0 0)
    have HP1 : Hid _ := p1
    have HP2 : Hid _ := p2
    clear p1 p2
    go_wp2
    exact bodyPost_ret (res_row_tmp (p := 2) (ty := 25) (q := 3) rfl _ _ (w.heap.size + 1) 25 _ (0, 0) _ rfl HP2.out Tryz.underlying25 rfl (by kernel_rfl)) rfl ⟨HP1.out, .inl ⟨rfl, HY.out⟩⟩
  clear HNO
  obtain ⟨b, off, rfl, x0, x1, x2⟩ := (HO.out.seesAll (by omega)).cell 1 (by omega)
  have HNM : Hid (∀ nm' num' cs' ks', Yt nm' num' cs' ks' k d → nm' = (vs[1]'(by omega)).2.2) := by
    intro nm' num' cs' ks' y
    have e := HKR.out _ _ _ _ y
    subst e
    rfl
  have hbl : b < w3.heap.size := World.block_lt_of_cell? _ _ x2
  generalize (vs[1]'(by omega)).2.2 = nm at *
  have x3 : w3.cell? ⟨b, off + 1 * 3 + 2, none⟩ = some (.string nm) := x2
  rw [show off + 1 * 3 + 2 = off + 3 + 2 from rfl] at x3
  clear x0 x1 x2 HO HKR
  generalize vs.length = n at *
  subst hv
  have HPA : Hid (∀ W, Calls Tryz.prog 35 #[.string nm, .string d] W (PaT W nm k d)) := fun W => parseR nm k d W hdz HNM.out
  obtain ⟨_, c1, _⟩ := HN3.out.dq.cells
  go_wp2_with fail
  (refine wp_region_held_drew (S := (fun w' => w'.cell? ⟨b, off + 3 + 2, none⟩ = some (.string nm) ∧ w'.cell? ⟨w.heap.size, 1, none⟩ = some (.string d))) (by kernel_rfl) ⟨x3, c1⟩ (fun hHeld => ?_); simp only [List.size_toArray, List.length_cons, List.length_nil, Nat.reduceAdd, Array.replicate_succ, Array.replicate_zero, List.push_toArray, List.append_toArray, List.nil_append, List.cons_append])
  have HN5 : Hid (DNS w w3.drew k d) := HN3.out.drew
  have hb5 : b < w3.drew.heap.size := hbl
  clear HN3 x3 c1 hbl HNM
  generalize w3.drew = W5 at *
  have hsz5 := HN5.out.lt
  (refine tk0 (v := ?_) (by kernel_rfl) (by kernel_rfl) (by kernel_rfl) (fun _ _ _ h => h) (Or.inl ⟨by rfl, ?_⟩) (by assumption) ?_; rotate_left; (focus (intro w hSw; (try dsimp only at hSw); go_simp; (try first | (rw [dif_pos (by omega)]; simp only [Result.andThen_ok]) | rw [if_pos (by omega)]); (try with_reducible rfl); done)); try simp only [Act.put, List.setIfInBounds_toArray, List.set_cons_zero, List.set_cons_succ])
  (refine tk1 (v := ?_) (by kernel_rfl) (by kernel_rfl) (by kernel_rfl) (fun _ _ _ h => h) (Or.inl ⟨by rfl, ?_⟩) (by assumption) ?_; rotate_left; (focus (intro w hSw; (try dsimp only at hSw); go_simp; (try first | (rw [dif_pos (by omega)]; simp only [Result.andThen_ok]) | rw [if_pos (by omega)]); (try with_reducible rfl); done)); try simp only [Act.put, List.setIfInBounds_toArray, List.set_cons_zero, List.set_cons_succ])
  (refine tk2 (v := ?_) (by kernel_rfl) (by kernel_rfl) (by kernel_rfl) (fun _ _ _ h => h) (Or.inl ⟨by rfl, ?_⟩) (by assumption) ?_; rotate_left; (focus (intro w hSw; (try dsimp only at hSw); go_simp; (try first | (rw [dif_pos (by omega)]; simp only [Result.andThen_ok]) | rw [if_pos (by omega)]); (try with_reducible rfl); done)); try simp only [Act.put, List.setIfInBounds_toArray, List.set_cons_zero, List.set_cons_succ])
  (refine tk3 (v := ?_) (by kernel_rfl) (by kernel_rfl) (by kernel_rfl) (fun _ _ _ h => h) (Or.inl ⟨by rfl, ?_⟩) (by assumption) ?_; rotate_left; (focus (intro w hSw; (try dsimp only at hSw); go_simp; (try first | (rw [dif_pos (by omega)]; simp only [Result.andThen_ok]) | rw [if_pos (by omega)]); (try with_reducible rfl); done)); try simp only [Act.put, List.setIfInBounds_toArray, List.set_cons_zero, List.set_cons_succ])
  (refine tk4 (v := ?_) (by kernel_rfl) (by kernel_rfl) (by kernel_rfl) (fun _ _ _ h => h) (Or.inl ⟨by rfl, ?_⟩) (by assumption) ?_; rotate_left; (focus (intro w hSw; (try dsimp only at hSw); go_simp; (try first | (rw [dif_pos (by omega)]; simp only [Result.andThen_ok]) | rw [if_pos (by omega)]); (try with_reducible rfl); done)); try simp only [Act.put, List.setIfInBounds_toArray, List.set_cons_zero, List.set_cons_succ])
  (refine tk5 (v := ?_) (by kernel_rfl) (by kernel_rfl) (by kernel_rfl) (fun _ _ _ h => h) (Or.inl ⟨by rfl, ?_⟩) (by assumption) ?_; rotate_left; (focus (intro w hSw; (try dsimp only at hSw); go_simp; (try first | (rw [dif_pos (by omega)]; simp only [Result.andThen_ok]) | rw [if_pos (by omega)]); (try with_reducible rfl); done)); try simp only [Act.put, List.setIfInBounds_toArray, List.set_cons_zero, List.set_cons_succ])
  (refine wpAnyH_ready (rs := [6, 10]) (by kernel_rfl) (by simp) ?_; refine ar6 (fun K hK => ?_) (ar10 (fun K hK => ?_) AllReadyH.nil) <;> go_simp)
  · refine (HPA.out _).mono ?_
    rintro e w6 ⟨hb6, ⟨nm', num, ca, cn, cc, ka, kn, kc, rfl, hno⟩ | ⟨num, ca, cc, ka, kc, cs, ks, rfl, hoc, hon, l1, l2, n1, n2, hyu⟩⟩
    · have HY : Hid (∀ nm num cs ks, ¬ Yt nm num cs ks k d) := hno
      have HN6 : Hid (DNS w w6 k d) := HN5.out.later hb6
      have y0 := (hb6.cell hb5).trans hHeld.1
      have y1 := (hb6.cell (show w.heap.size < W5.heap.size by omega)).trans hHeld.2
      have HA : Hid (∀ o, Below w6.heap.size w6 (w6.alloc o)) := fun o => (Below.refl _ _).alloc (Nat.le_refl _) _
      have hb6' : b < w6.heap.size := by have := hb6.size; omega
      have hw6' : w.heap.size < w6.heap.size := by have := hb6.size; omega
      clear hb6 hno
      (refine hK.out _ _ ⟨y0, y1⟩ (fun hHeld => ?_); clear hK K; try simp only [Act.put, List.setIfInBounds_toArray, List.set_cons_zero, List.set_cons_succ])
      (refine tk7 (v := ?_) (by kernel_rfl) (by kernel_rfl) (by kernel_rfl) (fun _ _ _ h => h) (Or.inl ⟨by rfl, ?_⟩) (by assumption) ?_; rotate_left; (focus (intro w hSw; (try dsimp only at hSw); go_simp; (try first | (rw [dif_pos (by omega)]; simp only [Result.andThen_ok]) | rw [if_pos (by omega)]); (try with_reducible rfl); done)); try simp only [Act.put, List.setIfInBounds_toArray, List.set_cons_zero, List.set_cons_succ])
      (refine tk8 (v := ?_) (by kernel_rfl) (by kernel_rfl) (by kernel_rfl) (fun _ _ _ h => h) (Or.inl ⟨by rfl, ?_⟩) (by assumption) ?_; rotate_left; (focus (intro w hSw; (try dsimp only at hSw); go_simp; (try first | (rw [dif_pos (by omega)]; simp only [Result.andThen_ok]) | rw [if_pos (by omega)]); (try with_reducible rfl); done)); try simp only [Act.put, List.setIfInBounds_toArray, List.set_cons_zero, List.set_cons_succ])
      (refine tk9 (v := ?_) (by kernel_rfl) (by kernel_rfl) (by kernel_rfl) (fun _ _ _ h => h) (Or.inl ⟨by rfl, ?_⟩) (by assumption) ?_; rotate_left; (focus (intro w hSw; (try dsimp only at hSw); go_simp; (try first | (rw [dif_pos (by omega)]; simp only [Result.andThen_ok]) | rw [if_pos (by omega)]); (try with_reducible rfl); done)); try simp only [Act.put, List.setIfInBounds_toArray, List.set_cons_zero, List.set_cons_succ])
      (refine wpAnyH_ready (rs := [10]) (by kernel_rfl) (by simp) ?_; refine ar10 (fun K hK => ?_) AllReadyH.nil; go_simp)
      (refine hK.out _ _ ⟨((HA.out _).cell hb6').trans y0, ((HA.out _).cell hw6').trans y1⟩ (fun hHeld => ?_); clear hK K; try simp only [Act.put, List.setIfInBounds_toArray, List.set_cons_zero, List.set_cons_succ])
      (refine wpAnyH_ready (rs := [11]) (by kernel_rfl) (by simp) ?_; refine ar11 (fun K hK => ?_) AllReadyH.nil; go_simp)
      (refine hK.out _ _ ⟨((HA.out _).cell hb6').trans y0, ((HA.out _).cell hw6').trans y1⟩ (fun hHeld => ?_); clear hK K; try simp only [Act.put, List.setIfInBounds_toArray, List.set_cons_zero, List.set_cons_succ])
      (refine tk12 (v := ?_) (by kernel_rfl) (by kernel_rfl) (by kernel_rfl) (fun _ _ _ h => h) (Or.inl ⟨by rfl, ?_⟩) (by assumption) ?_; rotate_left; (focus (intro w hSw; (try dsimp only at hSw); go_simp; (try first | (rw [dif_pos (by omega)]; simp only [Result.andThen_ok]) | rw [if_pos (by omega)]); (try with_reducible rfl); done)); try simp only [Act.put, List.setIfInBounds_toArray, List.set_cons_zero, List.set_cons_succ])
      refine wpAnyH_done (by kernel_rfl) ?_ _
      have HN7 : Hid (DNS w (w6.alloc (.cells #[.string nm', .int .i64 num, .slice ca cn cc, .slice ka kn kc] 25)) k d) := HN6.out.later (HA.out _)
      clear HA HN6 y0 y1
      generalize w6.alloc (.cells #[.string nm', .int .i64 num, .slice ca cn cc, .slice ka kn kc] 25) = W7 at *
      obtain ⟨_, _, z0, z1, z2, z3, f0, f1, f2, f3⟩ := HN7.out.dq.cells
      obtain ⟨n0, n1, n2, n3⟩ := HN7.out.ncells
      obtain ⟨p1, p2, _⟩ := HN7.out.dq.put ⟨#[]⟩ 0 (.slice none 0 0) (.slice none 0 0)
      have HP1 : Hid _ := p1
      have HP2 : Hid _ := p2
      clear p1 p2
      go_wp2
      exact bodyPost_ret (res_row_tmp (p := 2) (ty := 25) (q := 3) rfl _ _ (w.heap.size + 1) 25 _ (0, 0) _ rfl HP2.out Tryz.underlying25 rfl (by kernel_rfl)) rfl ⟨HP1.out, .inl ⟨rfl, HY.out⟩⟩
    · have HYU : Hid (∀ nm' num' cs' ks', Yt nm' num' cs' ks' k d → nm' = nm ∧ num' = num ∧ cs' = cs ∧ ks' = ks) := hyu
      have HN6a : Hid (DNS w w6 k d) := HN5.out.later hb6
      have y0 := (hb6.cell hb5).trans hHeld.1
      have y1 := (hb6.cell (show w.heap.size < W5.heap.size by omega)).trans hHeld.2
      have HA : Hid (∀ o, Below w6.heap.size w6 (w6.alloc o)) := fun o => (Below.refl _ _).alloc (Nat.le_refl _) _
      have hb6' : b < w6.heap.size := by have := hb6.size; omega
      have hw6' : w.heap.size < w6.heap.size := by have := hb6.size; omega
      have hs56 := hb6.size
      have HOCa : Hid (ownC w6 W5.heap.size (.slice ca cs.length cc) cs) := hoc
      have HONa : Hid (ownN w6 W5.heap.size (.slice ka ks.length kc) ks) := hon
      clear hb6 hyu hoc hon
      (refine hK.out _ _ ⟨y0, y1⟩ (fun hHeld => ?_); clear hK K; try simp only [Act.put, List.setIfInBounds_toArray, List.set_cons_zero, List.set_cons_succ])
      (refine tk7 (v := ?_) (by kernel_rfl) (by kernel_rfl) (by kernel_rfl) (fun _ _ _ h => h) (Or.inl ⟨by rfl, ?_⟩) (by assumption) ?_; rotate_left; (focus (intro w hSw; (try dsimp only at hSw); go_simp; (try first | (rw [dif_pos (by omega)]; simp only [Result.andThen_ok]) | rw [if_pos (by omega)]); (try with_reducible rfl); done)); try simp only [Act.put, List.setIfInBounds_toArray, List.set_cons_zero, List.set_cons_succ])
      (refine tk8 (v := ?_) (by kernel_rfl) (by kernel_rfl) (by kernel_rfl) (fun _ _ _ h => h) (Or.inl ⟨by rfl, ?_⟩) (by assumption) ?_; rotate_left; (focus (intro w hSw; (try dsimp only at hSw); go_simp; (try first | (rw [dif_pos (by omega)]; simp only [Result.andThen_ok]) | rw [if_pos (by omega)]); (try with_reducible rfl); done)); try simp only [Act.put, List.setIfInBounds_toArray, List.set_cons_zero, List.set_cons_succ])
      (refine tk9 (v := ?_) (by kernel_rfl) (by kernel_rfl) (by kernel_rfl) (fun _ _ _ h => h) (Or.inl ⟨by rfl, ?_⟩) (by assumption) ?_; rotate_left; (focus (intro w hSw; (try dsimp only at hSw); go_simp; (try first | (rw [dif_pos (by omega)]; simp only [Result.andThen_ok]) | rw [if_pos (by omega)]); (try with_reducible rfl); done)); try simp only [Act.put, List.setIfInBounds_toArray, List.set_cons_zero, List.set_cons_succ])
      (refine wpAnyH_ready (rs := [10]) (by kernel_rfl) (by simp) ?_; refine ar10 (fun K hK => ?_) AllReadyH.nil; go_simp)
      (refine hK.out _ _ ⟨((HA.out _).cell hb6').trans y0, ((HA.out _).cell hw6').trans y1⟩ (fun hHeld => ?_); clear hK K; try simp only [Act.put, List.setIfInBounds_toArray, List.set_cons_zero, List.set_cons_succ])
      (refine wpAnyH_ready (rs := [11]) (by kernel_rfl) (by simp) ?_; refine ar11 (fun K hK => ?_) AllReadyH.nil; go_simp)
      (refine hK.out _ _ ⟨((HA.out _).cell hb6').trans y0, ((HA.out _).cell hw6').trans y1⟩ (fun hHeld => ?_); clear hK K; try simp only [Act.put, List.setIfInBounds_toArray, List.set_cons_zero, List.set_cons_succ])
      (refine tk12 (v := ?_) (by kernel_rfl) (by kernel_rfl) (by kernel_rfl) (fun _ _ _ h => h) (Or.inl ⟨by rfl, ?_⟩) (by assumption) ?_; rotate_left; (focus (intro w hSw; (try dsimp only at hSw); go_simp; (try first | (rw [dif_pos (by omega)]; simp only [Result.andThen_ok]) | rw [if_pos (by omega)]); (try with_reducible rfl); done)); try simp only [Act.put, List.setIfInBounds_toArray, List.set_cons_zero, List.set_cons_succ])
      refine wpAnyH_done (by kernel_rfl) ?_ _
      have HN6 : Hid (DNS w (w6.alloc (.cells #[.string nm, .int .i64 num, .slice ca cs.length cc, .slice ka ks.length kc] 25)) k d) := HN6a.out.later (HA.out _)
      have HT6 : Hid ((w6.alloc (.cells #[.string nm, .int .i64 num, .slice ca cs.length cc, .slice ka ks.length kc] 25)).heap[w6.heap.size]? = some (.cells #[.string nm, .int .i64 num, .slice ca cs.length cc, .slice ka ks.length kc] 25)) := heap_new _ _
      have HOC6 : Hid (ownC (w6.alloc (.cells #[.string nm, .int .i64 num, .slice ca cs.length cc, .slice ka ks.length kc] 25)) W5.heap.size (.slice ca cs.length cc) cs) := HOCa.out.later (HA.out _)
      have HON6 : Hid (ownN (w6.alloc (.cells #[.string nm, .int .i64 num, .slice ca cs.length cc, .slice ka ks.length kc] 25)) W5.heap.size (.slice ka ks.length kc) ks) := HONa.out.later (HA.out _)
      have hB6W : W5.heap.size ≤ (w6.alloc (.cells #[.string nm, .int .i64 num, .slice ca cs.length cc, .slice ka ks.length kc] 25)).heap.size := by have := (HA.out (.cells #[.string nm, .int .i64 num, .slice ca cs.length cc, .slice ka ks.length kc] 25)).size; omega
      clear HA HN6a HOCa HONa y0 y1 hb6' hw6' hs56
      generalize w6.alloc (.cells #[.string nm, .int .i64 num, .slice ca cs.length cc, .slice ka ks.length kc] 25) = W6 at *
      generalize w6.heap.size = g at *
      generalize hB6 : W5.heap.size = B6 at *
      obtain ⟨t0, t1, t2, t3⟩ := tab_cells HT6.out
      have hBW : B6 ≤ W6.heap.size := hB6W
      go_wp2_with fail
      refine (EncTabR nm num _ _ cs ks W6.heap.size W6 (Nat.le_refl _) HOC6.out.sees HON6.out.sees (by omega) (by omega) ⟨n1, n2⟩).mono ?_
      rintro e w7 ⟨rfl, hb7⟩
      have HN7 : Hid (DNS w w7 k d) := HN6.out.later hb7
      have HT7 : Hid (w7.heap[g]? = some (.cells #[.string nm, .int .i64 num, .slice ca cs.length cc, .slice ka ks.length kc] 25)) := (hb7.block _ (Array.getElem?_eq_some_iff.1 HT6.out).1).trans HT6.out
      have HOC7 : Hid (ownC w7 B6 (.slice ca cs.length cc) cs) := HOC6.out.later hb7
      have HON7 : Hid (ownN w7 B6 (.slice ka ks.length kc) ks) := HON6.out.later hb7
      have HB : Hid (∀ _ : Unit, enE nm num cs ks = 0 → enK nm num cs ks = k → enD nm num cs ks = d → Yt nm num cs ks k d) := fun _ h1 h2 h3 => enE_back h1 h2 h3 n2
      have HF : Hid (∀ _ : Unit, ¬ (enE nm num cs ks = 0 ∧ enK nm num cs ks = k ∧ enD nm num cs ks = d) → ∀ nm' num' cs' ks', ¬ Yt nm' num' cs' ks' k d) := fun _ hn nm' num' cs' ks' y => by
        obtain ⟨rfl, rfl, rfl, rfl⟩ := HYU.out _ _ _ _ y
        exact hn (enE_yes y)
      clear hb7 HN6 HT6 HOC6 HON6 t0 t1 t2 t3 hBW
      generalize enE nm num cs ks = E at *
      generalize enK nm num cs ks = K at *
      generalize enD nm num cs ks = D at *
      have HA8 : Hid (Below w7.heap.size w7 (w7.alloc (.cells #[.string K, .string D] 28))) := (Below.refl _ _).alloc (Nat.le_refl _) _
      have HN8 : Hid (DNS w (w7.alloc (.cells #[.string K, .string D] 28)) k d) := HN7.out.later HA8.out
      have HT8 : Hid ((w7.alloc (.cells #[.string K, .string D] 28)).heap[g]? = some (.cells #[.string nm, .int .i64 num, .slice ca cs.length cc, .slice ka ks.length kc] 25)) := (HA8.out.block _ (Array.getElem?_eq_some_iff.1 HT7.out).1).trans HT7.out
      have HOC8 : Hid (ownC (w7.alloc (.cells #[.string K, .string D] 28)) B6 (.slice ca cs.length cc) cs) := HOC7.out.later HA8.out
      have HON8 : Hid (ownN (w7.alloc (.cells #[.string K, .string D] 28)) B6 (.slice ka ks.length kc) ks) := HON7.out.later HA8.out
      obtain ⟨a0, a1, z0, z1, z2, z3, f0, f1, f2, f3⟩ := HN8.out.dq.cells
      obtain ⟨n0', n1', n2', n3'⟩ := HN8.out.ncells
      obtain ⟨t0, t1, t2, t3⟩ := tab_cells HT8.out
      obtain ⟨p1, p2, _⟩ := HN8.out.dq.put ⟨#[]⟩ 0 (.slice none 0 0) (.slice none 0 0)
      obtain ⟨q1, q2, q3⟩ := HN8.out.dq.put nm num (.slice ca cs.length cc) (.slice ka ks.length kc)
      have HP1 : Hid _ := p1
      have HP2 : Hid _ := p2
      have HQ1 : Hid _ := q1
      have HQ2 : Hid _ := q2
      have HQ3 : Hid (∀ _ : Unit, _) := fun _ => q3
      clear p1 p2 q1 q2 q3 HA8 HN7 HT7 HOC7 HON7
      unfold pairV
      by_cases hE : E = 0
      · subst hE
        by_cases hK : K.toList = k.toList
        · by_cases hD : D.toList = d.toList
          · have HYY : Hid (Yt nm num cs ks k d) := HB.out () rfl (ba_inj hK) (ba_inj hD)
            have hKb : (K.toList == k.toList) = true := by simp [hK]
            have hDb : (D.toList == d.toList) = true := by simp [hD]
            clear HB HF HP1 HP2 hK hD
            go_wp2
            refine bodyPost_ret (res_row_tmp (p := 2) (ty := 25) (q := 3) rfl _ _ (w.heap.size + 1) 25 _ (0, 0) _ rfl HQ2.out Tryz.underlying25 rfl (by kernel_rfl)) rfl ⟨HQ1.out, .inr ⟨nm, num, ca, cc, ka, kc, cs, ks, rfl, ?_, ?_, HYY.out, HYU.out⟩⟩
            · exact (HOC8.out.keep fun b hb => HQ3.out () b (by have := (HOC8.out.own b hb).1; omega)).down (by omega)
            · exact (HON8.out.keep fun b hb => HQ3.out () b (by have := (HON8.out.own b hb).1; omega)).down (by omega)
          · have HNO : Hid (∀ nm num cs ks, ¬ Yt nm num cs ks k d) := HF.out () (fun h => hD (by rw [h.2.2]))
            have hKb : (K.toList == k.toList) = true := by simp [hK]
            have hDb : (D.toList == d.toList) = false := by simp [hD]
            clear HB HF HQ1 HQ2 HQ3 hK hD
            go_wp2
            exact bodyPost_ret (res_row_tmp (p := 2) (ty := 25) (q := 3) rfl _ _ (w.heap.size + 1) 25 _ (0, 0) _ rfl HP2.out Tryz.underlying25 rfl (by kernel_rfl)) rfl ⟨HP1.out, .inl ⟨rfl, HNO.out⟩⟩
        · have HNO : Hid (∀ nm num cs ks, ¬ Yt nm num cs ks k d) := HF.out () (fun h => hK (by rw [h.2.1]))
          have hKb : (K.toList == k.toList) = false := by simp [hK]
          clear HB HF HQ1 HQ2 HQ3 hK
          go_wp2
          exact bodyPost_ret (res_row_tmp (p := 2) (ty := 25) (q := 3) rfl _ _ (w.heap.size + 1) 25 _ (0, 0) _ rfl HP2.out Tryz.underlying25 rfl (by kernel_rfl)) rfl ⟨HP1.out, .inl ⟨rfl, HNO.out⟩⟩
      · have hEb : (E != 0) = true := by simp [hE]
        have HNO : Hid (∀ nm num cs ks, ¬ Yt nm num cs ks k d) := HF.out () (fun h => hE h.1)
        clear HB HF HQ1 HQ2 HQ3 hE
        go_wp2
        exact bodyPost_ret (res_row_tmp (p := 2) (ty := 25) (q := 3) rfl _ _ (w.heap.size + 1) 25 _ (0, 0) _ rfl HP2.out Tryz.underlying25 rfl (by kernel_rfl)) rfl ⟨HP1.out, .inl ⟨rfl, HNO.out⟩⟩
  · have HA : Hid (Below W5.heap.size W5 (W5.alloc (.cells #[.string ⟨#[]⟩, .int .i64 0, .slice none 0 0, .slice none 0 0] 25))) := (Below.refl _ _).alloc (Nat.le_refl _) _
    have hsA := szAl W5 (.cells #[.string ⟨#[]⟩, .int .i64 0, .slice none 0 0, .slice none 0 0] 25)
    (refine hK.out _ _ ⟨(HA.out.cell hb5).trans hHeld.1, (HA.out.cell (show w.heap.size < W5.heap.size by omega)).trans hHeld.2⟩ (fun hHeld => ?_); clear hK K; try simp only [Act.put, List.setIfInBounds_toArray, List.set_cons_zero, List.set_cons_succ])
    (refine wpAnyH_ready (rs := [6]) (by kernel_rfl) (by simp) ?_; refine ar6 (fun K hK => ?_) AllReadyH.nil; go_simp)
    refine (HPA.out _).mono ?_
    rintro e w6 ⟨hb6, ⟨nm', num, ca, cn, cc, ka, kn, kc, rfl, hno⟩ | ⟨num, ca, cc, ka, kc, cs, ks, rfl, hoc, hon, l1, l2, n1, n2, hyu⟩⟩
    · have HY : Hid (∀ nm num cs ks, ¬ Yt nm num cs ks k d) := hno
      have HN6 : Hid (DNS w w6 k d) := (HN5.out.later HA.out).later hb6
      have y0 := (hb6.cell (p := ⟨b, off + 3 + 2, none⟩) (by simp only; omega)).trans hHeld.1
      have y1 := (hb6.cell (p := ⟨w.heap.size, 1, none⟩) (by simp only; omega)).trans hHeld.2
      have ht6 : w6.heap[W5.heap.size]? = some (.cells #[.string ⟨#[]⟩, .int .i64 0, .slice none 0 0, .slice none 0 0] 25) := (hb6.block _ (by omega)).trans (heap_new _ _)
      obtain ⟨k0, k1, k2, k3⟩ := tab_cells ht6
      have u0 := tab_free ht6 0
      have u1 := tab_free ht6 1
      have u2 := tab_free ht6 2
      have u3 := tab_free ht6 3
      have HSS : Hid (∀ a b c e : Value, DNS w ((((w6.setCell ⟨W5.heap.size, 0, none⟩ a).setCell ⟨W5.heap.size, 1, none⟩ b).setCell ⟨W5.heap.size, 2, none⟩ c).setCell ⟨W5.heap.size, 3, none⟩ e) k d ∧ (∀ p : Addr, p.block ≠ W5.heap.size → ((((w6.setCell ⟨W5.heap.size, 0, none⟩ a).setCell ⟨W5.heap.size, 1, none⟩ b).setCell ⟨W5.heap.size, 2, none⟩ c).setCell ⟨W5.heap.size, 3, none⟩ e).cell? p = w6.cell? p)) := fun a b c e => DNS.setT HN6.out (by omega) a b c e
      clear hb6 hno ht6
      (refine hK.out _ _ ⟨y0, y1⟩ (fun hHeld => ?_); clear hK K; try simp only [Act.put, List.setIfInBounds_toArray, List.set_cons_zero, List.set_cons_succ])
      (refine tk7 (v := ?_) (by kernel_rfl) (by kernel_rfl) (by kernel_rfl) (fun _ _ _ h => h) (Or.inl ⟨by rfl, ?_⟩) (by assumption) ?_; rotate_left; (focus (intro w hSw; (try dsimp only at hSw); go_simp; (try first | (rw [dif_pos (by omega)]; simp only [Result.andThen_ok]) | rw [if_pos (by omega)]); (try with_reducible rfl); done)); try simp only [Act.put, List.setIfInBounds_toArray, List.set_cons_zero, List.set_cons_succ])
      (refine tk8 (v := ?_) (by kernel_rfl) (by kernel_rfl) (by kernel_rfl) (fun _ _ _ h => h) (Or.inl ⟨by rfl, ?_⟩) (by assumption) ?_; rotate_left; (focus (intro w hSw; (try dsimp only at hSw); go_simp; (try first | (rw [dif_pos (by omega)]; simp only [Result.andThen_ok]) | rw [if_pos (by omega)]); (try with_reducible rfl); done)); try simp only [Act.put, List.setIfInBounds_toArray, List.set_cons_zero, List.set_cons_succ])
      (refine tk9 (v := ?_) (by kernel_rfl) (by kernel_rfl) (by kernel_rfl) (fun _ _ _ h => h) (Or.inl ⟨by rfl, ?_⟩) (by assumption) ?_; rotate_left; (focus (intro w hSw; (try dsimp only at hSw); go_simp; (try first | (rw [dif_pos (by omega)]; simp only [Result.andThen_ok]) | rw [if_pos (by omega)]); (try with_reducible rfl); done)); try simp only [Act.put, List.setIfInBounds_toArray, List.set_cons_zero, List.set_cons_succ])
      (refine wpAnyH_ready (rs := [11]) (by kernel_rfl) (by simp) ?_; refine ar11 (fun K hK => ?_) AllReadyH.nil; go_simp)
      (refine hK.out _ _ ⟨((HSS.out _ _ _ _).2 _ (by simp only; omega)).trans y0, ((HSS.out _ _ _ _).2 _ (by simp only; omega)).trans y1⟩ (fun hHeld => ?_); clear hK K; try simp only [Act.put, List.setIfInBounds_toArray, List.set_cons_zero, List.set_cons_succ])
      (refine tk12 (v := ?_) (by kernel_rfl) (by kernel_rfl) (by kernel_rfl) (fun _ _ _ h => h) (Or.inl ⟨by rfl, ?_⟩) (by assumption) ?_; rotate_left; (focus (intro w hSw; (try dsimp only at hSw); go_simp; (try first | (rw [dif_pos (by omega)]; simp only [Result.andThen_ok]) | rw [if_pos (by omega)]); (try with_reducible rfl); done)); try simp only [Act.put, List.setIfInBounds_toArray, List.set_cons_zero, List.set_cons_succ])
      refine wpAnyH_done (by kernel_rfl) ?_ _
      have HN7 : Hid (DNS w ((((w6.setCell ⟨W5.heap.size, 0, none⟩ (.string nm')).setCell ⟨W5.heap.size, 1, none⟩ (.int .i64 num)).setCell ⟨W5.heap.size, 2, none⟩ (.slice ca cn cc)).setCell ⟨W5.heap.size, 3, none⟩ (.slice ka kn kc)) k d) := (HSS.out _ _ _ _).1
      clear HSS HN6 y0 y1 k0 k1 k2 k3 u0 u1 u2 u3 HA
      generalize (((w6.setCell ⟨W5.heap.size, 0, none⟩ (.string nm')).setCell ⟨W5.heap.size, 1, none⟩ (.int .i64 num)).setCell ⟨W5.heap.size, 2, none⟩ (.slice ca cn cc)).setCell ⟨W5.heap.size, 3, none⟩ (.slice ka kn kc) = W7 at *
      obtain ⟨_, _, z0, z1, z2, z3, f0, f1, f2, f3⟩ := HN7.out.dq.cells
      obtain ⟨n0, n1, n2, n3⟩ := HN7.out.ncells
      obtain ⟨p1, p2, _⟩ := HN7.out.dq.put ⟨#[]⟩ 0 (.slice none 0 0) (.slice none 0 0)
      have HP1 : Hid _ := p1
      have HP2 : Hid _ := p2
      clear p1 p2
      go_wp2
      exact bodyPost_ret (res_row_tmp (p := 2) (ty := 25) (q := 3) rfl _ _ (w.heap.size + 1) 25 _ (0, 0) _ rfl HP2.out Tryz.underlying25 rfl (by kernel_rfl)) rfl ⟨HP1.out, .inl ⟨rfl, HY.out⟩⟩
    · have HYU : Hid (∀ nm' num' cs' ks', Yt nm' num' cs' ks' k d → nm' = nm ∧ num' = num ∧ cs' = cs ∧ ks' = ks) := hyu
      have HN6a : Hid (DNS w w6 k d) := (HN5.out.later HA.out).later hb6
      have y0 := (hb6.cell (p := ⟨b, off + 3 + 2, none⟩) (by simp only; omega)).trans hHeld.1
      have y1 := (hb6.cell (p := ⟨w.heap.size, 1, none⟩) (by simp only; omega)).trans hHeld.2
      have ht6 : w6.heap[W5.heap.size]? = some (.cells #[.string ⟨#[]⟩, .int .i64 0, .slice none 0 0, .slice none 0 0] 25) := (hb6.block _ (by omega)).trans (heap_new _ _)
      obtain ⟨k0, k1, k2, k3⟩ := tab_cells ht6
      have u0 := tab_free ht6 0
      have u1 := tab_free ht6 1
      have u2 := tab_free ht6 2
      have u3 := tab_free ht6 3
      have hs56 := hb6.size
      have HSS : Hid (∀ a b c e : Value, DNS w ((((w6.setCell ⟨W5.heap.size, 0, none⟩ a).setCell ⟨W5.heap.size, 1, none⟩ b).setCell ⟨W5.heap.size, 2, none⟩ c).setCell ⟨W5.heap.size, 3, none⟩ e) k d ∧ (∀ p : Addr, p.block ≠ W5.heap.size → ((((w6.setCell ⟨W5.heap.size, 0, none⟩ a).setCell ⟨W5.heap.size, 1, none⟩ b).setCell ⟨W5.heap.size, 2, none⟩ c).setCell ⟨W5.heap.size, 3, none⟩ e).cell? p = w6.cell? p)) := fun a b c e => DNS.setT HN6a.out (by omega) a b c e
      have e0 : ∀ (a b c e : Value) j, j ≠ W5.heap.size → ((((w6.setCell ⟨W5.heap.size, 0, none⟩ a).setCell ⟨W5.heap.size, 1, none⟩ b).setCell ⟨W5.heap.size, 2, none⟩ c).setCell ⟨W5.heap.size, 3, none⟩ e).heap[j]? = w6.heap[j]? := fun a b c e j hj => (heap_off hj.symm _).trans ((heap_off hj.symm _).trans ((heap_off hj.symm _).trans (heap_off hj.symm _)))
      have HT6a : Hid (∀ (a b c e : Value), ((((w6.setCell ⟨W5.heap.size, 0, none⟩ a).setCell ⟨W5.heap.size, 1, none⟩ b).setCell ⟨W5.heap.size, 2, none⟩ c).setCell ⟨W5.heap.size, 3, none⟩ e).heap[W5.heap.size]? = some (.cells #[a, b, c, e] 25)) := fun a b c e => heap_set (heap_set (heap_set (heap_set ht6 _) _) _) _
      have HOCa : Hid (∀ (a b c e : Value), ownC ((((w6.setCell ⟨W5.heap.size, 0, none⟩ a).setCell ⟨W5.heap.size, 1, none⟩ b).setCell ⟨W5.heap.size, 2, none⟩ c).setCell ⟨W5.heap.size, 3, none⟩ e) (W5.heap.size + 1) (.slice ca cs.length cc) cs) := fun a b c e => (hoc.keep fun j hj => e0 a b c e j (by have := (hoc.own j hj).1; omega)).down (by omega)
      have HONa : Hid (∀ (a b c e : Value), ownN ((((w6.setCell ⟨W5.heap.size, 0, none⟩ a).setCell ⟨W5.heap.size, 1, none⟩ b).setCell ⟨W5.heap.size, 2, none⟩ c).setCell ⟨W5.heap.size, 3, none⟩ e) (W5.heap.size + 1) (.slice ka ks.length kc) ks) := fun a b c e => (hon.keep fun j hj => e0 a b c e j (by have := (hon.own j hj).1; omega)).down (by omega)
      clear hb6 hyu hoc hon ht6 e0
      (refine hK.out _ _ ⟨y0, y1⟩ (fun hHeld => ?_); clear hK K; try simp only [Act.put, List.setIfInBounds_toArray, List.set_cons_zero, List.set_cons_succ])
      (refine tk7 (v := ?_) (by kernel_rfl) (by kernel_rfl) (by kernel_rfl) (fun _ _ _ h => h) (Or.inl ⟨by rfl, ?_⟩) (by assumption) ?_; rotate_left; (focus (intro w hSw; (try dsimp only at hSw); go_simp; (try first | (rw [dif_pos (by omega)]; simp only [Result.andThen_ok]) | rw [if_pos (by omega)]); (try with_reducible rfl); done)); try simp only [Act.put, List.setIfInBounds_toArray, List.set_cons_zero, List.set_cons_succ])
      (refine tk8 (v := ?_) (by kernel_rfl) (by kernel_rfl) (by kernel_rfl) (fun _ _ _ h => h) (Or.inl ⟨by rfl, ?_⟩) (by assumption) ?_; rotate_left; (focus (intro w hSw; (try dsimp only at hSw); go_simp; (try first | (rw [dif_pos (by omega)]; simp only [Result.andThen_ok]) | rw [if_pos (by omega)]); (try with_reducible rfl); done)); try simp only [Act.put, List.setIfInBounds_toArray, List.set_cons_zero, List.set_cons_succ])
      (refine tk9 (v := ?_) (by kernel_rfl) (by kernel_rfl) (by kernel_rfl) (fun _ _ _ h => h) (Or.inl ⟨by rfl, ?_⟩) (by assumption) ?_; rotate_left; (focus (intro w hSw; (try dsimp only at hSw); go_simp; (try first | (rw [dif_pos (by omega)]; simp only [Result.andThen_ok]) | rw [if_pos (by omega)]); (try with_reducible rfl); done)); try simp only [Act.put, List.setIfInBounds_toArray, List.set_cons_zero, List.set_cons_succ])
      (refine wpAnyH_ready (rs := [11]) (by kernel_rfl) (by simp) ?_; refine ar11 (fun K hK => ?_) AllReadyH.nil; go_simp)
      (refine hK.out _ _ ⟨((HSS.out _ _ _ _).2 _ (by simp only; omega)).trans y0, ((HSS.out _ _ _ _).2 _ (by simp only; omega)).trans y1⟩ (fun hHeld => ?_); clear hK K; try simp only [Act.put, List.setIfInBounds_toArray, List.set_cons_zero, List.set_cons_succ])
      (refine tk12 (v := ?_) (by kernel_rfl) (by kernel_rfl) (by kernel_rfl) (fun _ _ _ h => h) (Or.inl ⟨by rfl, ?_⟩) (by assumption) ?_; rotate_left; (focus (intro w hSw; (try dsimp only at hSw); go_simp; (try first | (rw [dif_pos (by omega)]; simp only [Result.andThen_ok]) | rw [if_pos (by omega)]); (try with_reducible rfl); done)); try simp only [Act.put, List.setIfInBounds_toArray, List.set_cons_zero, List.set_cons_succ])
      refine wpAnyH_done (by kernel_rfl) ?_ _
      have HN6 : Hid (DNS w ((((w6.setCell ⟨W5.heap.size, 0, none⟩ (.string nm)).setCell ⟨W5.heap.size, 1, none⟩ (.int .i64 num)).setCell ⟨W5.heap.size, 2, none⟩ (.slice ca cs.length cc)).setCell ⟨W5.heap.size, 3, none⟩ (.slice ka ks.length kc)) k d) := (HSS.out _ _ _ _).1
      have HT6 : Hid _ := HT6a.out (.string nm) (.int .i64 num) (.slice ca cs.length cc) (.slice ka ks.length kc)
      have HOC6 : Hid (ownC ((((w6.setCell ⟨W5.heap.size, 0, none⟩ (.string nm)).setCell ⟨W5.heap.size, 1, none⟩ (.int .i64 num)).setCell ⟨W5.heap.size, 2, none⟩ (.slice ca cs.length cc)).setCell ⟨W5.heap.size, 3, none⟩ (.slice ka ks.length kc)) (W5.heap.size + 1) (.slice ca cs.length cc) cs) := HOCa.out (.string nm) (.int .i64 num) (.slice ca cs.length cc) (.slice ka ks.length kc)
      have HON6 : Hid (ownN ((((w6.setCell ⟨W5.heap.size, 0, none⟩ (.string nm)).setCell ⟨W5.heap.size, 1, none⟩ (.int .i64 num)).setCell ⟨W5.heap.size, 2, none⟩ (.slice ca cs.length cc)).setCell ⟨W5.heap.size, 3, none⟩ (.slice ka ks.length kc)) (W5.heap.size + 1) (.slice ka ks.length kc) ks) := HONa.out (.string nm) (.int .i64 num) (.slice ca cs.length cc) (.slice ka ks.length kc)
      have hB6W : W5.heap.size + 1 ≤ ((((w6.setCell ⟨W5.heap.size, 0, none⟩ (.string nm)).setCell ⟨W5.heap.size, 1, none⟩ (.int .i64 num)).setCell ⟨W5.heap.size, 2, none⟩ (.slice ca cs.length cc)).setCell ⟨W5.heap.size, 3, none⟩ (.slice ka ks.length kc)).heap.size := (Array.getElem?_eq_some_iff.1 HT6.out).1
      clear HSS HN6a HT6a HOCa HONa y0 y1 k0 k1 k2 k3 u0 u1 u2 u3 HA hs56
      generalize (((w6.setCell ⟨W5.heap.size, 0, none⟩ (.string nm)).setCell ⟨W5.heap.size, 1, none⟩ (.int .i64 num)).setCell ⟨W5.heap.size, 2, none⟩ (.slice ca cs.length cc)).setCell ⟨W5.heap.size, 3, none⟩ (.slice ka ks.length kc) = W6 at *
      generalize hB6 : W5.heap.size + 1 = B6 at *
      generalize W5.heap.size = g at *
      obtain ⟨t0, t1, t2, t3⟩ := tab_cells HT6.out
      have hBW : B6 ≤ W6.heap.size := hB6W
      go_wp2_with fail
      refine (EncTabR nm num _ _ cs ks W6.heap.size W6 (Nat.le_refl _) HOC6.out.sees HON6.out.sees (by omega) (by omega) ⟨n1, n2⟩).mono ?_
      rintro e w7 ⟨rfl, hb7⟩
      have HN7 : Hid (DNS w w7 k d) := HN6.out.later hb7
      have HT7 : Hid (w7.heap[g]? = some (.cells #[.string nm, .int .i64 num, .slice ca cs.length cc, .slice ka ks.length kc] 25)) := (hb7.block _ (Array.getElem?_eq_some_iff.1 HT6.out).1).trans HT6.out
      have HOC7 : Hid (ownC w7 B6 (.slice ca cs.length cc) cs) := HOC6.out.later hb7
      have HON7 : Hid (ownN w7 B6 (.slice ka ks.length kc) ks) := HON6.out.later hb7
      have HB : Hid (∀ _ : Unit, enE nm num cs ks = 0 → enK nm num cs ks = k → enD nm num cs ks = d → Yt nm num cs ks k d) := fun _ h1 h2 h3 => enE_back h1 h2 h3 n2
      have HF : Hid (∀ _ : Unit, ¬ (enE nm num cs ks = 0 ∧ enK nm num cs ks = k ∧ enD nm num cs ks = d) → ∀ nm' num' cs' ks', ¬ Yt nm' num' cs' ks' k d) := fun _ hn nm' num' cs' ks' y => by
        obtain ⟨rfl, rfl, rfl, rfl⟩ := HYU.out _ _ _ _ y
        exact hn (enE_yes y)
      clear hb7 HN6 HT6 HOC6 HON6 t0 t1 t2 t3 hBW
      generalize enE nm num cs ks = E at *
      generalize enK nm num cs ks = K at *
      generalize enD nm num cs ks = D at *
      have HA8 : Hid (Below w7.heap.size w7 (w7.alloc (.cells #[.string K, .string D] 28))) := (Below.refl _ _).alloc (Nat.le_refl _) _
      have HN8 : Hid (DNS w (w7.alloc (.cells #[.string K, .string D] 28)) k d) := HN7.out.later HA8.out
      have HT8 : Hid ((w7.alloc (.cells #[.string K, .string D] 28)).heap[g]? = some (.cells #[.string nm, .int .i64 num, .slice ca cs.length cc, .slice ka ks.length kc] 25)) := (HA8.out.block _ (Array.getElem?_eq_some_iff.1 HT7.out).1).trans HT7.out
      have HOC8 : Hid (ownC (w7.alloc (.cells #[.string K, .string D] 28)) B6 (.slice ca cs.length cc) cs) := HOC7.out.later HA8.out
      have HON8 : Hid (ownN (w7.alloc (.cells #[.string K, .string D] 28)) B6 (.slice ka ks.length kc) ks) := HON7.out.later HA8.out
      obtain ⟨a0, a1, z0, z1, z2, z3, f0, f1, f2, f3⟩ := HN8.out.dq.cells
      obtain ⟨n0', n1', n2', n3'⟩ := HN8.out.ncells
      obtain ⟨t0, t1, t2, t3⟩ := tab_cells HT8.out
      obtain ⟨p1, p2, _⟩ := HN8.out.dq.put ⟨#[]⟩ 0 (.slice none 0 0) (.slice none 0 0)
      obtain ⟨q1, q2, q3⟩ := HN8.out.dq.put nm num (.slice ca cs.length cc) (.slice ka ks.length kc)
      have HP1 : Hid _ := p1
      have HP2 : Hid _ := p2
      have HQ1 : Hid _ := q1
      have HQ2 : Hid _ := q2
      have HQ3 : Hid (∀ _ : Unit, _) := fun _ => q3
      clear p1 p2 q1 q2 q3 HA8 HN7 HT7 HOC7 HON7
      unfold pairV
      by_cases hE : E = 0
      · subst hE
        by_cases hK : K.toList = k.toList
        · by_cases hD : D.toList = d.toList
          · have HYY : Hid (Yt nm num cs ks k d) := HB.out () rfl (ba_inj hK) (ba_inj hD)
            have hKb : (K.toList == k.toList) = true := by simp [hK]
            have hDb : (D.toList == d.toList) = true := by simp [hD]
            clear HB HF HP1 HP2 hK hD
            go_wp2
            refine bodyPost_ret (res_row_tmp (p := 2) (ty := 25) (q := 3) rfl _ _ (w.heap.size + 1) 25 _ (0, 0) _ rfl HQ2.out Tryz.underlying25 rfl (by kernel_rfl)) rfl ⟨HQ1.out, .inr ⟨nm, num, ca, cc, ka, kc, cs, ks, rfl, ?_, ?_, HYY.out, HYU.out⟩⟩
            · exact (HOC8.out.keep fun b hb => HQ3.out () b (by have := (HOC8.out.own b hb).1; omega)).down (by omega)
            · exact (HON8.out.keep fun b hb => HQ3.out () b (by have := (HON8.out.own b hb).1; omega)).down (by omega)
          · have HNO : Hid (∀ nm num cs ks, ¬ Yt nm num cs ks k d) := HF.out () (fun h => hD (by rw [h.2.2]))
            have hKb : (K.toList == k.toList) = true := by simp [hK]
            have hDb : (D.toList == d.toList) = false := by simp [hD]
            clear HB HF HQ1 HQ2 HQ3 hK hD
            go_wp2
            exact bodyPost_ret (res_row_tmp (p := 2) (ty := 25) (q := 3) rfl _ _ (w.heap.size + 1) 25 _ (0, 0) _ rfl HP2.out Tryz.underlying25 rfl (by kernel_rfl)) rfl ⟨HP1.out, .inl ⟨rfl, HNO.out⟩⟩
        · have HNO : Hid (∀ nm num cs ks, ¬ Yt nm num cs ks k d) := HF.out () (fun h => hK (by rw [h.2.1]))
          have hKb : (K.toList == k.toList) = false := by simp [hK]
          clear HB HF HQ1 HQ2 HQ3 hK
          go_wp2
          exact bodyPost_ret (res_row_tmp (p := 2) (ty := 25) (q := 3) rfl _ _ (w.heap.size + 1) 25 _ (0, 0) _ rfl HP2.out Tryz.underlying25 rfl (by kernel_rfl)) rfl ⟨HP1.out, .inl ⟨rfl, HNO.out⟩⟩
      · have hEb : (E != 0) = true := by simp [hE]
        have HNO : Hid (∀ nm num cs ks, ¬ Yt nm num cs ks k d) := HF.out () (fun h => hE h.1)
        clear HB HF HQ1 HQ2 HQ3 hE
        go_wp2
        exact bodyPost_ret (res_row_tmp (p := 2) (ty := 25) (q := 3) rfl _ _ (w.heap.size + 1) 25 _ (0, 0) _ rfl HP2.out Tryz.underlying25 rfl (by kernel_rfl)) rfl ⟨HP1.out, .inl ⟨rfl, HNO.out⟩⟩
end Go.Proofs.YtjcffcpmegpjeaaGreatDoor
