import Derived.Test.YtegnmflbbpfdhaaGreatSdU
namespace Go.Proofs.YtegnmflbbpfdhaaGreat
set_option linter.unusedSimpArgs false
open Go.ChangeShapes Go.WideShapes Go.ChangeAt Go.RowKit Go.MuLone Go.RwLone
set_option linter.unusedVariables false
set_option maxRecDepth 100000
set_option maxHeartbeats 3200000
/-- A bench in the block bb, its threads in the row tv. -/
structure Lb (w : World) (A : Ad) (bb : Nat) (tv : Value) : Prop where
  be : w.heap[bb]? = some (.cells (beA A.L tv A.hb) 73)
  ot : OwT w 0 tv ((List.range A.n).map A.T)
  nb : ¬ Tc A bb ∧ bb < A.B
  nt : ∀ g, tv.ownBlock = some g → ¬ Tc A g ∧ g < A.B
theorem Lb.keeps {w w' : World} {A : Ad} {bb : Nat} {tv : Value} {D : Nat → Prop} (h : Lb w A bb tv) (k : Keeps D w w') (hD : ∀ x, D x → Tc A x) : Lb w' A bb tv := by
  refine ⟨(k.block _ (Array.getElem?_eq_some_iff.1 h.be).1 (fun e => h.nb.1 (hD _ e))).trans h.be, ⟨h.ot.1, ?_⟩, h.nb, h.nt⟩
  rcases h.ot.2 with h1 | ⟨g, cap, cur, rfl, h1, h2, h3⟩
  · exact .inl h1
  · exact .inr ⟨g, cap, cur, rfl, h1, (k.block g (Array.getElem?_eq_some_iff.1 h2).1 (fun e => (h.nt g rfl).1 (hD _ e))).trans h2, h3⟩
theorem La.lb {w0 wr : World} {M : Nat} {L : Lay} {S : AS} {bb hb qb n : Nat} {x0 : Int} {f : Nat → Bk} {tv : Value} (h : La w0 wr M L S bb hb qb n x0 f n tv ((List.range n).map (fun j => (f j).T))) : Lb wr (adOf wr.heap.size L hb qb n f) bb tv := by
  have hbm := h.bm
  have hms := h.ms
  refine ⟨h.be, h.ot.down (Nat.zero_le _), ⟨?_, by show bb < wr.heap.size; omega⟩, fun g hg => ?_⟩
  · rintro ⟨i, hi, e⟩
    have a := h.ea i hi
    have := a.o1
    have := a.o2
    have := a.o3
    rcases e with e | e | e | e | e | e
    · exact h.d3 e
    · have : bb = (f i).T := e
      omega
    · exact h.d5 e
    · exact h.d6 e
    · have : bb = (f i).pb := e
      omega
    · have : wr.heap.size ≤ bb := e
      omega
  · rcases h.ot.2 with ⟨rfl, _⟩ | ⟨g', cap, cur, rfl, h1, h2, h3⟩
    · cases hg
    · have e1 : g' = g := Option.some.inj hg
      subst e1
      have lg := (Array.getElem?_eq_some_iff.1 h2).1
      refine ⟨?_, lg⟩
      rintro ⟨i, hi, e⟩
      have a := h.ea i hi
      have hq := h.qm
      have hh := h.hm
      rcases e with e | e | e | e | e | e
      · have := (h.lm g' e).2; omega
      · have e' : g' = (f i).T := e
        have e2 := a.th
        rw [← e', h2] at e2
        injection e2 with e2
        injection e2 with _ e3
        exact absurd e3 (by decide)
      · have : g' = hb := e
        omega
      · have : g' = qb := e
        omega
      · have e' : g' = (f i).pb := e
        obtain ⟨_, _, _, _, cur', e2⟩ := owG_cap a.op
        rw [← e', h2] at e2
        injection e2 with e2
        injection e2 with _ e3
        exact absurd e3 (by decide)
      · have : wr.heap.size ≤ g' := e
        omega
theorem left_le (dn : Nat → Bool) (n : Nat) : left dn n ≤ n := by
  induction n with
  | zero => exact Nat.le_refl _
  | succ n ih => rw [left_succ]; split <;> omega
theorem PkS.of {w : World} {A : Ad} {B : Nat} {v : Value} {vs : List (Int × Int × Int)} (h : ownP w B v vs) (hB : A.B ≤ B) (hl : vs.length ≤ 140737488355328) (hn : ∀ p ∈ vs, p.2.2 ≤ 300) : PkS w A v vs := by
  rcases h.2 with ⟨rfl, h0⟩ | ⟨g, cap, cur, rfl, h1, h2, h3, h4, h5, h6⟩
  · exact ⟨none, 0, by rw [h0], hl, fun p hp => by have := hn p hp; omega, fun i hi => by omega⟩
  · refine ⟨some ⟨g, 0, none⟩, cap, rfl, hl, fun p hp => by have := hn p hp; omega, fun i hi => ⟨g, 0, cur, (0, 0), rfl, by omega, h2, ?_, ?_, ?_⟩⟩
    all_goals
      have e := cellsP_get vs i hi
      have c : ∀ j, j < vs.length * 3 → cur[j]? = (cellsP vs)[j]? := fun j hj => by
        rw [← h6, List.getElem?_take, if_pos hj, Array.getElem?_toList]
      rw [Nat.zero_add]
    · rw [c _ (by omega)]; exact e.1
    · rw [c _ (by omega)]; exact e.2.1
    · rw [c _ (by omega)]; exact e.2.2
theorem bplay_any (w : World) (A : Ad) (x0 : Int) (dn : Nat → Bool) (hA : Ly A) (h : Bn w A x0 dn) (h0 : 0 ≤ x0) (h1 : x0 < 18446744073709551616) (bb : Nat) (tv : Value) (hl : Lb w A bb tv) (s : ByteArray) (hs : s.size ≤ 1048576) :
    Calls Tryz.prog 20 #[.pointer (some ⟨bb, 0, none⟩), .string s] w fun e w' => ∃ r dn', e = .returned (.int .i64 r) ∧ Bn w' A x0 dn' ∧ Fm A w w' := by
  have H : Hid (Bn w.drew A x0 dn ∧ Lb w.drew A bb tv) := ⟨h.still hA (Keeps.refl _ _).drew, hl.keeps (Keeps.refl (fun _ => False) _).drew (fun _ e => e.elim)⟩
  have HA : Hid (Ly A) := hA
  have HD : Hid (∀ W, Calls Tryz.prog 42 #[.string s] W fun e w' => ∃ v, e = .returned v ∧ ownP w' W.heap.size v (dL s.data.toList) ∧ Below W.heap.size W w') := fun W => decode_any s W (by omega)
  have HL : Hid ((dL s.data.toList).length ≤ 1048576 ∧ ∀ p ∈ dL s.data.toList, p.2.2 ≤ 300) := ⟨by have := (dL_len _ s.data.toList (Nat.le_refl _)).1; rw [len_list] at this; omega, dL_small _ _ (Nat.le_refl _)⟩
  clear h hA
  have HC := hl.be
  clear hl
  go_enter Tryz.func20, Tryz.ntmps20
  go_wp2_with fail
  (refine wp_region_held_drew (S := (fun W => W.cell? ⟨bb, 3, none⟩ = some (.pointer (some ⟨A.hb, 0, none⟩)))) (by kernel_rfl) ((cell?_heap HC 3).trans rfl) (fun hHeld => ?_); simp only [List.size_toArray, List.length_cons, List.length_nil, Nat.reduceAdd, Array.replicate_succ, Array.replicate_zero, List.push_toArray, List.append_toArray, List.nil_append, List.cons_append])
  clear HC
  (refine tk0 (v := ?_) (by kernel_rfl) (by kernel_rfl) (by kernel_rfl) (fun _ _ _ h => h) (Or.inl ⟨by rfl, ?_⟩) (by assumption) ?_; rotate_left; (focus (intro w hSw; (try dsimp only at hSw); go_simp; (try first | (rw [dif_pos (by omega)]; simp only [Result.andThen_ok]) | rw [if_pos (by omega)]); (try with_reducible rfl); done)); try simp only [Act.put, List.setIfInBounds_toArray, List.set_cons_zero, List.set_cons_succ])
  (refine tk1 (v := ?_) (by kernel_rfl) (by kernel_rfl) (by kernel_rfl) (fun _ _ _ h => h) (Or.inl ⟨by rfl, ?_⟩) (by assumption) ?_; rotate_left; (focus (intro w hSw; (try dsimp only at hSw); go_simp; (try first | (rw [dif_pos (by omega)]; simp only [Result.andThen_ok]) | rw [if_pos (by omega)]); (try with_reducible rfl); done)); try simp only [Act.put, List.setIfInBounds_toArray, List.set_cons_zero, List.set_cons_succ])
  (refine tk2 (v := ?_) (by kernel_rfl) (by kernel_rfl) (by kernel_rfl) (fun _ _ _ h => h) (Or.inl ⟨by rfl, ?_⟩) (by assumption) ?_; rotate_left; (focus (intro w hSw; (try dsimp only at hSw); go_simp; (try first | (rw [dif_pos (by omega)]; simp only [Result.andThen_ok]) | rw [if_pos (by omega)]); (try with_reducible rfl); done)); try simp only [Act.put, List.setIfInBounds_toArray, List.set_cons_zero, List.set_cons_succ])
  (refine tk3 (v := ?_) (by kernel_rfl) (by kernel_rfl) (by kernel_rfl) (fun _ _ _ h => h) (Or.inl ⟨by rfl, ?_⟩) (by assumption) ?_; rotate_left; (focus (intro w hSw; (try dsimp only at hSw); go_simp; (try first | (rw [dif_pos (by omega)]; simp only [Result.andThen_ok]) | rw [if_pos (by omega)]); (try with_reducible rfl); done)); try simp only [Act.put, List.setIfInBounds_toArray, List.set_cons_zero, List.set_cons_succ])
  (refine tk4 (v := ?_) (by kernel_rfl) (by kernel_rfl) (by kernel_rfl) (fun _ _ _ h => h) (Or.inl ⟨by rfl, ?_⟩) (by assumption) ?_; rotate_left; (focus (intro w hSw; (try dsimp only at hSw); go_simp; (try first | (rw [dif_pos (by omega)]; simp only [Result.andThen_ok]) | rw [if_pos (by omega)]); (try with_reducible rfl); done)); try simp only [Act.put, List.setIfInBounds_toArray, List.set_cons_zero, List.set_cons_succ])
  (refine wpAnyH_ready (rs := [5]) (by kernel_rfl) (by simp) ?_; refine ar5 (fun K hK => ?_) AllReadyH.nil; go_simp)
  refine (HD.out w.drew).mono ?_
  rintro e w1 ⟨v, rfl, ho, hb1⟩
  have k1 : Keeps (fun _ => False) w.drew w1 := Below.keeps hb1 _
  have H1 : Hid (Bn w1 A x0 dn ∧ Lb w1 A bb tv ∧ PkS w1 A v (dL s.data.toList) ∧ Fm A w w1) := ⟨H.out.1.still HA.out k1, H.out.2.keeps k1 (fun _ e => e.elim), PkS.of ho H.out.1.size (by have := HL.out.1; omega) HL.out.2, (Fm.still ((Keeps.refl _ _).drew)).trans (Fm.still k1)⟩
  clear ho hb1 k1 H HD
  have HC1 := H1.out.2.1.be
  (refine hK.out _ _ ((cell?_heap HC1 3).trans rfl) (fun hHeld => ?_); clear hK K; try simp only [Act.put, List.setIfInBounds_toArray, List.set_cons_zero, List.set_cons_succ])
  clear HC1
  (refine wpAnyH_ready (rs := [6]) (by kernel_rfl) (by simp) ?_; refine ar6 (fun K hK => ?_) AllReadyH.nil; go_simp)
  refine (play_any w1 A x0 dn HA.out H1.out.1 h0 h1 14 (by have := left_le dn A.n; have := HA.out.n4; omega) (by decide) v (dL s.data.toList) H1.out.2.2.1).mono ?_
  rintro e w2 ⟨r, d2, rfl, b2, f2, _, _⟩
  have H2 : Hid (Bn w2 A x0 d2 ∧ Lb w2 A bb tv ∧ Fm A w w2) := ⟨b2, H1.out.2.1.keeps f2.k (fun _ e => e), H1.out.2.2.2.trans f2⟩
  clear b2 f2 H1 HL
  have HC2 := H2.out.2.1.be
  (refine hK.out _ _ ((cell?_heap HC2 3).trans rfl) (fun hHeld => ?_); clear hK K; try simp only [Act.put, List.setIfInBounds_toArray, List.set_cons_zero, List.set_cons_succ])
  (refine tk7 (v := ?_) (by kernel_rfl) (by kernel_rfl) (by kernel_rfl) (fun _ _ _ h => h) (Or.inl ⟨by rfl, ?_⟩) (by assumption) ?_; rotate_left; (focus (intro w hSw; (try dsimp only at hSw); go_simp; (try first | (rw [dif_pos (by omega)]; simp only [Result.andThen_ok]) | rw [if_pos (by omega)]); (try with_reducible rfl); done)); try simp only [Act.put, List.setIfInBounds_toArray, List.set_cons_zero, List.set_cons_succ])
  (refine tk8 (v := ?_) (by kernel_rfl) (by kernel_rfl) (by kernel_rfl) (fun _ _ _ h => h) (Or.inl ⟨by rfl, ?_⟩) (by assumption) ?_; rotate_left; (focus (intro w hSw; (try dsimp only at hSw); go_simp; (try first | (rw [dif_pos (by omega)]; simp only [Result.andThen_ok]) | rw [if_pos (by omega)]); (try with_reducible rfl); done)); try simp only [Act.put, List.setIfInBounds_toArray, List.set_cons_zero, List.set_cons_succ])
  (refine tk9 (v := ?_) (by kernel_rfl) (by kernel_rfl) (by kernel_rfl) (fun _ _ _ h => h) (Or.inl ⟨by rfl, ?_⟩) (by assumption) ?_; rotate_left; (focus (intro w hSw; (try dsimp only at hSw); go_simp; (try first | (rw [dif_pos (by omega)]; simp only [Result.andThen_ok]) | rw [if_pos (by omega)]); (try with_reducible rfl); done)); try simp only [Act.put, List.setIfInBounds_toArray, List.set_cons_zero, List.set_cons_succ])
  (refine tk10 (v := ?_) (by kernel_rfl) (by kernel_rfl) (by kernel_rfl) (fun _ _ _ h => h) (Or.inl ⟨by rfl, ?_⟩) (by assumption) ?_; rotate_left; (focus (intro w hSw; (try dsimp only at hSw); go_simp; (try first | (rw [dif_pos (by omega)]; simp only [Result.andThen_ok]) | rw [if_pos (by omega)]); (try with_reducible rfl); done)); try simp only [Act.put, List.setIfInBounds_toArray, List.set_cons_zero, List.set_cons_succ])
  (refine tk11 (v := ?_) (by kernel_rfl) (by kernel_rfl) (by kernel_rfl) (fun _ _ _ h => h) (Or.inl ⟨by rfl, ?_⟩) (by assumption) ?_; rotate_left; (focus (intro w hSw; (try dsimp only at hSw); go_simp; (try first | (rw [dif_pos (by omega)]; simp only [Result.andThen_ok]) | rw [if_pos (by omega)]); (try with_reducible rfl); done)); try simp only [Act.put, List.setIfInBounds_toArray, List.set_cons_zero, List.set_cons_succ])
  refine wpAnyH_done (by kernel_rfl) ?_ _
  clear HC2
  go_wp2
  go_ret
  exact ⟨r, d2, rfl, H2.out.1, H2.out.2.2⟩
end Go.Proofs.YtegnmflbbpfdhaaGreat
