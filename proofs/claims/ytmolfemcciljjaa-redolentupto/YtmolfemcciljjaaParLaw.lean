import Derived.Test.YtmolfemcciljjaaCoF3
namespace Go.Proofs.Ytmolfemcciljjaa
set_option linter.unusedSimpArgs false
open Go.ChangeShapes Go.WideShapes Go.ChangeAt Go.RowKit
set_option linter.unusedVariables false
set_option maxRecDepth 100000
theorem numP (n : Int) (w : World) : Calls Try.prog 8 #[.int .i64 n] w fun e w' => e = .returned (.int .i64 n) ∧ w' = w := by
  go_enter Try.func8, Try.ntmps8
  go_wp2
  go_ret
  exact ⟨rfl, rfl⟩
theorem cellsC_len : ∀ xs, (cellsC xs).length = xs.length * 2
  | [] => rfl
  | x :: r => by
    have := cellsC_len r
    simp only [cellsC, List.flatMap_cons, cellC, List.length_append, List.length_cons, List.length_nil] at this ⊢
    omega
theorem cellsC_get : ∀ (xs : List (Int × Value)) (i : Nat) (hi : i < xs.length), (cellsC xs)[i * 2]? = some (.int .u64 xs[i].1) ∧ (cellsC xs)[i * 2 + 1]? = some xs[i].2
  | x :: r, 0, _ => ⟨rfl, rfl⟩
  | x :: r, i + 1, hi => by
    have h := cellsC_get r i (by simpa using hi)
    have e : cellsC (x :: r) = .int .u64 x.1 :: x.2 :: cellsC r := rfl
    rw [e, show (i + 1) * 2 = i * 2 + 1 + 1 from by omega]
    simpa using h
/-- A cell of a row of commits. -/
theorem ownC.at {w : World} {B : Nat} {sp : Option Addr} {n cp : Nat} {xs : List (Int × Value)} (h : ownC w B (.slice sp n cp) xs) (i : Nat) (hi : i < xs.length) : ∃ g, sp = some ⟨g, 0, none⟩ ∧ g < w.heap.size ∧ w.cell? ⟨g, i * 2, none⟩ = some (.int .u64 xs[i].1) ∧ w.cell? ⟨g, i * 2 + 1, none⟩ = some xs[i].2 := by
  have h' := h
  rcases h.2 with ⟨e, h0⟩ | ⟨g, cap, cur, e, hb, hg, _⟩
  · omega
  · simp only [Value.slice.injEq] at e
    obtain ⟨rfl, rfl, rfl⟩ := e
    have c := cellsC_get xs i hi
    exact ⟨g, rfl, (Array.getElem?_eq_some_iff.1 hg).1, (World.ownsRow.cellAt h' _ (by omega)).trans c.1, (World.ownsRow.cellAt h' _ (by omega)).trans c.2⟩
/-- The two lists of commits, the program's and the document's. -/
structure TwoC (w W : World) (v u : Value) (xs ys : List (Int × Value)) (cs : List (Int × List W3)) : Prop where
  bel : Below w.heap.size w W
  ov : ownC W w.heap.size v xs
  cv : CsIn W w.heap.size xs cs
  ou : ownC W w.heap.size u ys
  cu : CsIn W w.heap.size ys cs
theorem TwoC.step {w W W' : World} {v u : Value} {xs ys : List (Int × Value)} {cs : List (Int × List W3)} (h : TwoC w W v u xs ys cs) (hb : Below W.heap.size W W') : TwoC w W' v u xs ys cs := by
  have hk : ∀ k, k < W.heap.size → w.heap.size ≤ k → W'.heap[k]? = W.heap[k]? := fun k hk _ => hb.block k hk
  exact ⟨h.bel.trans (hb.mono h.bel.size), h.ov.same hk, h.cv.keep (fun y ys hy => hy.same hk), h.ou.same hk, h.cu.keep (fun y ys hy => hy.same hk)⟩
/-- The list's half of the law: both told, they are held against one another. -/
structure TwoD (w W : World) (ga gb : Nat) (st : Int) (v u : Value) (vs : List W3) : Prop where
  bel : Below w.heap.size w W
  a : Wc2 W ga (.int .u64 st) v
  b : Wc2 W gb (.int .u64 st) u
  ov : ownW W w.heap.size v vs
  ou : ownW W w.heap.size u vs
theorem lenR {s : ByteArray} {st : Int} {vs : List W3} (h : rdCo s = some (st, vs)) : vs.length ≤ 140737488355328 := by
  obtain ⟨_, h2⟩ := rdCo_form _ _ _ h
  simp only [mayC, Bool.and_eq_true, decide_eq_true_eq] at h2
  omega
theorem rdBs_len {s : ByteArray} : ∀ (n p : Nat) (l : List (Int × List W3)), rdBs s n p = some l → ∀ c ∈ l, c.2.length ≤ 140737488355328
  | 0, p, l, h, c, hc => by cases h
  | n + 1, p, l, h, c, hc => by
    unfold rdBs at h
    cases hx : rdBl s p with
    | none => rw [hx] at h; cases h
    | some y =>
      obtain ⟨c1, q⟩ := y
      rw [hx] at h
      simp only at h
      have h1 : c1.2.length ≤ 140737488355328 := by
        unfold rdBl at hx
        split at hx
        · cases hr : rdCo (rbV s p 1048576).1 with
          | none => rw [hr] at hx; cases hx
          | some c2 =>
            rw [hr] at hx
            simp only [Option.some.injEq, Prod.mk.injEq] at hx
            rw [← hx.1]
            exact lenR (st := c2.1) hr
        · cases hx
      split at h
      · cases hm : rdBs s n q with
        | none => rw [hm] at h; cases h
        | some l2 =>
          rw [hm] at h
          simp only [Option.some.injEq] at h
          subst h
          rcases List.mem_cons.1 hc with rfl | hc
          · exact h1
          · exact rdBs_len n q l2 hm c hc
      · simp only [Option.some.injEq] at h
        subst h
        rcases List.mem_cons.1 hc with rfl | hc
        · exact h1
        · cases hc
theorem rdBs_count {s : ByteArray} : ∀ (n p : Nat) (l : List (Int × List W3)), rdBs s n p = some l → l.length ≤ n
  | 0, p, l, h => by cases h
  | n + 1, p, l, h => by
    unfold rdBs at h
    cases hx : rdBl s p with
    | none => rw [hx] at h; cases h
    | some y =>
      obtain ⟨c1, q⟩ := y
      rw [hx] at h
      simp only at h
      split at h
      · cases hm : rdBs s n q with
        | none => rw [hm] at h; cases h
        | some l2 =>
          rw [hm] at h
          simp only [Option.some.injEq] at h
          subst h
          have := rdBs_count n q l2 hm
          simp only [List.length_cons]
          omega
      · simp only [Option.some.injEq] at h
        subst h
        simp
set_option maxHeartbeats 3200000 in
/-- The first half: DecodeCommit on both sides. -/
theorem parses_walk (s : ByteArray) (w : World) (hs : s.size ≤ 1048576) : Calls Try.prog 3 #[.string s] w fun e w' => e = .returned (.bool true) ∧ Below w.heap.size w w' := by
  have HD : Hid (∀ W, Calls Try.prog 5 #[.string s] W (DcC W (rdCo s))) := fun W => decodeC s W (by omega)
  have HE : Hid (∀ W, Calls Try.prog 6 #[.string s] W (DcC W (rdCo s))) := fun W => refDecode s W (by omega)
  have HF : Hid (∀ W, Calls Try.prog 9 #[.string s] W (FcC W (rdFr s))) := fun W => frameC s W (by omega)
  have HG : Hid (∀ W, Calls Try.prog 10 #[.string s] W (FcC W (rdFr s))) := fun W => refFrame s W (by omega)
  go_enter Try.func3, Try.ntmps3
  -- DecodeCommit, both sides, alike
  go_wp2_with fail
  refine (HD.out _).mono ?_
  rintro e w1 ⟨hb1, hm1⟩
  have key : ∃ (st : Int) (v : Value) (c : Int) (vs : List W3), e = .returned (.tuple #[.agg #[.int .u64 st, v], .int .i64 c]) ∧ ownW w1 w.heap.size v vs ∧ vs.length ≤ 140737488355328 ∧ (∀ W e' w', DcC W (rdCo s) e' w' → ∃ u, e' = .returned (.tuple #[.agg #[.int .u64 st, u], .int .i64 c]) ∧ ownW w' W.heap.size u vs ∧ Below W.heap.size W w') := by
    cases hr : rdCo s with
    | none =>
      rw [hr] at hm1
      refine ⟨0, .slice none 0 0, 112, [], hm1, ownW_nil _ _, by simp, fun W e' w' h => ?_⟩
      exact ⟨.slice none 0 0, h.2, ownW_nil _ _, h.1⟩
    | some y =>
      obtain ⟨st, vs⟩ := y
      rw [hr] at hm1
      obtain ⟨v, e1, ho⟩ := hm1
      refine ⟨st, v, 0, vs, e1, ho, lenR hr, fun W e' w' h => ?_⟩
      obtain ⟨u, e2, ho2⟩ := h.2
      exact ⟨u, e2, ho2, h.1⟩
  obtain ⟨st, v, c, vs, rfl, ho, hvl, hother⟩ := key
  clear hm1 HD
  obtain ⟨sv, nv, cv, rfl⟩ := ho.isSlice
  have HO : Hid (ownW w1 w.heap.size (.slice sv nv cv) vs) := ho
  have HB1 : Hid (Below w.heap.size w w1) := hb1
  have HOther : Hid (∀ W e' w', DcC W (rdCo s) e' w' → ∃ u, e' = .returned (.tuple #[.agg #[.int .u64 st, u], .int .i64 c]) ∧ ownW w' W.heap.size u vs ∧ Below W.heap.size W w') := hother
  have HVL : Hid (vs.length ≤ 140737488355328) := hvl
  clear ho hb1 hother hvl
  go_wp2_with fail
  refine (HE.out _).mono ?_
  rintro e w2 h2
  obtain ⟨u, rfl, ho2, hb2⟩ := HOther.out _ _ _ h2
  obtain ⟨su, nu, cu, rfl⟩ := ho2.isSlice
  clear h2 HE HOther
  have hal := alB w1 (.cells #[.int .u64 st, .slice sv nv cv] 25)
  have hb12 : Below w1.heap.size w1 w2 := hal.trans (hb2.mono hal.size)
  have hal2 := alB w2 (.cells #[.int .u64 st, .slice su nu cu] 25)
  have HB2 : Hid (Below w.heap.size w (w2.alloc (.cells #[.int .u64 st, .slice su nu cu] 25))) := (HB1.out.trans (hb12.mono HB1.out.size)).trans (hal2.mono (HB1.out.trans (hb12.mono HB1.out.size)).size)
  have ha : Wc2 (w2.alloc (.cells #[.int .u64 st, .slice su nu cu] 25)) w1.heap.size (.int .u64 st) (.slice sv nv cv) := (show Wc2 w2 w1.heap.size _ _ from (hb2.block w1.heap.size (by rw [sizeAl]; omega)).trans (heap_alloc_new w1 _)).later hal2
  have hbb : Wc2 (w2.alloc (.cells #[.int .u64 st, .slice su nu cu] 25)) w2.heap.size (.int .u64 st) (.slice su nu cu) := heap_alloc_new w2 _
  have hv2 : SeesW (w2.alloc (.cells #[.int .u64 st, .slice su nu cu] 25)) (w2.alloc (.cells #[.int .u64 st, .slice su nu cu] 25)).heap.size (.slice sv nv cv) vs := ((HO.out.same (fun j hj _ => hb12.block j hj)).same (fun j hj _ => hal2.block j hj)).seesAll HVL.out
  have hu2 : SeesW (w2.alloc (.cells #[.int .u64 st, .slice su nu cu] 25)) (w2.alloc (.cells #[.int .u64 st, .slice su nu cu] 25)).heap.size (.slice su nu cu) vs := (ho2.same (fun j hj _ => hal2.block j hj)).seesAll HVL.out
  have hS := sameC_any st st (.slice sv nv cv) (.slice su nu cu) vs vs _ _ (Nat.le_refl _) hv2 hu2
  rw [decide_eq_true (⟨rfl, rfl⟩ : st = st ∧ vs = vs)] at hS
  have HS : Hid (∀ _ : Unit, _) := fun _ => hS
  clear hS
  have a0 := ha.c0
  have a1 := ha.c1
  have b0 := hbb.c0
  have b1 := hbb.c1
  clear hal hb12 hal2 ha hbb hv2 hu2 ho2 hb2 HO HB1 HVL
  go_wp2_with fail
  refine (HS.out ()).mono ?_
  rintro e w3 ⟨rfl, hb3⟩
  have HB3 : Hid (Below w.heap.size w w3) := HB2.out.trans (hb3.mono HB2.out.size)
  clear hb3 HB2 HS a0 a1 b0 b1
  go_wp2_with (go_at_call 8; refine (numP _ _).mono ?_; rintro e w4 ⟨rfl, rfl⟩)
  refine (HF.out _).mono ?_
  rintro e w5 ⟨hb5, hm5⟩
  cases hr : rdFr s with
  | none =>
    rw [hr] at hm5
    obtain rfl := hm5
    have HB5 : Hid (Below w.heap.size w w5) := HB3.out.trans (hb5.mono HB3.out.size)
    clear hb5
    go_wp2_with fail
    refine (HG.out _).mono ?_
    rintro e w6 ⟨hb6, hm6⟩
    rw [hr] at hm6
    obtain rfl := hm6
    have HB6 : Hid (Below w.heap.size w w6) := HB5.out.trans (hb6.mono HB5.out.size)
    clear hb6
    go_wp2_with (go_at_call 8; refine (numP _ _).mono ?_; rintro e w4 ⟨rfl, rfl⟩)
    go_loopw [12] (fun i wr => i = .int .i64 0 ∧ Below w.heap.size w wr) (fun _ _ => 0)
    case atStart => exact ⟨rfl, HB6.out⟩
    case round =>
      obtain ⟨rfl, hb⟩ := hrel
      have HB : Hid (Below w.heap.size w wr) := hb
      clear hb
      go_wp2
      go_ret
      exact ⟨rfl, HB.out⟩
  | some cs =>
    rw [hr] at hm5
    obtain ⟨v5, xs, rfl, ho5, hc5⟩ := hm5
    obtain ⟨s5, c5, rfl⟩ := ho5.isSlice
    have HB5 : Hid (Below w.heap.size w w5) := HB3.out.trans (hb5.mono HB3.out.size)
    have HO5 : Hid (ownC w5 w.heap.size (.slice s5 xs.length c5) xs) := ho5.base HB3.out.size
    have HC5 : Hid (CsIn w5 w.heap.size xs cs) := hc5.keep (fun y ys hy => hy.base HB3.out.size)
    clear hb5 ho5 hc5
    go_wp2_with fail
    refine (HG.out _).mono ?_
    rintro e w6 ⟨hb6, hm6⟩
    rw [hr] at hm6
    obtain ⟨v6, ys, rfl, ho6, hc6⟩ := hm6
    obtain ⟨s6, c6, rfl⟩ := ho6.isSlice
    have hk6 : ∀ k, k < w5.heap.size → w.heap.size ≤ k → w6.heap[k]? = w5.heap[k]? := fun k hk _ => hb6.block k hk
    have HT : Hid (TwoC w w6 (.slice s5 xs.length c5) (.slice s6 ys.length c6) xs ys cs) := ⟨HB5.out.trans (hb6.mono HB5.out.size), HO5.out.same hk6, HC5.out.keep (fun y ys hy => hy.same hk6), ho6.base HB5.out.size, hc6.keep (fun y ys hy => hy.base HB5.out.size)⟩
    have HLn : Hid (∀ c ∈ cs, c.2.length ≤ 140737488355328) := rdBs_len _ _ _ hr
    have hcl : cs.length ≤ 1048577 := Nat.le_trans (rdBs_count _ _ _ hr) (by omega)
    have hl1 : xs.length = cs.length := HT.out.cv.1
    have hl2 : ys.length = cs.length := HT.out.cu.1
    clear hb6 ho6 hc6 hk6 HB5 HO5 HC5 HB3
    rw [hl1, hl2] at HT ⊢
    have HL1 : Hid (∀ _ : Unit, xs.length = cs.length) := fun _ => hl1
    have HL2 : Hid (∀ _ : Unit, ys.length = cs.length) := fun _ => hl2
    clear hl1 hl2
    go_wp2_with (go_at_call 8; refine (numP _ _).mono ?_; rintro e w4 ⟨rfl, rfl⟩)
    go_loopw [12] (fun i wr => ∃ k : Nat, k ≤ cs.length ∧ i = .int .i64 k ∧ TwoC w wr (.slice s5 cs.length c5) (.slice s6 cs.length c6) xs ys cs) (fun i _ => cs.length - (intOf i).toNat)
    case atStart => exact ⟨0, Nat.zero_le _, rfl, HT.out⟩
    case round =>
      obtain ⟨k, hk, rfl, hT⟩ := hrel
      have HTk : Hid (TwoC w wr (.slice s5 cs.length c5) (.slice s6 cs.length c6) xs ys cs) := hT
      clear hT HT
      by_cases hlt : k < cs.length
      · obtain ⟨g, hg5, hgl, p0, p1⟩ := HTk.out.ov.at k (by have := HL1.out (); omega)
        obtain ⟨h, hg6, hhl, q0, q1⟩ := HTk.out.ou.at k (by have := HL2.out (); omega)
        obtain ⟨e1, o1⟩ := HTk.out.cv.at k (by have := HL1.out (); omega) hlt
        obtain ⟨e2, o2⟩ := HTk.out.cu.at k (by have := HL2.out (); omega) hlt
        obtain ⟨x1, x2, x3, ex⟩ := o1.isSlice
        obtain ⟨y1, y2, y3, ey⟩ := o2.isSlice
        rw [e1] at p0
        rw [e2] at q0
        rw [ex] at p1 o1
        rw [ey] at q1 o2
        have hl47 : cs[k].2.length ≤ 140737488355328 := HLn.out _ (List.getElem_mem hlt)
        have hS := sameC_any cs[k].1 cs[k].1 (.slice x1 x2 x3) (.slice y1 y2 y3) cs[k].2 cs[k].2 wr.drew.heap.size wr.drew (Nat.le_refl _) (o1.drew.seesAll hl47) (o2.drew.seesAll hl47)
        rw [decide_eq_true (⟨rfl, rfl⟩ : cs[k].1 = cs[k].1 ∧ cs[k].2 = cs[k].2)] at hS
        have HS : Hid (∀ _ : Unit, _) := fun _ => hS
        clear hS hl47 o1 o2 ex ey e1 e2
        generalize cs[k].1 = st at *
        subst hg5
        subst hg6
        go_wp2_with fail
        (refine wp_region_held_drew (S := (fun W => W.cell? ⟨g, k * 2, none⟩ = some (.int .u64 st) ∧ W.cell? ⟨g, k * 2 + 1, none⟩ = some (.slice x1 x2 x3) ∧ W.cell? ⟨h, k * 2, none⟩ = some (.int .u64 st) ∧ W.cell? ⟨h, k * 2 + 1, none⟩ = some (.slice y1 y2 y3))) (by kernel_rfl) ⟨p0, p1, q0, q1⟩ (fun hHeld => ?_); simp only [List.size_toArray, List.length_cons, List.length_nil, Nat.reduceAdd, Array.replicate_succ, Array.replicate_zero, List.push_toArray, List.append_toArray, List.nil_append, List.cons_append])
        (refine tk0 (v := ?_) (by kernel_rfl) (by kernel_rfl) (by kernel_rfl) (fun _ _ _ h => h) (Or.inl ⟨by rfl, ?_⟩) (by assumption) ?_; rotate_left; (focus (intro w hSw; (try dsimp only at hSw); go_simp; (try first | (rw [dif_pos (by omega)]; simp only [Result.andThen_ok]) | rw [if_pos (by omega)]); (try with_reducible rfl); done)); try simp only [Act.put, List.setIfInBounds_toArray, List.set_cons_zero, List.set_cons_succ])
        (refine tk1 (v := ?_) (by kernel_rfl) (by kernel_rfl) (by kernel_rfl) (fun _ _ _ h => h) (Or.inl ⟨by rfl, ?_⟩) (by assumption) ?_; rotate_left; (focus (intro w hSw; (try dsimp only at hSw); go_simp; (try first | (rw [dif_pos (by omega)]; simp only [Result.andThen_ok]) | rw [if_pos (by omega)]); (try with_reducible rfl); done)); try simp only [Act.put, List.setIfInBounds_toArray, List.set_cons_zero, List.set_cons_succ])
        (refine tk2 (v := ?_) (by kernel_rfl) (by kernel_rfl) (by kernel_rfl) (fun _ _ _ h => h) (Or.inl ⟨by rfl, ?_⟩) (by assumption) ?_; rotate_left; (focus (intro w hSw; (try dsimp only at hSw); go_simp; (try first | (rw [dif_pos (by omega)]; simp only [Result.andThen_ok]) | rw [if_pos (by omega)]); (try with_reducible rfl); done)); try simp only [Act.put, List.setIfInBounds_toArray, List.set_cons_zero, List.set_cons_succ])
        (refine tk3 (v := ?_) (by kernel_rfl) (by kernel_rfl) (by kernel_rfl) (fun _ _ _ h => h) (Or.inl ⟨by rfl, ?_⟩) (by assumption) ?_; rotate_left; (focus (intro w hSw; (try dsimp only at hSw); go_simp; (try first | (rw [dif_pos (by omega)]; simp only [Result.andThen_ok]) | rw [if_pos (by omega)]); (try with_reducible rfl); done)); try simp only [Act.put, List.setIfInBounds_toArray, List.set_cons_zero, List.set_cons_succ])
        (refine tk4 (v := ?_) (by kernel_rfl) (by kernel_rfl) (by kernel_rfl) (fun _ _ _ h => h) (Or.inl ⟨by rfl, ?_⟩) (by assumption) ?_; rotate_left; (focus (intro w hSw; (try dsimp only at hSw); go_simp; (try first | (rw [dif_pos (by omega)]; simp only [Result.andThen_ok]) | rw [if_pos (by omega)]); (try with_reducible rfl); done)); try simp only [Act.put, List.setIfInBounds_toArray, List.set_cons_zero, List.set_cons_succ])
        (refine tk5 (v := ?_) (by kernel_rfl) (by kernel_rfl) (by kernel_rfl) (fun _ _ _ h => h) (Or.inl ⟨by rfl, ?_⟩) (by assumption) ?_; rotate_left; (focus (intro w hSw; (try dsimp only at hSw); go_simp; (try first | (rw [dif_pos (by omega)]; simp only [Result.andThen_ok]) | rw [if_pos (by omega)]); (try with_reducible rfl); done)); try simp only [Act.put, List.setIfInBounds_toArray, List.set_cons_zero, List.set_cons_succ])
        (refine tk6 (v := ?_) (by kernel_rfl) (by kernel_rfl) (by kernel_rfl) (fun _ _ _ h => h) (Or.inl ⟨by rfl, ?_⟩) (by assumption) ?_; rotate_left; (focus (intro w hSw; (try dsimp only at hSw); go_simp; (try first | (rw [dif_pos (by omega)]; simp only [Result.andThen_ok]) | rw [if_pos (by omega)]); (try with_reducible rfl); done)); try simp only [Act.put, List.setIfInBounds_toArray, List.set_cons_zero, List.set_cons_succ])
        (refine tk7 (v := ?_) (by kernel_rfl) (by kernel_rfl) (by kernel_rfl) (fun _ _ _ h => h) (Or.inl ⟨by rfl, ?_⟩) (by assumption) ?_; rotate_left; (focus (intro w hSw; (try dsimp only at hSw); go_simp; (try first | (rw [dif_pos (by omega)]; simp only [Result.andThen_ok]) | rw [if_pos (by omega)]); (try with_reducible rfl); done)); try simp only [Act.put, List.setIfInBounds_toArray, List.set_cons_zero, List.set_cons_succ])
        (refine wpAnyH_ready (rs := [8]) (by kernel_rfl) (by simp) ?_; refine ar8 (fun K hK => ?_) AllReadyH.nil; go_simp)
        refine (HS.out ()).mono ?_
        rintro e w8 ⟨rfl, hb8⟩
        have H8 := (HTk.out.step (Below.refl _ _).drew).step hb8
        have r0 := (hb8.cell (p := ⟨g, k * 2, none⟩) hgl).trans p0
        have r1 := (hb8.cell (p := ⟨g, k * 2 + 1, none⟩) hgl).trans p1
        have r2 := (hb8.cell (p := ⟨h, k * 2, none⟩) hhl).trans q0
        have r3 := (hb8.cell (p := ⟨h, k * 2 + 1, none⟩) hhl).trans q1
        have HS8 : Hid _ := H8
        clear hb8 H8
        go_wp2_with fail
        (refine hK.out _ _ ⟨r0, r1, r2, r3⟩ (fun hHeld => ?_); clear hK K; try simp only [Act.put, List.setIfInBounds_toArray, List.set_cons_zero, List.set_cons_succ])
        (refine tk9 (v := ?_) (by kernel_rfl) (by kernel_rfl) (by kernel_rfl) (fun _ _ _ h => h) (Or.inl ⟨by rfl, ?_⟩) (by assumption) ?_; rotate_left; (focus (intro w hSw; (try dsimp only at hSw); go_simp; (try first | (rw [dif_pos (by omega)]; simp only [Result.andThen_ok]) | rw [if_pos (by omega)]); (try with_reducible rfl); done)); try simp only [Act.put, List.setIfInBounds_toArray, List.set_cons_zero, List.set_cons_succ])
        refine wpAnyH_done (by kernel_rfl) ?_ _
        clear p0 p1 q0 q1 r0 r1 r2 r3
        go_wp2
        go_roundw
        case rel => exact ⟨k + 1, by omega, by go_num, HS8.out⟩
        case measure => simp [intOf]; omega
      · go_wp2
        go_ret
        exact ⟨rfl, HTk.out.bel⟩
end Go.Proofs.Ytmolfemcciljjaa
