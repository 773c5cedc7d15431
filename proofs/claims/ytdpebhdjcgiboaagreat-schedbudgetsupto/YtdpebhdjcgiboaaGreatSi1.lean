import Derived.Test.YtdpebhdjcgiboaaGreatSrN
namespace Go.Proofs.YtdpebhdjcgiboaaGreat
set_option linter.unusedSimpArgs false
open Go.ChangeShapes Go.WideShapes Go.ChangeAt Go.RowKit Go.MuLone Go.RwLone
set_option linter.unusedVariables false
set_option maxRecDepth 100000
set_option maxHeartbeats 3200000
/-- What stays so of a harness while it plays, by number. -/
structure Iw (N cc : Nat) (h : Hp) : Prop where
  a : ∀ (i : Nat) (l : List Pq), h.q[i]? = some l → l.length ≤ 64 ∧ ∀ x ∈ l, x.1 < N
  b : h.ev.length + wtq h.q ≤ cc
  c : h.en.length + szq h.q ≤ cc
  e : ∀ m ∈ h.en, m < N
theorem Iw.iv {N cc : Nat} {h : Hp} (v : Iw N cc h) (hc : cc ≤ 68719476000) : Iv N h := ⟨v.a, Nat.le_trans v.b hc, Nat.le_trans v.c hc⟩
theorem Iw.up {N c d : Nat} {h : Hp} (v : Iw N c h) (hc : c ≤ d) : Iw N d h := ⟨v.a, Nat.le_trans v.b hc, Nat.le_trans v.c hc, v.e⟩
theorem Iw.set {N cc : Nat} {h : Hp} (v : Iw N cc h) {i : Nat} {l l' : List Pq} (hi : h.q[i]? = some l) (hl : l'.length ≤ l.length) (hm : ∀ x ∈ l', x.1 < N) {st : Int} {ev : List (Int × Int × Int × Int)} {en : List Nat} (h1 : ev.length + wtl l' ≤ h.ev.length + wtl l) (h2 : en.length + l'.length ≤ h.en.length + l.length) (h3 : ∀ m ∈ en, m < N) : Iw N cc ⟨h.q.set i l', st, ev, en⟩ := by
  obtain ⟨hlt, hge⟩ := List.getElem?_eq_some_iff.1 hi
  have s1 := sum_set wtl h.q i hlt l'
  have s2 := sum_set List.length h.q i hlt l'
  rw [hge] at s1 s2
  have b := v.b
  have c := v.c
  unfold wtq at b
  unfold szq at c
  refine ⟨fun j m hj => ?_, ?_, ?_, h3⟩
  · by_cases e : j = i
    · subst e
      dsimp only at hj
      rw [List.getElem?_set_self hlt] at hj
      injection hj with hj
      subst hj
      exact ⟨Nat.le_trans hl (v.a j l hi).1, hm⟩
    · dsimp only at hj
      rw [List.getElem?_set_ne (fun e' => e e'.symm)] at hj
      exact v.a j m hj
  · show ev.length + ((h.q.set i l').map wtl).sum ≤ _
    omega
  · show en.length + ((h.q.set i l').map List.length).sum ≤ _
    omega
theorem stepQ_iw {M : Mc} {cc : Nat} {h : Hp} {s : M.σ} {i : Nat} {x : Pq} {l : List Pq} (v : Iw M.N cc h) (hi : h.q[i]? = some (x :: l)) : Iw M.N cc (stepQ M h s i x l).1 := by
  have ha := (v.a i _ hi).2
  have w1 : wtp x = if x.2.2 then 1 else 2 := rfl
  have ce : (callE h i x).length = if x.2.2 then h.ev.length else h.ev.length + 1 := by
    unfold callE; split <;> simp
  unfold stepQ
  split
  · refine v.set hi (by simp) (fun y hy => ha y (List.mem_cons_of_mem _ hy)) ?_ ?_ (fun m hm => (List.mem_append.1 hm).elim (v.e m) (fun hm => by rw [List.mem_singleton.1 hm]; exact ha x (List.mem_cons_self ..)))
    · rw [List.length_append, ce, wtl_cons, w1]
      split <;> simp <;> omega
    · simp; omega
  · refine v.set hi (by simp) (fun y hy => ?_) ?_ ?_ v.e
    · rcases List.mem_cons.1 hy with rfl | hy
      · exact ha x (List.mem_cons_self ..)
      · exact ha y (List.mem_cons_of_mem _ hy)
    · rw [ce, wtl_cons, wtl_cons, w1]
      have : wtp (x.1, x.2.1, true) = 1 := rfl
      rw [this]
      split <;> omega
    · simp
section
variable {M : Mc} {J : Hp × M.σ → Prop}
/-- What each step keeps, a play keeps. -/
theorem inv_runP (hJ : ∀ a i, J a → J (stepP M a i).1) (x : Int) : ∀ (l : Nat) (n : Int) (a : Hp × M.σ), J a → J (runP M x l n a).2.2
  | 0, n, a, j => by unfold runP; split <;> exact j
  | l + 1, n, a, j => by
    unfold runP
    split
    · exact j
    · exact inv_runP hJ x l _ _ (hJ a _ j)
theorem inv_finP (hJ : ∀ a i, J a → J (stepP M a i).1) (i : Nat) : ∀ (l : Nat) (a : Hp × M.σ), J a → J (finP M i l a).2.2
  | 0, a, j => j
  | l + 1, a, j => by
    unfold finP
    split
    · exact hJ a i j
    · exact inv_finP hJ i l _ (hJ a i j)
theorem inv_roundN (hJ : ∀ a i, J a → J (stepP M a i).1) : ∀ (k t l : Nat) (a : Hp × M.σ), J a → J (roundN M k t l a).2.2
  | 0, t, l, a, j => j
  | k + 1, t, l, a, j => by
    have := inv_runP hJ (t : Int) l 1 a j
    unfold roundN
    split
    · exact inv_roundN hJ k _ _ _ this
    · exact this
theorem inv_roundsF (hJ : ∀ a i, J a → J (stepP M a i).1) : ∀ (k : Nat) (n : Int) (l : Nat) (a : Hp × M.σ), J a → J (roundsF M k n l a).2.2
  | 0, n, l, a, j => j
  | k + 1, n, l, a, j => by
    have := inv_roundN hJ a.1.q.length 0 l a j
    unfold roundsF
    split
    · exact j
    · split
      · exact inv_roundsF hJ k _ _ _ this
      · exact this
theorem inv_pick (hJ : ∀ a i, J a → J (stepP M a i).1) (p : Int × Int × Int) (l : Nat) (a : Hp × M.σ) (j : J a) : J (pickP M p l a).2.2 := by
  unfold pickP
  split
  · exact inv_runP hJ _ _ _ _ j
  · split
    · exact inv_runP hJ _ _ _ _ j
    · split
      · unfold finA
        split
        · exact j
        · exact inv_finP hJ _ _ _ j
      · split
        · exact inv_roundsF hJ _ _ _ _ j
        · split
          · exact inv_roundsF hJ _ _ _ _ j
          · exact j
theorem inv_play (hJ : ∀ a i, J a → J (stepP M a i).1) : ∀ (vs : List (Int × Int × Int)) (l : Nat) (a : Hp × M.σ), J a → J (playP M vs l a).2.2
  | [], l, a, j => j
  | p :: ps, l, a, j => by
    have := inv_pick hJ p l a j
    unfold playP
    split
    · exact inv_play hJ ps _ _ this
    · exact this
end
theorem Iw.step {M : Mc} {cc n : Nat} (a : Hp × M.σ) (i : Nat) (v : Iw M.N cc a.1 ∧ a.1.q.length = n) : Iw M.N cc (stepP M a i).1.1 ∧ (stepP M a i).1.1.q.length = n := by
  unfold stepP
  split
  · rename_i x l hq
    refine ⟨stepQ_iw v.1 hq, ?_⟩
    dsimp only
    unfold stepQ
    split <;> simp [v.2]
  · exact v
theorem Iw.play {M : Mc} {cc n : Nat} (vs : List (Int × Int × Int)) (l : Nat) (a : Hp × M.σ) (v : Iw M.N cc a.1) (hn : a.1.q.length = n) : Iw M.N cc (playP M vs l a).2.2.1 ∧ (playP M vs l a).2.2.1.q.length = n :=
  inv_play (J := fun a => Iw M.N cc a.1 ∧ a.1.q.length = n) (fun a i v => Iw.step a i v) vs l a ⟨v, hn⟩
end Go.Proofs.YtdpebhdjcgiboaaGreat

namespace Go.Proofs.YtdpebhdjcgiboaaGreat
set_option linter.unusedSimpArgs false
open Go.ChangeShapes Go.WideShapes Go.ChangeAt Go.RowKit Go.MuLone Go.RwLone
set_option linter.unusedVariables false
set_option maxRecDepth 100000
set_option maxHeartbeats 3200000
theorem InG.wd2 {w : World} {C : Nat} {a : Option Addr} {n c : Nat} {xs : List Int} (h : InG wdC w C (.slice a n c) xs) (i : Nat) (hi : i < xs.length) : ∃ b off, a = some ⟨b, off, none⟩ ∧ b < C ∧ w.cell? ⟨b, off + i, none⟩ = some (.int .u64 xs[i]) := by
  obtain ⟨b, off, e, hl, hc⟩ := InG.cell (cs := wdC) (n := 1) (fun _ => rfl) h i hi (by decide)
  have := hc 0 (by decide)
  rw [Nat.mul_one, Nat.add_zero] at this
  exact ⟨b, off, e, hl, this⟩
/-- Two lists that are the same. -/
theorem sameW (w : World) (C : Nat) (hC : C ≤ w.heap.size) (a1 : Option Addr) (c1 : Nat) (a2 : Option Addr) (c2 : Nat) (xs : List Int) (h1 : InG wdC w C (.slice a1 xs.length c1) xs) (h2 : InG wdC w C (.slice a2 xs.length c2) xs) (hn : xs.length ≤ 140737488355328) :
    Calls Tryz.prog 49 #[.slice a1 xs.length c1, .slice a2 xs.length c2] w fun e w' => e = .returned (.bool true) ∧ Keeps (fun _ => False) w w' := by
  have H : Hid (∀ W, Keeps (fun _ => False) w W → InG wdC W C (.slice a1 xs.length c1) xs ∧ InG wdC W C (.slice a2 xs.length c2) xs) := fun W k => ⟨h1.later (k.below hC (fun _ _ e => e)), h2.later (k.below hC (fun _ _ e => e))⟩
  clear h1 h2
  go_enter Tryz.func49, Tryz.ntmps49
  go_wp2_with fail
  go_loopw [5] (fun c wr => ∃ t : Nat, c = .int .i64 t ∧ t ≤ xs.length ∧ Keeps (fun _ => False) w wr) (fun c _ => xs.length - (intOf c).toNat)
  case atStart => exact ⟨0, rfl, by omega, Keeps.refl _ _⟩
  case round =>
    obtain ⟨t, rfl, ht, hk⟩ := hrel
    have HK : Hid (Keeps (fun _ => False) w wr) := hk
    clear hk
    by_cases h5 : t < xs.length
    · have t0 : (0 : Int) ≤ (t : Int) := Int.natCast_nonneg _
      have t1 : (t : Int) < (xs.length : Int) := by omega
      obtain ⟨b1, o1, rfl, -, q1⟩ := (H.out wr HK.out).1.wd2 t h5
      obtain ⟨b2, o2, rfl, -, q2⟩ := (H.out wr HK.out).2.wd2 t h5
      have HN : Hid (Keeps (fun _ => False) w wr.drew) := HK.out.drew
      generalize xs[t] = x at *
      go_wp2_with fail
      (refine wp_region_held_drew (S := (fun W => W.cell? ⟨b1, o1 + t, none⟩ = some (.int .u64 x) ∧ W.cell? ⟨b2, o2 + t, none⟩ = some (.int .u64 x))) (by kernel_rfl) ⟨q1, q2⟩ (fun hHeld => ?_); simp only [List.size_toArray, List.length_cons, List.length_nil, Nat.reduceAdd, Array.replicate_succ, Array.replicate_zero, List.push_toArray, List.append_toArray, List.nil_append, List.cons_append])
      refine rgT 0 (h := ?_)
      refine rgT 1 (h := ?_)
      refine rgT 2 (h := ?_)
      refine rgT 3 (h := ?_)
      refine rgT 4 (h := ?_)
      refine rgT 5 (h := ?_)
      refine rgT 6 (h := ?_)
      refine rgT 7 (h := ?_)
      refine rgT 8 (h := ?_)
      refine wpAnyH_done (by kernel_rfl) ?_ _
      clear q1 q2
      go_wp2
      go_roundw
      case rel => exact ⟨t + 1, by go_num, by omega, HN.out⟩
      case measure => simp [intOf]; omega
    · go_wp2
      go_ret
      exact ⟨rfl, HK.out⟩
/-- Two outcomes that are the same. -/
theorem sameO (w : World) (C : Nat) (hC : C ≤ w.heap.size) (a1 : Option Addr) (c1 : Nat) (a2 : Option Addr) (c2 : Nat) (xs : List Int) (a3 : Option Addr) (c3 : Nat) (a4 : Option Addr) (c4 : Nat) (ys : List Int) (h1 : InG wdC w C (.slice a1 xs.length c1) xs) (h2 : InG wdC w C (.slice a2 xs.length c2) xs) (hn : xs.length ≤ 140737488355328) (h3 : InG wdC w C (.slice a3 ys.length c3) ys) (h4 : InG wdC w C (.slice a4 ys.length c4) ys) (hm : ys.length ≤ 140737488355328) :
    Calls Tryz.prog 23 #[.agg #[.slice a1 xs.length c1, .slice a3 ys.length c3], .agg #[.slice a2 xs.length c2, .slice a4 ys.length c4]] w fun e w' => e = .returned (.bool true) ∧ Keeps (fun _ => False) w w' := by
  have k0 : Keeps (fun _ => False) w ((w.alloc (.cells #[.slice a1 xs.length c1, .slice a3 ys.length c3] 51)).alloc (.cells #[.slice a2 xs.length c2, .slice a4 ys.length c4] 51)) := ((Keeps.refl _ _).alloc _).alloc _
  have HK0 : Hid (Keeps (fun _ => False) w ((w.alloc (.cells #[.slice a1 xs.length c1, .slice a3 ys.length c3] 51)).alloc (.cells #[.slice a2 xs.length c2, .slice a4 ys.length c4] 51))) := k0
  have lt : ∀ {v : Value} {zs : List Int}, InG wdC w C v zs → ∀ W, Keeps (fun _ => False) w W → InG wdC W C v zs := fun h W k => h.later (k.below hC (fun _ _ e => e))
  have HX := sameW _ C (Nat.le_trans hC k0.size) a1 c1 a2 c2 xs (lt h1 _ k0) (lt h2 _ k0) hn
  have HXX : Hid (∀ _ : Unit, _) := fun _ => HX
  have HY : Hid (∀ W, Keeps (fun _ => False) w W → Calls Tryz.prog 49 #[.slice a3 ys.length c3, .slice a4 ys.length c4] W fun e w' => e = .returned (.bool true) ∧ Keeps (fun _ => False) W w') := fun W k => sameW W C (Nat.le_trans hC k.size) a3 c3 a4 c4 ys (lt h3 W k) (lt h4 W k) hm
  have HC : Hid (∀ W, Keeps (fun _ => False) ((w.alloc (.cells #[.slice a1 xs.length c1, .slice a3 ys.length c3] 51)).alloc (.cells #[.slice a2 xs.length c2, .slice a4 ys.length c4] 51)) W → W.cell? ⟨w.heap.size, 1, none⟩ = some (.slice a3 ys.length c3) ∧ W.cell? ⟨w.heap.size + 1, 1, none⟩ = some (.slice a4 ys.length c4)) := fun W k => by
    have s : ((w.alloc (.cells #[.slice a1 xs.length c1, .slice a3 ys.length c3] 51)).alloc (.cells #[.slice a2 xs.length c2, .slice a4 ys.length c4] 51)).heap.size = w.heap.size + 2 := by rw [szAl, szAl]
    have e1 : W.heap[w.heap.size]? = some (.cells #[.slice a1 xs.length c1, .slice a3 ys.length c3] 51) := (k.block _ (by omega) (fun e => e)).trans ((Below.heap_alloc _ _ _ (by rw [szAl]; omega)).trans (heap_alloc_last _ _ _ rfl))
    have e2 : W.heap[w.heap.size + 1]? = some (.cells #[.slice a2 xs.length c2, .slice a4 ys.length c4] 51) := (k.block _ (by omega) (fun e => e)).trans (heap_alloc_last _ _ _ (szAl _ _).symm)
    exact ⟨(cell?_heap e1 1).trans rfl, (cell?_heap e2 1).trans rfl⟩
  clear h1 h2 h3 h4 lt HX k0
  go_enter Tryz.func23, Tryz.ntmps23
  go_wp2_with fail
  refine (HXX.out ()).mono ?_
  rintro e w2 ⟨rfl, k2⟩
  obtain ⟨q1, q2⟩ := HC.out w2 k2
  have HK2 : Hid (Keeps (fun _ => False) w w2) := HK0.out.trans k2
  clear k2 HXX
  go_wp2_with fail
  refine (HY.out w2 HK2.out).mono ?_
  rintro e w3 ⟨rfl, k3⟩
  have HK3 : Hid (Keeps (fun _ => False) w w3) := HK2.out.trans k3
  clear k3 q1 q2
  go_wp2
  go_ret
  exact ⟨rfl, HK3.out⟩
theorem owW_set {w : World} {B g n c : Nat} {xs : List Int} (h : OwW w B (.slice (some ⟨g, 0, none⟩) n c) xs) (i : Nat) (hi : i < xs.length) (x : Int) : ∃ ys, ys.length = xs.length ∧ OwW (w.setCell ⟨g, i, none⟩ (.int .u64 x)) B (.slice (some ⟨g, 0, none⟩) n c) ys ∧ (∃ u, w.cell? ⟨g, i, none⟩ = some u) ∧ w.frozen? ⟨g, i, none⟩ = false := by
  have hnx := (owG_cap h).1
  subst hnx
  refine ⟨xs.set i x, by simp, ?_, ?_, World.ownsRow.frozenAt h i⟩
  · have h2 := (World.ownsRow.stored h i (.int .u64 x)).1
    have e : (xs.set i x).flatMap wdC = (xs.flatMap wdC).set i (.int .u64 x) := by
      rw [flat_wd, flat_wd, List.map_set]
    unfold OwW OwG
    rw [e, List.length_set]
    exact h2
  · exact ⟨_, (World.ownsRow.cellAt h i (by omega)).trans (by rw [flat_wd, List.getElem?_map, List.getElem?_eq_getElem hi]; rfl)⟩
/-- A list of words that is written full, and grown. -/
theorem worded_any (w : World) (v : Value) (m : Int) (xs : List Int) (h : OwW w 0 v xs) (hn : xs.length ≤ 1048576) :
    Calls Tryz.prog 79 #[v, .int .u64 m] w fun e w' => e = .returned (.tuple #[]) ∧ Keeps (fun x => v.ownBlock = some x) w w' := by
  obtain ⟨a, c, rfl⟩ := h.form
  obtain ⟨n, hnn⟩ : ∃ n, xs.length = n := ⟨_, rfl⟩
  have H : Hid (OwW w 0 (.slice a n c) xs ∧ xs.length = n) := ⟨by rw [← hnn]; exact h, hnn⟩
  rw [hnn]
  rw [hnn] at hn
  clear h hnn
  go_enter Tryz.func79, Tryz.ntmps79
  go_wp2_with fail
  go_loopw [4] (fun d wr => ∃ (t : Nat) (ys : List Int), d = .int .i64 t ∧ t ≤ n ∧ ys.length = n ∧ OwW wr 0 (.slice a n c) ys ∧ Keeps (fun x => (Value.slice a n c).ownBlock = some x) w wr) (fun d _ => n - (intOf d).toNat)
  case atStart => exact ⟨0, xs, rfl, by omega, H.out.2, H.out.1, Keeps.refl _ _⟩
  case round =>
    obtain ⟨t, ys, rfl, ht, hyl, how, hk⟩ := hrel
    have HQ : Hid (OwW wr 0 (.slice a n c) ys ∧ ys.length = n ∧ Keeps (fun x => (Value.slice a n c).ownBlock = some x) w wr) := ⟨how, hyl, hk⟩
    clear H hk
    by_cases h5 : t < n
    · have t0 : (0 : Int) ≤ (t : Int) := Int.natCast_nonneg _
      have t1 : (t : Int) < (n : Int) := by omega
      obtain ⟨g, cap, e, -, hgl⟩ := owG_some how (by intro e; rw [e] at hyl; simp at hyl; omega)
      injection e with e _ _
      subst e
      obtain ⟨y, hy⟩ : ∃ y, IntKind.u64.wrap (m + (t : Int)) = y := ⟨_, rfl⟩
      obtain ⟨zs, hz1, hz2, ⟨u, hu⟩, hf⟩ := owW_set how t (by omega) y
      have HN : Hid (OwW (wr.setCell ⟨g, t, none⟩ (.int .u64 y)) 0 (.slice (some ⟨g, 0, none⟩) n c) zs ∧ zs.length = n ∧ Keeps (fun x => (Value.slice (some ⟨g, 0, none⟩) n c).ownBlock = some x) w (wr.setCell ⟨g, t, none⟩ (.int .u64 y))) := ⟨hz2, by omega, HQ.out.2.2.setCell (p := ⟨g, t, none⟩) rfl _⟩
      clear how hyl hz1 hz2 hgl
      go_wp2
      go_roundw
      case rel => exact ⟨t + 1, zs, by go_num, by omega, HN.out.2.1, HN.out.1, HN.out.2.2⟩
      case measure => simp [intOf]; omega
    · clear how hyl
      go_wp2_with fail
      go_loopw [0, 5] (fun v d wr => ∃ (t : Nat) (v' : Value) (ys : List Int), v' = v ∧ d = .int .i64 t ∧ t ≤ 80 ∧ ys.length ≤ n + t ∧ OwW wr 0 v' ys ∧ Keeps (fun x => (Value.slice a n c).ownBlock = some x) w wr ∧ (∀ g, v'.ownBlock = some g → (Value.slice a n c).ownBlock = some g ∨ w.heap.size ≤ g)) (fun _ d _ => 80 - (intOf d).toNat)
      case atStart => exact ⟨0, _, ys, rfl, rfl, by omega, by have := HQ.out.2.1; omega, HQ.out.1, HQ.out.2.2, fun g hg => .inl hg⟩
      case round =>
        obtain ⟨u, v', zs, rfl, rfl, hu, hzl, how, hk, hob⟩ := hrel
        obtain ⟨va, vc, rfl⟩ := how.form
        have HQ2 : Hid (OwW wr 0 (.slice va zs.length vc) zs ∧ Keeps (fun x => (Value.slice a n c).ownBlock = some x) w wr ∧ (∀ g, (Value.slice va zs.length vc).ownBlock = some g → (Value.slice a n c).ownBlock = some g ∨ w.heap.size ≤ g)) := ⟨how, hk, hob⟩
        clear how hk hob HQ
        by_cases h6 : u < 80
        · have u0 : (0 : Int) ≤ (u : Int) := Int.natCast_nonneg _
          have u1 : (u : Int) < 80 := by omega
          go_wp2_with (at_builtin; refine hideG ?_)
          change wpList _ _ _ _ _ _
          refine app_lies (cs := wdC) (wr := wr) (by rfl) _ _ 46 55 (by rfl) Tryz.underlying46 infoU64 rfl (by decide) (fun _ => rfl) _ zs m HQ2.out.1 (by rfl) wr.heap.size rfl (by rfl) (wdC_one _) _ rfl (by unfold maxLen; omega) (by omega) ?_
          intro b k w3 ho3 hk3 hb3 hl3
          have HN : Hid (OwW w3 0 (.slice (some ⟨b, 0, none⟩) (zs.length + 1) k) (zs ++ [m]) ∧ Keeps (fun x => (Value.slice a n c).ownBlock = some x) w w3 ∧ (∀ g, (Value.slice (some ⟨b, 0, none⟩) (zs.length + 1) k).ownBlock = some g → (Value.slice a n c).ownBlock = some g ∨ w.heap.size ≤ g)) := by
            have hs := HQ2.out.2.1.size
            refine ⟨ho3, ?_, fun g hg => ?_⟩
            · exact ⟨hk3.os.trans HQ2.out.2.1.os, hk3.tape.trans HQ2.out.2.1.tape, hk3.output.trans HQ2.out.2.1.output, Nat.le_trans hs hk3.size, fun x hx hn => (hk3.block x (by omega) (fun e => (HQ2.out.2.2 x e).elim hn (fun e => by omega))).trans (HQ2.out.2.1.block x hx hn)⟩
            · obtain rfl : b = g := Option.some.inj hg
              rcases hb3 with e | e
              · exact HQ2.out.2.2 b e
              · right; omega
          have hln : (zs ++ [m]).length ≤ n + (u + 1) := by simp; omega
          clear ho3 hk3 hb3 hl3 HQ2
          generalize zs ++ [m] = us at *
          go_wp2
          go_roundw
          case rel => exact ⟨u + 1, _, us, rfl, by go_num, by omega, hln, HN.out⟩
          case measure => simp [intOf]; omega
        · go_wp2
          refine ⟨rfl, .tuple #[], by simp [results, Tryz.results79], rfl, ?_⟩
          exact HQ2.out.2.1
end Go.Proofs.YtdpebhdjcgiboaaGreat
