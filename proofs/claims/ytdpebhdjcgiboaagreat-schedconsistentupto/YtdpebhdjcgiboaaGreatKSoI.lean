import Derived.Test.YtdpebhdjcgiboaaGreatKSoH
namespace Go.Proofs.YtdpebhdjcgiboaaGreat
open Go.ChangeShapes Go.WideShapes Go.ChangeAt Go.RowKit Go.MuLone Go.RwLone
set_option linter.unusedVariables false
set_option maxRecDepth 100000
set_option maxHeartbeats 6400000
/-- Is the visit k one in which all threads are done? -/
def endB (T : Ts (List Int)) (V : List (Vi (List Int))) (k : Nat) : Bool := match V[k]? with
  | some v => allT T v.1 T.n
  | none => false
/-- The ends among the first i visits. -/
def endsP (T : Ts (List Int)) (V : List (Vi (List Int))) (i : Nat) : List Nat := (List.range i).filter (endB T V)
theorem ends_len (T : Ts (List Int)) (V : List (Vi (List Int))) (i : Nat) : (endsP T V i).length ≤ i := by
  have := List.length_filter_le (endB T V) (List.range i)
  rw [List.length_range] at this
  exact this
theorem ends_step (T : Ts (List Int)) (V r : List (Vi (List Int))) (i : Nat) (v : Vi (List Int)) (hv : V[i]? = some v) : endsP T V i ++ (if allT T v.1 T.n = true then [i] else []) = endsP T (V ++ r) (i + 1) := by
  have hi := (List.getElem?_eq_some_iff.1 hv).1
  have e1 : endsP T (V ++ r) i = endsP T V i := by
    unfold endsP
    apply List.filter_congr
    intro k hk
    have hk := List.mem_range.1 hk
    unfold endB
    rw [List.getElem?_append_left (by omega)]
  have e2 : endB T (V ++ r) i = allT T v.1 T.n := by
    unfold endB
    rw [List.getElem?_append_left hi, hv]
  unfold endsP at *
  rw [List.range_succ, List.filter_append, e1]
  congr 1
  rw [List.filter_cons, e2]
  split <;> rfl
theorem ends_in {T : Ts (List Int)} {V : List (Vi (List Int))} {i k : Nat} : k ∈ endsP T V i ↔ k < i ∧ ∃ v, V[k]? = some v ∧ allT T v.1 T.n = true := by
  unfold endsP
  rw [List.mem_filter, List.mem_range]
  refine and_congr_right (fun _ => ?_)
  unfold endB
  cases V[k]? with
  | none => simp
  | some v => simp
theorem few_all {cs : List Int} {tl : List (List I8)} (hsd : soundP cs tl = true) {V : List (Vi (List Int))} {i j : Nat} (h : Vo (tsL (insL tl) tl.length) (encS (begA cs tl).2) V i j) : V.length ≤ 6103515625 := by
  obtain ⟨hc4, hn4, _⟩ := sound_facts hsd
  have h1 := h.few _ (R := 14) (fun ws t hw => word_ten hsd hw)
  have h2 : ((tsL (insL tl) tl.length).n + 1) ^ 14 ≤ 5 ^ 14 := Nat.pow_le_pow_left (by show tl.length + 1 ≤ 5; omega) 14
  have h3 : (5 : Nat) ^ 14 = 6103515625 := by decide
  omega
theorem beg_fit {cs : List Int} {tl : List (List I8)} (hco : csOk cs) : Fit cs.length (begA cs tl).2 := by
  refine ⟨fun i hi => ?_, fun i r => by show (0 : Int) ≤ 0 ∧ (0 : Int) < _; omega, fun i => Nat.zero_le _⟩
  show 0 ≤ wds cs i ∧ wds cs i < 18446744073709551616
  unfold wds
  rw [List.getElem?_eq_getElem hi]
  exact hco _ (List.getElem_mem hi)
/-- All that an exploration has found. -/
structure Ex (w w' : World) (cs : List Int) (tl : List (List I8)) (G : Nat → Prop) (B : Bd) (bb hb qb : Nat) (tv : Value) (a : Hp × Ls) (kb mb : Nat) (vv ev : Value) (V : List (Vi (List Int))) (i : Nat) : Prop where
  h : Wb w' G B bb hb qb tv a kb mb vv ev V (endsP (tsL B.ins B.n) V i)
  o : Vo (tsL B.ins B.n) (encS (begA cs tl).2) V i 0
  g : ∀ u ∈ V, Gs B.wd B.n u.1
  f : ∀ y, fK kb mb vv ev y → w.heap.size ≤ y
  b : ∀ y, G y → w.heap.size ≤ y
  k : Below w.heap.size w w'
structure BdIs (B : Bd) (cs : List Int) (tl : List (List I8)) : Prop where
  ok : BdOk B
  n : B.n = tl.length
  w : B.wd = cs.length
  i : B.ins = insL tl
/-- An exploration at the visit i. -/
def ExI (w w' : World) (cs : List Int) (tl : List (List I8)) (G : Nat → Prop) (B : Bd) (bb hb qb : Nat) (tv : Value) (kb mb i : Nat) : Prop := ∃ a vv ev V, i ≤ V.length ∧ Ex w w' cs tl G B bb hb qb tv a kb mb vv ev V i
/-- What an exploration leaves. -/
def Exp (w w' : World) (cs : List Int) (tl : List (List I8)) (kb : Nat) : Prop := ∃ G B bb hb qb tv a mb vv ev V, BdIs B cs tl ∧ Ex w w' cs tl G B bb hb qb tv a kb mb vv ev V V.length
theorem explore_any (w : World) (C : Nat) (ca : Option Addr) (cc : Nat) (ta : Option Addr) (tc : Nat) (tvf : Nat → Value) (cs : List Int) (tl : List (List I8)) (h : LitG w C ca cc ta tc tvf cs tl) (hC : C ≤ w.heap.size) (hsd : soundP cs tl = true) (hco : csOk cs) (hio : ∀ l ∈ tl, ∀ x ∈ l, immOk x) :
    Calls Tryz.prog 44 #[.agg (litC ca cs.length cc ta tl.length tc)] w fun e w' => ∃ kb, e = .returned (.tuple #[.pointer (some ⟨kb, 0, none⟩), .int .i64 0]) ∧ Exp w w' cs tl kb := by
  obtain ⟨hc4, hn4, -⟩ := sound_facts hsd
  have k0 : Keeps (fun _ => False) w (w.alloc (.cells (litC ca cs.length cc ta tl.length tc) 49)) := (Keeps.refl _ _).alloc _
  have HL := layB (w.alloc (.cells (litC ca cs.length cc ta tl.length tc) 49)) C ca cc ta tc tvf cs tl (h.later (k0.below hC (fun _ _ e => e))) (by rw [szAl]; omega) hsd hco hio
  have HLL : Hid (∀ _ : Unit, _) := fun _ => HL
  have HK0 : Hid (Keeps (fun _ => False) w (w.alloc (.cells (litC ca cs.length cc ta tl.length tc) 49)) ∧ soundP cs tl = true ∧ csOk cs) := ⟨k0, hsd, hco⟩
  clear h HL k0 hsd hco hio
  go_enter Tryz.func44, Tryz.ntmps44
  go_wp2_with fail
  refine (HLL.out ()).mono ?_
  rintro e w2 ⟨B, bb, hb, qb, tv, rfl, hB, hBn, hBw, hBi, b⟩
  have HBB : Hid (BdIs B cs tl) := ⟨hB, hBn, hBw, hBi⟩
  have HB : Hid (BnF w2 (fun y => (w.alloc (.cells (litC ca cs.length cc ta tl.length tc) 49)).heap.size ≤ y ∧ y < w2.heap.size) B bb hb qb tv (begA cs tl) ∧ Below w.heap.size w w2) := ⟨BnF.of b, (HK0.out.1.below (Nat.le_refl _) (fun _ _ e => e)).trans (b.bl.mono (by rw [szAl]; omega))⟩
  clear b hB hBn hBw hBi HLL
  have HN : Hid (w.heap.size ≤ (w.alloc (.cells (litC ca cs.length cc ta tl.length tc) 49)).heap.size) := by show _ ≤ _; rw [szAl]; omega
  generalize (w.alloc (.cells (litC ca cs.length cc ta tl.length tc) 49)).heap.size = N at *
  have hmk : (Instr.makeMap 126 none).run Tryz.prog w2 = .ok (.map (some w2.heap.size)) (w2.alloc (.map #[] 0)) := rfl
  have hsz3 : (w2.alloc (.map #[] 0)).heap.size = w2.heap.size + 1 := szAl _ _
  go_wp2_with fail
  clear hmk hsz3
  have HW4 : Hid (Wb ((w2.alloc (.map #[] 0)).alloc (.cells (wkA bb (.slice none 0 0) w2.heap.size (.slice none 0 0)) 128)) (fun y => N ≤ y ∧ y < w2.heap.size) B bb hb qb tv (begA cs tl) (w2.heap.size + 1) w2.heap.size (.slice none 0 0) (.slice none 0 0) [] []) := by
    refine ⟨HB.out.1.still (((Keeps.refl _ _).alloc _).alloc _), ⟨heap_alloc_last _ _ _ (szAl _ _).symm, OwG.nil _ _ _ _ _, (SetM.made w2).keeps ((Keeps.refl (fun _ => False) _).alloc _) (fun e => e), OwG.nil _ _ _ _ _⟩, fun y hy hG => ?_, ?_⟩
    · rcases hy with e | e | e | e
      · omega
      · omega
      · cases e
      · cases e
    · rw [HBB.out.w, HBB.out.n]; exact beg_can cs tl
  have HK4 : Hid (Below w.heap.size w ((w2.alloc (.map #[] 0)).alloc (.cells (wkA bb (.slice none 0 0) w2.heap.size (.slice none 0 0)) 128)) ∧ w.heap.size ≤ N ∧ w.heap.size ≤ w2.heap.size) := ⟨(HB.out.2.alloc HB.out.2.size _).alloc (by rw [szAl]; have := HB.out.2.size; omega) _, HN.out, HB.out.2.size⟩
  generalize (w2.alloc (.map #[] 0)).alloc (.cells (wkA bb (.slice none 0 0) w2.heap.size (.slice none 0 0)) 128) = w4 at *
  have hBn : 1 ≤ B.n ∧ B.n ≤ 4 := by rw [HBB.out.n]; exact hn4
  have hBw : 1 ≤ B.wd ∧ B.wd ≤ 4 := by rw [HBB.out.w]; exact hc4
  refine (state_any w4 (fun y => N ≤ y ∧ y < w2.heap.size) B HBB.out.ok bb hb qb tv (begA cs tl) HW4.out.b hBn hBw HW4.out.c (fun i hi => Nat.zero_le _)).mono ?_
  rintro e w5 ⟨rfl, b5, k5⟩
  have HW5 : Hid (Wb w5 (fun y => N ≤ y ∧ y < w2.heap.size) B bb hb qb tv (begA cs tl) (w2.heap.size + 1) w2.heap.size (.slice none 0 0) (.slice none 0 0) [] []) := HW4.out.bench b5 HW4.out.c (k5.mono (fun y e => HW4.out.b.lo y (.inl e)))
  have HK5 : Hid (Below w.heap.size w w5) := HK4.out.1.trans (k5.below HK4.out.1.size (fun y hy e => by have := HW4.out.b.lo y (.inl e); have := HK4.out.2.1; omega))
  have hco := HK0.out.2.2
  have c0 : Can B.wd B.n (begA cs tl).2 := HW4.out.c
  have f0 : Fit B.wd (begA cs tl).2 := by rw [HBB.out.w]; exact beg_fit hco
  obtain ⟨row, hrow⟩ : ∃ row, rowU (encS (begA cs tl).2) = row := ⟨_, rfl⟩
  have HR : Hid (row.length = 24) := by show _ = _; rw [← hrow]; exact rowU_len _
  have hvi : viC (encS (begA cs tl).2, 0, 0) = row ++ [Value.int .i64 0, Value.int .i64 0] := by rw [viC_row (encS_len _)]; show rowU (encS (begA cs tl).2) ++ _ = _; rw [hrow]; rfl
  have HMT := meet_any w5 (w2.heap.size + 1) bb w2.heap.size (.slice none 0 0) (.slice none 0 0) [] [] HW5.out.k (encS (begA cs tl).2, 0, 0) (enc_st c0 f0) (by decide)
  rw [hvi] at HMT
  have HMM : Hid (∀ _ : Unit, _) := fun _ => HMT
  have HC : Hid (Can B.wd B.n (begA cs tl).2 ∧ Fit B.wd (begA cs tl).2) := ⟨c0, f0⟩
  rw [hrow]
  clear b5 k5 hco c0 f0 hrow hvi HMT
  go_wp2_with (refine wpList_visit0 (by rfl) (.tmp 22) (by rfl) row HR.out (by rfl) ?_)
  refine (HMM.out ()).mono ?_
  rintro e w6 ⟨rfl, vv6, k6, hn6, kk6⟩
  have hn6' : ∀ g, vv6.ownBlock = some g → w5.heap.size ≤ g := fun g hg => (hn6 g hg).elim (fun e => by cases e) id
  have HX : Hid (ExI w w6 cs tl (fun y => N ≤ y ∧ y < w2.heap.size) B bb hb qb tv (w2.heap.size + 1) w2.heap.size 0) := by
    refine ⟨begA cs tl, vv6, .slice none 0 0, [(encS (begA cs tl).2, 0, 0)], by simp, ⟨?_, Vo.start _ _, fun u hu => ?_, fun y hy => ?_, fun y hy => by have := HK4.out.2.1; omega, ?_⟩⟩
    · refine HW5.out.walk k6 (kk6.mono (fun y e => e.elim .inl (fun e => .inr (e.elim .inl (fun e => .inr (.inl e)))))) (fun g hg => ?_)
      rcases hg with e | e | e | e
      · exact .inl (.inl e)
      · exact .inl (.inr (.inl e))
      · exact .inr (hn6' g e)
      · cases e
    · rw [List.mem_singleton.1 hu]
      exact ⟨(begA cs tl).2, HC.out.1, HC.out.2, rfl⟩
    · have := HK4.out.2.2
      rcases hy with e | e | e | e
      · omega
      · omega
      · have := hn6' y e; have := HK5.out.size; omega
      · cases e
    · refine HK5.out.trans (kk6.below HK5.out.size (fun y hy e => ?_))
      have := HK4.out.2.2
      rcases e with e | e | e
      · omega
      · omega
      · cases e
  clear k6 hn6 kk6 hn6' HMM HW5 HK5 HW4 HK4 HR HC
  go_wp2_with fail
  go_loopw [7] (fun c wr => ∃ i : Nat, c = .int .i64 i ∧ ExI w wr cs tl (fun y => N ≤ y ∧ y < w2.heap.size) B bb hb qb tv (w2.heap.size + 1) w2.heap.size i) (fun c _ => 6103515625 - (intOf c).toNat)
  case atStart => exact ⟨0, rfl, HX.out⟩
  case round =>
    rename World => wr
    obtain ⟨i, rfl, hX⟩ := hrel
    obtain ⟨a, vv, ev, V, hi, hE⟩ := hX
    obtain ⟨va, vc, rfl⟩ := hE.h.k.v.form
    have hfe : ∀ V' j, Vo (tsL B.ins B.n) (encS (begA cs tl).2) V' i j → V'.length ≤ 6103515625 := fun V' j h' => by
      rw [HBB.out.i, HBB.out.n] at h'
      exact few_all HK0.out.2.1 h'
    have hfew := hfe V 0 hE.o
    have HE : Hid (Ex w wr cs tl (fun y => N ≤ y ∧ y < w2.heap.size) B bb hb qb tv a (w2.heap.size + 1) w2.heap.size (.slice va V.length vc) ev V i ∧ ∀ V' j, Vo (tsL B.ins B.n) (encS (begA cs tl).2) V' i j → V'.length ≤ 6103515625) := ⟨hE, hfe⟩
    have c1 := (cell?_heap hE.h.k.k 1).trans rfl
    have i0 : (0 : Int) ≤ (i : Int) := Int.natCast_nonneg _
    clear hE hfe
    by_cases h5 : i < V.length
    · have i1 : (i : Int) < (V.length : Int) := by omega
      go_wp2_with fail
      refine (leave_any wr _ B HBB.out.ok bb hb qb tv a (w2.heap.size + 1) w2.heap.size _ ev V _ HE.out.1.h hBn hBw _ i V[i] (List.getElem?_eq_getElem h5) HE.out.1.o HE.out.1.g (fun V' j h' => by have := HE.out.2 V' j h'; omega) (ends_len _ _ _)).mono ?_
      rintro e w7 ⟨rfl, hL⟩
      have HN7 : Hid (ExI w w7 cs tl (fun y => N ≤ y ∧ y < w2.heap.size) B bb hb qb tv (w2.heap.size + 1) w2.heap.size (i + 1)) := by
        obtain ⟨a7, vv7, ev7, r7, hW7, vo7, gs7, k7, n7⟩ := hL
        have hx := HE.out.1
        have hsz := hx.k.size
        refine ⟨a7, vv7, ev7, V ++ r7, by rw [List.length_append]; omega, ⟨?_, vo7, gs7, fun y hy => (n7 y hy).elim (hx.f y) (fun e => by omega), hx.b, ?_⟩⟩
        · rw [← ends_step (tsL B.ins B.n) V r7 i V[i] (List.getElem?_eq_getElem h5)]
          exact hW7
        · exact hx.k.trans (k7.below hsz (fun y hy e => e.elim (fun e => by have := hx.b y e; omega) (fun e => by have := hx.f y e; omega)))
      clear hL c1 HE
      go_wp2
      go_roundw
      case rel => exact ⟨i + 1, by go_num, HN7.out⟩
      case measure => simp [intOf]; omega
    · obtain rfl : i = V.length := by omega
      go_wp2
      go_ret2
      exact ⟨_, rfl, _, B, bb, hb, qb, tv, a, _, _, ev, V, HBB.out, HE.out.1⟩
end Go.Proofs.YtdpebhdjcgiboaaGreat
