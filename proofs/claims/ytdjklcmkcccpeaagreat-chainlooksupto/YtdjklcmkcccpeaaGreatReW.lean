import Derived.Test.YtdjklcmkcccpeaaGreatReT
namespace Go.Proofs.YtdjklcmkcccpeaaGreat
set_option linter.unusedSimpArgs false
open Go.ChangeShapes Go.WideShapes Go.ChangeAt Go.RowKit Go.MuLone Go.RwLone
set_option linter.unusedVariables false
set_option maxRecDepth 100000
set_option maxHeartbeats 6400000
theorem infoPr : (Tryz.prog.info? 188).map (fun i => (i.zero, i.size, i.bytes)) = some (some (.agg #[.int .i64 0, .pointer none, .pointer none, .pointer none, .pointer none, .pointer none, .pointer none]), 7, 56) := by kernel_rfl
theorem pm_one (m : PM) : ∀ u ∈ pmC m, u.oneCell' = true := by
  intro u hu
  simp only [pmC, List.mem_cons, List.not_mem_nil, or_false] at hu
  rcases hu with rfl | rfl | rfl | rfl | rfl | rfl | rfl <;> first | rfl | (split <;> rfl)
theorem owG_up {α : Type} {cs : α → List Value} {e : TypeId} {n : Nat} {w : World} {v : Value} {xs : List α} (h : OwG cs e n w 0 v xs) (B : Nat) (hb : ∀ g, v.ownBlock = some g → B ≤ g) : OwG cs e n w B v xs := by
  refine ⟨h.1, ?_⟩
  rcases h.2 with h0 | ⟨g, cap, cur, rfl, _, r⟩
  · exact .inl h0
  · exact .inr ⟨g, cap, cur, rfl, hb g rfl, r⟩
/-- A machine of each side was made and laid into the law's row. -/
theorem St4.push {w w2 w3 : World} {B wb : Nat} {hold : Int} {l : WL} {qv av v' : Value} {s : WS} (h : St4 w B wb hold l qv av s) (m : PM) (k : Keeps (fun _ => False) w w2) (hm : m.H w2 l) (hi : m.ix < 2) (hok : m.ok (s.x m.ix)) (h1 : w.heap.size ≤ m.pb) (h2 : w.heap.size ≤ m.rb) (h3 : m.pb ≠ m.rb)
    (o : OwG pmC 188 7 w3 0 v' (s.ms ++ [m])) (kk : Keeps (fun x => av.ownBlock = some x) w2 w3) (hv : ∀ g, v'.ownBlock = some g → av.ownBlock = some g ∨ w2.heap.size ≤ g) (hB : B ≤ w.heap.size) :
    St4 (w3.setCell ⟨wb, 6, none⟩ v') B wb hold l qv v' { s with ms := s.ms ++ [m] } ∧ Below B w (w3.setCell ⟨wb, 6, none⟩ v') := by
  have b2 := h.b.push m k hm hi hok h1 h2 h3
  have hlow : ∀ g, av.ownBlock = some g → B ≤ g ∧ g < w.heap.size := fun g hg => World.ownsRow.lt h.o g hg
  have af : ∀ g, aF l qv { s with ms := s.ms ++ [m] } g → av.ownBlock ≠ some g ∧ g ≠ wb := fun g hg => by
    rcases push_aF g hg with e | e | e
    · exact ⟨fun e2 => (h.na g e2).1 e, fun e2 => h.nw (by rw [← e2]; exact e)⟩
    · exact ⟨fun e2 => by have := (hlow g e2).2; omega, fun e2 => by have := h.lw; omega⟩
    · exact ⟨fun e2 => by have := (hlow g e2).2; omega, fun e2 => by have := h.lw; omega⟩
  have nwb : av.ownBlock ≠ some wb := fun e => (h.na wb e).2 rfl
  have k3 : Keeps (fun x => av.ownBlock = some x) w w3 := (k.mono (fun _ e => e.elim)).trans kk
  have k4 : Keeps (fun x => x = wb) w3 (w3.setCell ⟨wb, 6, none⟩ v') := setB
  have k5 : Keeps (fun x => av.ownBlock = some x ∨ x = wb) w (w3.setCell ⟨wb, 6, none⟩ v') := (k3.mono (fun _ e => .inl e)).trans (k4.mono (fun _ e => .inr e))
  have b5 : Bo (w3.setCell ⟨wb, 6, none⟩ v') l qv { s with ms := s.ms ++ [m] } := (b2.keeps kk (fun g hg => (af g hg).1)).keeps k4 (fun g hg => (af g hg).2)
  have oc : ∀ j, j ≠ 6 → (w3.setCell ⟨wb, 6, none⟩ v').cell? ⟨wb, j, none⟩ = w.cell? ⟨wb, j, none⟩ := fun j hj => (World.cell?_setCell_other _ _ _ _ (fun e => hj (congrArg Addr.off e).symm)).trans (k3.cell (p := ⟨wb, j, none⟩) h.lw nwb)
  have c6 : w3.cell? ⟨wb, 6, none⟩ = some av := (k3.cell (p := ⟨wb, 6, none⟩) h.lw nwb).trans h.c6
  have lw3 : wb < w3.heap.size := Nat.lt_of_lt_of_le h.lw k3.size
  have hs := k.size
  refine ⟨⟨b5, (oc 0 (by decide)).trans h.c0, fun i hi => (oc (1 + i) (by omega)).trans (h.c1 i hi), (oc 3 (by decide)).trans h.c3, fun i hi => (oc (4 + i) (by omega)).trans (h.c4 i hi), World.cell?_setCell_same _ _ _ c6, (oc 7 (by decide)).trans h.c7, fun j => ?_, ?_, by simpa using lw3, h.lB, fun e => (af wb e).2 rfl, fun g hg => ⟨fun e => ?_, fun e => ?_⟩, fun g hg => ?_⟩, k5.below hB (fun g hg e => ?_)⟩
  · have := (k3.frozen (p := ⟨wb, j, none⟩) h.lw nwb).trans (h.fz j)
    simpa using this
  · refine owG_up (owK o k4 (fun g hg e => ?_)) B (fun g hg => ?_)
    · rcases hv g hg with e2 | e2
      · exact nwb (by rw [← e]; exact e2)
      · have := h.lw; omega
    · rcases hv g hg with e2 | e2
      · exact (hlow g e2).1
      · omega
  · rcases hv g hg with e2 | e2
    · exact (af g e).1 e2
    · rcases push_aF g e with e3 | e3 | e3
      · have := h.b.lt g e3; omega
      · have := hm.lt.1; omega
      · have := hm.lt.2; omega
  · rcases hv g hg with e2 | e2
    · exact (h.na g e2).2 e
    · have := h.lw; omega
  · rcases push_aF g hg with e3 | e3 | e3
    · exact h.lo g e3
    · omega
    · omega
  · rcases e with e | e
    · have := (hlow g e).1; omega
    · have := h.lB; omega
theorem law_begin3 (w : World) (B wb : Nat) (hold : Int) (l : WL) (qv av : Value) (s : WS) (i : Nat) (of_ o1 o2 : Int) (h : St4 w B wb hold l qv av s) (hi : i < 2) (hml : s.ms.length ≤ 1048576) (hB : B ≤ w.heap.size) : Calls Tryz.prog 103 #[.pointer (some ⟨wb, 0, none⟩), .agg #[.int .i64 3, .int .i64 of_, .int .i64 o1, .int .i64 o2], .int .i64 (i : Int)] w fun e w' => e = .returned (.tuple #[]) ∧ ∃ av' m, St4 w' B wb hold l qv av' { s with ms := s.ms ++ [m] } ∧ Below B w w' := by
  obtain ⟨sp, cp, hsp⟩ := h.o.form
  subst hsp
  have i0 : (0 : Int) ≤ (i : Int) := Int.natCast_nonneg _
  have i1 : (i : Int) < 2 := by omega
  have g1 := heap_alloc_new w (.cells #[.int .i64 3, .int .i64 of_, .int .i64 o1, .int .i64 o2] 120)
  have g2 := heap_alloc_new (w.alloc (.cells #[.int .i64 3, .int .i64 of_, .int .i64 o1, .int .i64 o2] 120)) (.cells #[.int .i64 0, .pointer none, .pointer none, .pointer none, .pointer none, .pointer none, .pointer none] 188)
  have e1 : (w.alloc (.cells #[.int .i64 3, .int .i64 of_, .int .i64 o1, .int .i64 o2] 120)).heap.size = w.heap.size + 1 := by simp
  rw [e1] at g2
  obtain ⟨W1, hW1⟩ : ∃ W, ((w.alloc (.cells #[.int .i64 3, .int .i64 of_, .int .i64 o1, .int .i64 o2] 120)).alloc (.cells #[.int .i64 0, .pointer none, .pointer none, .pointer none, .pointer none, .pointer none, .pointer none] 188)).drew = W := ⟨_, rfl⟩
  have H1 : Hid (St4 W1 B wb hold l qv (.slice sp s.ms.length cp) s ∧ Keeps (fun _ => False) w W1 ∧ W1.heap[w.heap.size]? = some (.cells #[.int .i64 3, .int .i64 of_, .int .i64 o1, .int .i64 o2] 120) ∧ W1.heap[w.heap.size + 1]? = some (.cells #[.int .i64 0, .pointer none, .pointer none, .pointer none, .pointer none, .pointer none, .pointer none] 188)) := by
    have ka : Keeps (fun _ => False) w W1 := by rw [← hW1]; exact (((Keeps.refl _ _).alloc _).alloc _).drew
    refine ⟨h.keeps ka (fun _ _ e => e), ka, ?_, by rw [← hW1]; exact g2⟩
    rw [← hW1]
    show ((w.alloc _).alloc _).heap[w.heap.size]? = _
    rw [Below.heap_alloc _ _ _ (by rw [e1]; omega)]
    exact g1
  have hb1 := H1.out.2.2.1
  have sx : W1.cell? ⟨wb, 1 + i, none⟩ = some (.pointer (some ⟨(l.X i).x, 0, none⟩)) ∧ W1.cell? ⟨wb, 4 + i, none⟩ = some (.pointer (some ⟨(l.Y i).x, 0, none⟩)) ∧ W1.cell? ⟨w.heap.size, 2, none⟩ = some (.int .i64 o1) ∧ W1.cell? ⟨w.heap.size, 3, none⟩ = some (.int .i64 o2) := ⟨H1.out.1.c1 i hi, H1.out.1.c4 i hi, (cell?_heap hb1 2).trans rfl, (cell?_heap hb1 3).trans rfl⟩
  rw [← hW1] at sx
  have HNP : Hid (∀ _ : Unit, _) := fun _ => ins_new W1 (l.X i).x o1 o2
  have HW0 : Hid (St4 w B wb hold l qv (.slice sp s.ms.length cp) s) := h
  have HHS : Hid (w.heap.size + 2 = W1.heap.size) := by show _ = _; rw [← hW1]; simp
  clear h g1 g2 e1 hb1
  go_enter Tryz.func103, Tryz.ntmps103
  go_wp2_with fail
  (refine wp_region_held_drew (S := (fun Z => Z.cell? ⟨wb, 1 + i, none⟩ = some (.pointer (some ⟨(l.X i).x, 0, none⟩)) ∧ Z.cell? ⟨wb, 4 + i, none⟩ = some (.pointer (some ⟨(l.Y i).x, 0, none⟩)) ∧ Z.cell? ⟨w.heap.size, 2, none⟩ = some (.int .i64 o1) ∧ Z.cell? ⟨w.heap.size, 3, none⟩ = some (.int .i64 o2))) (by kernel_rfl) sx (fun hHeld => ?_); simp only [List.size_toArray, List.length_cons, List.length_nil, Nat.reduceAdd, Array.replicate_succ, Array.replicate_zero, List.push_toArray, List.append_toArray, List.nil_append, List.cons_append])
  clear sx
  rw [hW1] at hHeld ⊢
  clear hW1
  refine rgT 0 (h := ?_)
  refine rgT 1 (h := ?_)
  refine rgT 2 (h := ?_)
  refine rgT 3 (h := ?_)
  refine rgT 4 (h := ?_)
  refine rgT 5 (h := ?_)
  refine rgT 6 (h := ?_)
  refine rgT 7 (h := ?_)
  refine rgT 8 (h := ?_)
  refine rgT 9 (h := ?_)
  refine rgT 11 (h := ?_)
  refine rgT 12 (h := ?_)
  refine rgT 13 (h := ?_)
  refine rgT 14 (h := ?_)
  refine rgT 15 (h := ?_)
  refine rgT 16 (h := ?_)
  refine rgT 17 (h := ?_)
  refine rgT 18 (h := ?_)
  refine rgT 19 (h := ?_)
  refine rgT 20 (h := ?_)
  (refine rgS 10 (h := fun K hK => ?_); go_simp)
  refine (HNP.out ()).mono ?_
  rintro e w2 ⟨rfl, hp, kp, hz⟩
  have hp : InsH w2 W1.heap.size (l.X i).x ⟨0, 0, o1, o2, 0, 0⟩ := hp
  have H2 : Hid (St4 w2 B wb hold l qv (.slice sp s.ms.length cp) s ∧ Keeps (fun _ => False) W1 w2 ∧ InsH w2 W1.heap.size (l.X i).x ⟨0, 0, o1, o2, 0, 0⟩ ∧ w2.heap.size = W1.heap.size + 1 ∧ w2.heap[w.heap.size + 1]? = some (.cells #[.int .i64 0, .pointer none, .pointer none, .pointer none, .pointer none, .pointer none, .pointer none] 188)) := ⟨H1.out.1.keeps kp (fun _ _ e => e), kp, hp, hz, (kp.block _ (lt_heap H1.out.2.2.2) (fun e => e)).trans H1.out.2.2.2⟩
  have s2 : (fun Z => Z.cell? ⟨wb, 1 + i, none⟩ = some (.pointer (some ⟨(l.X i).x, 0, none⟩)) ∧ Z.cell? ⟨wb, 4 + i, none⟩ = some (.pointer (some ⟨(l.Y i).x, 0, none⟩)) ∧ Z.cell? ⟨w.heap.size, 2, none⟩ = some (.int .i64 o1) ∧ Z.cell? ⟨w.heap.size, 3, none⟩ = some (.int .i64 o2)) w2 := ⟨H2.out.1.c1 i hi, H2.out.1.c4 i hi, (kp.cell (p := ⟨w.heap.size, 2, none⟩) (lt_heap H1.out.2.2.1) (fun e => e)).trans ((cell?_heap H1.out.2.2.1 2).trans rfl), (kp.cell (p := ⟨w.heap.size, 3, none⟩) (lt_heap H1.out.2.2.1) (fun e => e)).trans ((cell?_heap H1.out.2.2.1 3).trans rfl)⟩
  (refine hK.out _ _ s2 (fun hHeld => ?_); clear hK K; try simp only [Act.put, List.setIfInBounds_toArray, List.set_cons_zero, List.set_cons_succ])
  have HNR : Hid (∀ _ : Unit, _) := fun _ => rin_new w2 (l.Y i).x o1 o2
  (refine rgS 21 (h := fun K hK => ?_); go_simp)
  refine (HNR.out ()).mono ?_
  rintro e w3 ⟨rfl, hr, kr, hz3⟩
  have hr : RinH w3 w2.heap.size (l.Y i).x ⟨0, 0, o1, o2, 0, 0⟩ := hr
  have hp3 : InsH w3 W1.heap.size (l.X i).x ⟨0, 0, o1, o2, 0, 0⟩ := H2.out.2.2.1.keeps kr (fun e => e)
  have hb3 : w3.heap[w.heap.size + 1]? = some (.cells #[.int .i64 0, .pointer none, .pointer none, .pointer none, .pointer none, .pointer none, .pointer none] 188) := (kr.block _ (lt_heap H2.out.2.2.2.2) (fun e => e)).trans H2.out.2.2.2.2
  have s3 : (fun Z => Z.cell? ⟨wb, 1 + i, none⟩ = some (.pointer (some ⟨(l.X i).x, 0, none⟩)) ∧ Z.cell? ⟨wb, 4 + i, none⟩ = some (.pointer (some ⟨(l.Y i).x, 0, none⟩)) ∧ Z.cell? ⟨w.heap.size, 2, none⟩ = some (.int .i64 o1) ∧ Z.cell? ⟨w.heap.size, 3, none⟩ = some (.int .i64 o2)) w3 := ⟨(kr.cell (p := ⟨wb, 1 + i, none⟩) H2.out.1.lw (fun e => e)).trans s2.1, (kr.cell (p := ⟨wb, 4 + i, none⟩) H2.out.1.lw (fun e => e)).trans s2.2.1, (kr.cell (p := ⟨w.heap.size, 2, none⟩) (Nat.lt_of_lt_of_le (lt_heap H1.out.2.2.1) kp.size) (fun e => e)).trans s2.2.2.1, (kr.cell (p := ⟨w.heap.size, 3, none⟩) (Nat.lt_of_lt_of_le (lt_heap H1.out.2.2.1) kp.size) (fun e => e)).trans s2.2.2.2⟩
  obtain ⟨pb, hpb⟩ : ∃ pb, W1.heap.size = pb := ⟨_, rfl⟩
  obtain ⟨rb, hrb⟩ : ∃ rb, w2.heap.size = rb := ⟨_, rfl⟩
  have H3 : Hid (St4 W1 B wb hold l qv (.slice sp s.ms.length cp) s ∧ Keeps (fun _ => False) w W1 ∧ Keeps (fun _ => False) W1 w3 ∧ InsH w3 pb (l.X i).x ⟨0, 0, o1, o2, 0, 0⟩ ∧ RinH w3 rb (l.Y i).x ⟨0, 0, o1, o2, 0, 0⟩ ∧ rb = pb + 1 ∧ w3.heap.size = pb + 2 ∧ W1.heap.size = pb ∧ w.heap.size + 2 = pb ∧ w3.heap[w.heap.size + 1]? = some (.cells #[.int .i64 0, .pointer none, .pointer none, .pointer none, .pointer none, .pointer none, .pointer none] 188)) := by
    rw [← hpb, ← hrb]
    refine ⟨H1.out.1, H1.out.2.1, H2.out.2.1.trans kr, hp3, hr, H2.out.2.2.2.1, ?_, rfl, HHS.out, hb3⟩
    have := H2.out.2.2.2.1
    omega
  rw [hpb, hrb]
  (refine hK.out _ _ s3 (fun hHeld => ?_); clear hK K; try simp only [Act.put, List.setIfInBounds_toArray, List.set_cons_zero, List.set_cons_succ])
  refine rgT 22 (h := ?_)
  have z0 : w3.cell? ⟨w.heap.size + 1, 0, none⟩ = some (.int .i64 0) := (cell?_heap hb3 0).trans rfl
  have z1 : w3.cell? ⟨w.heap.size + 1, 1, none⟩ = some (.pointer none) := (cell?_heap hb3 1).trans rfl
  have z2 : w3.cell? ⟨w.heap.size + 1, 2, none⟩ = some (.pointer none) := (cell?_heap hb3 2).trans rfl
  have z3 : w3.cell? ⟨w.heap.size + 1, 3, none⟩ = some (.pointer none) := (cell?_heap hb3 3).trans rfl
  have z4 : w3.cell? ⟨w.heap.size + 1, 4, none⟩ = some (.pointer none) := (cell?_heap hb3 4).trans rfl
  have z5 : w3.cell? ⟨w.heap.size + 1, 5, none⟩ = some (.pointer none) := (cell?_heap hb3 5).trans rfl
  have z6 : w3.cell? ⟨w.heap.size + 1, 6, none⟩ = some (.pointer none) := (cell?_heap hb3 6).trans rfl
  have zf : ∀ j, w3.frozen? ⟨w.heap.size + 1, j, none⟩ = false := fun j => frozen?_heap hb3 j
  clear H1 H2 hp kp hz hr kr hz3 hp3 hb3 hpb hrb HNP HNR
  (refine rgS 23 (h := fun K hK => ?_); go_simp)
  obtain ⟨W4, hW4⟩ : ∃ W, ((((((w3.setCell ⟨w.heap.size + 1, 0, none⟩ (.int .i64 1)).setCell ⟨w.heap.size + 1, 1, none⟩ (.pointer (some ⟨pb, 0, none⟩))).setCell ⟨w.heap.size + 1, 2, none⟩ (.pointer none)).setCell ⟨w.heap.size + 1, 3, none⟩ (.pointer none)).setCell ⟨w.heap.size + 1, 4, none⟩ (.pointer (some ⟨rb, 0, none⟩))).setCell ⟨w.heap.size + 1, 5, none⟩ (.pointer none)).setCell ⟨w.heap.size + 1, 6, none⟩ (.pointer none) = W := ⟨_, rfl⟩
  have H4 : Hid (Keeps (fun g => g = w.heap.size + 1) w3 W4 ∧ W4.heap[w.heap.size + 1]? = some (.cells #[.int .i64 1, .pointer (some ⟨pb, 0, none⟩), .pointer none, .pointer none, .pointer (some ⟨rb, 0, none⟩), .pointer none, .pointer none] 188)) := by
    rw [← hW4]
    obtain ⟨_, _, _, _, _, _, _, _, _, hb3⟩ := H3.out
    exact ⟨setK (setK (setK (setK (setK (setK (setK (Keeps.refl _ _))))))), heapSetC (heapSetC (heapSetC (heapSetC (heapSetC (heapSetC (heapSetC hb3 0 _) 1 _) 2 _) 3 _) 4 _) 5 _) 6 _⟩
  rw [hW4]
  have H5 : Hid (Keeps (fun _ => False) w W4.drew ∧ (⟨1, i, pb, rb, ⟨0, 0, o1, o2, 0, 0⟩, ⟨0, 0, 0, 0, 0, false, 0⟩, ⟨0, 0, 0, 0, 0, 0, 0, 0, false, 0⟩⟩ : PM).H W4.drew l ∧ W4.drew.heap[w.heap.size + 1]? = some (.cells #[.int .i64 1, .pointer (some ⟨pb, 0, none⟩), .pointer none, .pointer none, .pointer (some ⟨rb, 0, none⟩), .pointer none, .pointer none] 188) ∧ pb = w.heap.size + 2 ∧ rb = pb + 1) := by
    obtain ⟨a1, a2, a3, a4, a5, a6, a7, a8, a9, a10⟩ := H3.out
    obtain ⟨k4, b4⟩ := H4.out
    have k5 : Keeps (fun _ => False) w W4 := ((a2.trans a3).mono (fun _ e => .inl e)).trans (k4.mono (fun g e => .inr (by rw [e]; omega))) |> Keeps.thin (D := fun _ => False)
    have hp : InsH W4.drew pb (l.X i).x ⟨0, 0, o1, o2, 0, 0⟩ := (a4.keeps k4 (by omega)).keeps (Keeps.refl (fun _ => False) _).drew (fun e => e)
    have hr : RinH W4.drew rb (l.Y i).x ⟨0, 0, o1, o2, 0, 0⟩ := (a5.keeps k4 (by omega)).keeps (Keeps.refl (fun _ => False) _).drew (fun e => e)
    exact ⟨k5.drew, .inl ⟨rfl, hp, hr⟩, b4, a9.symm, a6⟩
  have sE : (fun Z => Z.cell? ⟨wb, 1 + i, none⟩ = some (.pointer (some ⟨(l.X i).x, 0, none⟩)) ∧ Z.cell? ⟨wb, 4 + i, none⟩ = some (.pointer (some ⟨(l.Y i).x, 0, none⟩)) ∧ Z.cell? ⟨w.heap.size, 2, none⟩ = some (.int .i64 o1) ∧ Z.cell? ⟨w.heap.size, 3, none⟩ = some (.int .i64 o2)) W4 := ⟨(H4.out.1.cell (p := ⟨wb, 1 + i, none⟩) (Nat.lt_of_lt_of_le H3.out.1.lw H3.out.2.2.1.size) (by show wb ≠ _; have := HW0.out.lw; omega)).trans s3.1, (H4.out.1.cell (p := ⟨wb, 4 + i, none⟩) (Nat.lt_of_lt_of_le H3.out.1.lw H3.out.2.2.1.size) (by show wb ≠ _; have := HW0.out.lw; omega)).trans s3.2.1, (H4.out.1.cell (p := ⟨w.heap.size, 2, none⟩) (by have := H3.out.2.2.2.2.2.2.1; have := H3.out.2.2.2.2.2.2.2.2.1; show w.heap.size < _; omega) (by show w.heap.size ≠ _; omega)).trans s3.2.2.1, (H4.out.1.cell (p := ⟨w.heap.size, 3, none⟩) (by have := H3.out.2.2.2.2.2.2.1; have := H3.out.2.2.2.2.2.2.2.2.1; show w.heap.size < _; omega) (by show w.heap.size ≠ _; omega)).trans s3.2.2.2⟩
  (refine hK.out _ _ sE (fun hHeld => ?_); clear hK K; try simp only [Act.put, List.setIfInBounds_toArray, List.set_cons_zero, List.set_cons_succ])
  refine wpAnyH_done (by kernel_rfl) ?_ _
  clear z0 z1 z2 z3 z4 z5 z6 zf s2 s3 sE hHeld hW4
  have hb4 := H5.out.2.2.1
  have sy : (fun Z => Z.cell? ⟨w.heap.size + 1, 0, none⟩ = some (.int .i64 1) ∧ Z.cell? ⟨w.heap.size + 1, 1, none⟩ = some (.pointer (some ⟨pb, 0, none⟩)) ∧ Z.cell? ⟨w.heap.size + 1, 2, none⟩ = some (.pointer none) ∧ Z.cell? ⟨w.heap.size + 1, 3, none⟩ = some (.pointer none) ∧ Z.cell? ⟨w.heap.size + 1, 4, none⟩ = some (.pointer (some ⟨rb, 0, none⟩)) ∧ Z.cell? ⟨w.heap.size + 1, 5, none⟩ = some (.pointer none) ∧ Z.cell? ⟨w.heap.size + 1, 6, none⟩ = some (.pointer none)) W4.drew := ⟨(cell?_heap hb4 0).trans rfl, (cell?_heap hb4 1).trans rfl, (cell?_heap hb4 2).trans rfl, (cell?_heap hb4 3).trans rfl, (cell?_heap hb4 4).trans rfl, (cell?_heap hb4 5).trans rfl, (cell?_heap hb4 6).trans rfl⟩
  have HO : Hid (OwG pmC 188 7 W4.drew 0 (.slice sp s.ms.length cp) s.ms) := (owK HW0.out.o H5.out.1 (fun _ _ e => e)).down (Nat.zero_le _)
  have d2 : W4.drew.cell? ⟨wb, 6, none⟩ = some (.slice sp s.ms.length cp) := (H5.out.1.cell (p := ⟨wb, 6, none⟩) HW0.out.lw (fun e => e)).trans HW0.out.c6
  have f2 : W4.drew.frozen? ⟨wb, 6, none⟩ = false := (H5.out.1.frozen (p := ⟨wb, 6, none⟩) HW0.out.lw (fun e => e)).trans (HW0.out.fz 6)
  have HPU : Hid (∀ (b cap' : Nat) (w7 : World), OwG pmC 188 7 w7 0 (.slice (some ⟨b, 0, none⟩) (s.ms.length + 1) cap') (s.ms ++ [⟨1, i, pb, rb, ⟨0, 0, o1, o2, 0, 0⟩, ⟨0, 0, 0, 0, 0, false, 0⟩, ⟨0, 0, 0, 0, 0, 0, 0, 0, false, 0⟩⟩]) → (((Value.slice sp s.ms.length cp).ownBlock = some b ∧ Keeps (fun k => (Value.slice sp s.ms.length cp).ownBlock = some k) W4.drew w7) ∨ (W4.drew.heap.size ≤ b ∧ Keeps (fun _ => False) W4.drew w7)) →
      (St4 (w7.setCell ⟨wb, 6, none⟩ (.slice (some ⟨b, 0, none⟩) (s.ms.length + 1) cap')) B wb hold l qv (.slice (some ⟨b, 0, none⟩) (s.ms.length + 1) cap') { s with ms := s.ms ++ [⟨1, i, pb, rb, ⟨0, 0, o1, o2, 0, 0⟩, ⟨0, 0, 0, 0, 0, false, 0⟩, ⟨0, 0, 0, 0, 0, 0, 0, 0, false, 0⟩⟩] } ∧ Below B w (w7.setCell ⟨wb, 6, none⟩ (.slice (some ⟨b, 0, none⟩) (s.ms.length + 1) cap'))) ∧ w7.cell? ⟨wb, 6, none⟩ = some (.slice sp s.ms.length cp) ∧ w7.frozen? ⟨wb, 6, none⟩ = false ∧ (fun Z => Z.cell? ⟨w.heap.size + 1, 0, none⟩ = some (.int .i64 1) ∧ Z.cell? ⟨w.heap.size + 1, 1, none⟩ = some (.pointer (some ⟨pb, 0, none⟩)) ∧ Z.cell? ⟨w.heap.size + 1, 2, none⟩ = some (.pointer none) ∧ Z.cell? ⟨w.heap.size + 1, 3, none⟩ = some (.pointer none) ∧ Z.cell? ⟨w.heap.size + 1, 4, none⟩ = some (.pointer (some ⟨rb, 0, none⟩)) ∧ Z.cell? ⟨w.heap.size + 1, 5, none⟩ = some (.pointer none) ∧ Z.cell? ⟨w.heap.size + 1, 6, none⟩ = some (.pointer none)) w7) := fun b cap' w7 ho kk => by
    obtain ⟨k5, hm, hbk, hpb, hrb⟩ := H5.out
    have kx : Keeps (fun x => (Value.slice sp s.ms.length cp).ownBlock = some x) W4.drew w7 := by
      rcases kk with ⟨_, k⟩ | ⟨_, k⟩
      · exact k
      · exact k.mono (fun _ e => e.elim)
    have nw : (Value.slice sp s.ms.length cp).ownBlock ≠ some wb := fun e => (HW0.out.na wb e).2 rfl
    have np : (Value.slice sp s.ms.length cp).ownBlock ≠ some (w.heap.size + 1) := fun e => by have := (World.ownsRow.lt HW0.out.o _ e).2; omega
    have lw4 : wb < W4.drew.heap.size := Nat.lt_of_lt_of_le HW0.out.lw k5.size
    have hb7 : w7.heap[w.heap.size + 1]? = some (.cells #[.int .i64 1, .pointer (some ⟨pb, 0, none⟩), .pointer none, .pointer none, .pointer (some ⟨rb, 0, none⟩), .pointer none, .pointer none] 188) := (kx.block _ (lt_heap hbk) np).trans hbk
    refine ⟨HW0.out.push ⟨1, i, pb, rb, ⟨0, 0, o1, o2, 0, 0⟩, ⟨0, 0, 0, 0, 0, false, 0⟩, ⟨0, 0, 0, 0, 0, 0, 0, 0, false, 0⟩⟩ k5 hm hi ⟨fun _ => ⟨fun e => absurd e (show ¬ 1 ≤ 0 by decide), fun e => absurd e (show ¬ 0 = 2 by decide)⟩, fun e => absurd e (show ¬ 1 = 2 by decide), fun e => absurd e (show ¬ 1 = 4 by decide)⟩ (by show w.heap.size ≤ pb; omega) (by show w.heap.size ≤ rb; omega) (by show pb ≠ rb; omega) ho kx (fun g hg => ?_) hB, (kx.cell (p := ⟨wb, 6, none⟩) lw4 nw).trans d2, (kx.frozen (p := ⟨wb, 6, none⟩) lw4 nw).trans f2, (cell?_heap hb7 0).trans rfl, (cell?_heap hb7 1).trans rfl, (cell?_heap hb7 2).trans rfl, (cell?_heap hb7 3).trans rfl, (cell?_heap hb7 4).trans rfl, (cell?_heap hb7 5).trans rfl, (cell?_heap hb7 6).trans rfl⟩
    have e : b = g := Option.some.inj hg
    subst e
    rcases kk with ⟨e, _⟩ | ⟨e, _⟩
    · exact .inl e
    · exact .inr e
  have HSS : Hid (∀ w7 : World, (fun Z => Z.cell? ⟨w.heap.size + 1, 0, none⟩ = some (.int .i64 1) ∧ Z.cell? ⟨w.heap.size + 1, 1, none⟩ = some (.pointer (some ⟨pb, 0, none⟩)) ∧ Z.cell? ⟨w.heap.size + 1, 2, none⟩ = some (.pointer none) ∧ Z.cell? ⟨w.heap.size + 1, 3, none⟩ = some (.pointer none) ∧ Z.cell? ⟨w.heap.size + 1, 4, none⟩ = some (.pointer (some ⟨rb, 0, none⟩)) ∧ Z.cell? ⟨w.heap.size + 1, 5, none⟩ = some (.pointer none) ∧ Z.cell? ⟨w.heap.size + 1, 6, none⟩ = some (.pointer none)) w7 → ∀ v, (fun Z => Z.cell? ⟨w.heap.size + 1, 0, none⟩ = some (.int .i64 1) ∧ Z.cell? ⟨w.heap.size + 1, 1, none⟩ = some (.pointer (some ⟨pb, 0, none⟩)) ∧ Z.cell? ⟨w.heap.size + 1, 2, none⟩ = some (.pointer none) ∧ Z.cell? ⟨w.heap.size + 1, 3, none⟩ = some (.pointer none) ∧ Z.cell? ⟨w.heap.size + 1, 4, none⟩ = some (.pointer (some ⟨rb, 0, none⟩)) ∧ Z.cell? ⟨w.heap.size + 1, 5, none⟩ = some (.pointer none) ∧ Z.cell? ⟨w.heap.size + 1, 6, none⟩ = some (.pointer none)) (w7.setCell ⟨wb, 6, none⟩ v)) := fun w7 hs v => by
    have ne : ∀ j, (⟨wb, 6, none⟩ : Addr) ≠ ⟨w.heap.size + 1, j, none⟩ := fun j e => by have e1 : wb = w.heap.size + 1 := congrArg Addr.block e; have := HW0.out.lw; omega
    obtain ⟨q0, q1, q2, q3, q4, q5, q6⟩ := hs
    exact ⟨(World.cell?_setCell_other _ _ _ _ (ne 0)).trans q0, (World.cell?_setCell_other _ _ _ _ (ne 1)).trans q1, (World.cell?_setCell_other _ _ _ _ (ne 2)).trans q2, (World.cell?_setCell_other _ _ _ _ (ne 3)).trans q3, (World.cell?_setCell_other _ _ _ _ (ne 4)).trans q4, (World.cell?_setCell_other _ _ _ _ (ne 5)).trans q5, (World.cell?_setCell_other _ _ _ _ (ne 6)).trans q6⟩
  have HSA : Hid (∀ o, (fun Z => Z.cell? ⟨w.heap.size + 1, 0, none⟩ = some (.int .i64 1) ∧ Z.cell? ⟨w.heap.size + 1, 1, none⟩ = some (.pointer (some ⟨pb, 0, none⟩)) ∧ Z.cell? ⟨w.heap.size + 1, 2, none⟩ = some (.pointer none) ∧ Z.cell? ⟨w.heap.size + 1, 3, none⟩ = some (.pointer none) ∧ Z.cell? ⟨w.heap.size + 1, 4, none⟩ = some (.pointer (some ⟨rb, 0, none⟩)) ∧ Z.cell? ⟨w.heap.size + 1, 5, none⟩ = some (.pointer none) ∧ Z.cell? ⟨w.heap.size + 1, 6, none⟩ = some (.pointer none)) (W4.drew.alloc o) ∧ (W4.drew.alloc o).cell? ⟨wb, 6, none⟩ = some (.slice sp s.ms.length cp)) := fun o => by
    have ha : (W4.drew.alloc o).heap[w.heap.size + 1]? = some (.cells #[.int .i64 1, .pointer (some ⟨pb, 0, none⟩), .pointer none, .pointer none, .pointer (some ⟨rb, 0, none⟩), .pointer none, .pointer none] 188) := (Below.heap_alloc _ _ _ (lt_heap hb4)).trans hb4
    exact ⟨⟨(cell?_heap ha 0).trans rfl, (cell?_heap ha 1).trans rfl, (cell?_heap ha 2).trans rfl, (cell?_heap ha 3).trans rfl, (cell?_heap ha 4).trans rfl, (cell?_heap ha 5).trans rfl, (cell?_heap ha 6).trans rfl⟩, (World.cell?_of_block (w := W4.drew) (Below.heap_alloc W4.drew o wb (Nat.lt_of_lt_of_le HW0.out.lw H5.out.1.size))).trans d2⟩
  clear hb4 H3 H4
  go_wp2_with fail
  (refine wp_region_held_drew (S := (fun Z => Z.cell? ⟨w.heap.size + 1, 0, none⟩ = some (.int .i64 1) ∧ Z.cell? ⟨w.heap.size + 1, 1, none⟩ = some (.pointer (some ⟨pb, 0, none⟩)) ∧ Z.cell? ⟨w.heap.size + 1, 2, none⟩ = some (.pointer none) ∧ Z.cell? ⟨w.heap.size + 1, 3, none⟩ = some (.pointer none) ∧ Z.cell? ⟨w.heap.size + 1, 4, none⟩ = some (.pointer (some ⟨rb, 0, none⟩)) ∧ Z.cell? ⟨w.heap.size + 1, 5, none⟩ = some (.pointer none) ∧ Z.cell? ⟨w.heap.size + 1, 6, none⟩ = some (.pointer none))) (by kernel_rfl) sy (fun hHeld => ?_); simp only [List.size_toArray, List.length_cons, List.length_nil, Nat.reduceAdd, Array.replicate_succ, Array.replicate_zero, List.push_toArray, List.append_toArray, List.nil_append, List.cons_append])
  clear sy
  generalize W4.drew = wd at *
  refine rgT 0 (h := ?_)
  refine rgT 1 (h := ?_)
  refine rgT 2 (h := ?_)
  refine rgT 3 (h := ?_)
  refine rgT 5 (h := ?_)
  (refine wpAnyH_ready (rs := [4, 6]) (by kernel_rfl) (by simp) ?_; refine rgA 4 (by rfl) (fun K hK => ?_) (rgA 6 (by rfl) (fun K hK => ?_) AllReadyH.nil) <;> go_simp)
  · (refine hK.out _ _ hHeld (fun hHeld => ?_); clear hK K; try simp only [Act.put, List.setIfInBounds_toArray, List.set_cons_zero, List.set_cons_succ])
    (refine rgS 6 (h := fun K hK => ?_); go_simp)
    (refine hK.out _ _ (HSA.out (.cells #[.int .i64 1, .pointer (some ⟨pb, 0, none⟩), .pointer none, .pointer none, .pointer (some ⟨rb, 0, none⟩), .pointer none, .pointer none] 188)).1 (fun hHeld => ?_); clear hK K; try simp only [Act.put, List.setIfInBounds_toArray, List.set_cons_zero, List.set_cons_succ])
    (refine rgS 7 (h := fun K hK => ?_); rw [if_pos (by rfl)])
    refine app_stay_wp (cs := pmC) (wr := wd) _ _ 174 188 (by rfl) Tryz.underlying174 infoPr rfl (by decide) (fun _ => rfl) _ s.ms ⟨1, i, pb, rb, ⟨0, 0, o1, o2, 0, 0⟩, ⟨0, 0, 0, 0, 0, false, 0⟩, ⟨0, 0, 0, 0, 0, 0, 0, 0, false, 0⟩⟩ HO.out (by rfl) wd.heap.size rfl (by rfl) (pm_one _) _ rfl (by unfold maxLen; omega) (by omega) ?_
    intro b cap' w7 ho7 kk7 hb7
    obtain ⟨HN, d6, f6, s7⟩ := HPU.out b cap' w7 ho7 kk7
    (refine hK.out _ _ s7 (fun hHeld => ?_); clear hK K; try simp only [Act.put, List.setIfInBounds_toArray, List.set_cons_zero, List.set_cons_succ])
    refine rgT 8 (h := ?_)
    refine rgT 9 (h := ?_)
    (refine rgS 10 (h := fun K hK => ?_); go_simp)
    (refine hK.out _ _ ((HSS.out w7 s7 (.slice (some ⟨b, 0, none⟩) (s.ms.length + 1) cap'))) (fun hHeld => ?_); clear hK K; try simp only [Act.put, List.setIfInBounds_toArray, List.set_cons_zero, List.set_cons_succ])
    refine wpAnyH_done (by kernel_rfl) ?_ _
    clear ho7 kk7 hb7 d6 f6 s7 hHeld
    go_wp2
    exact ⟨rfl, .tuple #[], by simp [results, Tryz.results103], rfl, _, ⟨1, i, pb, rb, ⟨0, 0, o1, o2, 0, 0⟩, ⟨0, 0, 0, 0, 0, false, 0⟩, ⟨0, 0, 0, 0, 0, 0, 0, 0, false, 0⟩⟩, HN⟩
  · (refine hK.out _ _ (HSA.out (.cells #[.int .i64 1, .pointer (some ⟨pb, 0, none⟩), .pointer none, .pointer none, .pointer (some ⟨rb, 0, none⟩), .pointer none, .pointer none] 188)).1 (fun hHeld => ?_); clear hK K; try simp only [Act.put, List.setIfInBounds_toArray, List.set_cons_zero, List.set_cons_succ])
    have d2a := (HSA.out (.cells #[.int .i64 1, .pointer (some ⟨pb, 0, none⟩), .pointer none, .pointer none, .pointer (some ⟨rb, 0, none⟩), .pointer none, .pointer none] 188)).2
    (refine rgS 4 (h := fun K hK => ?_); go_simp)
    clear d2a
    (refine hK.out _ _ (HSA.out (.cells #[.int .i64 1, .pointer (some ⟨pb, 0, none⟩), .pointer none, .pointer none, .pointer (some ⟨rb, 0, none⟩), .pointer none, .pointer none] 188)).1 (fun hHeld => ?_); clear hK K; try simp only [Act.put, List.setIfInBounds_toArray, List.set_cons_zero, List.set_cons_succ])
    (refine rgS 7 (h := fun K hK => ?_); rw [if_pos (by rfl)])
    refine app_stay_wp (cs := pmC) (wr := wd) _ _ 174 188 (by rfl) Tryz.underlying174 infoPr rfl (by decide) (fun _ => rfl) _ s.ms ⟨1, i, pb, rb, ⟨0, 0, o1, o2, 0, 0⟩, ⟨0, 0, 0, 0, 0, false, 0⟩, ⟨0, 0, 0, 0, 0, 0, 0, 0, false, 0⟩⟩ HO.out (by rfl) wd.heap.size rfl (by rfl) (pm_one _) _ rfl (by unfold maxLen; omega) (by omega) ?_
    intro b cap' w7 ho7 kk7 hb7
    obtain ⟨HN, d6, f6, s7⟩ := HPU.out b cap' w7 ho7 kk7
    (refine hK.out _ _ s7 (fun hHeld => ?_); clear hK K; try simp only [Act.put, List.setIfInBounds_toArray, List.set_cons_zero, List.set_cons_succ])
    refine rgT 8 (h := ?_)
    refine rgT 9 (h := ?_)
    (refine rgS 10 (h := fun K hK => ?_); go_simp)
    (refine hK.out _ _ ((HSS.out w7 s7 (.slice (some ⟨b, 0, none⟩) (s.ms.length + 1) cap'))) (fun hHeld => ?_); clear hK K; try simp only [Act.put, List.setIfInBounds_toArray, List.set_cons_zero, List.set_cons_succ])
    refine wpAnyH_done (by kernel_rfl) ?_ _
    clear ho7 kk7 hb7 d6 f6 s7 hHeld
    go_wp2
    exact ⟨rfl, .tuple #[], by simp [results, Tryz.results103], rfl, _, ⟨1, i, pb, rb, ⟨0, 0, o1, o2, 0, 0⟩, ⟨0, 0, 0, 0, 0, false, 0⟩, ⟨0, 0, 0, 0, 0, 0, 0, 0, false, 0⟩⟩, HN⟩
theorem law_begin4 (w : World) (B wb : Nat) (hold : Int) (l : WL) (qv av : Value) (s : WS) (i : Nat) (of_ o1 o2 : Int) (h : St4 w B wb hold l qv av s) (hi : i < 2) (hml : s.ms.length ≤ 1048576) (hB : B ≤ w.heap.size) : Calls Tryz.prog 103 #[.pointer (some ⟨wb, 0, none⟩), .agg #[.int .i64 4, .int .i64 of_, .int .i64 o1, .int .i64 o2], .int .i64 (i : Int)] w fun e w' => e = .returned (.tuple #[]) ∧ ∃ av' m, St4 w' B wb hold l qv av' { s with ms := s.ms ++ [m] } ∧ Below B w w' := by
  obtain ⟨sp, cp, hsp⟩ := h.o.form
  subst hsp
  have i0 : (0 : Int) ≤ (i : Int) := Int.natCast_nonneg _
  have i1 : (i : Int) < 2 := by omega
  have g1 := heap_alloc_new w (.cells #[.int .i64 4, .int .i64 of_, .int .i64 o1, .int .i64 o2] 120)
  have g2 := heap_alloc_new (w.alloc (.cells #[.int .i64 4, .int .i64 of_, .int .i64 o1, .int .i64 o2] 120)) (.cells #[.int .i64 0, .pointer none, .pointer none, .pointer none, .pointer none, .pointer none, .pointer none] 188)
  have e1 : (w.alloc (.cells #[.int .i64 4, .int .i64 of_, .int .i64 o1, .int .i64 o2] 120)).heap.size = w.heap.size + 1 := by simp
  rw [e1] at g2
  obtain ⟨W1, hW1⟩ : ∃ W, ((w.alloc (.cells #[.int .i64 4, .int .i64 of_, .int .i64 o1, .int .i64 o2] 120)).alloc (.cells #[.int .i64 0, .pointer none, .pointer none, .pointer none, .pointer none, .pointer none, .pointer none] 188)).drew = W := ⟨_, rfl⟩
  have H1 : Hid (St4 W1 B wb hold l qv (.slice sp s.ms.length cp) s ∧ Keeps (fun _ => False) w W1 ∧ W1.heap[w.heap.size]? = some (.cells #[.int .i64 4, .int .i64 of_, .int .i64 o1, .int .i64 o2] 120) ∧ W1.heap[w.heap.size + 1]? = some (.cells #[.int .i64 0, .pointer none, .pointer none, .pointer none, .pointer none, .pointer none, .pointer none] 188)) := by
    have ka : Keeps (fun _ => False) w W1 := by rw [← hW1]; exact (((Keeps.refl _ _).alloc _).alloc _).drew
    refine ⟨h.keeps ka (fun _ _ e => e), ka, ?_, by rw [← hW1]; exact g2⟩
    rw [← hW1]
    show ((w.alloc _).alloc _).heap[w.heap.size]? = _
    rw [Below.heap_alloc _ _ _ (by rw [e1]; omega)]
    exact g1
  have hb1 := H1.out.2.2.1
  have sx : W1.cell? ⟨wb, 1 + i, none⟩ = some (.pointer (some ⟨(l.X i).x, 0, none⟩)) ∧ W1.cell? ⟨wb, 4 + i, none⟩ = some (.pointer (some ⟨(l.Y i).x, 0, none⟩)) ∧ W1.cell? ⟨w.heap.size, 2, none⟩ = some (.int .i64 o1) ∧ W1.cell? ⟨w.heap.size, 3, none⟩ = some (.int .i64 o2) := ⟨H1.out.1.c1 i hi, H1.out.1.c4 i hi, (cell?_heap hb1 2).trans rfl, (cell?_heap hb1 3).trans rfl⟩
  rw [← hW1] at sx
  have HNP : Hid (∀ _ : Unit, _) := fun _ => wlk_newWalk W1 (l.X i).x o1
  have HW0 : Hid (St4 w B wb hold l qv (.slice sp s.ms.length cp) s) := h
  have HHS : Hid (w.heap.size + 2 = W1.heap.size) := by show _ = _; rw [← hW1]; simp
  clear h g1 g2 e1 hb1
  go_enter Tryz.func103, Tryz.ntmps103
  go_wp2_with fail
  (refine wp_region_held_drew (S := (fun Z => Z.cell? ⟨wb, 1 + i, none⟩ = some (.pointer (some ⟨(l.X i).x, 0, none⟩)) ∧ Z.cell? ⟨wb, 4 + i, none⟩ = some (.pointer (some ⟨(l.Y i).x, 0, none⟩)) ∧ Z.cell? ⟨w.heap.size, 2, none⟩ = some (.int .i64 o1) ∧ Z.cell? ⟨w.heap.size, 3, none⟩ = some (.int .i64 o2))) (by kernel_rfl) sx (fun hHeld => ?_); simp only [List.size_toArray, List.length_cons, List.length_nil, Nat.reduceAdd, Array.replicate_succ, Array.replicate_zero, List.push_toArray, List.append_toArray, List.nil_append, List.cons_append])
  clear sx
  rw [hW1] at hHeld ⊢
  clear hW1
  refine rgT 0 (h := ?_)
  refine rgT 1 (h := ?_)
  refine rgT 2 (h := ?_)
  refine rgT 3 (h := ?_)
  refine rgT 4 (h := ?_)
  refine rgT 5 (h := ?_)
  refine rgT 6 (h := ?_)
  refine rgT 7 (h := ?_)
  refine rgT 9 (h := ?_)
  refine rgT 10 (h := ?_)
  refine rgT 11 (h := ?_)
  refine rgT 12 (h := ?_)
  refine rgT 13 (h := ?_)
  refine rgT 14 (h := ?_)
  refine rgT 15 (h := ?_)
  refine rgT 16 (h := ?_)
  (refine rgS 8 (h := fun K hK => ?_); go_simp)
  refine (HNP.out ()).mono ?_
  rintro e w2 ⟨rfl, hp, kp, hz⟩
  have hp : WlkH w2 W1.heap.size (l.X i).x ⟨0, o1, 0, 0, 0, false, 0⟩ := hp
  have H2 : Hid (St4 w2 B wb hold l qv (.slice sp s.ms.length cp) s ∧ Keeps (fun _ => False) W1 w2 ∧ WlkH w2 W1.heap.size (l.X i).x ⟨0, o1, 0, 0, 0, false, 0⟩ ∧ w2.heap.size = W1.heap.size + 1 ∧ w2.heap[w.heap.size + 1]? = some (.cells #[.int .i64 0, .pointer none, .pointer none, .pointer none, .pointer none, .pointer none, .pointer none] 188)) := ⟨H1.out.1.keeps kp (fun _ _ e => e), kp, hp, hz, (kp.block _ (lt_heap H1.out.2.2.2) (fun e => e)).trans H1.out.2.2.2⟩
  have s2 : (fun Z => Z.cell? ⟨wb, 1 + i, none⟩ = some (.pointer (some ⟨(l.X i).x, 0, none⟩)) ∧ Z.cell? ⟨wb, 4 + i, none⟩ = some (.pointer (some ⟨(l.Y i).x, 0, none⟩)) ∧ Z.cell? ⟨w.heap.size, 2, none⟩ = some (.int .i64 o1) ∧ Z.cell? ⟨w.heap.size, 3, none⟩ = some (.int .i64 o2)) w2 := ⟨H2.out.1.c1 i hi, H2.out.1.c4 i hi, (kp.cell (p := ⟨w.heap.size, 2, none⟩) (lt_heap H1.out.2.2.1) (fun e => e)).trans ((cell?_heap H1.out.2.2.1 2).trans rfl), (kp.cell (p := ⟨w.heap.size, 3, none⟩) (lt_heap H1.out.2.2.1) (fun e => e)).trans ((cell?_heap H1.out.2.2.1 3).trans rfl)⟩
  (refine hK.out _ _ s2 (fun hHeld => ?_); clear hK K; try simp only [Act.put, List.setIfInBounds_toArray, List.set_cons_zero, List.set_cons_succ])
  have HNR : Hid (∀ _ : Unit, _) := fun _ => rwl_newWalk w2 (l.Y i).x o1
  (refine rgS 17 (h := fun K hK => ?_); go_simp)
  refine (HNR.out ()).mono ?_
  rintro e w3 ⟨rfl, hr, kr, hz3⟩
  have hr : RwlH w3 w2.heap.size (l.Y i).x ⟨0, o1, 0, 0, 0, false, 0⟩ := hr
  have hp3 : WlkH w3 W1.heap.size (l.X i).x ⟨0, o1, 0, 0, 0, false, 0⟩ := H2.out.2.2.1.keeps kr (fun e => e)
  have hb3 : w3.heap[w.heap.size + 1]? = some (.cells #[.int .i64 0, .pointer none, .pointer none, .pointer none, .pointer none, .pointer none, .pointer none] 188) := (kr.block _ (lt_heap H2.out.2.2.2.2) (fun e => e)).trans H2.out.2.2.2.2
  have s3 : (fun Z => Z.cell? ⟨wb, 1 + i, none⟩ = some (.pointer (some ⟨(l.X i).x, 0, none⟩)) ∧ Z.cell? ⟨wb, 4 + i, none⟩ = some (.pointer (some ⟨(l.Y i).x, 0, none⟩)) ∧ Z.cell? ⟨w.heap.size, 2, none⟩ = some (.int .i64 o1) ∧ Z.cell? ⟨w.heap.size, 3, none⟩ = some (.int .i64 o2)) w3 := ⟨(kr.cell (p := ⟨wb, 1 + i, none⟩) H2.out.1.lw (fun e => e)).trans s2.1, (kr.cell (p := ⟨wb, 4 + i, none⟩) H2.out.1.lw (fun e => e)).trans s2.2.1, (kr.cell (p := ⟨w.heap.size, 2, none⟩) (Nat.lt_of_lt_of_le (lt_heap H1.out.2.2.1) kp.size) (fun e => e)).trans s2.2.2.1, (kr.cell (p := ⟨w.heap.size, 3, none⟩) (Nat.lt_of_lt_of_le (lt_heap H1.out.2.2.1) kp.size) (fun e => e)).trans s2.2.2.2⟩
  obtain ⟨pb, hpb⟩ : ∃ pb, W1.heap.size = pb := ⟨_, rfl⟩
  obtain ⟨rb, hrb⟩ : ∃ rb, w2.heap.size = rb := ⟨_, rfl⟩
  have H3 : Hid (St4 W1 B wb hold l qv (.slice sp s.ms.length cp) s ∧ Keeps (fun _ => False) w W1 ∧ Keeps (fun _ => False) W1 w3 ∧ WlkH w3 pb (l.X i).x ⟨0, o1, 0, 0, 0, false, 0⟩ ∧ RwlH w3 rb (l.Y i).x ⟨0, o1, 0, 0, 0, false, 0⟩ ∧ rb = pb + 1 ∧ w3.heap.size = pb + 2 ∧ W1.heap.size = pb ∧ w.heap.size + 2 = pb ∧ w3.heap[w.heap.size + 1]? = some (.cells #[.int .i64 0, .pointer none, .pointer none, .pointer none, .pointer none, .pointer none, .pointer none] 188)) := by
    rw [← hpb, ← hrb]
    refine ⟨H1.out.1, H1.out.2.1, H2.out.2.1.trans kr, hp3, hr, H2.out.2.2.2.1, ?_, rfl, HHS.out, hb3⟩
    have := H2.out.2.2.2.1
    omega
  rw [hpb, hrb]
  (refine hK.out _ _ s3 (fun hHeld => ?_); clear hK K; try simp only [Act.put, List.setIfInBounds_toArray, List.set_cons_zero, List.set_cons_succ])
  refine rgT 18 (h := ?_)
  have z0 : w3.cell? ⟨w.heap.size + 1, 0, none⟩ = some (.int .i64 0) := (cell?_heap hb3 0).trans rfl
  have z1 : w3.cell? ⟨w.heap.size + 1, 1, none⟩ = some (.pointer none) := (cell?_heap hb3 1).trans rfl
  have z2 : w3.cell? ⟨w.heap.size + 1, 2, none⟩ = some (.pointer none) := (cell?_heap hb3 2).trans rfl
  have z3 : w3.cell? ⟨w.heap.size + 1, 3, none⟩ = some (.pointer none) := (cell?_heap hb3 3).trans rfl
  have z4 : w3.cell? ⟨w.heap.size + 1, 4, none⟩ = some (.pointer none) := (cell?_heap hb3 4).trans rfl
  have z5 : w3.cell? ⟨w.heap.size + 1, 5, none⟩ = some (.pointer none) := (cell?_heap hb3 5).trans rfl
  have z6 : w3.cell? ⟨w.heap.size + 1, 6, none⟩ = some (.pointer none) := (cell?_heap hb3 6).trans rfl
  have zf : ∀ j, w3.frozen? ⟨w.heap.size + 1, j, none⟩ = false := fun j => frozen?_heap hb3 j
  clear H1 H2 hp kp hz hr kr hz3 hp3 hb3 hpb hrb HNP HNR
  (refine rgS 19 (h := fun K hK => ?_); go_simp)
  obtain ⟨W4, hW4⟩ : ∃ W, ((((((w3.setCell ⟨w.heap.size + 1, 0, none⟩ (.int .i64 2)).setCell ⟨w.heap.size + 1, 1, none⟩ (.pointer none)).setCell ⟨w.heap.size + 1, 2, none⟩ (.pointer (some ⟨pb, 0, none⟩))).setCell ⟨w.heap.size + 1, 3, none⟩ (.pointer none)).setCell ⟨w.heap.size + 1, 4, none⟩ (.pointer none)).setCell ⟨w.heap.size + 1, 5, none⟩ (.pointer (some ⟨rb, 0, none⟩))).setCell ⟨w.heap.size + 1, 6, none⟩ (.pointer none) = W := ⟨_, rfl⟩
  have H4 : Hid (Keeps (fun g => g = w.heap.size + 1) w3 W4 ∧ W4.heap[w.heap.size + 1]? = some (.cells #[.int .i64 2, .pointer none, .pointer (some ⟨pb, 0, none⟩), .pointer none, .pointer none, .pointer (some ⟨rb, 0, none⟩), .pointer none] 188)) := by
    rw [← hW4]
    obtain ⟨_, _, _, _, _, _, _, _, _, hb3⟩ := H3.out
    exact ⟨setK (setK (setK (setK (setK (setK (setK (Keeps.refl _ _))))))), heapSetC (heapSetC (heapSetC (heapSetC (heapSetC (heapSetC (heapSetC hb3 0 _) 1 _) 2 _) 3 _) 4 _) 5 _) 6 _⟩
  rw [hW4]
  have H5 : Hid (Keeps (fun _ => False) w W4.drew ∧ (⟨2, i, pb, rb, ⟨0, 0, 0, 0, 0, 0⟩, ⟨0, o1, 0, 0, 0, false, 0⟩, ⟨0, 0, 0, 0, 0, 0, 0, 0, false, 0⟩⟩ : PM).H W4.drew l ∧ W4.drew.heap[w.heap.size + 1]? = some (.cells #[.int .i64 2, .pointer none, .pointer (some ⟨pb, 0, none⟩), .pointer none, .pointer none, .pointer (some ⟨rb, 0, none⟩), .pointer none] 188) ∧ pb = w.heap.size + 2 ∧ rb = pb + 1) := by
    obtain ⟨a1, a2, a3, a4, a5, a6, a7, a8, a9, a10⟩ := H3.out
    obtain ⟨k4, b4⟩ := H4.out
    have k5 : Keeps (fun _ => False) w W4 := ((a2.trans a3).mono (fun _ e => .inl e)).trans (k4.mono (fun g e => .inr (by rw [e]; omega))) |> Keeps.thin (D := fun _ => False)
    have hp : WlkH W4.drew pb (l.X i).x ⟨0, o1, 0, 0, 0, false, 0⟩ := (a4.keeps k4 (by omega)).keeps (Keeps.refl (fun _ => False) _).drew (fun e => e)
    have hr : RwlH W4.drew rb (l.Y i).x ⟨0, o1, 0, 0, 0, false, 0⟩ := (a5.keeps k4 (by omega)).keeps (Keeps.refl (fun _ => False) _).drew (fun e => e)
    exact ⟨k5.drew, .inr (.inl ⟨rfl, hp, hr⟩), b4, a9.symm, a6⟩
  have sE : (fun Z => Z.cell? ⟨wb, 1 + i, none⟩ = some (.pointer (some ⟨(l.X i).x, 0, none⟩)) ∧ Z.cell? ⟨wb, 4 + i, none⟩ = some (.pointer (some ⟨(l.Y i).x, 0, none⟩)) ∧ Z.cell? ⟨w.heap.size, 2, none⟩ = some (.int .i64 o1) ∧ Z.cell? ⟨w.heap.size, 3, none⟩ = some (.int .i64 o2)) W4 := ⟨(H4.out.1.cell (p := ⟨wb, 1 + i, none⟩) (Nat.lt_of_lt_of_le H3.out.1.lw H3.out.2.2.1.size) (by show wb ≠ _; have := HW0.out.lw; omega)).trans s3.1, (H4.out.1.cell (p := ⟨wb, 4 + i, none⟩) (Nat.lt_of_lt_of_le H3.out.1.lw H3.out.2.2.1.size) (by show wb ≠ _; have := HW0.out.lw; omega)).trans s3.2.1, (H4.out.1.cell (p := ⟨w.heap.size, 2, none⟩) (by have := H3.out.2.2.2.2.2.2.1; have := H3.out.2.2.2.2.2.2.2.2.1; show w.heap.size < _; omega) (by show w.heap.size ≠ _; omega)).trans s3.2.2.1, (H4.out.1.cell (p := ⟨w.heap.size, 3, none⟩) (by have := H3.out.2.2.2.2.2.2.1; have := H3.out.2.2.2.2.2.2.2.2.1; show w.heap.size < _; omega) (by show w.heap.size ≠ _; omega)).trans s3.2.2.2⟩
  (refine hK.out _ _ sE (fun hHeld => ?_); clear hK K; try simp only [Act.put, List.setIfInBounds_toArray, List.set_cons_zero, List.set_cons_succ])
  refine wpAnyH_done (by kernel_rfl) ?_ _
  clear z0 z1 z2 z3 z4 z5 z6 zf s2 s3 sE hHeld hW4
  have hb4 := H5.out.2.2.1
  have sy : (fun Z => Z.cell? ⟨w.heap.size + 1, 0, none⟩ = some (.int .i64 2) ∧ Z.cell? ⟨w.heap.size + 1, 1, none⟩ = some (.pointer none) ∧ Z.cell? ⟨w.heap.size + 1, 2, none⟩ = some (.pointer (some ⟨pb, 0, none⟩)) ∧ Z.cell? ⟨w.heap.size + 1, 3, none⟩ = some (.pointer none) ∧ Z.cell? ⟨w.heap.size + 1, 4, none⟩ = some (.pointer none) ∧ Z.cell? ⟨w.heap.size + 1, 5, none⟩ = some (.pointer (some ⟨rb, 0, none⟩)) ∧ Z.cell? ⟨w.heap.size + 1, 6, none⟩ = some (.pointer none)) W4.drew := ⟨(cell?_heap hb4 0).trans rfl, (cell?_heap hb4 1).trans rfl, (cell?_heap hb4 2).trans rfl, (cell?_heap hb4 3).trans rfl, (cell?_heap hb4 4).trans rfl, (cell?_heap hb4 5).trans rfl, (cell?_heap hb4 6).trans rfl⟩
  have HO : Hid (OwG pmC 188 7 W4.drew 0 (.slice sp s.ms.length cp) s.ms) := (owK HW0.out.o H5.out.1 (fun _ _ e => e)).down (Nat.zero_le _)
  have d2 : W4.drew.cell? ⟨wb, 6, none⟩ = some (.slice sp s.ms.length cp) := (H5.out.1.cell (p := ⟨wb, 6, none⟩) HW0.out.lw (fun e => e)).trans HW0.out.c6
  have f2 : W4.drew.frozen? ⟨wb, 6, none⟩ = false := (H5.out.1.frozen (p := ⟨wb, 6, none⟩) HW0.out.lw (fun e => e)).trans (HW0.out.fz 6)
  have HPU : Hid (∀ (b cap' : Nat) (w7 : World), OwG pmC 188 7 w7 0 (.slice (some ⟨b, 0, none⟩) (s.ms.length + 1) cap') (s.ms ++ [⟨2, i, pb, rb, ⟨0, 0, 0, 0, 0, 0⟩, ⟨0, o1, 0, 0, 0, false, 0⟩, ⟨0, 0, 0, 0, 0, 0, 0, 0, false, 0⟩⟩]) → (((Value.slice sp s.ms.length cp).ownBlock = some b ∧ Keeps (fun k => (Value.slice sp s.ms.length cp).ownBlock = some k) W4.drew w7) ∨ (W4.drew.heap.size ≤ b ∧ Keeps (fun _ => False) W4.drew w7)) →
      (St4 (w7.setCell ⟨wb, 6, none⟩ (.slice (some ⟨b, 0, none⟩) (s.ms.length + 1) cap')) B wb hold l qv (.slice (some ⟨b, 0, none⟩) (s.ms.length + 1) cap') { s with ms := s.ms ++ [⟨2, i, pb, rb, ⟨0, 0, 0, 0, 0, 0⟩, ⟨0, o1, 0, 0, 0, false, 0⟩, ⟨0, 0, 0, 0, 0, 0, 0, 0, false, 0⟩⟩] } ∧ Below B w (w7.setCell ⟨wb, 6, none⟩ (.slice (some ⟨b, 0, none⟩) (s.ms.length + 1) cap'))) ∧ w7.cell? ⟨wb, 6, none⟩ = some (.slice sp s.ms.length cp) ∧ w7.frozen? ⟨wb, 6, none⟩ = false ∧ (fun Z => Z.cell? ⟨w.heap.size + 1, 0, none⟩ = some (.int .i64 2) ∧ Z.cell? ⟨w.heap.size + 1, 1, none⟩ = some (.pointer none) ∧ Z.cell? ⟨w.heap.size + 1, 2, none⟩ = some (.pointer (some ⟨pb, 0, none⟩)) ∧ Z.cell? ⟨w.heap.size + 1, 3, none⟩ = some (.pointer none) ∧ Z.cell? ⟨w.heap.size + 1, 4, none⟩ = some (.pointer none) ∧ Z.cell? ⟨w.heap.size + 1, 5, none⟩ = some (.pointer (some ⟨rb, 0, none⟩)) ∧ Z.cell? ⟨w.heap.size + 1, 6, none⟩ = some (.pointer none)) w7) := fun b cap' w7 ho kk => by
    obtain ⟨k5, hm, hbk, hpb, hrb⟩ := H5.out
    have kx : Keeps (fun x => (Value.slice sp s.ms.length cp).ownBlock = some x) W4.drew w7 := by
      rcases kk with ⟨_, k⟩ | ⟨_, k⟩
      · exact k
      · exact k.mono (fun _ e => e.elim)
    have nw : (Value.slice sp s.ms.length cp).ownBlock ≠ some wb := fun e => (HW0.out.na wb e).2 rfl
    have np : (Value.slice sp s.ms.length cp).ownBlock ≠ some (w.heap.size + 1) := fun e => by have := (World.ownsRow.lt HW0.out.o _ e).2; omega
    have lw4 : wb < W4.drew.heap.size := Nat.lt_of_lt_of_le HW0.out.lw k5.size
    have hb7 : w7.heap[w.heap.size + 1]? = some (.cells #[.int .i64 2, .pointer none, .pointer (some ⟨pb, 0, none⟩), .pointer none, .pointer none, .pointer (some ⟨rb, 0, none⟩), .pointer none] 188) := (kx.block _ (lt_heap hbk) np).trans hbk
    refine ⟨HW0.out.push ⟨2, i, pb, rb, ⟨0, 0, 0, 0, 0, 0⟩, ⟨0, o1, 0, 0, 0, false, 0⟩, ⟨0, 0, 0, 0, 0, 0, 0, 0, false, 0⟩⟩ k5 hm hi ⟨fun e => absurd e (show ¬ 2 = 1 by decide), fun _ => ⟨rfl, fun _ => rfl, fun _ => rfl, fun _ => rfl⟩, fun e => absurd e (show ¬ 2 = 4 by decide)⟩ (by show w.heap.size ≤ pb; omega) (by show w.heap.size ≤ rb; omega) (by show pb ≠ rb; omega) ho kx (fun g hg => ?_) hB, (kx.cell (p := ⟨wb, 6, none⟩) lw4 nw).trans d2, (kx.frozen (p := ⟨wb, 6, none⟩) lw4 nw).trans f2, (cell?_heap hb7 0).trans rfl, (cell?_heap hb7 1).trans rfl, (cell?_heap hb7 2).trans rfl, (cell?_heap hb7 3).trans rfl, (cell?_heap hb7 4).trans rfl, (cell?_heap hb7 5).trans rfl, (cell?_heap hb7 6).trans rfl⟩
    have e : b = g := Option.some.inj hg
    subst e
    rcases kk with ⟨e, _⟩ | ⟨e, _⟩
    · exact .inl e
    · exact .inr e
  have HSS : Hid (∀ w7 : World, (fun Z => Z.cell? ⟨w.heap.size + 1, 0, none⟩ = some (.int .i64 2) ∧ Z.cell? ⟨w.heap.size + 1, 1, none⟩ = some (.pointer none) ∧ Z.cell? ⟨w.heap.size + 1, 2, none⟩ = some (.pointer (some ⟨pb, 0, none⟩)) ∧ Z.cell? ⟨w.heap.size + 1, 3, none⟩ = some (.pointer none) ∧ Z.cell? ⟨w.heap.size + 1, 4, none⟩ = some (.pointer none) ∧ Z.cell? ⟨w.heap.size + 1, 5, none⟩ = some (.pointer (some ⟨rb, 0, none⟩)) ∧ Z.cell? ⟨w.heap.size + 1, 6, none⟩ = some (.pointer none)) w7 → ∀ v, (fun Z => Z.cell? ⟨w.heap.size + 1, 0, none⟩ = some (.int .i64 2) ∧ Z.cell? ⟨w.heap.size + 1, 1, none⟩ = some (.pointer none) ∧ Z.cell? ⟨w.heap.size + 1, 2, none⟩ = some (.pointer (some ⟨pb, 0, none⟩)) ∧ Z.cell? ⟨w.heap.size + 1, 3, none⟩ = some (.pointer none) ∧ Z.cell? ⟨w.heap.size + 1, 4, none⟩ = some (.pointer none) ∧ Z.cell? ⟨w.heap.size + 1, 5, none⟩ = some (.pointer (some ⟨rb, 0, none⟩)) ∧ Z.cell? ⟨w.heap.size + 1, 6, none⟩ = some (.pointer none)) (w7.setCell ⟨wb, 6, none⟩ v)) := fun w7 hs v => by
    have ne : ∀ j, (⟨wb, 6, none⟩ : Addr) ≠ ⟨w.heap.size + 1, j, none⟩ := fun j e => by have e1 : wb = w.heap.size + 1 := congrArg Addr.block e; have := HW0.out.lw; omega
    obtain ⟨q0, q1, q2, q3, q4, q5, q6⟩ := hs
    exact ⟨(World.cell?_setCell_other _ _ _ _ (ne 0)).trans q0, (World.cell?_setCell_other _ _ _ _ (ne 1)).trans q1, (World.cell?_setCell_other _ _ _ _ (ne 2)).trans q2, (World.cell?_setCell_other _ _ _ _ (ne 3)).trans q3, (World.cell?_setCell_other _ _ _ _ (ne 4)).trans q4, (World.cell?_setCell_other _ _ _ _ (ne 5)).trans q5, (World.cell?_setCell_other _ _ _ _ (ne 6)).trans q6⟩
  have HSA : Hid (∀ o, (fun Z => Z.cell? ⟨w.heap.size + 1, 0, none⟩ = some (.int .i64 2) ∧ Z.cell? ⟨w.heap.size + 1, 1, none⟩ = some (.pointer none) ∧ Z.cell? ⟨w.heap.size + 1, 2, none⟩ = some (.pointer (some ⟨pb, 0, none⟩)) ∧ Z.cell? ⟨w.heap.size + 1, 3, none⟩ = some (.pointer none) ∧ Z.cell? ⟨w.heap.size + 1, 4, none⟩ = some (.pointer none) ∧ Z.cell? ⟨w.heap.size + 1, 5, none⟩ = some (.pointer (some ⟨rb, 0, none⟩)) ∧ Z.cell? ⟨w.heap.size + 1, 6, none⟩ = some (.pointer none)) (W4.drew.alloc o) ∧ (W4.drew.alloc o).cell? ⟨wb, 6, none⟩ = some (.slice sp s.ms.length cp)) := fun o => by
    have ha : (W4.drew.alloc o).heap[w.heap.size + 1]? = some (.cells #[.int .i64 2, .pointer none, .pointer (some ⟨pb, 0, none⟩), .pointer none, .pointer none, .pointer (some ⟨rb, 0, none⟩), .pointer none] 188) := (Below.heap_alloc _ _ _ (lt_heap hb4)).trans hb4
    exact ⟨⟨(cell?_heap ha 0).trans rfl, (cell?_heap ha 1).trans rfl, (cell?_heap ha 2).trans rfl, (cell?_heap ha 3).trans rfl, (cell?_heap ha 4).trans rfl, (cell?_heap ha 5).trans rfl, (cell?_heap ha 6).trans rfl⟩, (World.cell?_of_block (w := W4.drew) (Below.heap_alloc W4.drew o wb (Nat.lt_of_lt_of_le HW0.out.lw H5.out.1.size))).trans d2⟩
  clear hb4 H3 H4
  go_wp2_with fail
  (refine wp_region_held_drew (S := (fun Z => Z.cell? ⟨w.heap.size + 1, 0, none⟩ = some (.int .i64 2) ∧ Z.cell? ⟨w.heap.size + 1, 1, none⟩ = some (.pointer none) ∧ Z.cell? ⟨w.heap.size + 1, 2, none⟩ = some (.pointer (some ⟨pb, 0, none⟩)) ∧ Z.cell? ⟨w.heap.size + 1, 3, none⟩ = some (.pointer none) ∧ Z.cell? ⟨w.heap.size + 1, 4, none⟩ = some (.pointer none) ∧ Z.cell? ⟨w.heap.size + 1, 5, none⟩ = some (.pointer (some ⟨rb, 0, none⟩)) ∧ Z.cell? ⟨w.heap.size + 1, 6, none⟩ = some (.pointer none))) (by kernel_rfl) sy (fun hHeld => ?_); simp only [List.size_toArray, List.length_cons, List.length_nil, Nat.reduceAdd, Array.replicate_succ, Array.replicate_zero, List.push_toArray, List.append_toArray, List.nil_append, List.cons_append])
  clear sy
  generalize W4.drew = wd at *
  refine rgT 0 (h := ?_)
  refine rgT 1 (h := ?_)
  refine rgT 2 (h := ?_)
  refine rgT 3 (h := ?_)
  refine rgT 5 (h := ?_)
  (refine wpAnyH_ready (rs := [4, 6]) (by kernel_rfl) (by simp) ?_; refine rgA 4 (by rfl) (fun K hK => ?_) (rgA 6 (by rfl) (fun K hK => ?_) AllReadyH.nil) <;> go_simp)
  · (refine hK.out _ _ hHeld (fun hHeld => ?_); clear hK K; try simp only [Act.put, List.setIfInBounds_toArray, List.set_cons_zero, List.set_cons_succ])
    (refine rgS 6 (h := fun K hK => ?_); go_simp)
    (refine hK.out _ _ (HSA.out (.cells #[.int .i64 2, .pointer none, .pointer (some ⟨pb, 0, none⟩), .pointer none, .pointer none, .pointer (some ⟨rb, 0, none⟩), .pointer none] 188)).1 (fun hHeld => ?_); clear hK K; try simp only [Act.put, List.setIfInBounds_toArray, List.set_cons_zero, List.set_cons_succ])
    (refine rgS 7 (h := fun K hK => ?_); rw [if_pos (by rfl)])
    refine app_stay_wp (cs := pmC) (wr := wd) _ _ 174 188 (by rfl) Tryz.underlying174 infoPr rfl (by decide) (fun _ => rfl) _ s.ms ⟨2, i, pb, rb, ⟨0, 0, 0, 0, 0, 0⟩, ⟨0, o1, 0, 0, 0, false, 0⟩, ⟨0, 0, 0, 0, 0, 0, 0, 0, false, 0⟩⟩ HO.out (by rfl) wd.heap.size rfl (by rfl) (pm_one _) _ rfl (by unfold maxLen; omega) (by omega) ?_
    intro b cap' w7 ho7 kk7 hb7
    obtain ⟨HN, d6, f6, s7⟩ := HPU.out b cap' w7 ho7 kk7
    (refine hK.out _ _ s7 (fun hHeld => ?_); clear hK K; try simp only [Act.put, List.setIfInBounds_toArray, List.set_cons_zero, List.set_cons_succ])
    refine rgT 8 (h := ?_)
    refine rgT 9 (h := ?_)
    (refine rgS 10 (h := fun K hK => ?_); go_simp)
    (refine hK.out _ _ ((HSS.out w7 s7 (.slice (some ⟨b, 0, none⟩) (s.ms.length + 1) cap'))) (fun hHeld => ?_); clear hK K; try simp only [Act.put, List.setIfInBounds_toArray, List.set_cons_zero, List.set_cons_succ])
    refine wpAnyH_done (by kernel_rfl) ?_ _
    clear ho7 kk7 hb7 d6 f6 s7 hHeld
    go_wp2
    exact ⟨rfl, .tuple #[], by simp [results, Tryz.results103], rfl, _, ⟨2, i, pb, rb, ⟨0, 0, 0, 0, 0, 0⟩, ⟨0, o1, 0, 0, 0, false, 0⟩, ⟨0, 0, 0, 0, 0, 0, 0, 0, false, 0⟩⟩, HN⟩
  · (refine hK.out _ _ (HSA.out (.cells #[.int .i64 2, .pointer none, .pointer (some ⟨pb, 0, none⟩), .pointer none, .pointer none, .pointer (some ⟨rb, 0, none⟩), .pointer none] 188)).1 (fun hHeld => ?_); clear hK K; try simp only [Act.put, List.setIfInBounds_toArray, List.set_cons_zero, List.set_cons_succ])
    have d2a := (HSA.out (.cells #[.int .i64 2, .pointer none, .pointer (some ⟨pb, 0, none⟩), .pointer none, .pointer none, .pointer (some ⟨rb, 0, none⟩), .pointer none] 188)).2
    (refine rgS 4 (h := fun K hK => ?_); go_simp)
    clear d2a
    (refine hK.out _ _ (HSA.out (.cells #[.int .i64 2, .pointer none, .pointer (some ⟨pb, 0, none⟩), .pointer none, .pointer none, .pointer (some ⟨rb, 0, none⟩), .pointer none] 188)).1 (fun hHeld => ?_); clear hK K; try simp only [Act.put, List.setIfInBounds_toArray, List.set_cons_zero, List.set_cons_succ])
    (refine rgS 7 (h := fun K hK => ?_); rw [if_pos (by rfl)])
    refine app_stay_wp (cs := pmC) (wr := wd) _ _ 174 188 (by rfl) Tryz.underlying174 infoPr rfl (by decide) (fun _ => rfl) _ s.ms ⟨2, i, pb, rb, ⟨0, 0, 0, 0, 0, 0⟩, ⟨0, o1, 0, 0, 0, false, 0⟩, ⟨0, 0, 0, 0, 0, 0, 0, 0, false, 0⟩⟩ HO.out (by rfl) wd.heap.size rfl (by rfl) (pm_one _) _ rfl (by unfold maxLen; omega) (by omega) ?_
    intro b cap' w7 ho7 kk7 hb7
    obtain ⟨HN, d6, f6, s7⟩ := HPU.out b cap' w7 ho7 kk7
    (refine hK.out _ _ s7 (fun hHeld => ?_); clear hK K; try simp only [Act.put, List.setIfInBounds_toArray, List.set_cons_zero, List.set_cons_succ])
    refine rgT 8 (h := ?_)
    refine rgT 9 (h := ?_)
    (refine rgS 10 (h := fun K hK => ?_); go_simp)
    (refine hK.out _ _ ((HSS.out w7 s7 (.slice (some ⟨b, 0, none⟩) (s.ms.length + 1) cap'))) (fun hHeld => ?_); clear hK K; try simp only [Act.put, List.setIfInBounds_toArray, List.set_cons_zero, List.set_cons_succ])
    refine wpAnyH_done (by kernel_rfl) ?_ _
    clear ho7 kk7 hb7 d6 f6 s7 hHeld
    go_wp2
    exact ⟨rfl, .tuple #[], by simp [results, Tryz.results103], rfl, _, ⟨2, i, pb, rb, ⟨0, 0, 0, 0, 0, 0⟩, ⟨0, o1, 0, 0, 0, false, 0⟩, ⟨0, 0, 0, 0, 0, 0, 0, 0, false, 0⟩⟩, HN⟩
theorem law_begin5 (w : World) (B wb : Nat) (hold : Int) (l : WL) (qv av : Value) (s : WS) (i : Nat) (of_ o1 o2 : Int) (h : St4 w B wb hold l qv av s) (hi : i < 2) (hml : s.ms.length ≤ 1048576) (hB : B ≤ w.heap.size) : Calls Tryz.prog 103 #[.pointer (some ⟨wb, 0, none⟩), .agg #[.int .i64 5, .int .i64 of_, .int .i64 o1, .int .i64 o2], .int .i64 (i : Int)] w fun e w' => e = .returned (.tuple #[]) ∧ ∃ av' m, St4 w' B wb hold l qv av' { s with ms := s.ms ++ [m] } ∧ Below B w w' := by
  obtain ⟨sp, cp, hsp⟩ := h.o.form
  subst hsp
  have i0 : (0 : Int) ≤ (i : Int) := Int.natCast_nonneg _
  have i1 : (i : Int) < 2 := by omega
  have g1 := heap_alloc_new w (.cells #[.int .i64 5, .int .i64 of_, .int .i64 o1, .int .i64 o2] 120)
  have g2 := heap_alloc_new (w.alloc (.cells #[.int .i64 5, .int .i64 of_, .int .i64 o1, .int .i64 o2] 120)) (.cells #[.int .i64 0, .pointer none, .pointer none, .pointer none, .pointer none, .pointer none, .pointer none] 188)
  have e1 : (w.alloc (.cells #[.int .i64 5, .int .i64 of_, .int .i64 o1, .int .i64 o2] 120)).heap.size = w.heap.size + 1 := by simp
  rw [e1] at g2
  obtain ⟨W1, hW1⟩ : ∃ W, ((w.alloc (.cells #[.int .i64 5, .int .i64 of_, .int .i64 o1, .int .i64 o2] 120)).alloc (.cells #[.int .i64 0, .pointer none, .pointer none, .pointer none, .pointer none, .pointer none, .pointer none] 188)).drew = W := ⟨_, rfl⟩
  have H1 : Hid (St4 W1 B wb hold l qv (.slice sp s.ms.length cp) s ∧ Keeps (fun _ => False) w W1 ∧ W1.heap[w.heap.size]? = some (.cells #[.int .i64 5, .int .i64 of_, .int .i64 o1, .int .i64 o2] 120) ∧ W1.heap[w.heap.size + 1]? = some (.cells #[.int .i64 0, .pointer none, .pointer none, .pointer none, .pointer none, .pointer none, .pointer none] 188)) := by
    have ka : Keeps (fun _ => False) w W1 := by rw [← hW1]; exact (((Keeps.refl _ _).alloc _).alloc _).drew
    refine ⟨h.keeps ka (fun _ _ e => e), ka, ?_, by rw [← hW1]; exact g2⟩
    rw [← hW1]
    show ((w.alloc _).alloc _).heap[w.heap.size]? = _
    rw [Below.heap_alloc _ _ _ (by rw [e1]; omega)]
    exact g1
  have hb1 := H1.out.2.2.1
  have sx : W1.cell? ⟨wb, 1 + i, none⟩ = some (.pointer (some ⟨(l.X i).x, 0, none⟩)) ∧ W1.cell? ⟨wb, 4 + i, none⟩ = some (.pointer (some ⟨(l.Y i).x, 0, none⟩)) ∧ W1.cell? ⟨w.heap.size, 2, none⟩ = some (.int .i64 o1) ∧ W1.cell? ⟨w.heap.size, 3, none⟩ = some (.int .i64 o2) := ⟨H1.out.1.c1 i hi, H1.out.1.c4 i hi, (cell?_heap hb1 2).trans rfl, (cell?_heap hb1 3).trans rfl⟩
  rw [← hW1] at sx
  have HNP : Hid (∀ _ : Unit, _) := fun _ => wlk_newBehind W1 (l.X i).x o1
  have HW0 : Hid (St4 w B wb hold l qv (.slice sp s.ms.length cp) s) := h
  have HHS : Hid (w.heap.size + 2 = W1.heap.size) := by show _ = _; rw [← hW1]; simp
  clear h g1 g2 e1 hb1
  go_enter Tryz.func103, Tryz.ntmps103
  go_wp2_with fail
  (refine wp_region_held_drew (S := (fun Z => Z.cell? ⟨wb, 1 + i, none⟩ = some (.pointer (some ⟨(l.X i).x, 0, none⟩)) ∧ Z.cell? ⟨wb, 4 + i, none⟩ = some (.pointer (some ⟨(l.Y i).x, 0, none⟩)) ∧ Z.cell? ⟨w.heap.size, 2, none⟩ = some (.int .i64 o1) ∧ Z.cell? ⟨w.heap.size, 3, none⟩ = some (.int .i64 o2))) (by kernel_rfl) sx (fun hHeld => ?_); simp only [List.size_toArray, List.length_cons, List.length_nil, Nat.reduceAdd, Array.replicate_succ, Array.replicate_zero, List.push_toArray, List.append_toArray, List.nil_append, List.cons_append])
  clear sx
  rw [hW1] at hHeld ⊢
  clear hW1
  refine rgT 0 (h := ?_)
  refine rgT 1 (h := ?_)
  refine rgT 2 (h := ?_)
  refine rgT 3 (h := ?_)
  refine rgT 4 (h := ?_)
  refine rgT 5 (h := ?_)
  refine rgT 6 (h := ?_)
  refine rgT 7 (h := ?_)
  refine rgT 9 (h := ?_)
  refine rgT 10 (h := ?_)
  refine rgT 11 (h := ?_)
  refine rgT 12 (h := ?_)
  refine rgT 13 (h := ?_)
  refine rgT 14 (h := ?_)
  refine rgT 15 (h := ?_)
  refine rgT 16 (h := ?_)
  (refine rgS 8 (h := fun K hK => ?_); go_simp)
  refine (HNP.out ()).mono ?_
  rintro e w2 ⟨rfl, hp, kp, hz⟩
  have hp : WlkH w2 W1.heap.size (l.X i).x ⟨1, o1, 0, 0, 0, false, 0⟩ := hp
  have H2 : Hid (St4 w2 B wb hold l qv (.slice sp s.ms.length cp) s ∧ Keeps (fun _ => False) W1 w2 ∧ WlkH w2 W1.heap.size (l.X i).x ⟨1, o1, 0, 0, 0, false, 0⟩ ∧ w2.heap.size = W1.heap.size + 1 ∧ w2.heap[w.heap.size + 1]? = some (.cells #[.int .i64 0, .pointer none, .pointer none, .pointer none, .pointer none, .pointer none, .pointer none] 188)) := ⟨H1.out.1.keeps kp (fun _ _ e => e), kp, hp, hz, (kp.block _ (lt_heap H1.out.2.2.2) (fun e => e)).trans H1.out.2.2.2⟩
  have s2 : (fun Z => Z.cell? ⟨wb, 1 + i, none⟩ = some (.pointer (some ⟨(l.X i).x, 0, none⟩)) ∧ Z.cell? ⟨wb, 4 + i, none⟩ = some (.pointer (some ⟨(l.Y i).x, 0, none⟩)) ∧ Z.cell? ⟨w.heap.size, 2, none⟩ = some (.int .i64 o1) ∧ Z.cell? ⟨w.heap.size, 3, none⟩ = some (.int .i64 o2)) w2 := ⟨H2.out.1.c1 i hi, H2.out.1.c4 i hi, (kp.cell (p := ⟨w.heap.size, 2, none⟩) (lt_heap H1.out.2.2.1) (fun e => e)).trans ((cell?_heap H1.out.2.2.1 2).trans rfl), (kp.cell (p := ⟨w.heap.size, 3, none⟩) (lt_heap H1.out.2.2.1) (fun e => e)).trans ((cell?_heap H1.out.2.2.1 3).trans rfl)⟩
  (refine hK.out _ _ s2 (fun hHeld => ?_); clear hK K; try simp only [Act.put, List.setIfInBounds_toArray, List.set_cons_zero, List.set_cons_succ])
  have HNR : Hid (∀ _ : Unit, _) := fun _ => rwl_newBehind w2 (l.Y i).x o1
  (refine rgS 17 (h := fun K hK => ?_); go_simp)
  refine (HNR.out ()).mono ?_
  rintro e w3 ⟨rfl, hr, kr, hz3⟩
  have hr : RwlH w3 w2.heap.size (l.Y i).x ⟨1, o1, 0, 0, 0, false, 0⟩ := hr
  have hp3 : WlkH w3 W1.heap.size (l.X i).x ⟨1, o1, 0, 0, 0, false, 0⟩ := H2.out.2.2.1.keeps kr (fun e => e)
  have hb3 : w3.heap[w.heap.size + 1]? = some (.cells #[.int .i64 0, .pointer none, .pointer none, .pointer none, .pointer none, .pointer none, .pointer none] 188) := (kr.block _ (lt_heap H2.out.2.2.2.2) (fun e => e)).trans H2.out.2.2.2.2
  have s3 : (fun Z => Z.cell? ⟨wb, 1 + i, none⟩ = some (.pointer (some ⟨(l.X i).x, 0, none⟩)) ∧ Z.cell? ⟨wb, 4 + i, none⟩ = some (.pointer (some ⟨(l.Y i).x, 0, none⟩)) ∧ Z.cell? ⟨w.heap.size, 2, none⟩ = some (.int .i64 o1) ∧ Z.cell? ⟨w.heap.size, 3, none⟩ = some (.int .i64 o2)) w3 := ⟨(kr.cell (p := ⟨wb, 1 + i, none⟩) H2.out.1.lw (fun e => e)).trans s2.1, (kr.cell (p := ⟨wb, 4 + i, none⟩) H2.out.1.lw (fun e => e)).trans s2.2.1, (kr.cell (p := ⟨w.heap.size, 2, none⟩) (Nat.lt_of_lt_of_le (lt_heap H1.out.2.2.1) kp.size) (fun e => e)).trans s2.2.2.1, (kr.cell (p := ⟨w.heap.size, 3, none⟩) (Nat.lt_of_lt_of_le (lt_heap H1.out.2.2.1) kp.size) (fun e => e)).trans s2.2.2.2⟩
  obtain ⟨pb, hpb⟩ : ∃ pb, W1.heap.size = pb := ⟨_, rfl⟩
  obtain ⟨rb, hrb⟩ : ∃ rb, w2.heap.size = rb := ⟨_, rfl⟩
  have H3 : Hid (St4 W1 B wb hold l qv (.slice sp s.ms.length cp) s ∧ Keeps (fun _ => False) w W1 ∧ Keeps (fun _ => False) W1 w3 ∧ WlkH w3 pb (l.X i).x ⟨1, o1, 0, 0, 0, false, 0⟩ ∧ RwlH w3 rb (l.Y i).x ⟨1, o1, 0, 0, 0, false, 0⟩ ∧ rb = pb + 1 ∧ w3.heap.size = pb + 2 ∧ W1.heap.size = pb ∧ w.heap.size + 2 = pb ∧ w3.heap[w.heap.size + 1]? = some (.cells #[.int .i64 0, .pointer none, .pointer none, .pointer none, .pointer none, .pointer none, .pointer none] 188)) := by
    rw [← hpb, ← hrb]
    refine ⟨H1.out.1, H1.out.2.1, H2.out.2.1.trans kr, hp3, hr, H2.out.2.2.2.1, ?_, rfl, HHS.out, hb3⟩
    have := H2.out.2.2.2.1
    omega
  rw [hpb, hrb]
  (refine hK.out _ _ s3 (fun hHeld => ?_); clear hK K; try simp only [Act.put, List.setIfInBounds_toArray, List.set_cons_zero, List.set_cons_succ])
  refine rgT 18 (h := ?_)
  have z0 : w3.cell? ⟨w.heap.size + 1, 0, none⟩ = some (.int .i64 0) := (cell?_heap hb3 0).trans rfl
  have z1 : w3.cell? ⟨w.heap.size + 1, 1, none⟩ = some (.pointer none) := (cell?_heap hb3 1).trans rfl
  have z2 : w3.cell? ⟨w.heap.size + 1, 2, none⟩ = some (.pointer none) := (cell?_heap hb3 2).trans rfl
  have z3 : w3.cell? ⟨w.heap.size + 1, 3, none⟩ = some (.pointer none) := (cell?_heap hb3 3).trans rfl
  have z4 : w3.cell? ⟨w.heap.size + 1, 4, none⟩ = some (.pointer none) := (cell?_heap hb3 4).trans rfl
  have z5 : w3.cell? ⟨w.heap.size + 1, 5, none⟩ = some (.pointer none) := (cell?_heap hb3 5).trans rfl
  have z6 : w3.cell? ⟨w.heap.size + 1, 6, none⟩ = some (.pointer none) := (cell?_heap hb3 6).trans rfl
  have zf : ∀ j, w3.frozen? ⟨w.heap.size + 1, j, none⟩ = false := fun j => frozen?_heap hb3 j
  clear H1 H2 hp kp hz hr kr hz3 hp3 hb3 hpb hrb HNP HNR
  (refine rgS 19 (h := fun K hK => ?_); go_simp)
  obtain ⟨W4, hW4⟩ : ∃ W, ((((((w3.setCell ⟨w.heap.size + 1, 0, none⟩ (.int .i64 2)).setCell ⟨w.heap.size + 1, 1, none⟩ (.pointer none)).setCell ⟨w.heap.size + 1, 2, none⟩ (.pointer (some ⟨pb, 0, none⟩))).setCell ⟨w.heap.size + 1, 3, none⟩ (.pointer none)).setCell ⟨w.heap.size + 1, 4, none⟩ (.pointer none)).setCell ⟨w.heap.size + 1, 5, none⟩ (.pointer (some ⟨rb, 0, none⟩))).setCell ⟨w.heap.size + 1, 6, none⟩ (.pointer none) = W := ⟨_, rfl⟩
  have H4 : Hid (Keeps (fun g => g = w.heap.size + 1) w3 W4 ∧ W4.heap[w.heap.size + 1]? = some (.cells #[.int .i64 2, .pointer none, .pointer (some ⟨pb, 0, none⟩), .pointer none, .pointer none, .pointer (some ⟨rb, 0, none⟩), .pointer none] 188)) := by
    rw [← hW4]
    obtain ⟨_, _, _, _, _, _, _, _, _, hb3⟩ := H3.out
    exact ⟨setK (setK (setK (setK (setK (setK (setK (Keeps.refl _ _))))))), heapSetC (heapSetC (heapSetC (heapSetC (heapSetC (heapSetC (heapSetC hb3 0 _) 1 _) 2 _) 3 _) 4 _) 5 _) 6 _⟩
  rw [hW4]
  have H5 : Hid (Keeps (fun _ => False) w W4.drew ∧ (⟨2, i, pb, rb, ⟨0, 0, 0, 0, 0, 0⟩, ⟨1, o1, 0, 0, 0, false, 0⟩, ⟨0, 0, 0, 0, 0, 0, 0, 0, false, 0⟩⟩ : PM).H W4.drew l ∧ W4.drew.heap[w.heap.size + 1]? = some (.cells #[.int .i64 2, .pointer none, .pointer (some ⟨pb, 0, none⟩), .pointer none, .pointer none, .pointer (some ⟨rb, 0, none⟩), .pointer none] 188) ∧ pb = w.heap.size + 2 ∧ rb = pb + 1) := by
    obtain ⟨a1, a2, a3, a4, a5, a6, a7, a8, a9, a10⟩ := H3.out
    obtain ⟨k4, b4⟩ := H4.out
    have k5 : Keeps (fun _ => False) w W4 := ((a2.trans a3).mono (fun _ e => .inl e)).trans (k4.mono (fun g e => .inr (by rw [e]; omega))) |> Keeps.thin (D := fun _ => False)
    have hp : WlkH W4.drew pb (l.X i).x ⟨1, o1, 0, 0, 0, false, 0⟩ := (a4.keeps k4 (by omega)).keeps (Keeps.refl (fun _ => False) _).drew (fun e => e)
    have hr : RwlH W4.drew rb (l.Y i).x ⟨1, o1, 0, 0, 0, false, 0⟩ := (a5.keeps k4 (by omega)).keeps (Keeps.refl (fun _ => False) _).drew (fun e => e)
    exact ⟨k5.drew, .inr (.inl ⟨rfl, hp, hr⟩), b4, a9.symm, a6⟩
  have sE : (fun Z => Z.cell? ⟨wb, 1 + i, none⟩ = some (.pointer (some ⟨(l.X i).x, 0, none⟩)) ∧ Z.cell? ⟨wb, 4 + i, none⟩ = some (.pointer (some ⟨(l.Y i).x, 0, none⟩)) ∧ Z.cell? ⟨w.heap.size, 2, none⟩ = some (.int .i64 o1) ∧ Z.cell? ⟨w.heap.size, 3, none⟩ = some (.int .i64 o2)) W4 := ⟨(H4.out.1.cell (p := ⟨wb, 1 + i, none⟩) (Nat.lt_of_lt_of_le H3.out.1.lw H3.out.2.2.1.size) (by show wb ≠ _; have := HW0.out.lw; omega)).trans s3.1, (H4.out.1.cell (p := ⟨wb, 4 + i, none⟩) (Nat.lt_of_lt_of_le H3.out.1.lw H3.out.2.2.1.size) (by show wb ≠ _; have := HW0.out.lw; omega)).trans s3.2.1, (H4.out.1.cell (p := ⟨w.heap.size, 2, none⟩) (by have := H3.out.2.2.2.2.2.2.1; have := H3.out.2.2.2.2.2.2.2.2.1; show w.heap.size < _; omega) (by show w.heap.size ≠ _; omega)).trans s3.2.2.1, (H4.out.1.cell (p := ⟨w.heap.size, 3, none⟩) (by have := H3.out.2.2.2.2.2.2.1; have := H3.out.2.2.2.2.2.2.2.2.1; show w.heap.size < _; omega) (by show w.heap.size ≠ _; omega)).trans s3.2.2.2⟩
  (refine hK.out _ _ sE (fun hHeld => ?_); clear hK K; try simp only [Act.put, List.setIfInBounds_toArray, List.set_cons_zero, List.set_cons_succ])
  refine wpAnyH_done (by kernel_rfl) ?_ _
  clear z0 z1 z2 z3 z4 z5 z6 zf s2 s3 sE hHeld hW4
  have hb4 := H5.out.2.2.1
  have sy : (fun Z => Z.cell? ⟨w.heap.size + 1, 0, none⟩ = some (.int .i64 2) ∧ Z.cell? ⟨w.heap.size + 1, 1, none⟩ = some (.pointer none) ∧ Z.cell? ⟨w.heap.size + 1, 2, none⟩ = some (.pointer (some ⟨pb, 0, none⟩)) ∧ Z.cell? ⟨w.heap.size + 1, 3, none⟩ = some (.pointer none) ∧ Z.cell? ⟨w.heap.size + 1, 4, none⟩ = some (.pointer none) ∧ Z.cell? ⟨w.heap.size + 1, 5, none⟩ = some (.pointer (some ⟨rb, 0, none⟩)) ∧ Z.cell? ⟨w.heap.size + 1, 6, none⟩ = some (.pointer none)) W4.drew := ⟨(cell?_heap hb4 0).trans rfl, (cell?_heap hb4 1).trans rfl, (cell?_heap hb4 2).trans rfl, (cell?_heap hb4 3).trans rfl, (cell?_heap hb4 4).trans rfl, (cell?_heap hb4 5).trans rfl, (cell?_heap hb4 6).trans rfl⟩
  have HO : Hid (OwG pmC 188 7 W4.drew 0 (.slice sp s.ms.length cp) s.ms) := (owK HW0.out.o H5.out.1 (fun _ _ e => e)).down (Nat.zero_le _)
  have d2 : W4.drew.cell? ⟨wb, 6, none⟩ = some (.slice sp s.ms.length cp) := (H5.out.1.cell (p := ⟨wb, 6, none⟩) HW0.out.lw (fun e => e)).trans HW0.out.c6
  have f2 : W4.drew.frozen? ⟨wb, 6, none⟩ = false := (H5.out.1.frozen (p := ⟨wb, 6, none⟩) HW0.out.lw (fun e => e)).trans (HW0.out.fz 6)
  have HPU : Hid (∀ (b cap' : Nat) (w7 : World), OwG pmC 188 7 w7 0 (.slice (some ⟨b, 0, none⟩) (s.ms.length + 1) cap') (s.ms ++ [⟨2, i, pb, rb, ⟨0, 0, 0, 0, 0, 0⟩, ⟨1, o1, 0, 0, 0, false, 0⟩, ⟨0, 0, 0, 0, 0, 0, 0, 0, false, 0⟩⟩]) → (((Value.slice sp s.ms.length cp).ownBlock = some b ∧ Keeps (fun k => (Value.slice sp s.ms.length cp).ownBlock = some k) W4.drew w7) ∨ (W4.drew.heap.size ≤ b ∧ Keeps (fun _ => False) W4.drew w7)) →
      (St4 (w7.setCell ⟨wb, 6, none⟩ (.slice (some ⟨b, 0, none⟩) (s.ms.length + 1) cap')) B wb hold l qv (.slice (some ⟨b, 0, none⟩) (s.ms.length + 1) cap') { s with ms := s.ms ++ [⟨2, i, pb, rb, ⟨0, 0, 0, 0, 0, 0⟩, ⟨1, o1, 0, 0, 0, false, 0⟩, ⟨0, 0, 0, 0, 0, 0, 0, 0, false, 0⟩⟩] } ∧ Below B w (w7.setCell ⟨wb, 6, none⟩ (.slice (some ⟨b, 0, none⟩) (s.ms.length + 1) cap'))) ∧ w7.cell? ⟨wb, 6, none⟩ = some (.slice sp s.ms.length cp) ∧ w7.frozen? ⟨wb, 6, none⟩ = false ∧ (fun Z => Z.cell? ⟨w.heap.size + 1, 0, none⟩ = some (.int .i64 2) ∧ Z.cell? ⟨w.heap.size + 1, 1, none⟩ = some (.pointer none) ∧ Z.cell? ⟨w.heap.size + 1, 2, none⟩ = some (.pointer (some ⟨pb, 0, none⟩)) ∧ Z.cell? ⟨w.heap.size + 1, 3, none⟩ = some (.pointer none) ∧ Z.cell? ⟨w.heap.size + 1, 4, none⟩ = some (.pointer none) ∧ Z.cell? ⟨w.heap.size + 1, 5, none⟩ = some (.pointer (some ⟨rb, 0, none⟩)) ∧ Z.cell? ⟨w.heap.size + 1, 6, none⟩ = some (.pointer none)) w7) := fun b cap' w7 ho kk => by
    obtain ⟨k5, hm, hbk, hpb, hrb⟩ := H5.out
    have kx : Keeps (fun x => (Value.slice sp s.ms.length cp).ownBlock = some x) W4.drew w7 := by
      rcases kk with ⟨_, k⟩ | ⟨_, k⟩
      · exact k
      · exact k.mono (fun _ e => e.elim)
    have nw : (Value.slice sp s.ms.length cp).ownBlock ≠ some wb := fun e => (HW0.out.na wb e).2 rfl
    have np : (Value.slice sp s.ms.length cp).ownBlock ≠ some (w.heap.size + 1) := fun e => by have := (World.ownsRow.lt HW0.out.o _ e).2; omega
    have lw4 : wb < W4.drew.heap.size := Nat.lt_of_lt_of_le HW0.out.lw k5.size
    have hb7 : w7.heap[w.heap.size + 1]? = some (.cells #[.int .i64 2, .pointer none, .pointer (some ⟨pb, 0, none⟩), .pointer none, .pointer none, .pointer (some ⟨rb, 0, none⟩), .pointer none] 188) := (kx.block _ (lt_heap hbk) np).trans hbk
    refine ⟨HW0.out.push ⟨2, i, pb, rb, ⟨0, 0, 0, 0, 0, 0⟩, ⟨1, o1, 0, 0, 0, false, 0⟩, ⟨0, 0, 0, 0, 0, 0, 0, 0, false, 0⟩⟩ k5 hm hi ⟨fun e => absurd e (show ¬ 2 = 1 by decide), fun _ => ⟨rfl, fun _ => rfl, fun _ => rfl, fun _ => rfl⟩, fun e => absurd e (show ¬ 2 = 4 by decide)⟩ (by show w.heap.size ≤ pb; omega) (by show w.heap.size ≤ rb; omega) (by show pb ≠ rb; omega) ho kx (fun g hg => ?_) hB, (kx.cell (p := ⟨wb, 6, none⟩) lw4 nw).trans d2, (kx.frozen (p := ⟨wb, 6, none⟩) lw4 nw).trans f2, (cell?_heap hb7 0).trans rfl, (cell?_heap hb7 1).trans rfl, (cell?_heap hb7 2).trans rfl, (cell?_heap hb7 3).trans rfl, (cell?_heap hb7 4).trans rfl, (cell?_heap hb7 5).trans rfl, (cell?_heap hb7 6).trans rfl⟩
    have e : b = g := Option.some.inj hg
    subst e
    rcases kk with ⟨e, _⟩ | ⟨e, _⟩
    · exact .inl e
    · exact .inr e
  have HSS : Hid (∀ w7 : World, (fun Z => Z.cell? ⟨w.heap.size + 1, 0, none⟩ = some (.int .i64 2) ∧ Z.cell? ⟨w.heap.size + 1, 1, none⟩ = some (.pointer none) ∧ Z.cell? ⟨w.heap.size + 1, 2, none⟩ = some (.pointer (some ⟨pb, 0, none⟩)) ∧ Z.cell? ⟨w.heap.size + 1, 3, none⟩ = some (.pointer none) ∧ Z.cell? ⟨w.heap.size + 1, 4, none⟩ = some (.pointer none) ∧ Z.cell? ⟨w.heap.size + 1, 5, none⟩ = some (.pointer (some ⟨rb, 0, none⟩)) ∧ Z.cell? ⟨w.heap.size + 1, 6, none⟩ = some (.pointer none)) w7 → ∀ v, (fun Z => Z.cell? ⟨w.heap.size + 1, 0, none⟩ = some (.int .i64 2) ∧ Z.cell? ⟨w.heap.size + 1, 1, none⟩ = some (.pointer none) ∧ Z.cell? ⟨w.heap.size + 1, 2, none⟩ = some (.pointer (some ⟨pb, 0, none⟩)) ∧ Z.cell? ⟨w.heap.size + 1, 3, none⟩ = some (.pointer none) ∧ Z.cell? ⟨w.heap.size + 1, 4, none⟩ = some (.pointer none) ∧ Z.cell? ⟨w.heap.size + 1, 5, none⟩ = some (.pointer (some ⟨rb, 0, none⟩)) ∧ Z.cell? ⟨w.heap.size + 1, 6, none⟩ = some (.pointer none)) (w7.setCell ⟨wb, 6, none⟩ v)) := fun w7 hs v => by
    have ne : ∀ j, (⟨wb, 6, none⟩ : Addr) ≠ ⟨w.heap.size + 1, j, none⟩ := fun j e => by have e1 : wb = w.heap.size + 1 := congrArg Addr.block e; have := HW0.out.lw; omega
    obtain ⟨q0, q1, q2, q3, q4, q5, q6⟩ := hs
    exact ⟨(World.cell?_setCell_other _ _ _ _ (ne 0)).trans q0, (World.cell?_setCell_other _ _ _ _ (ne 1)).trans q1, (World.cell?_setCell_other _ _ _ _ (ne 2)).trans q2, (World.cell?_setCell_other _ _ _ _ (ne 3)).trans q3, (World.cell?_setCell_other _ _ _ _ (ne 4)).trans q4, (World.cell?_setCell_other _ _ _ _ (ne 5)).trans q5, (World.cell?_setCell_other _ _ _ _ (ne 6)).trans q6⟩
  have HSA : Hid (∀ o, (fun Z => Z.cell? ⟨w.heap.size + 1, 0, none⟩ = some (.int .i64 2) ∧ Z.cell? ⟨w.heap.size + 1, 1, none⟩ = some (.pointer none) ∧ Z.cell? ⟨w.heap.size + 1, 2, none⟩ = some (.pointer (some ⟨pb, 0, none⟩)) ∧ Z.cell? ⟨w.heap.size + 1, 3, none⟩ = some (.pointer none) ∧ Z.cell? ⟨w.heap.size + 1, 4, none⟩ = some (.pointer none) ∧ Z.cell? ⟨w.heap.size + 1, 5, none⟩ = some (.pointer (some ⟨rb, 0, none⟩)) ∧ Z.cell? ⟨w.heap.size + 1, 6, none⟩ = some (.pointer none)) (W4.drew.alloc o) ∧ (W4.drew.alloc o).cell? ⟨wb, 6, none⟩ = some (.slice sp s.ms.length cp)) := fun o => by
    have ha : (W4.drew.alloc o).heap[w.heap.size + 1]? = some (.cells #[.int .i64 2, .pointer none, .pointer (some ⟨pb, 0, none⟩), .pointer none, .pointer none, .pointer (some ⟨rb, 0, none⟩), .pointer none] 188) := (Below.heap_alloc _ _ _ (lt_heap hb4)).trans hb4
    exact ⟨⟨(cell?_heap ha 0).trans rfl, (cell?_heap ha 1).trans rfl, (cell?_heap ha 2).trans rfl, (cell?_heap ha 3).trans rfl, (cell?_heap ha 4).trans rfl, (cell?_heap ha 5).trans rfl, (cell?_heap ha 6).trans rfl⟩, (World.cell?_of_block (w := W4.drew) (Below.heap_alloc W4.drew o wb (Nat.lt_of_lt_of_le HW0.out.lw H5.out.1.size))).trans d2⟩
  clear hb4 H3 H4
  go_wp2_with fail
  (refine wp_region_held_drew (S := (fun Z => Z.cell? ⟨w.heap.size + 1, 0, none⟩ = some (.int .i64 2) ∧ Z.cell? ⟨w.heap.size + 1, 1, none⟩ = some (.pointer none) ∧ Z.cell? ⟨w.heap.size + 1, 2, none⟩ = some (.pointer (some ⟨pb, 0, none⟩)) ∧ Z.cell? ⟨w.heap.size + 1, 3, none⟩ = some (.pointer none) ∧ Z.cell? ⟨w.heap.size + 1, 4, none⟩ = some (.pointer none) ∧ Z.cell? ⟨w.heap.size + 1, 5, none⟩ = some (.pointer (some ⟨rb, 0, none⟩)) ∧ Z.cell? ⟨w.heap.size + 1, 6, none⟩ = some (.pointer none))) (by kernel_rfl) sy (fun hHeld => ?_); simp only [List.size_toArray, List.length_cons, List.length_nil, Nat.reduceAdd, Array.replicate_succ, Array.replicate_zero, List.push_toArray, List.append_toArray, List.nil_append, List.cons_append])
  clear sy
  generalize W4.drew = wd at *
  refine rgT 0 (h := ?_)
  refine rgT 1 (h := ?_)
  refine rgT 2 (h := ?_)
  refine rgT 3 (h := ?_)
  refine rgT 5 (h := ?_)
  (refine wpAnyH_ready (rs := [4, 6]) (by kernel_rfl) (by simp) ?_; refine rgA 4 (by rfl) (fun K hK => ?_) (rgA 6 (by rfl) (fun K hK => ?_) AllReadyH.nil) <;> go_simp)
  · (refine hK.out _ _ hHeld (fun hHeld => ?_); clear hK K; try simp only [Act.put, List.setIfInBounds_toArray, List.set_cons_zero, List.set_cons_succ])
    (refine rgS 6 (h := fun K hK => ?_); go_simp)
    (refine hK.out _ _ (HSA.out (.cells #[.int .i64 2, .pointer none, .pointer (some ⟨pb, 0, none⟩), .pointer none, .pointer none, .pointer (some ⟨rb, 0, none⟩), .pointer none] 188)).1 (fun hHeld => ?_); clear hK K; try simp only [Act.put, List.setIfInBounds_toArray, List.set_cons_zero, List.set_cons_succ])
    (refine rgS 7 (h := fun K hK => ?_); rw [if_pos (by rfl)])
    refine app_stay_wp (cs := pmC) (wr := wd) _ _ 174 188 (by rfl) Tryz.underlying174 infoPr rfl (by decide) (fun _ => rfl) _ s.ms ⟨2, i, pb, rb, ⟨0, 0, 0, 0, 0, 0⟩, ⟨1, o1, 0, 0, 0, false, 0⟩, ⟨0, 0, 0, 0, 0, 0, 0, 0, false, 0⟩⟩ HO.out (by rfl) wd.heap.size rfl (by rfl) (pm_one _) _ rfl (by unfold maxLen; omega) (by omega) ?_
    intro b cap' w7 ho7 kk7 hb7
    obtain ⟨HN, d6, f6, s7⟩ := HPU.out b cap' w7 ho7 kk7
    (refine hK.out _ _ s7 (fun hHeld => ?_); clear hK K; try simp only [Act.put, List.setIfInBounds_toArray, List.set_cons_zero, List.set_cons_succ])
    refine rgT 8 (h := ?_)
    refine rgT 9 (h := ?_)
    (refine rgS 10 (h := fun K hK => ?_); go_simp)
    (refine hK.out _ _ ((HSS.out w7 s7 (.slice (some ⟨b, 0, none⟩) (s.ms.length + 1) cap'))) (fun hHeld => ?_); clear hK K; try simp only [Act.put, List.setIfInBounds_toArray, List.set_cons_zero, List.set_cons_succ])
    refine wpAnyH_done (by kernel_rfl) ?_ _
    clear ho7 kk7 hb7 d6 f6 s7 hHeld
    go_wp2
    exact ⟨rfl, .tuple #[], by simp [results, Tryz.results103], rfl, _, ⟨2, i, pb, rb, ⟨0, 0, 0, 0, 0, 0⟩, ⟨1, o1, 0, 0, 0, false, 0⟩, ⟨0, 0, 0, 0, 0, 0, 0, 0, false, 0⟩⟩, HN⟩
  · (refine hK.out _ _ (HSA.out (.cells #[.int .i64 2, .pointer none, .pointer (some ⟨pb, 0, none⟩), .pointer none, .pointer none, .pointer (some ⟨rb, 0, none⟩), .pointer none] 188)).1 (fun hHeld => ?_); clear hK K; try simp only [Act.put, List.setIfInBounds_toArray, List.set_cons_zero, List.set_cons_succ])
    have d2a := (HSA.out (.cells #[.int .i64 2, .pointer none, .pointer (some ⟨pb, 0, none⟩), .pointer none, .pointer none, .pointer (some ⟨rb, 0, none⟩), .pointer none] 188)).2
    (refine rgS 4 (h := fun K hK => ?_); go_simp)
    clear d2a
    (refine hK.out _ _ (HSA.out (.cells #[.int .i64 2, .pointer none, .pointer (some ⟨pb, 0, none⟩), .pointer none, .pointer none, .pointer (some ⟨rb, 0, none⟩), .pointer none] 188)).1 (fun hHeld => ?_); clear hK K; try simp only [Act.put, List.setIfInBounds_toArray, List.set_cons_zero, List.set_cons_succ])
    (refine rgS 7 (h := fun K hK => ?_); rw [if_pos (by rfl)])
    refine app_stay_wp (cs := pmC) (wr := wd) _ _ 174 188 (by rfl) Tryz.underlying174 infoPr rfl (by decide) (fun _ => rfl) _ s.ms ⟨2, i, pb, rb, ⟨0, 0, 0, 0, 0, 0⟩, ⟨1, o1, 0, 0, 0, false, 0⟩, ⟨0, 0, 0, 0, 0, 0, 0, 0, false, 0⟩⟩ HO.out (by rfl) wd.heap.size rfl (by rfl) (pm_one _) _ rfl (by unfold maxLen; omega) (by omega) ?_
    intro b cap' w7 ho7 kk7 hb7
    obtain ⟨HN, d6, f6, s7⟩ := HPU.out b cap' w7 ho7 kk7
    (refine hK.out _ _ s7 (fun hHeld => ?_); clear hK K; try simp only [Act.put, List.setIfInBounds_toArray, List.set_cons_zero, List.set_cons_succ])
    refine rgT 8 (h := ?_)
    refine rgT 9 (h := ?_)
    (refine rgS 10 (h := fun K hK => ?_); go_simp)
    (refine hK.out _ _ ((HSS.out w7 s7 (.slice (some ⟨b, 0, none⟩) (s.ms.length + 1) cap'))) (fun hHeld => ?_); clear hK K; try simp only [Act.put, List.setIfInBounds_toArray, List.set_cons_zero, List.set_cons_succ])
    refine wpAnyH_done (by kernel_rfl) ?_ _
    clear ho7 kk7 hb7 d6 f6 s7 hHeld
    go_wp2
    exact ⟨rfl, .tuple #[], by simp [results, Tryz.results103], rfl, _, ⟨2, i, pb, rb, ⟨0, 0, 0, 0, 0, 0⟩, ⟨1, o1, 0, 0, 0, false, 0⟩, ⟨0, 0, 0, 0, 0, 0, 0, 0, false, 0⟩⟩, HN⟩
theorem law_begin6 (w : World) (B wb : Nat) (hold : Int) (l : WL) (qv av : Value) (s : WS) (i : Nat) (of_ o1 o2 : Int) (h : St4 w B wb hold l qv av s) (hi : i < 2) (hml : s.ms.length ≤ 1048576) (hB : B ≤ w.heap.size) : Calls Tryz.prog 103 #[.pointer (some ⟨wb, 0, none⟩), .agg #[.int .i64 6, .int .i64 of_, .int .i64 o1, .int .i64 o2], .int .i64 (i : Int)] w fun e w' => e = .returned (.tuple #[]) ∧ ∃ av' m, St4 w' B wb hold l qv av' { s with ms := s.ms ++ [m] } ∧ Below B w w' := by
  obtain ⟨sp, cp, hsp⟩ := h.o.form
  subst hsp
  have i0 : (0 : Int) ≤ (i : Int) := Int.natCast_nonneg _
  have i1 : (i : Int) < 2 := by omega
  have g1 := heap_alloc_new w (.cells #[.int .i64 6, .int .i64 of_, .int .i64 o1, .int .i64 o2] 120)
  have g2 := heap_alloc_new (w.alloc (.cells #[.int .i64 6, .int .i64 of_, .int .i64 o1, .int .i64 o2] 120)) (.cells #[.int .i64 0, .pointer none, .pointer none, .pointer none, .pointer none, .pointer none, .pointer none] 188)
  have e1 : (w.alloc (.cells #[.int .i64 6, .int .i64 of_, .int .i64 o1, .int .i64 o2] 120)).heap.size = w.heap.size + 1 := by simp
  rw [e1] at g2
  obtain ⟨W1, hW1⟩ : ∃ W, ((w.alloc (.cells #[.int .i64 6, .int .i64 of_, .int .i64 o1, .int .i64 o2] 120)).alloc (.cells #[.int .i64 0, .pointer none, .pointer none, .pointer none, .pointer none, .pointer none, .pointer none] 188)).drew = W := ⟨_, rfl⟩
  have H1 : Hid (St4 W1 B wb hold l qv (.slice sp s.ms.length cp) s ∧ Keeps (fun _ => False) w W1 ∧ W1.heap[w.heap.size]? = some (.cells #[.int .i64 6, .int .i64 of_, .int .i64 o1, .int .i64 o2] 120) ∧ W1.heap[w.heap.size + 1]? = some (.cells #[.int .i64 0, .pointer none, .pointer none, .pointer none, .pointer none, .pointer none, .pointer none] 188)) := by
    have ka : Keeps (fun _ => False) w W1 := by rw [← hW1]; exact (((Keeps.refl _ _).alloc _).alloc _).drew
    refine ⟨h.keeps ka (fun _ _ e => e), ka, ?_, by rw [← hW1]; exact g2⟩
    rw [← hW1]
    show ((w.alloc _).alloc _).heap[w.heap.size]? = _
    rw [Below.heap_alloc _ _ _ (by rw [e1]; omega)]
    exact g1
  have hb1 := H1.out.2.2.1
  have sx : W1.cell? ⟨wb, 1 + i, none⟩ = some (.pointer (some ⟨(l.X i).x, 0, none⟩)) ∧ W1.cell? ⟨wb, 4 + i, none⟩ = some (.pointer (some ⟨(l.Y i).x, 0, none⟩)) ∧ W1.cell? ⟨w.heap.size, 2, none⟩ = some (.int .i64 o1) ∧ W1.cell? ⟨w.heap.size, 3, none⟩ = some (.int .i64 o2) := ⟨H1.out.1.c1 i hi, H1.out.1.c4 i hi, (cell?_heap hb1 2).trans rfl, (cell?_heap hb1 3).trans rfl⟩
  rw [← hW1] at sx
  have HNP : Hid (∀ _ : Unit, _) := fun _ => rem_new W1 (l.X i).x o1 o2
  have HW0 : Hid (St4 w B wb hold l qv (.slice sp s.ms.length cp) s) := h
  have HHS : Hid (w.heap.size + 2 = W1.heap.size) := by show _ = _; rw [← hW1]; simp
  clear h g1 g2 e1 hb1
  go_enter Tryz.func103, Tryz.ntmps103
  go_wp2_with fail
  (refine wp_region_held_drew (S := (fun Z => Z.cell? ⟨wb, 1 + i, none⟩ = some (.pointer (some ⟨(l.X i).x, 0, none⟩)) ∧ Z.cell? ⟨wb, 4 + i, none⟩ = some (.pointer (some ⟨(l.Y i).x, 0, none⟩)) ∧ Z.cell? ⟨w.heap.size, 2, none⟩ = some (.int .i64 o1) ∧ Z.cell? ⟨w.heap.size, 3, none⟩ = some (.int .i64 o2))) (by kernel_rfl) sx (fun hHeld => ?_); simp only [List.size_toArray, List.length_cons, List.length_nil, Nat.reduceAdd, Array.replicate_succ, Array.replicate_zero, List.push_toArray, List.append_toArray, List.nil_append, List.cons_append])
  clear sx
  rw [hW1] at hHeld ⊢
  clear hW1
  refine rgT 0 (h := ?_)
  refine rgT 1 (h := ?_)
  refine rgT 2 (h := ?_)
  refine rgT 3 (h := ?_)
  refine rgT 4 (h := ?_)
  refine rgT 5 (h := ?_)
  refine rgT 6 (h := ?_)
  refine rgT 7 (h := ?_)
  refine rgT 8 (h := ?_)
  refine rgT 9 (h := ?_)
  refine rgT 11 (h := ?_)
  refine rgT 12 (h := ?_)
  refine rgT 13 (h := ?_)
  refine rgT 14 (h := ?_)
  refine rgT 15 (h := ?_)
  refine rgT 16 (h := ?_)
  refine rgT 17 (h := ?_)
  refine rgT 18 (h := ?_)
  refine rgT 19 (h := ?_)
  refine rgT 20 (h := ?_)
  (refine rgS 10 (h := fun K hK => ?_); go_simp)
  refine (HNP.out ()).mono ?_
  rintro e w2 ⟨rfl, hp, kp, hz⟩
  have hp : RemH w2 W1.heap.size (l.X i).x ⟨0, 0, o1, o2, 0, 0, 0, 0, false, 0⟩ := hp
  have H2 : Hid (St4 w2 B wb hold l qv (.slice sp s.ms.length cp) s ∧ Keeps (fun _ => False) W1 w2 ∧ RemH w2 W1.heap.size (l.X i).x ⟨0, 0, o1, o2, 0, 0, 0, 0, false, 0⟩ ∧ w2.heap.size = W1.heap.size + 1 ∧ w2.heap[w.heap.size + 1]? = some (.cells #[.int .i64 0, .pointer none, .pointer none, .pointer none, .pointer none, .pointer none, .pointer none] 188)) := ⟨H1.out.1.keeps kp (fun _ _ e => e), kp, hp, hz, (kp.block _ (lt_heap H1.out.2.2.2) (fun e => e)).trans H1.out.2.2.2⟩
  have s2 : (fun Z => Z.cell? ⟨wb, 1 + i, none⟩ = some (.pointer (some ⟨(l.X i).x, 0, none⟩)) ∧ Z.cell? ⟨wb, 4 + i, none⟩ = some (.pointer (some ⟨(l.Y i).x, 0, none⟩)) ∧ Z.cell? ⟨w.heap.size, 2, none⟩ = some (.int .i64 o1) ∧ Z.cell? ⟨w.heap.size, 3, none⟩ = some (.int .i64 o2)) w2 := ⟨H2.out.1.c1 i hi, H2.out.1.c4 i hi, (kp.cell (p := ⟨w.heap.size, 2, none⟩) (lt_heap H1.out.2.2.1) (fun e => e)).trans ((cell?_heap H1.out.2.2.1 2).trans rfl), (kp.cell (p := ⟨w.heap.size, 3, none⟩) (lt_heap H1.out.2.2.1) (fun e => e)).trans ((cell?_heap H1.out.2.2.1 3).trans rfl)⟩
  (refine hK.out _ _ s2 (fun hHeld => ?_); clear hK K; try simp only [Act.put, List.setIfInBounds_toArray, List.set_cons_zero, List.set_cons_succ])
  have HNR : Hid (∀ _ : Unit, _) := fun _ => rrm_newRemove w2 (l.Y i).x o1 o2
  (refine rgS 21 (h := fun K hK => ?_); go_simp)
  refine (HNR.out ()).mono ?_
  rintro e w3 ⟨rfl, hr, kr, hz3⟩
  have hr : RrmH w3 w2.heap.size (l.Y i).x ⟨0, 0, o1, o2, 0, 0, 0, 0, false, 0⟩ := hr
  have hp3 : RemH w3 W1.heap.size (l.X i).x ⟨0, 0, o1, o2, 0, 0, 0, 0, false, 0⟩ := H2.out.2.2.1.keeps kr (fun e => e)
  have hb3 : w3.heap[w.heap.size + 1]? = some (.cells #[.int .i64 0, .pointer none, .pointer none, .pointer none, .pointer none, .pointer none, .pointer none] 188) := (kr.block _ (lt_heap H2.out.2.2.2.2) (fun e => e)).trans H2.out.2.2.2.2
  have s3 : (fun Z => Z.cell? ⟨wb, 1 + i, none⟩ = some (.pointer (some ⟨(l.X i).x, 0, none⟩)) ∧ Z.cell? ⟨wb, 4 + i, none⟩ = some (.pointer (some ⟨(l.Y i).x, 0, none⟩)) ∧ Z.cell? ⟨w.heap.size, 2, none⟩ = some (.int .i64 o1) ∧ Z.cell? ⟨w.heap.size, 3, none⟩ = some (.int .i64 o2)) w3 := ⟨(kr.cell (p := ⟨wb, 1 + i, none⟩) H2.out.1.lw (fun e => e)).trans s2.1, (kr.cell (p := ⟨wb, 4 + i, none⟩) H2.out.1.lw (fun e => e)).trans s2.2.1, (kr.cell (p := ⟨w.heap.size, 2, none⟩) (Nat.lt_of_lt_of_le (lt_heap H1.out.2.2.1) kp.size) (fun e => e)).trans s2.2.2.1, (kr.cell (p := ⟨w.heap.size, 3, none⟩) (Nat.lt_of_lt_of_le (lt_heap H1.out.2.2.1) kp.size) (fun e => e)).trans s2.2.2.2⟩
  obtain ⟨pb, hpb⟩ : ∃ pb, W1.heap.size = pb := ⟨_, rfl⟩
  obtain ⟨rb, hrb⟩ : ∃ rb, w2.heap.size = rb := ⟨_, rfl⟩
  have H3 : Hid (St4 W1 B wb hold l qv (.slice sp s.ms.length cp) s ∧ Keeps (fun _ => False) w W1 ∧ Keeps (fun _ => False) W1 w3 ∧ RemH w3 pb (l.X i).x ⟨0, 0, o1, o2, 0, 0, 0, 0, false, 0⟩ ∧ RrmH w3 rb (l.Y i).x ⟨0, 0, o1, o2, 0, 0, 0, 0, false, 0⟩ ∧ rb = pb + 1 ∧ w3.heap.size = pb + 2 ∧ W1.heap.size = pb ∧ w.heap.size + 2 = pb ∧ w3.heap[w.heap.size + 1]? = some (.cells #[.int .i64 0, .pointer none, .pointer none, .pointer none, .pointer none, .pointer none, .pointer none] 188)) := by
    rw [← hpb, ← hrb]
    refine ⟨H1.out.1, H1.out.2.1, H2.out.2.1.trans kr, hp3, hr, H2.out.2.2.2.1, ?_, rfl, HHS.out, hb3⟩
    have := H2.out.2.2.2.1
    omega
  rw [hpb, hrb]
  (refine hK.out _ _ s3 (fun hHeld => ?_); clear hK K; try simp only [Act.put, List.setIfInBounds_toArray, List.set_cons_zero, List.set_cons_succ])
  refine rgT 22 (h := ?_)
  have z0 : w3.cell? ⟨w.heap.size + 1, 0, none⟩ = some (.int .i64 0) := (cell?_heap hb3 0).trans rfl
  have z1 : w3.cell? ⟨w.heap.size + 1, 1, none⟩ = some (.pointer none) := (cell?_heap hb3 1).trans rfl
  have z2 : w3.cell? ⟨w.heap.size + 1, 2, none⟩ = some (.pointer none) := (cell?_heap hb3 2).trans rfl
  have z3 : w3.cell? ⟨w.heap.size + 1, 3, none⟩ = some (.pointer none) := (cell?_heap hb3 3).trans rfl
  have z4 : w3.cell? ⟨w.heap.size + 1, 4, none⟩ = some (.pointer none) := (cell?_heap hb3 4).trans rfl
  have z5 : w3.cell? ⟨w.heap.size + 1, 5, none⟩ = some (.pointer none) := (cell?_heap hb3 5).trans rfl
  have z6 : w3.cell? ⟨w.heap.size + 1, 6, none⟩ = some (.pointer none) := (cell?_heap hb3 6).trans rfl
  have zf : ∀ j, w3.frozen? ⟨w.heap.size + 1, j, none⟩ = false := fun j => frozen?_heap hb3 j
  clear H1 H2 hp kp hz hr kr hz3 hp3 hb3 hpb hrb HNP HNR
  (refine rgS 23 (h := fun K hK => ?_); go_simp)
  obtain ⟨W4, hW4⟩ : ∃ W, ((((((w3.setCell ⟨w.heap.size + 1, 0, none⟩ (.int .i64 4)).setCell ⟨w.heap.size + 1, 1, none⟩ (.pointer none)).setCell ⟨w.heap.size + 1, 2, none⟩ (.pointer none)).setCell ⟨w.heap.size + 1, 3, none⟩ (.pointer (some ⟨pb, 0, none⟩))).setCell ⟨w.heap.size + 1, 4, none⟩ (.pointer none)).setCell ⟨w.heap.size + 1, 5, none⟩ (.pointer none)).setCell ⟨w.heap.size + 1, 6, none⟩ (.pointer (some ⟨rb, 0, none⟩)) = W := ⟨_, rfl⟩
  have H4 : Hid (Keeps (fun g => g = w.heap.size + 1) w3 W4 ∧ W4.heap[w.heap.size + 1]? = some (.cells #[.int .i64 4, .pointer none, .pointer none, .pointer (some ⟨pb, 0, none⟩), .pointer none, .pointer none, .pointer (some ⟨rb, 0, none⟩)] 188)) := by
    rw [← hW4]
    obtain ⟨_, _, _, _, _, _, _, _, _, hb3⟩ := H3.out
    exact ⟨setK (setK (setK (setK (setK (setK (setK (Keeps.refl _ _))))))), heapSetC (heapSetC (heapSetC (heapSetC (heapSetC (heapSetC (heapSetC hb3 0 _) 1 _) 2 _) 3 _) 4 _) 5 _) 6 _⟩
  rw [hW4]
  have H5 : Hid (Keeps (fun _ => False) w W4.drew ∧ (⟨4, i, pb, rb, ⟨0, 0, 0, 0, 0, 0⟩, ⟨0, 0, 0, 0, 0, false, 0⟩, ⟨0, 0, o1, o2, 0, 0, 0, 0, false, 0⟩⟩ : PM).H W4.drew l ∧ W4.drew.heap[w.heap.size + 1]? = some (.cells #[.int .i64 4, .pointer none, .pointer none, .pointer (some ⟨pb, 0, none⟩), .pointer none, .pointer none, .pointer (some ⟨rb, 0, none⟩)] 188) ∧ pb = w.heap.size + 2 ∧ rb = pb + 1) := by
    obtain ⟨a1, a2, a3, a4, a5, a6, a7, a8, a9, a10⟩ := H3.out
    obtain ⟨k4, b4⟩ := H4.out
    have k5 : Keeps (fun _ => False) w W4 := ((a2.trans a3).mono (fun _ e => .inl e)).trans (k4.mono (fun g e => .inr (by rw [e]; omega))) |> Keeps.thin (D := fun _ => False)
    have hp : RemH W4.drew pb (l.X i).x ⟨0, 0, o1, o2, 0, 0, 0, 0, false, 0⟩ := (a4.keeps k4 (by omega)).keeps (Keeps.refl (fun _ => False) _).drew (fun e => e)
    have hr : RrmH W4.drew rb (l.Y i).x ⟨0, 0, o1, o2, 0, 0, 0, 0, false, 0⟩ := (a5.keeps k4 (by omega)).keeps (Keeps.refl (fun _ => False) _).drew (fun e => e)
    exact ⟨k5.drew, .inr (.inr ⟨rfl, hp, hr⟩), b4, a9.symm, a6⟩
  have sE : (fun Z => Z.cell? ⟨wb, 1 + i, none⟩ = some (.pointer (some ⟨(l.X i).x, 0, none⟩)) ∧ Z.cell? ⟨wb, 4 + i, none⟩ = some (.pointer (some ⟨(l.Y i).x, 0, none⟩)) ∧ Z.cell? ⟨w.heap.size, 2, none⟩ = some (.int .i64 o1) ∧ Z.cell? ⟨w.heap.size, 3, none⟩ = some (.int .i64 o2)) W4 := ⟨(H4.out.1.cell (p := ⟨wb, 1 + i, none⟩) (Nat.lt_of_lt_of_le H3.out.1.lw H3.out.2.2.1.size) (by show wb ≠ _; have := HW0.out.lw; omega)).trans s3.1, (H4.out.1.cell (p := ⟨wb, 4 + i, none⟩) (Nat.lt_of_lt_of_le H3.out.1.lw H3.out.2.2.1.size) (by show wb ≠ _; have := HW0.out.lw; omega)).trans s3.2.1, (H4.out.1.cell (p := ⟨w.heap.size, 2, none⟩) (by have := H3.out.2.2.2.2.2.2.1; have := H3.out.2.2.2.2.2.2.2.2.1; show w.heap.size < _; omega) (by show w.heap.size ≠ _; omega)).trans s3.2.2.1, (H4.out.1.cell (p := ⟨w.heap.size, 3, none⟩) (by have := H3.out.2.2.2.2.2.2.1; have := H3.out.2.2.2.2.2.2.2.2.1; show w.heap.size < _; omega) (by show w.heap.size ≠ _; omega)).trans s3.2.2.2⟩
  (refine hK.out _ _ sE (fun hHeld => ?_); clear hK K; try simp only [Act.put, List.setIfInBounds_toArray, List.set_cons_zero, List.set_cons_succ])
  refine wpAnyH_done (by kernel_rfl) ?_ _
  clear z0 z1 z2 z3 z4 z5 z6 zf s2 s3 sE hHeld hW4
  have hb4 := H5.out.2.2.1
  have sy : (fun Z => Z.cell? ⟨w.heap.size + 1, 0, none⟩ = some (.int .i64 4) ∧ Z.cell? ⟨w.heap.size + 1, 1, none⟩ = some (.pointer none) ∧ Z.cell? ⟨w.heap.size + 1, 2, none⟩ = some (.pointer none) ∧ Z.cell? ⟨w.heap.size + 1, 3, none⟩ = some (.pointer (some ⟨pb, 0, none⟩)) ∧ Z.cell? ⟨w.heap.size + 1, 4, none⟩ = some (.pointer none) ∧ Z.cell? ⟨w.heap.size + 1, 5, none⟩ = some (.pointer none) ∧ Z.cell? ⟨w.heap.size + 1, 6, none⟩ = some (.pointer (some ⟨rb, 0, none⟩))) W4.drew := ⟨(cell?_heap hb4 0).trans rfl, (cell?_heap hb4 1).trans rfl, (cell?_heap hb4 2).trans rfl, (cell?_heap hb4 3).trans rfl, (cell?_heap hb4 4).trans rfl, (cell?_heap hb4 5).trans rfl, (cell?_heap hb4 6).trans rfl⟩
  have HO : Hid (OwG pmC 188 7 W4.drew 0 (.slice sp s.ms.length cp) s.ms) := (owK HW0.out.o H5.out.1 (fun _ _ e => e)).down (Nat.zero_le _)
  have d2 : W4.drew.cell? ⟨wb, 6, none⟩ = some (.slice sp s.ms.length cp) := (H5.out.1.cell (p := ⟨wb, 6, none⟩) HW0.out.lw (fun e => e)).trans HW0.out.c6
  have f2 : W4.drew.frozen? ⟨wb, 6, none⟩ = false := (H5.out.1.frozen (p := ⟨wb, 6, none⟩) HW0.out.lw (fun e => e)).trans (HW0.out.fz 6)
  have HPU : Hid (∀ (b cap' : Nat) (w7 : World), OwG pmC 188 7 w7 0 (.slice (some ⟨b, 0, none⟩) (s.ms.length + 1) cap') (s.ms ++ [⟨4, i, pb, rb, ⟨0, 0, 0, 0, 0, 0⟩, ⟨0, 0, 0, 0, 0, false, 0⟩, ⟨0, 0, o1, o2, 0, 0, 0, 0, false, 0⟩⟩]) → (((Value.slice sp s.ms.length cp).ownBlock = some b ∧ Keeps (fun k => (Value.slice sp s.ms.length cp).ownBlock = some k) W4.drew w7) ∨ (W4.drew.heap.size ≤ b ∧ Keeps (fun _ => False) W4.drew w7)) →
      (St4 (w7.setCell ⟨wb, 6, none⟩ (.slice (some ⟨b, 0, none⟩) (s.ms.length + 1) cap')) B wb hold l qv (.slice (some ⟨b, 0, none⟩) (s.ms.length + 1) cap') { s with ms := s.ms ++ [⟨4, i, pb, rb, ⟨0, 0, 0, 0, 0, 0⟩, ⟨0, 0, 0, 0, 0, false, 0⟩, ⟨0, 0, o1, o2, 0, 0, 0, 0, false, 0⟩⟩] } ∧ Below B w (w7.setCell ⟨wb, 6, none⟩ (.slice (some ⟨b, 0, none⟩) (s.ms.length + 1) cap'))) ∧ w7.cell? ⟨wb, 6, none⟩ = some (.slice sp s.ms.length cp) ∧ w7.frozen? ⟨wb, 6, none⟩ = false ∧ (fun Z => Z.cell? ⟨w.heap.size + 1, 0, none⟩ = some (.int .i64 4) ∧ Z.cell? ⟨w.heap.size + 1, 1, none⟩ = some (.pointer none) ∧ Z.cell? ⟨w.heap.size + 1, 2, none⟩ = some (.pointer none) ∧ Z.cell? ⟨w.heap.size + 1, 3, none⟩ = some (.pointer (some ⟨pb, 0, none⟩)) ∧ Z.cell? ⟨w.heap.size + 1, 4, none⟩ = some (.pointer none) ∧ Z.cell? ⟨w.heap.size + 1, 5, none⟩ = some (.pointer none) ∧ Z.cell? ⟨w.heap.size + 1, 6, none⟩ = some (.pointer (some ⟨rb, 0, none⟩))) w7) := fun b cap' w7 ho kk => by
    obtain ⟨k5, hm, hbk, hpb, hrb⟩ := H5.out
    have kx : Keeps (fun x => (Value.slice sp s.ms.length cp).ownBlock = some x) W4.drew w7 := by
      rcases kk with ⟨_, k⟩ | ⟨_, k⟩
      · exact k
      · exact k.mono (fun _ e => e.elim)
    have nw : (Value.slice sp s.ms.length cp).ownBlock ≠ some wb := fun e => (HW0.out.na wb e).2 rfl
    have np : (Value.slice sp s.ms.length cp).ownBlock ≠ some (w.heap.size + 1) := fun e => by have := (World.ownsRow.lt HW0.out.o _ e).2; omega
    have lw4 : wb < W4.drew.heap.size := Nat.lt_of_lt_of_le HW0.out.lw k5.size
    have hb7 : w7.heap[w.heap.size + 1]? = some (.cells #[.int .i64 4, .pointer none, .pointer none, .pointer (some ⟨pb, 0, none⟩), .pointer none, .pointer none, .pointer (some ⟨rb, 0, none⟩)] 188) := (kx.block _ (lt_heap hbk) np).trans hbk
    refine ⟨HW0.out.push ⟨4, i, pb, rb, ⟨0, 0, 0, 0, 0, 0⟩, ⟨0, 0, 0, 0, 0, false, 0⟩, ⟨0, 0, o1, o2, 0, 0, 0, 0, false, 0⟩⟩ k5 hm hi ⟨fun e => absurd e (show ¬ 4 = 1 by decide), fun e => absurd e (show ¬ 4 = 2 by decide), fun _ => ⟨fun e => absurd e (show ¬ 1 ≤ 0 by decide), fun e => absurd e (show ¬ 0 = 2 by decide), fun e => absurd e (show ¬ 0 = 5 by decide)⟩⟩ (by show w.heap.size ≤ pb; omega) (by show w.heap.size ≤ rb; omega) (by show pb ≠ rb; omega) ho kx (fun g hg => ?_) hB, (kx.cell (p := ⟨wb, 6, none⟩) lw4 nw).trans d2, (kx.frozen (p := ⟨wb, 6, none⟩) lw4 nw).trans f2, (cell?_heap hb7 0).trans rfl, (cell?_heap hb7 1).trans rfl, (cell?_heap hb7 2).trans rfl, (cell?_heap hb7 3).trans rfl, (cell?_heap hb7 4).trans rfl, (cell?_heap hb7 5).trans rfl, (cell?_heap hb7 6).trans rfl⟩
    have e : b = g := Option.some.inj hg
    subst e
    rcases kk with ⟨e, _⟩ | ⟨e, _⟩
    · exact .inl e
    · exact .inr e
  have HSS : Hid (∀ w7 : World, (fun Z => Z.cell? ⟨w.heap.size + 1, 0, none⟩ = some (.int .i64 4) ∧ Z.cell? ⟨w.heap.size + 1, 1, none⟩ = some (.pointer none) ∧ Z.cell? ⟨w.heap.size + 1, 2, none⟩ = some (.pointer none) ∧ Z.cell? ⟨w.heap.size + 1, 3, none⟩ = some (.pointer (some ⟨pb, 0, none⟩)) ∧ Z.cell? ⟨w.heap.size + 1, 4, none⟩ = some (.pointer none) ∧ Z.cell? ⟨w.heap.size + 1, 5, none⟩ = some (.pointer none) ∧ Z.cell? ⟨w.heap.size + 1, 6, none⟩ = some (.pointer (some ⟨rb, 0, none⟩))) w7 → ∀ v, (fun Z => Z.cell? ⟨w.heap.size + 1, 0, none⟩ = some (.int .i64 4) ∧ Z.cell? ⟨w.heap.size + 1, 1, none⟩ = some (.pointer none) ∧ Z.cell? ⟨w.heap.size + 1, 2, none⟩ = some (.pointer none) ∧ Z.cell? ⟨w.heap.size + 1, 3, none⟩ = some (.pointer (some ⟨pb, 0, none⟩)) ∧ Z.cell? ⟨w.heap.size + 1, 4, none⟩ = some (.pointer none) ∧ Z.cell? ⟨w.heap.size + 1, 5, none⟩ = some (.pointer none) ∧ Z.cell? ⟨w.heap.size + 1, 6, none⟩ = some (.pointer (some ⟨rb, 0, none⟩))) (w7.setCell ⟨wb, 6, none⟩ v)) := fun w7 hs v => by
    have ne : ∀ j, (⟨wb, 6, none⟩ : Addr) ≠ ⟨w.heap.size + 1, j, none⟩ := fun j e => by have e1 : wb = w.heap.size + 1 := congrArg Addr.block e; have := HW0.out.lw; omega
    obtain ⟨q0, q1, q2, q3, q4, q5, q6⟩ := hs
    exact ⟨(World.cell?_setCell_other _ _ _ _ (ne 0)).trans q0, (World.cell?_setCell_other _ _ _ _ (ne 1)).trans q1, (World.cell?_setCell_other _ _ _ _ (ne 2)).trans q2, (World.cell?_setCell_other _ _ _ _ (ne 3)).trans q3, (World.cell?_setCell_other _ _ _ _ (ne 4)).trans q4, (World.cell?_setCell_other _ _ _ _ (ne 5)).trans q5, (World.cell?_setCell_other _ _ _ _ (ne 6)).trans q6⟩
  have HSA : Hid (∀ o, (fun Z => Z.cell? ⟨w.heap.size + 1, 0, none⟩ = some (.int .i64 4) ∧ Z.cell? ⟨w.heap.size + 1, 1, none⟩ = some (.pointer none) ∧ Z.cell? ⟨w.heap.size + 1, 2, none⟩ = some (.pointer none) ∧ Z.cell? ⟨w.heap.size + 1, 3, none⟩ = some (.pointer (some ⟨pb, 0, none⟩)) ∧ Z.cell? ⟨w.heap.size + 1, 4, none⟩ = some (.pointer none) ∧ Z.cell? ⟨w.heap.size + 1, 5, none⟩ = some (.pointer none) ∧ Z.cell? ⟨w.heap.size + 1, 6, none⟩ = some (.pointer (some ⟨rb, 0, none⟩))) (W4.drew.alloc o) ∧ (W4.drew.alloc o).cell? ⟨wb, 6, none⟩ = some (.slice sp s.ms.length cp)) := fun o => by
    have ha : (W4.drew.alloc o).heap[w.heap.size + 1]? = some (.cells #[.int .i64 4, .pointer none, .pointer none, .pointer (some ⟨pb, 0, none⟩), .pointer none, .pointer none, .pointer (some ⟨rb, 0, none⟩)] 188) := (Below.heap_alloc _ _ _ (lt_heap hb4)).trans hb4
    exact ⟨⟨(cell?_heap ha 0).trans rfl, (cell?_heap ha 1).trans rfl, (cell?_heap ha 2).trans rfl, (cell?_heap ha 3).trans rfl, (cell?_heap ha 4).trans rfl, (cell?_heap ha 5).trans rfl, (cell?_heap ha 6).trans rfl⟩, (World.cell?_of_block (w := W4.drew) (Below.heap_alloc W4.drew o wb (Nat.lt_of_lt_of_le HW0.out.lw H5.out.1.size))).trans d2⟩
  clear hb4 H3 H4
  go_wp2_with fail
  (refine wp_region_held_drew (S := (fun Z => Z.cell? ⟨w.heap.size + 1, 0, none⟩ = some (.int .i64 4) ∧ Z.cell? ⟨w.heap.size + 1, 1, none⟩ = some (.pointer none) ∧ Z.cell? ⟨w.heap.size + 1, 2, none⟩ = some (.pointer none) ∧ Z.cell? ⟨w.heap.size + 1, 3, none⟩ = some (.pointer (some ⟨pb, 0, none⟩)) ∧ Z.cell? ⟨w.heap.size + 1, 4, none⟩ = some (.pointer none) ∧ Z.cell? ⟨w.heap.size + 1, 5, none⟩ = some (.pointer none) ∧ Z.cell? ⟨w.heap.size + 1, 6, none⟩ = some (.pointer (some ⟨rb, 0, none⟩)))) (by kernel_rfl) sy (fun hHeld => ?_); simp only [List.size_toArray, List.length_cons, List.length_nil, Nat.reduceAdd, Array.replicate_succ, Array.replicate_zero, List.push_toArray, List.append_toArray, List.nil_append, List.cons_append])
  clear sy
  generalize W4.drew = wd at *
  refine rgT 0 (h := ?_)
  refine rgT 1 (h := ?_)
  refine rgT 2 (h := ?_)
  refine rgT 3 (h := ?_)
  refine rgT 5 (h := ?_)
  (refine wpAnyH_ready (rs := [4, 6]) (by kernel_rfl) (by simp) ?_; refine rgA 4 (by rfl) (fun K hK => ?_) (rgA 6 (by rfl) (fun K hK => ?_) AllReadyH.nil) <;> go_simp)
  · (refine hK.out _ _ hHeld (fun hHeld => ?_); clear hK K; try simp only [Act.put, List.setIfInBounds_toArray, List.set_cons_zero, List.set_cons_succ])
    (refine rgS 6 (h := fun K hK => ?_); go_simp)
    (refine hK.out _ _ (HSA.out (.cells #[.int .i64 4, .pointer none, .pointer none, .pointer (some ⟨pb, 0, none⟩), .pointer none, .pointer none, .pointer (some ⟨rb, 0, none⟩)] 188)).1 (fun hHeld => ?_); clear hK K; try simp only [Act.put, List.setIfInBounds_toArray, List.set_cons_zero, List.set_cons_succ])
    (refine rgS 7 (h := fun K hK => ?_); rw [if_pos (by rfl)])
    refine app_stay_wp (cs := pmC) (wr := wd) _ _ 174 188 (by rfl) Tryz.underlying174 infoPr rfl (by decide) (fun _ => rfl) _ s.ms ⟨4, i, pb, rb, ⟨0, 0, 0, 0, 0, 0⟩, ⟨0, 0, 0, 0, 0, false, 0⟩, ⟨0, 0, o1, o2, 0, 0, 0, 0, false, 0⟩⟩ HO.out (by rfl) wd.heap.size rfl (by rfl) (pm_one _) _ rfl (by unfold maxLen; omega) (by omega) ?_
    intro b cap' w7 ho7 kk7 hb7
    obtain ⟨HN, d6, f6, s7⟩ := HPU.out b cap' w7 ho7 kk7
    (refine hK.out _ _ s7 (fun hHeld => ?_); clear hK K; try simp only [Act.put, List.setIfInBounds_toArray, List.set_cons_zero, List.set_cons_succ])
    refine rgT 8 (h := ?_)
    refine rgT 9 (h := ?_)
    (refine rgS 10 (h := fun K hK => ?_); go_simp)
    (refine hK.out _ _ ((HSS.out w7 s7 (.slice (some ⟨b, 0, none⟩) (s.ms.length + 1) cap'))) (fun hHeld => ?_); clear hK K; try simp only [Act.put, List.setIfInBounds_toArray, List.set_cons_zero, List.set_cons_succ])
    refine wpAnyH_done (by kernel_rfl) ?_ _
    clear ho7 kk7 hb7 d6 f6 s7 hHeld
    go_wp2
    exact ⟨rfl, .tuple #[], by simp [results, Tryz.results103], rfl, _, ⟨4, i, pb, rb, ⟨0, 0, 0, 0, 0, 0⟩, ⟨0, 0, 0, 0, 0, false, 0⟩, ⟨0, 0, o1, o2, 0, 0, 0, 0, false, 0⟩⟩, HN⟩
  · (refine hK.out _ _ (HSA.out (.cells #[.int .i64 4, .pointer none, .pointer none, .pointer (some ⟨pb, 0, none⟩), .pointer none, .pointer none, .pointer (some ⟨rb, 0, none⟩)] 188)).1 (fun hHeld => ?_); clear hK K; try simp only [Act.put, List.setIfInBounds_toArray, List.set_cons_zero, List.set_cons_succ])
    have d2a := (HSA.out (.cells #[.int .i64 4, .pointer none, .pointer none, .pointer (some ⟨pb, 0, none⟩), .pointer none, .pointer none, .pointer (some ⟨rb, 0, none⟩)] 188)).2
    (refine rgS 4 (h := fun K hK => ?_); go_simp)
    clear d2a
    (refine hK.out _ _ (HSA.out (.cells #[.int .i64 4, .pointer none, .pointer none, .pointer (some ⟨pb, 0, none⟩), .pointer none, .pointer none, .pointer (some ⟨rb, 0, none⟩)] 188)).1 (fun hHeld => ?_); clear hK K; try simp only [Act.put, List.setIfInBounds_toArray, List.set_cons_zero, List.set_cons_succ])
    (refine rgS 7 (h := fun K hK => ?_); rw [if_pos (by rfl)])
    refine app_stay_wp (cs := pmC) (wr := wd) _ _ 174 188 (by rfl) Tryz.underlying174 infoPr rfl (by decide) (fun _ => rfl) _ s.ms ⟨4, i, pb, rb, ⟨0, 0, 0, 0, 0, 0⟩, ⟨0, 0, 0, 0, 0, false, 0⟩, ⟨0, 0, o1, o2, 0, 0, 0, 0, false, 0⟩⟩ HO.out (by rfl) wd.heap.size rfl (by rfl) (pm_one _) _ rfl (by unfold maxLen; omega) (by omega) ?_
    intro b cap' w7 ho7 kk7 hb7
    obtain ⟨HN, d6, f6, s7⟩ := HPU.out b cap' w7 ho7 kk7
    (refine hK.out _ _ s7 (fun hHeld => ?_); clear hK K; try simp only [Act.put, List.setIfInBounds_toArray, List.set_cons_zero, List.set_cons_succ])
    refine rgT 8 (h := ?_)
    refine rgT 9 (h := ?_)
    (refine rgS 10 (h := fun K hK => ?_); go_simp)
    (refine hK.out _ _ ((HSS.out w7 s7 (.slice (some ⟨b, 0, none⟩) (s.ms.length + 1) cap'))) (fun hHeld => ?_); clear hK K; try simp only [Act.put, List.setIfInBounds_toArray, List.set_cons_zero, List.set_cons_succ])
    refine wpAnyH_done (by kernel_rfl) ?_ _
    clear ho7 kk7 hb7 d6 f6 s7 hHeld
    go_wp2
    exact ⟨rfl, .tuple #[], by simp [results, Tryz.results103], rfl, _, ⟨4, i, pb, rb, ⟨0, 0, 0, 0, 0, 0⟩, ⟨0, 0, 0, 0, 0, false, 0⟩, ⟨0, 0, o1, o2, 0, 0, 0, 0, false, 0⟩⟩, HN⟩
end Go.Proofs.YtdjklcmkcccpeaaGreat

namespace Go.Proofs.YtdjklcmkcccpeaaGreat
set_option linter.unusedSimpArgs false
open Go.ChangeShapes Go.WideShapes Go.ChangeAt Go.RowKit Go.MuLone Go.RwLone
set_option linter.unusedVariables false
set_option maxRecDepth 100000
set_option maxHeartbeats 6400000
theorem i64_and1 (n : Int) : bits .and .i64 n 1 = n % 2 := by
  have h1 : (BitVec.ofInt 64 1).toNat = 2 ^ 1 - 1 := by decide
  have key : (BitVec.ofInt 64 n &&& BitVec.ofInt 64 1).toNat = (n % ((2 ^ 64 : Nat) : Int)).toNat % 2 ^ 1 := by
    rw [BitVec.toNat_and, BitVec.toNat_ofInt, h1, Nat.and_two_pow_sub_one_eq_mod]
  show IntKind.i64.wrap ((BitVec.ofInt 64 n &&& BitVec.ofInt 64 1).toNat : Nat) = n % 2
  rw [key, IntKind.wrap_i64]
  omega
/-- What a step of the law leaves. -/
def PlayQ (w : World) (B wb : Nat) (hold : Int) (n : Nat) (w' : World) : Prop := ∃ l qv av s, St4 w' B wb hold l qv av s ∧ s.ms.length ≤ n ∧ Below B w w'
theorem PlayQ.from {w w1 w' : World} {B wb : Nat} {hold : Int} {n : Nat} (b : Below B w w1) (h : PlayQ w1 B wb hold n w') : PlayQ w B wb hold n w' := by
  obtain ⟨l, qv, av, s, h1, h2, h3⟩ := h
  exact ⟨l, qv, av, s, h1, h2, b.trans h3⟩
theorem St4.arena {w w2 : World} {B wb : Nat} {hold : Int} {l : WL} {qv av : Value} {s : WS} (h : St4 w B wb hold l qv av s) (R' : RL) (qv' : Value) (S' : AS) (Q' : List Nat) (ha : Arn w2 l.L Q' S') (hr : RAr w2 R' l.cap qv' Q' S') (k : Keeps (fun g => l.L.has g ∨ raF l.R qv s.S g) w w2)
    (hn : ∀ g, raF R' qv' S' g → raF l.R qv s.S g ∨ w.heap.size ≤ g) (eb : R'.b = l.R.b) (ew : S'.wd = s.S.wd) (hw : ∀ i, LkOk (S'.word i)) (hB : B ≤ w.heap.size) (n : Nat) (hn2 : s.ms.length ≤ n) : PlayQ w B wb hold n w2 := by
  obtain ⟨a, b⟩ := h.go (h.b.arena R' qv' S' Q' ha hr k hn eb ew hw) k (fun g hg => hg.elim (fun e => .inl (.inl e)) (fun e => .inr (.inl (.inl e)))) (fun g hg => arena_aF hn g hg) rfl rfl eb rfl (.inl rfl) hB
  exact ⟨_, _, _, _, a, hn2, b⟩
/-- Where the law's step o lies. -/
theorem St4.wd1 {w : World} {B wb : Nat} {hold : Int} {l : WL} {qv av : Value} {s : WS} (h : St4 w B wb hold l qv av s) (i : Nat) : LkOk (s.S.word i) := (h.b.wd 0 (by decide)).1 i
theorem ra_alloc_F {R : RL} {qv qv' : Value} {S : AS} {k g0 N : Nat} {p : Ent} {f : Nat → Int} (h1 : N ≤ g0) (h2 : ∀ y, qv'.ownBlock = some y → N ≤ y) (g : Nat) (hg : raF { R with wb := upd R.wb k g0 } qv' (S.alloc k p f) g) : raF R qv S g ∨ N ≤ g := by
  rcases hg with e | e | ⟨i, hi, hu, e⟩ | e
  · exact .inl (.inl e)
  · exact .inl (.inr (.inl e))
  · have hu : upd S.use k true i = true := hu
    have e : g = upd R.wb k g0 i := e
    by_cases h : i = k
    · subst h
      rw [upd_same] at e
      exact .inr (by omega)
    · rw [upd_other _ _ h] at e hu
      exact .inl (.inr (.inr (.inl ⟨i, hi, hu, e⟩)))
  · exact .inr (h2 g e)
theorem ra_free_F {R : RL} {qv qv' : Value} {S : AS} {k N : Nat} (h2 : ∀ y, qv'.ownBlock = some y → qv.ownBlock = some y ∨ N ≤ y) (g : Nat) (hg : raF R qv' (S.free k) g) : raF R qv S g ∨ N ≤ g := by
  rcases hg with e | e | ⟨i, hi, hu, e⟩ | e
  · exact .inl (.inl e)
  · exact .inl (.inr (.inl e))
  · have hu : upd S.use k false i = true := hu
    by_cases h : i = k
    · subst h
      rw [upd_same] at hu
      cases hu
    · rw [upd_other _ _ h] at hu
      exact .inl (.inr (.inr (.inl ⟨i, hi, hu, e⟩)))
  · exact (h2 g e).imp (fun e => .inr (.inr (.inr e))) id
theorem no_words (w : World) (L : Lay) : Given w L none 0 (fun _ => 0) := fun i hi => absurd hi (Nat.not_lt_zero i)
theorem law_play1f (w : World) (B wb : Nat) (hold : Int) (l : WL) (qv av : Value) (s : WS) (of_ o1 o2 : Int) (n : Nat) (h : St4 w B wb hold l qv av s) (hn : s.ms.length ≤ n) (hB : B ≤ w.heap.size) (hq : s.Q = []) : Calls Tryz.prog 59 #[.pointer (some ⟨wb, 0, none⟩), .agg #[.int .i64 1, .int .i64 of_, .int .i64 o1, .int .i64 o2]] w fun e w' => e = .returned (.bool true) ∧ PlayQ w B wb hold (n + 1) w' := by
  have g1 := heap_alloc_new w (.cells #[.int .i64 1, .int .i64 of_, .int .i64 o1, .int .i64 o2] 120)
  obtain ⟨W1, hW1⟩ : ∃ W, w.alloc (.cells #[.int .i64 1, .int .i64 of_, .int .i64 o1, .int .i64 o2] 120) = W := ⟨_, rfl⟩
  rw [hW1] at g1
  have hb1 : Below w.heap.size w W1 := by rw [← hW1]; exact (Below.refl _ _).alloc (Nat.le_refl _) _
  have h1 := h.later hb1
  have H1 : Hid (St4 W1 B wb hold l qv av s ∧ Below B w W1 ∧ B ≤ W1.heap.size ∧ W1.heap[w.heap.size]? = some (.cells #[.int .i64 1, .int .i64 of_, .int .i64 o1, .int .i64 o2] 120) ∧ ∀ g, sF wb l qv av s g → g ≠ w.heap.size) := ⟨h1, hb1.mono hB, Nat.le_trans hB hb1.size, g1, fun g hg e => by have := (h.low g hg).2; omega⟩
  have o0 : W1.cell? ⟨w.heap.size, 0, none⟩ = some (.int .i64 1) := (cell?_heap g1 0).trans rfl
  have oF : W1.cell? ⟨w.heap.size, 1, none⟩ = some (.int .i64 of_) := (cell?_heap g1 1).trans rfl
  have oA : W1.cell? ⟨w.heap.size, 2, none⟩ = some (.int .i64 o1) := (cell?_heap g1 2).trans rfl
  have oB : W1.cell? ⟨w.heap.size, 3, none⟩ = some (.int .i64 o2) := (cell?_heap g1 3).trans rfl
  have c0 := h1.c0
  have HA : Hid (∀ _ : Unit, Calls Tryz.prog 40 #[.pointer (some ⟨l.L.b, 0, none⟩), .agg #[.string { data := #[] }, .string { data := #[] }, .int .i64 0], .slice none 0 0] W1 fun e w' => e = .returned (.tuple #[.int .i64 0, .int .i64 21]) ∧ Arn w' l.L [] (acc1 s.S) ∧ Keeps l.L.has W1 w') := fun _ => arn_full l.L s.S W1 Ent.none none 0 0 (by rw [← hq]; exact h1.b.a) (Nat.zero_le _)
  have HQ : Hid (s.Q = []) := hq
  clear h h1 g1 hb1 hq
  go_enter Tryz.func59, Tryz.ntmps59
  go_wp2_with fail
  clear hW1
  refine (HA.out ()).mono ?_
  rintro e w2 ⟨rfl, ha, ka⟩
  have c3 : w2.cell? ⟨wb, 3, none⟩ = some (.pointer (some ⟨l.R.b, 0, none⟩)) := (ka.cell (p := ⟨wb, 3, none⟩) H1.out.1.lw (fun e => H1.out.1.nw (.inl (.inl e)))).trans H1.out.1.c3
  have HRr : Hid (RAr w2 l.R l.cap qv [] s.S) := by
    have := H1.out.1.b.r.keeps ka (fun g hg e => H1.out.1.b.pd g (.inl e) (.inl hg))
    rw [HQ.out] at this
    exact this
  have HR : Hid (∀ _ : Unit, Calls Tryz.prog 100 #[.pointer (some ⟨l.R.b, 0, none⟩), .agg #[.string { data := #[] }, .string { data := #[] }, .int .i64 0], .slice none 0 0] w2 fun e w' => e = .returned (.tuple #[.int .i64 0, .int .i64 21]) ∧ RAr w' l.R l.cap qv [] (acc1 s.S) ∧ Keeps (fun g => g = l.R.b) w2 w') := fun _ => ra_full w2 l.R l.cap qv s.S Ent.none HRr.out
  have H2 : Hid (Arn w2 l.L [] (acc1 s.S) ∧ Keeps l.L.has W1 w2) := ⟨ha, ka⟩
  clear ha ka HA HRr c0 o0 oF oA oB
  go_wp2_with fail
  refine (HR.out ()).mono ?_
  rintro e w3 ⟨rfl, hr, kr⟩
  have HF : Hid (PlayQ W1 B wb hold (n + 1) w3) := by
    refine H1.out.1.arena l.R qv (acc1 s.S) [] (H2.out.1.keeps kr (fun g hg e => ?_)) hr ((H2.out.2.mono (fun _ e => .inl e)).trans (kr.mono (fun _ e => .inr (.inl e)))) (fun g hg => .inl hg) rfl rfl (fun i => H1.out.1.wd1 i) H1.out.2.2.1 _ (by omega)
    exact H1.out.1.b.pd g (.inl hg) (.inl (.inl e))
  clear hr kr HR H2 c3
  go_wp2
  go_ret
  exact ⟨rfl, HF.out.from H1.out.2.1⟩
theorem law_play1 (w : World) (B wb : Nat) (hold : Int) (l : WL) (qv av : Value) (s : WS) (of_ o1 o2 : Int) (n : Nat) (h : St4 w B wb hold l qv av s) (hn : s.ms.length ≤ n) (hB : B ≤ w.heap.size) (k : Nat) (Q : List Nat) (hq : s.Q = k :: Q) : Calls Tryz.prog 59 #[.pointer (some ⟨wb, 0, none⟩), .agg #[.int .i64 1, .int .i64 of_, .int .i64 o1, .int .i64 o2]] w fun e w' => e = .returned (.bool true) ∧ PlayQ w B wb hold (n + 1) w' := by
  have g1 := heap_alloc_new w (.cells #[.int .i64 1, .int .i64 of_, .int .i64 o1, .int .i64 o2] 120)
  obtain ⟨W1, hW1⟩ : ∃ W, w.alloc (.cells #[.int .i64 1, .int .i64 of_, .int .i64 o1, .int .i64 o2] 120) = W := ⟨_, rfl⟩
  rw [hW1] at g1
  have hb1 : Below w.heap.size w W1 := by rw [← hW1]; exact (Below.refl _ _).alloc (Nat.le_refl _) _
  have h1 := h.later hb1
  have H1 : Hid (St4 W1 B wb hold l qv av s ∧ Below B w W1 ∧ B ≤ W1.heap.size ∧ W1.heap[w.heap.size]? = some (.cells #[.int .i64 1, .int .i64 of_, .int .i64 o1, .int .i64 o2] 120) ∧ ∀ g, sF wb l qv av s g → g ≠ w.heap.size) := ⟨h1, hb1.mono hB, Nat.le_trans hB hb1.size, g1, fun g hg e => by have := (h.low g hg).2; omega⟩
  have o0 : W1.cell? ⟨w.heap.size, 0, none⟩ = some (.int .i64 1) := (cell?_heap g1 0).trans rfl
  have oF : W1.cell? ⟨w.heap.size, 1, none⟩ = some (.int .i64 of_) := (cell?_heap g1 1).trans rfl
  have oA : W1.cell? ⟨w.heap.size, 2, none⟩ = some (.int .i64 o1) := (cell?_heap g1 2).trans rfl
  have oB : W1.cell? ⟨w.heap.size, 3, none⟩ = some (.int .i64 o2) := (cell?_heap g1 3).trans rfl
  have c0 := h1.c0
  have harn : Arn W1 l.L (k :: Q) s.S := by rw [← hq]; exact h1.b.a
  have hkn : k < s.S.n := ((harn.mem k).1 (by simp)).1
  have hql : Q.length ≤ 4096 := by have := harn.len; have := h1.b.n; simp at *; omega
  have HA : Hid (∀ _ : Unit, Calls Tryz.prog 40 #[.pointer (some ⟨l.L.b, 0, none⟩), .agg #[.string { data := #[] }, .string { data := #[] }, .int .i64 0], .slice none 0 0] W1 fun e w' => e = .returned (.tuple #[.int .i64 ((k : Int) + 1), .int .i64 0]) ∧ Arn w' l.L Q (s.S.alloc k Ent.none (valW 0 (fun _ => 0))) ∧ Keeps l.L.has W1 w') := fun _ => arn_alloc l.L s.S W1 Q Ent.none none 0 0 k (fun _ => 0) harn (no_words W1 l.L) (Nat.zero_le _)
  have HQ : Hid (s.Q = k :: Q ∧ k < s.S.n ∧ Q.length ≤ 4096) := ⟨hq, hkn, hql⟩
  clear h h1 g1 hb1 hq harn hkn hql
  go_enter Tryz.func59, Tryz.ntmps59
  go_wp2_with fail
  clear hW1
  refine (HA.out ()).mono ?_
  rintro e w2 ⟨rfl, ha, ka⟩
  have c3 : w2.cell? ⟨wb, 3, none⟩ = some (.pointer (some ⟨l.R.b, 0, none⟩)) := (ka.cell (p := ⟨wb, 3, none⟩) H1.out.1.lw (fun e => H1.out.1.nw (.inl (.inl e)))).trans H1.out.1.c3
  have HRr : Hid (RAr w2 l.R l.cap qv (k :: Q) s.S) := by
    have := H1.out.1.b.r.keeps ka (fun g hg e => H1.out.1.b.pd g (.inl e) (.inl hg))
    rw [HQ.out.1] at this
    exact this
  have HR : Hid (∀ _ : Unit, Calls Tryz.prog 100 #[.pointer (some ⟨l.R.b, 0, none⟩), .agg #[.string { data := #[] }, .string { data := #[] }, .int .i64 0], .slice none 0 0] w2 fun e w' => ∃ g qv', e = .returned (.tuple #[.int .i64 ((k : Int) + 1), .int .i64 0]) ∧ (w2.heap.size ≤ g ∧ ∀ y, qv'.ownBlock = some y → w2.heap.size ≤ y) ∧ RAr w' { l.R with wb := upd l.R.wb k g } l.cap qv' Q (s.S.alloc k Ent.none (valW 0 (fun _ => 0))) ∧ Keeps (fun g => g = l.R.b ∨ g = l.R.s) w2 w') := fun _ => ra_alloc w2 l.R l.cap qv k Q s.S Ent.none HRr.out HQ.out.2.1 HQ.out.2.2
  have H2 : Hid (Arn w2 l.L Q (s.S.alloc k Ent.none (valW 0 (fun _ => 0))) ∧ Keeps l.L.has W1 w2) := ⟨ha, ka⟩
  clear ha ka HA HRr c0 o0 oF oA oB
  go_wp2_with fail
  refine (HR.out ()).mono ?_
  rintro e w3 ⟨g0, qv', rfl, ⟨hg0, hqv⟩, hr, kr⟩
  have HF : Hid (PlayQ W1 B wb hold (n + 1) w3) := by
    have hs := H2.out.2.size
    refine H1.out.1.arena { l.R with wb := upd l.R.wb k g0 } qv' (s.S.alloc k Ent.none (valW 0 (fun _ => 0))) Q (H2.out.1.keeps kr (fun g hg e => ?_)) hr ((H2.out.2.mono (fun _ e => .inl e)).trans (kr.mono (fun g e => .inr (e.elim .inl (fun e => .inr (.inl e)))))) (fun g hg => ra_alloc_F (Nat.le_trans hs hg0) (fun y hy => Nat.le_trans hs (hqv y hy)) g hg) rfl rfl (fun i => ?_) H1.out.2.2.1 _ (by omega)
    · exact H1.out.1.b.pd g (.inl hg) (.inl (e.elim .inl (fun e => .inr (.inl e))))
    · show LkOk (layW s.S.word (k * s.S.wd) s.S.wd (valW 0 (fun _ => 0)) i)
      unfold layW
      split
      · unfold valW
        split <;> exact ⟨by show (0 : Int) ≤ 0; decide, by show (0 : Int) ≤ 4294967295; decide⟩
      · exact H1.out.1.wd1 i
  clear hr kr HR H2 c3 hg0 hqv
  go_wp2
  go_ret
  exact ⟨rfl, HF.out.from H1.out.2.1⟩
theorem law_play2 (w : World) (B wb : Nat) (hold : Int) (l : WL) (qv av : Value) (s : WS) (of_ o1 o2 : Int) (n : Nat) (h : St4 w B wb hold l qv av s) (hn : s.ms.length ≤ n) (hB : B ≤ w.heap.size) (hl : liv s.S o1 = true) : Calls Tryz.prog 59 #[.pointer (some ⟨wb, 0, none⟩), .agg #[.int .i64 2, .int .i64 of_, .int .i64 o1, .int .i64 o2]] w fun e w' => e = .returned (.bool true) ∧ PlayQ w B wb hold (n + 1) w' := by
  have g1 := heap_alloc_new w (.cells #[.int .i64 2, .int .i64 of_, .int .i64 o1, .int .i64 o2] 120)
  obtain ⟨W1, hW1⟩ : ∃ W, w.alloc (.cells #[.int .i64 2, .int .i64 of_, .int .i64 o1, .int .i64 o2] 120) = W := ⟨_, rfl⟩
  rw [hW1] at g1
  have hb1 : Below w.heap.size w W1 := by rw [← hW1]; exact (Below.refl _ _).alloc (Nat.le_refl _) _
  have h1 := h.later hb1
  have H1 : Hid (St4 W1 B wb hold l qv av s ∧ Below B w W1 ∧ B ≤ W1.heap.size ∧ W1.heap[w.heap.size]? = some (.cells #[.int .i64 2, .int .i64 of_, .int .i64 o1, .int .i64 o2] 120) ∧ ∀ g, sF wb l qv av s g → g ≠ w.heap.size) := ⟨h1, hb1.mono hB, Nat.le_trans hB hb1.size, g1, fun g hg e => by have := (h.low g hg).2; omega⟩
  have o0 : W1.cell? ⟨w.heap.size, 0, none⟩ = some (.int .i64 2) := (cell?_heap g1 0).trans rfl
  have oF : W1.cell? ⟨w.heap.size, 1, none⟩ = some (.int .i64 of_) := (cell?_heap g1 1).trans rfl
  have oA : W1.cell? ⟨w.heap.size, 2, none⟩ = some (.int .i64 o1) := (cell?_heap g1 2).trans rfl
  have oB : W1.cell? ⟨w.heap.size, 3, none⟩ = some (.int .i64 o2) := (cell?_heap g1 3).trans rfl
  have c0 := h1.c0
  obtain ⟨k, hkn, hx, hu⟩ := liv_yes hl
  subst hx
  have HK : Hid (k < s.S.n ∧ s.S.use k = true ∧ s.Q.length ≤ 4096) := ⟨hkn, hu, Nat.le_trans h1.b.a.len h1.b.n⟩
  have HA : Hid (∀ _ : Unit, _) := fun _ => arn_free l.L s.S W1 s.Q k h1.b.a hkn hu
  clear h h1 g1 hb1 hl hkn hu
  have HT : Hid (W1.drew = W1.drew) := rfl
  have HS0 : Hid (St4 W1.drew B wb hold l qv av s ∧ W1.drew.cell? ⟨w.heap.size, 2, none⟩ = some (.int .i64 ((k : Int) + 1))) := ⟨H1.out.1.keeps (Keeps.refl (fun _ => False) _).drew (fun _ _ e => e), oA⟩
  go_enter Tryz.func59, Tryz.ntmps59
  go_wp2_with fail
  (refine wp_region_held_drew (S := (fun Z => Z.cell? ⟨wb, 0, none⟩ = some (.pointer (some ⟨l.L.b, 0, none⟩)) ∧ Z.cell? ⟨w.heap.size, 2, none⟩ = some (.int .i64 ((k : Int) + 1)))) (by kernel_rfl) ⟨HS0.out.1.c0, HS0.out.2⟩ (fun hHeld => ?_); simp only [List.size_toArray, List.length_cons, List.length_nil, Nat.reduceAdd, Array.replicate_succ, Array.replicate_zero, List.push_toArray, List.append_toArray, List.nil_append, List.cons_append])
  clear hW1 c0 o0 oF oA oB
  have HB2 : Hid (W1.heap.size = W1.drew.heap.size ∧ Below B w W1.drew) := ⟨rfl, H1.out.2.1.drew⟩
  have HA : Hid (∀ _ : Unit, _) := fun _ => arn_free l.L s.S W1.drew s.Q k HS0.out.1.b.a HK.out.1 HK.out.2.1
  refine rgT 0 (h := ?_)
  refine rgT 1 (h := ?_)
  refine rgT 2 (h := ?_)
  refine rgT 3 (h := ?_)
  refine rgT 4 (h := ?_)
  refine rgT 5 (h := ?_)
  (refine rgS 6 (h := fun K hK => ?_); go_simp)
  refine (HA.out ()).mono ?_
  rintro e w2 ⟨rfl, ha, ka⟩
  have nb : ∀ g, sF wb l qv av s g → g ≠ w.heap.size := H1.out.2.2.2.2
  have l2 : w.heap.size < W1.drew.heap.size := lt_heap H1.out.2.2.2.1
  have b2 : w2.cell? ⟨w.heap.size, 2, none⟩ = some (.int .i64 ((k : Int) + 1)) := (ka.cell (p := ⟨w.heap.size, 2, none⟩) l2 (fun e => nb _ (.inl (.inl (.inl e))) rfl)).trans HS0.out.2
  have s2 : ∀ j, w2.cell? ⟨wb, j, none⟩ = W1.drew.cell? ⟨wb, j, none⟩ := fun j => ka.cell (p := ⟨wb, j, none⟩) HS0.out.1.lw (fun e => HS0.out.1.nw (.inl (.inl e)))
  (refine hK.out _ _ ⟨(s2 0).trans HS0.out.1.c0, b2⟩ (fun hHeld => ?_); clear hK K; try simp only [Act.put, List.setIfInBounds_toArray, List.set_cons_zero, List.set_cons_succ])
  refine rgT 7 (h := ?_)
  refine wpAnyH_done (by kernel_rfl) ?_ _
  clear hHeld
  have HRr : Hid (RAr w2.drew l.R l.cap qv s.Q s.S) := (HS0.out.1.b.r.keeps ka (fun g hg e => HS0.out.1.b.pd g (.inl e) (.inl hg))).keeps (Keeps.refl (fun _ => False) _).drew (fun _ _ e => e)
  have H2 : Hid (Arn w2.drew l.L (s.Q ++ [k]) (s.S.free k) ∧ Keeps l.L.has W1.drew w2.drew) := ⟨ha.keeps (Keeps.refl (fun _ => False) _).drew (fun _ _ e => e), ka.drew⟩
  have HR : Hid (∀ _ : Unit, _) := fun _ => ra_free w2.drew l.R l.cap qv k s.Q s.S HRr.out HK.out.1 HK.out.2.1 HK.out.2.2
  have sy : w2.drew.cell? ⟨wb, 3, none⟩ = some (.pointer (some ⟨l.R.b, 0, none⟩)) ∧ w2.drew.cell? ⟨w.heap.size, 2, none⟩ = some (.int .i64 ((k : Int) + 1)) := ⟨(s2 3).trans HS0.out.1.c3, b2⟩
  have HL2 : Hid (w.heap.size < w2.drew.heap.size ∧ wb < w2.drew.heap.size) := ⟨Nat.lt_of_lt_of_le l2 ka.size, Nat.lt_of_lt_of_le HS0.out.1.lw ka.size⟩
  clear ha ka nb l2 b2 s2 HA HRr
  go_wp2_with fail
  (refine wp_region_held_drew (S := (fun Z => Z.cell? ⟨wb, 3, none⟩ = some (.pointer (some ⟨l.R.b, 0, none⟩)) ∧ Z.cell? ⟨w.heap.size, 2, none⟩ = some (.int .i64 ((k : Int) + 1)))) (by kernel_rfl) sy (fun hHeld => ?_); simp only [List.size_toArray, List.length_cons, List.length_nil, Nat.reduceAdd, Array.replicate_succ, Array.replicate_zero, List.push_toArray, List.append_toArray, List.nil_append, List.cons_append])
  generalize w2.drew = wd at *
  refine rgT 0 (h := ?_)
  refine rgT 1 (h := ?_)
  refine rgT 2 (h := ?_)
  refine rgT 3 (h := ?_)
  refine rgT 4 (h := ?_)
  refine rgT 5 (h := ?_)
  (refine rgS 6 (h := fun K hK => ?_); go_simp)
  refine (HR.out ()).mono ?_
  rintro e w3 ⟨qv2, rfl, hqv, hr, kr⟩
  have nb : ∀ g, sF wb l qv av s g → g ≠ w.heap.size := H1.out.2.2.2.2
  have kr2 : Keeps (fun g => raF l.R qv s.S g) wd w3 := kr.mono (fun g e => e.elim .inl (fun e => e.elim (fun e => .inr (.inl e)) (fun e => .inr (.inr (.inr e)))))
  have HF : Hid (PlayQ W1.drew B wb hold (n + 1) w3) := by
    have hs := H2.out.2.size
    refine HS0.out.1.arena l.R qv2 (s.S.free k) (s.Q ++ [k]) (H2.out.1.keeps kr2 (fun g hg e => HS0.out.1.b.pd g (.inl hg) (.inl e))) hr ((H2.out.2.mono (fun _ e => .inl e)).trans (kr2.mono (fun g e => .inr e))) (fun g hg => ra_free_F (fun y hy => (hqv y hy).imp id (fun e => Nat.le_trans hs e)) g hg) rfl rfl (fun i => HS0.out.1.wd1 i) (Nat.le_trans H1.out.2.2.1 (Nat.le_refl _)) _ (by omega)
  have s3 : w3.cell? ⟨wb, 3, none⟩ = some (.pointer (some ⟨l.R.b, 0, none⟩)) ∧ w3.cell? ⟨w.heap.size, 2, none⟩ = some (.int .i64 ((k : Int) + 1)) := ⟨(kr2.cell (p := ⟨wb, 3, none⟩) HL2.out.2 (fun e => HS0.out.1.nw (.inr (.inl (.inl e))))).trans sy.1, (kr2.cell (p := ⟨w.heap.size, 2, none⟩) HL2.out.1 (fun e => nb _ (.inl (.inr (.inl (.inl e)))) rfl)).trans sy.2⟩
  (refine hK.out _ _ s3 (fun hHeld => ?_); clear hK K; try simp only [Act.put, List.setIfInBounds_toArray, List.set_cons_zero, List.set_cons_succ])
  refine rgT 7 (h := ?_)
  refine wpAnyH_done (by kernel_rfl) ?_ _
  clear hHeld s3 sy nb kr kr2 hr HR H2 hqv
  go_wp2_with fail
  refine (law_num _ _).mono ?_
  rintro e wn ⟨rfl, hwn⟩
  rw [hwn]
  clear hwn wn
  go_wp2
  go_ret
  exact ⟨rfl, HF.out.from HB2.out.2⟩
theorem law_play2n (w : World) (B wb : Nat) (hold : Int) (l : WL) (qv av : Value) (s : WS) (of_ o1 o2 : Int) (n : Nat) (h : St4 w B wb hold l qv av s) (hn : s.ms.length ≤ n) (hB : B ≤ w.heap.size) (hl : liv s.S o1 = false) : Calls Tryz.prog 59 #[.pointer (some ⟨wb, 0, none⟩), .agg #[.int .i64 2, .int .i64 of_, .int .i64 o1, .int .i64 o2]] w fun e w' => e = .returned (.bool true) ∧ PlayQ w B wb hold (n + 1) w' := by
  have g1 := heap_alloc_new w (.cells #[.int .i64 2, .int .i64 of_, .int .i64 o1, .int .i64 o2] 120)
  obtain ⟨W1, hW1⟩ : ∃ W, w.alloc (.cells #[.int .i64 2, .int .i64 of_, .int .i64 o1, .int .i64 o2] 120) = W := ⟨_, rfl⟩
  rw [hW1] at g1
  have hb1 : Below w.heap.size w W1 := by rw [← hW1]; exact (Below.refl _ _).alloc (Nat.le_refl _) _
  have h1 := h.later hb1
  have H1 : Hid (St4 W1 B wb hold l qv av s ∧ Below B w W1 ∧ B ≤ W1.heap.size ∧ W1.heap[w.heap.size]? = some (.cells #[.int .i64 2, .int .i64 of_, .int .i64 o1, .int .i64 o2] 120) ∧ ∀ g, sF wb l qv av s g → g ≠ w.heap.size) := ⟨h1, hb1.mono hB, Nat.le_trans hB hb1.size, g1, fun g hg e => by have := (h.low g hg).2; omega⟩
  have o0 : W1.cell? ⟨w.heap.size, 0, none⟩ = some (.int .i64 2) := (cell?_heap g1 0).trans rfl
  have oF : W1.cell? ⟨w.heap.size, 1, none⟩ = some (.int .i64 of_) := (cell?_heap g1 1).trans rfl
  have oA : W1.cell? ⟨w.heap.size, 2, none⟩ = some (.int .i64 o1) := (cell?_heap g1 2).trans rfl
  have oB : W1.cell? ⟨w.heap.size, 3, none⟩ = some (.int .i64 o2) := (cell?_heap g1 3).trans rfl
  have c0 := h1.c0
  have HK : Hid (liv s.S o1 = false) := hl
  have HA : Hid (∀ _ : Unit, _) := fun _ => arn_free_no l.L s.S W1 s.Q o1 h1.b.a (liv_no hl)
  clear h h1 g1 hb1 hl
  have HT : Hid (W1.drew = W1.drew) := rfl
  have HS0 : Hid (St4 W1.drew B wb hold l qv av s ∧ W1.drew.cell? ⟨w.heap.size, 2, none⟩ = some (.int .i64 o1)) := ⟨H1.out.1.keeps (Keeps.refl (fun _ => False) _).drew (fun _ _ e => e), oA⟩
  go_enter Tryz.func59, Tryz.ntmps59
  go_wp2_with fail
  (refine wp_region_held_drew (S := (fun Z => Z.cell? ⟨wb, 0, none⟩ = some (.pointer (some ⟨l.L.b, 0, none⟩)) ∧ Z.cell? ⟨w.heap.size, 2, none⟩ = some (.int .i64 o1))) (by kernel_rfl) ⟨HS0.out.1.c0, HS0.out.2⟩ (fun hHeld => ?_); simp only [List.size_toArray, List.length_cons, List.length_nil, Nat.reduceAdd, Array.replicate_succ, Array.replicate_zero, List.push_toArray, List.append_toArray, List.nil_append, List.cons_append])
  clear hW1 c0 o0 oF oA oB
  have HB2 : Hid (W1.heap.size = W1.drew.heap.size ∧ Below B w W1.drew) := ⟨rfl, H1.out.2.1.drew⟩
  have HA : Hid (∀ _ : Unit, _) := fun _ => arn_free_no l.L s.S W1.drew s.Q o1 HS0.out.1.b.a (liv_no HK.out)
  refine rgT 0 (h := ?_)
  refine rgT 1 (h := ?_)
  refine rgT 2 (h := ?_)
  refine rgT 3 (h := ?_)
  refine rgT 4 (h := ?_)
  refine rgT 5 (h := ?_)
  (refine rgS 6 (h := fun K hK => ?_); go_simp)
  refine (HA.out ()).mono ?_
  rintro e w2 ⟨rfl, ha, ka⟩
  have nb : ∀ g, sF wb l qv av s g → g ≠ w.heap.size := H1.out.2.2.2.2
  have l2 : w.heap.size < W1.drew.heap.size := lt_heap H1.out.2.2.2.1
  have b2 : w2.cell? ⟨w.heap.size, 2, none⟩ = some (.int .i64 o1) := (ka.cell (p := ⟨w.heap.size, 2, none⟩) l2 (fun e => nb _ (.inl (.inl (.inl e))) rfl)).trans HS0.out.2
  have s2 : ∀ j, w2.cell? ⟨wb, j, none⟩ = W1.drew.cell? ⟨wb, j, none⟩ := fun j => ka.cell (p := ⟨wb, j, none⟩) HS0.out.1.lw (fun e => HS0.out.1.nw (.inl (.inl e)))
  (refine hK.out _ _ ⟨(s2 0).trans HS0.out.1.c0, b2⟩ (fun hHeld => ?_); clear hK K; try simp only [Act.put, List.setIfInBounds_toArray, List.set_cons_zero, List.set_cons_succ])
  refine rgT 7 (h := ?_)
  refine wpAnyH_done (by kernel_rfl) ?_ _
  clear hHeld
  have HRr : Hid (RAr w2.drew l.R l.cap qv s.Q s.S) := (HS0.out.1.b.r.keeps ka (fun g hg e => HS0.out.1.b.pd g (.inl e) (.inl hg))).keeps (Keeps.refl (fun _ => False) _).drew (fun _ _ e => e)
  have H2 : Hid (Arn w2.drew l.L s.Q (mis1 s.S) ∧ Keeps l.L.has W1.drew w2.drew) := ⟨ha.keeps (Keeps.refl (fun _ => False) _).drew (fun _ _ e => e), ka.drew⟩
  have HR : Hid (∀ _ : Unit, _) := fun _ => ra_free_no w2.drew l.R l.cap qv s.Q s.S o1 HRr.out HK.out
  have sy : w2.drew.cell? ⟨wb, 3, none⟩ = some (.pointer (some ⟨l.R.b, 0, none⟩)) ∧ w2.drew.cell? ⟨w.heap.size, 2, none⟩ = some (.int .i64 o1) := ⟨(s2 3).trans HS0.out.1.c3, b2⟩
  have HL2 : Hid (w.heap.size < w2.drew.heap.size ∧ wb < w2.drew.heap.size) := ⟨Nat.lt_of_lt_of_le l2 ka.size, Nat.lt_of_lt_of_le HS0.out.1.lw ka.size⟩
  clear ha ka nb l2 b2 s2 HA HRr
  go_wp2_with fail
  (refine wp_region_held_drew (S := (fun Z => Z.cell? ⟨wb, 3, none⟩ = some (.pointer (some ⟨l.R.b, 0, none⟩)) ∧ Z.cell? ⟨w.heap.size, 2, none⟩ = some (.int .i64 o1))) (by kernel_rfl) sy (fun hHeld => ?_); simp only [List.size_toArray, List.length_cons, List.length_nil, Nat.reduceAdd, Array.replicate_succ, Array.replicate_zero, List.push_toArray, List.append_toArray, List.nil_append, List.cons_append])
  generalize w2.drew = wd at *
  refine rgT 0 (h := ?_)
  refine rgT 1 (h := ?_)
  refine rgT 2 (h := ?_)
  refine rgT 3 (h := ?_)
  refine rgT 4 (h := ?_)
  refine rgT 5 (h := ?_)
  (refine rgS 6 (h := fun K hK => ?_); go_simp)
  refine (HR.out ()).mono ?_
  rintro e w3 ⟨rfl, hr, kr⟩
  have nb : ∀ g, sF wb l qv av s g → g ≠ w.heap.size := H1.out.2.2.2.2
  have kr2 : Keeps (fun g => raF l.R qv s.S g) wd w3 := kr.mono (fun g e => .inl e)
  have HF : Hid (PlayQ W1.drew B wb hold (n + 1) w3) := by
    have hs := H2.out.2.size
    refine HS0.out.1.arena l.R qv (mis1 s.S) s.Q (H2.out.1.keeps kr2 (fun g hg e => HS0.out.1.b.pd g (.inl hg) (.inl e))) hr ((H2.out.2.mono (fun _ e => .inl e)).trans (kr2.mono (fun g e => .inr e))) (fun g hg => .inl hg) rfl rfl (fun i => HS0.out.1.wd1 i) (Nat.le_trans H1.out.2.2.1 (Nat.le_refl _)) _ (by omega)
  have s3 : w3.cell? ⟨wb, 3, none⟩ = some (.pointer (some ⟨l.R.b, 0, none⟩)) ∧ w3.cell? ⟨w.heap.size, 2, none⟩ = some (.int .i64 o1) := ⟨(kr2.cell (p := ⟨wb, 3, none⟩) HL2.out.2 (fun e => HS0.out.1.nw (.inr (.inl (.inl e))))).trans sy.1, (kr2.cell (p := ⟨w.heap.size, 2, none⟩) HL2.out.1 (fun e => nb _ (.inl (.inr (.inl (.inl e)))) rfl)).trans sy.2⟩
  (refine hK.out _ _ s3 (fun hHeld => ?_); clear hK K; try simp only [Act.put, List.setIfInBounds_toArray, List.set_cons_zero, List.set_cons_succ])
  refine rgT 7 (h := ?_)
  refine wpAnyH_done (by kernel_rfl) ?_ _
  clear hHeld s3 sy nb kr kr2 hr HR H2
  go_wp2_with fail
  refine (law_num _ _).mono ?_
  rintro e wn ⟨rfl, hwn⟩
  rw [hwn]
  clear hwn wn
  go_wp2
  go_ret
  exact ⟨rfl, HF.out.from HB2.out.2⟩
end Go.Proofs.YtdjklcmkcccpeaaGreat

namespace Go.Proofs.YtdjklcmkcccpeaaGreat
set_option linter.unusedSimpArgs false
open Go.ChangeShapes Go.WideShapes Go.ChangeAt Go.RowKit Go.MuLone Go.RwLone
set_option linter.unusedVariables false
set_option maxRecDepth 100000
set_option maxHeartbeats 6400000
theorem PlayQ.same {w w1 : World} {B wb : Nat} {hold : Int} {l : WL} {qv av : Value} {s : WS} {n : Nat} (h : St4 w1 B wb hold l qv av s) (hn : s.ms.length ≤ n) (b : Below B w w1) : PlayQ w B wb hold (n + 1) w1 := ⟨_, _, _, _, h, by omega, b⟩
theorem keepsB {w w' : World} {B wb : Nat} {hold : Int} {l : WL} {qv av : Value} {s : WS} (h : St4 w B wb hold l qv av s) (k : Keeps l.L.has w w') (hB : B ≤ w.heap.size) : Below B w w' := k.below hB (fun g hg e => by have := h.lo g (.inl (.inl e)); omega)
theorem law_play3 (w : World) (B wb : Nat) (hold : Int) (l : WL) (qv av : Value) (s : WS) (of_ o1 o2 : Int) (n : Nat) (h : St4 w B wb hold l qv av s) (hn : s.ms.length ≤ n) (hB : B ≤ w.heap.size) (hnl : n ≤ 1048576) : Calls Tryz.prog 59 #[.pointer (some ⟨wb, 0, none⟩), .agg #[.int .i64 3, .int .i64 of_, .int .i64 o1, .int .i64 o2]] w fun e w' => e = .returned (.bool true) ∧ PlayQ w B wb hold (n + 1) w' := by
  have g1 := heap_alloc_new w (.cells #[.int .i64 3, .int .i64 of_, .int .i64 o1, .int .i64 o2] 120)
  obtain ⟨W1, hW1⟩ : ∃ W, w.alloc (.cells #[.int .i64 3, .int .i64 of_, .int .i64 o1, .int .i64 o2] 120) = W := ⟨_, rfl⟩
  rw [hW1] at g1
  have hb1 : Below w.heap.size w W1 := by rw [← hW1]; exact (Below.refl _ _).alloc (Nat.le_refl _) _
  have h1 := h.later hb1
  have H1 : Hid (St4 W1 B wb hold l qv av s ∧ Below B w W1 ∧ B ≤ W1.heap.size ∧ W1.heap[w.heap.size]? = some (.cells #[.int .i64 3, .int .i64 of_, .int .i64 o1, .int .i64 o2] 120) ∧ ∀ g, sF wb l qv av s g → g ≠ w.heap.size) := ⟨h1, hb1.mono hB, Nat.le_trans hB hb1.size, g1, fun g hg e => by have := (h.low g hg).2; omega⟩
  have o0 : W1.cell? ⟨w.heap.size, 0, none⟩ = some (.int .i64 3) := (cell?_heap g1 0).trans rfl
  have oF : W1.cell? ⟨w.heap.size, 1, none⟩ = some (.int .i64 of_) := (cell?_heap g1 1).trans rfl
  have oA : W1.cell? ⟨w.heap.size, 2, none⟩ = some (.int .i64 o1) := (cell?_heap g1 2).trans rfl
  have oB : W1.cell? ⟨w.heap.size, 3, none⟩ = some (.int .i64 o2) := (cell?_heap g1 3).trans rfl
  obtain ⟨i, hi, hI⟩ : ∃ i : Nat, i < 2 ∧ bits BinOp.and IntKind.i64 of_ 1 = (i : Int) := ⟨(of_ % 2).toNat, by omega, by rw [i64_and1]; omega⟩
  have HA : Hid (∀ _ : Unit, _) := fun _ => law_begin3 W1 B wb hold l qv av s i of_ o1 o2 h1 hi (by omega) H1.out.2.2.1
  clear h h1 g1 hb1
  go_enter Tryz.func59, Tryz.ntmps59
  go_wp2_with fail
  clear hW1
  refine (HA.out ()).mono ?_
  rintro e w2 ⟨rfl, av', m, h2, b2⟩
  have HF : Hid (PlayQ W1 B wb hold (n + 1) w2) := ⟨_, _, _, _, h2, by show (s.ms ++ [m]).length ≤ n + 1; rw [List.length_append]; simp; omega, b2⟩
  clear h2 b2 HA o0 oF oA oB hI
  go_wp2
  go_ret
  exact ⟨rfl, HF.out.from H1.out.2.1⟩
theorem law_play4 (w : World) (B wb : Nat) (hold : Int) (l : WL) (qv av : Value) (s : WS) (of_ o1 o2 : Int) (n : Nat) (h : St4 w B wb hold l qv av s) (hn : s.ms.length ≤ n) (hB : B ≤ w.heap.size) (hnl : n ≤ 1048576) : Calls Tryz.prog 59 #[.pointer (some ⟨wb, 0, none⟩), .agg #[.int .i64 4, .int .i64 of_, .int .i64 o1, .int .i64 o2]] w fun e w' => e = .returned (.bool true) ∧ PlayQ w B wb hold (n + 1) w' := by
  have g1 := heap_alloc_new w (.cells #[.int .i64 4, .int .i64 of_, .int .i64 o1, .int .i64 o2] 120)
  obtain ⟨W1, hW1⟩ : ∃ W, w.alloc (.cells #[.int .i64 4, .int .i64 of_, .int .i64 o1, .int .i64 o2] 120) = W := ⟨_, rfl⟩
  rw [hW1] at g1
  have hb1 : Below w.heap.size w W1 := by rw [← hW1]; exact (Below.refl _ _).alloc (Nat.le_refl _) _
  have h1 := h.later hb1
  have H1 : Hid (St4 W1 B wb hold l qv av s ∧ Below B w W1 ∧ B ≤ W1.heap.size ∧ W1.heap[w.heap.size]? = some (.cells #[.int .i64 4, .int .i64 of_, .int .i64 o1, .int .i64 o2] 120) ∧ ∀ g, sF wb l qv av s g → g ≠ w.heap.size) := ⟨h1, hb1.mono hB, Nat.le_trans hB hb1.size, g1, fun g hg e => by have := (h.low g hg).2; omega⟩
  have o0 : W1.cell? ⟨w.heap.size, 0, none⟩ = some (.int .i64 4) := (cell?_heap g1 0).trans rfl
  have oF : W1.cell? ⟨w.heap.size, 1, none⟩ = some (.int .i64 of_) := (cell?_heap g1 1).trans rfl
  have oA : W1.cell? ⟨w.heap.size, 2, none⟩ = some (.int .i64 o1) := (cell?_heap g1 2).trans rfl
  have oB : W1.cell? ⟨w.heap.size, 3, none⟩ = some (.int .i64 o2) := (cell?_heap g1 3).trans rfl
  obtain ⟨i, hi, hI⟩ : ∃ i : Nat, i < 2 ∧ bits BinOp.and IntKind.i64 of_ 1 = (i : Int) := ⟨(of_ % 2).toNat, by omega, by rw [i64_and1]; omega⟩
  have HA : Hid (∀ _ : Unit, _) := fun _ => law_begin4 W1 B wb hold l qv av s i of_ o1 o2 h1 hi (by omega) H1.out.2.2.1
  clear h h1 g1 hb1
  go_enter Tryz.func59, Tryz.ntmps59
  go_wp2_with fail
  clear hW1
  refine (HA.out ()).mono ?_
  rintro e w2 ⟨rfl, av', m, h2, b2⟩
  have HF : Hid (PlayQ W1 B wb hold (n + 1) w2) := ⟨_, _, _, _, h2, by show (s.ms ++ [m]).length ≤ n + 1; rw [List.length_append]; simp; omega, b2⟩
  clear h2 b2 HA o0 oF oA oB hI
  go_wp2
  go_ret
  exact ⟨rfl, HF.out.from H1.out.2.1⟩
theorem law_play5 (w : World) (B wb : Nat) (hold : Int) (l : WL) (qv av : Value) (s : WS) (of_ o1 o2 : Int) (n : Nat) (h : St4 w B wb hold l qv av s) (hn : s.ms.length ≤ n) (hB : B ≤ w.heap.size) (hnl : n ≤ 1048576) : Calls Tryz.prog 59 #[.pointer (some ⟨wb, 0, none⟩), .agg #[.int .i64 5, .int .i64 of_, .int .i64 o1, .int .i64 o2]] w fun e w' => e = .returned (.bool true) ∧ PlayQ w B wb hold (n + 1) w' := by
  have g1 := heap_alloc_new w (.cells #[.int .i64 5, .int .i64 of_, .int .i64 o1, .int .i64 o2] 120)
  obtain ⟨W1, hW1⟩ : ∃ W, w.alloc (.cells #[.int .i64 5, .int .i64 of_, .int .i64 o1, .int .i64 o2] 120) = W := ⟨_, rfl⟩
  rw [hW1] at g1
  have hb1 : Below w.heap.size w W1 := by rw [← hW1]; exact (Below.refl _ _).alloc (Nat.le_refl _) _
  have h1 := h.later hb1
  have H1 : Hid (St4 W1 B wb hold l qv av s ∧ Below B w W1 ∧ B ≤ W1.heap.size ∧ W1.heap[w.heap.size]? = some (.cells #[.int .i64 5, .int .i64 of_, .int .i64 o1, .int .i64 o2] 120) ∧ ∀ g, sF wb l qv av s g → g ≠ w.heap.size) := ⟨h1, hb1.mono hB, Nat.le_trans hB hb1.size, g1, fun g hg e => by have := (h.low g hg).2; omega⟩
  have o0 : W1.cell? ⟨w.heap.size, 0, none⟩ = some (.int .i64 5) := (cell?_heap g1 0).trans rfl
  have oF : W1.cell? ⟨w.heap.size, 1, none⟩ = some (.int .i64 of_) := (cell?_heap g1 1).trans rfl
  have oA : W1.cell? ⟨w.heap.size, 2, none⟩ = some (.int .i64 o1) := (cell?_heap g1 2).trans rfl
  have oB : W1.cell? ⟨w.heap.size, 3, none⟩ = some (.int .i64 o2) := (cell?_heap g1 3).trans rfl
  obtain ⟨i, hi, hI⟩ : ∃ i : Nat, i < 2 ∧ bits BinOp.and IntKind.i64 of_ 1 = (i : Int) := ⟨(of_ % 2).toNat, by omega, by rw [i64_and1]; omega⟩
  have HA : Hid (∀ _ : Unit, _) := fun _ => law_begin5 W1 B wb hold l qv av s i of_ o1 o2 h1 hi (by omega) H1.out.2.2.1
  clear h h1 g1 hb1
  go_enter Tryz.func59, Tryz.ntmps59
  go_wp2_with fail
  clear hW1
  refine (HA.out ()).mono ?_
  rintro e w2 ⟨rfl, av', m, h2, b2⟩
  have HF : Hid (PlayQ W1 B wb hold (n + 1) w2) := ⟨_, _, _, _, h2, by show (s.ms ++ [m]).length ≤ n + 1; rw [List.length_append]; simp; omega, b2⟩
  clear h2 b2 HA o0 oF oA oB hI
  go_wp2
  go_ret
  exact ⟨rfl, HF.out.from H1.out.2.1⟩
theorem law_play6 (w : World) (B wb : Nat) (hold : Int) (l : WL) (qv av : Value) (s : WS) (of_ o1 o2 : Int) (n : Nat) (h : St4 w B wb hold l qv av s) (hn : s.ms.length ≤ n) (hB : B ≤ w.heap.size) (hnl : n ≤ 1048576) : Calls Tryz.prog 59 #[.pointer (some ⟨wb, 0, none⟩), .agg #[.int .i64 6, .int .i64 of_, .int .i64 o1, .int .i64 o2]] w fun e w' => e = .returned (.bool true) ∧ PlayQ w B wb hold (n + 1) w' := by
  have g1 := heap_alloc_new w (.cells #[.int .i64 6, .int .i64 of_, .int .i64 o1, .int .i64 o2] 120)
  obtain ⟨W1, hW1⟩ : ∃ W, w.alloc (.cells #[.int .i64 6, .int .i64 of_, .int .i64 o1, .int .i64 o2] 120) = W := ⟨_, rfl⟩
  rw [hW1] at g1
  have hb1 : Below w.heap.size w W1 := by rw [← hW1]; exact (Below.refl _ _).alloc (Nat.le_refl _) _
  have h1 := h.later hb1
  have H1 : Hid (St4 W1 B wb hold l qv av s ∧ Below B w W1 ∧ B ≤ W1.heap.size ∧ W1.heap[w.heap.size]? = some (.cells #[.int .i64 6, .int .i64 of_, .int .i64 o1, .int .i64 o2] 120) ∧ ∀ g, sF wb l qv av s g → g ≠ w.heap.size) := ⟨h1, hb1.mono hB, Nat.le_trans hB hb1.size, g1, fun g hg e => by have := (h.low g hg).2; omega⟩
  have o0 : W1.cell? ⟨w.heap.size, 0, none⟩ = some (.int .i64 6) := (cell?_heap g1 0).trans rfl
  have oF : W1.cell? ⟨w.heap.size, 1, none⟩ = some (.int .i64 of_) := (cell?_heap g1 1).trans rfl
  have oA : W1.cell? ⟨w.heap.size, 2, none⟩ = some (.int .i64 o1) := (cell?_heap g1 2).trans rfl
  have oB : W1.cell? ⟨w.heap.size, 3, none⟩ = some (.int .i64 o2) := (cell?_heap g1 3).trans rfl
  obtain ⟨i, hi, hI⟩ : ∃ i : Nat, i < 2 ∧ bits BinOp.and IntKind.i64 of_ 1 = (i : Int) := ⟨(of_ % 2).toNat, by omega, by rw [i64_and1]; omega⟩
  have HA : Hid (∀ _ : Unit, _) := fun _ => law_begin6 W1 B wb hold l qv av s i of_ o1 o2 h1 hi (by omega) H1.out.2.2.1
  clear h h1 g1 hb1
  go_enter Tryz.func59, Tryz.ntmps59
  go_wp2_with fail
  clear hW1
  refine (HA.out ()).mono ?_
  rintro e w2 ⟨rfl, av', m, h2, b2⟩
  have HF : Hid (PlayQ W1 B wb hold (n + 1) w2) := ⟨_, _, _, _, h2, by show (s.ms ++ [m]).length ≤ n + 1; rw [List.length_append]; simp; omega, b2⟩
  clear h2 b2 HA o0 oF oA oB hI
  go_wp2
  go_ret
  exact ⟨rfl, HF.out.from H1.out.2.1⟩
theorem law_play7n (w : World) (B wb : Nat) (hold : Int) (l : WL) (qv av : Value) (s : WS) (of_ o1 o2 : Int) (n : Nat) (h : St4 w B wb hold l qv av s) (hn : s.ms.length ≤ n) (hB : B ≤ w.heap.size) (hm : o1 < 0 ∨ (s.ms.length : Int) ≤ o1) : Calls Tryz.prog 59 #[.pointer (some ⟨wb, 0, none⟩), .agg #[.int .i64 7, .int .i64 of_, .int .i64 o1, .int .i64 o2]] w fun e w' => e = .returned (.bool true) ∧ PlayQ w B wb hold (n + 1) w' := by
  have g1 := heap_alloc_new w (.cells #[.int .i64 7, .int .i64 of_, .int .i64 o1, .int .i64 o2] 120)
  obtain ⟨W1, hW1⟩ : ∃ W, w.alloc (.cells #[.int .i64 7, .int .i64 of_, .int .i64 o1, .int .i64 o2] 120) = W := ⟨_, rfl⟩
  rw [hW1] at g1
  have hb1 : Below w.heap.size w W1 := by rw [← hW1]; exact (Below.refl _ _).alloc (Nat.le_refl _) _
  have h1 := h.later hb1
  have H1 : Hid (St4 W1 B wb hold l qv av s ∧ Below B w W1 ∧ B ≤ W1.heap.size ∧ W1.heap[w.heap.size]? = some (.cells #[.int .i64 7, .int .i64 of_, .int .i64 o1, .int .i64 o2] 120) ∧ ∀ g, sF wb l qv av s g → g ≠ w.heap.size) := ⟨h1, hb1.mono hB, Nat.le_trans hB hb1.size, g1, fun g hg e => by have := (h.low g hg).2; omega⟩
  have o0 : W1.cell? ⟨w.heap.size, 0, none⟩ = some (.int .i64 7) := (cell?_heap g1 0).trans rfl
  have oF : W1.cell? ⟨w.heap.size, 1, none⟩ = some (.int .i64 of_) := (cell?_heap g1 1).trans rfl
  have oA : W1.cell? ⟨w.heap.size, 2, none⟩ = some (.int .i64 o1) := (cell?_heap g1 2).trans rfl
  have oB : W1.cell? ⟨w.heap.size, 3, none⟩ = some (.int .i64 o2) := (cell?_heap g1 3).trans rfl
  have HA : Hid (∀ _ : Unit, _) := fun _ => law_machine_no W1 B wb hold l qv av s o1 h1 hm
  clear h h1 g1 hb1 hm
  go_enter Tryz.func59, Tryz.ntmps59
  go_wp2_with fail
  clear hW1
  refine (HA.out ()).mono ?_
  rintro e w2 ⟨rfl, b2⟩
  have HF : Hid (∀ v, PlayQ W1 B wb hold (n + 1) (w2.alloc v)) := fun v => by
    have b3 : Below W1.heap.size W1 (w2.alloc v) := b2.alloc b2.size _
    exact PlayQ.same (H1.out.1.later b3) hn (b3.mono H1.out.2.2.1)
  have p0 := (b2.cell (p := ⟨w.heap.size, 0, none⟩) (lt_heap H1.out.2.2.2.1)).trans o0
  clear b2 HA o0 oF oA oB
  go_wp2
  go_ret
  exact ⟨rfl, (HF.out _).from H1.out.2.1⟩
theorem law_play8n (w : World) (B wb : Nat) (hold : Int) (l : WL) (qv av : Value) (s : WS) (of_ o1 o2 : Int) (n : Nat) (h : St4 w B wb hold l qv av s) (hn : s.ms.length ≤ n) (hB : B ≤ w.heap.size) (hm : o1 < 0 ∨ (s.ms.length : Int) ≤ o1) : Calls Tryz.prog 59 #[.pointer (some ⟨wb, 0, none⟩), .agg #[.int .i64 8, .int .i64 of_, .int .i64 o1, .int .i64 o2]] w fun e w' => e = .returned (.bool true) ∧ PlayQ w B wb hold (n + 1) w' := by
  have g1 := heap_alloc_new w (.cells #[.int .i64 8, .int .i64 of_, .int .i64 o1, .int .i64 o2] 120)
  obtain ⟨W1, hW1⟩ : ∃ W, w.alloc (.cells #[.int .i64 8, .int .i64 of_, .int .i64 o1, .int .i64 o2] 120) = W := ⟨_, rfl⟩
  rw [hW1] at g1
  have hb1 : Below w.heap.size w W1 := by rw [← hW1]; exact (Below.refl _ _).alloc (Nat.le_refl _) _
  have h1 := h.later hb1
  have H1 : Hid (St4 W1 B wb hold l qv av s ∧ Below B w W1 ∧ B ≤ W1.heap.size ∧ W1.heap[w.heap.size]? = some (.cells #[.int .i64 8, .int .i64 of_, .int .i64 o1, .int .i64 o2] 120) ∧ ∀ g, sF wb l qv av s g → g ≠ w.heap.size) := ⟨h1, hb1.mono hB, Nat.le_trans hB hb1.size, g1, fun g hg e => by have := (h.low g hg).2; omega⟩
  have o0 : W1.cell? ⟨w.heap.size, 0, none⟩ = some (.int .i64 8) := (cell?_heap g1 0).trans rfl
  have oF : W1.cell? ⟨w.heap.size, 1, none⟩ = some (.int .i64 of_) := (cell?_heap g1 1).trans rfl
  have oA : W1.cell? ⟨w.heap.size, 2, none⟩ = some (.int .i64 o1) := (cell?_heap g1 2).trans rfl
  have oB : W1.cell? ⟨w.heap.size, 3, none⟩ = some (.int .i64 o2) := (cell?_heap g1 3).trans rfl
  have HA : Hid (∀ _ : Unit, _) := fun _ => law_machine_no W1 B wb hold l qv av s o1 h1 hm
  clear h h1 g1 hb1 hm
  go_enter Tryz.func59, Tryz.ntmps59
  go_wp2_with fail
  clear hW1
  refine (HA.out ()).mono ?_
  rintro e w2 ⟨rfl, b2⟩
  have HF : Hid (∀ v, PlayQ W1 B wb hold (n + 1) (w2.alloc v)) := fun v => by
    have b3 : Below W1.heap.size W1 (w2.alloc v) := b2.alloc b2.size _
    exact PlayQ.same (H1.out.1.later b3) hn (b3.mono H1.out.2.2.1)
  have p0 := (b2.cell (p := ⟨w.heap.size, 0, none⟩) (lt_heap H1.out.2.2.2.1)).trans o0
  clear b2 HA o0 oF oA oB
  go_wp2
  go_ret
  exact ⟨rfl, (HF.out _).from H1.out.2.1⟩
theorem law_play7m1 (w : World) (B wb : Nat) (hold : Int) (l : WL) (qv av : Value) (s : WS) (of_ o1 o2 : Int) (n : Nat) (h : St4 w B wb hold l qv av s) (hn : s.ms.length ≤ n) (hB : B ≤ w.heap.size) (k : Nat) (m : PM) (hk : s.ms[k]? = some m) (hkd : m.kd = 1) (ho : o1 = (k : Int)) (hnl : n ≤ 1048576) : Calls Tryz.prog 59 #[.pointer (some ⟨wb, 0, none⟩), .agg #[.int .i64 7, .int .i64 of_, .int .i64 o1, .int .i64 o2]] w fun e w' => e = .returned (.bool true) ∧ PlayQ w B wb hold (n + 1) w' := by
  have g1 := heap_alloc_new w (.cells #[.int .i64 7, .int .i64 of_, .int .i64 o1, .int .i64 o2] 120)
  obtain ⟨W1, hW1⟩ : ∃ W, w.alloc (.cells #[.int .i64 7, .int .i64 of_, .int .i64 o1, .int .i64 o2] 120) = W := ⟨_, rfl⟩
  rw [hW1] at g1
  have hb1 : Below w.heap.size w W1 := by rw [← hW1]; exact (Below.refl _ _).alloc (Nat.le_refl _) _
  have h1 := h.later hb1
  have H1 : Hid (St4 W1 B wb hold l qv av s ∧ Below B w W1 ∧ B ≤ W1.heap.size ∧ W1.heap[w.heap.size]? = some (.cells #[.int .i64 7, .int .i64 of_, .int .i64 o1, .int .i64 o2] 120) ∧ ∀ g, sF wb l qv av s g → g ≠ w.heap.size) := ⟨h1, hb1.mono hB, Nat.le_trans hB hb1.size, g1, fun g hg e => by have := (h.low g hg).2; omega⟩
  have o0 : W1.cell? ⟨w.heap.size, 0, none⟩ = some (.int .i64 7) := (cell?_heap g1 0).trans rfl
  have oF : W1.cell? ⟨w.heap.size, 1, none⟩ = some (.int .i64 of_) := (cell?_heap g1 1).trans rfl
  have oA : W1.cell? ⟨w.heap.size, 2, none⟩ = some (.int .i64 o1) := (cell?_heap g1 2).trans rfl
  have oB : W1.cell? ⟨w.heap.size, 3, none⟩ = some (.int .i64 o2) := (cell?_heap g1 3).trans rfl
  subst ho
  have ep : pmC m = [.int .i64 1, .pointer (some ⟨m.pb, 0, none⟩), .pointer none, .pointer none, .pointer (some ⟨m.rb, 0, none⟩), .pointer none, .pointer none] := by unfold pmC; rw [hkd]; rfl
  have HA : Hid (∀ _ : Unit, _) := fun _ => law_machine1 W1 B wb hold l qv av s k m h1 hk hkd (by omega)
  clear h h1 g1 hb1
  go_enter Tryz.func59, Tryz.ntmps59
  go_wp2_with fail
  clear hW1
  refine (HA.out ()).mono ?_
  rintro e w2 ⟨rfl, b2⟩
  have p0 := (b2.cell (p := ⟨w.heap.size, 0, none⟩) (lt_heap H1.out.2.2.2.1)).trans o0
  have HL : Hid (w.heap.size < w2.heap.size) := Nat.lt_of_lt_of_le (lt_heap H1.out.2.2.2.1) b2.size
  have HW : Hid (∀ o, St4 (w2.alloc o) B wb hold l qv av s ∧ Below B W1 (w2.alloc o) ∧ B ≤ (w2.alloc o).heap.size ∧ (w2.alloc o).cell? ⟨w.heap.size, 0, none⟩ = some (.int .i64 7)) := fun o => by
    have b3 : Below W1.heap.size W1 (w2.alloc o) := b2.alloc b2.size _
    exact ⟨H1.out.1.later b3, b3.mono H1.out.2.2.1, Nat.le_trans H1.out.2.2.1 b3.size, (b3.cell (p := ⟨w.heap.size, 0, none⟩) (lt_heap H1.out.2.2.2.1)).trans o0⟩
  have HS : Hid (∀ _ : Unit, _) := fun _ => law_step1 (w2.alloc (.cells #[.int .i64 1, .pointer (some ⟨m.pb, 0, none⟩), .pointer none, .pointer none, .pointer (some ⟨m.rb, 0, none⟩), .pointer none, .pointer none] 188)) B wb hold l qv av s k m (HW.out _).1 hk hkd (HW.out _).2.2.1
  rw [ep] at HS
  have p1 := (HW.out (.cells #[.int .i64 1, .pointer (some ⟨m.pb, 0, none⟩), .pointer none, .pointer none, .pointer (some ⟨m.rb, 0, none⟩), .pointer none, .pointer none] 188)).2.2.2
  clear b2 HA o0 oF oA oB ep
  go_wp2_with fail
  refine (HS.out ()).mono ?_
  rintro e w3 ⟨s2, rfl, ⟨h3, hl3⟩, b3⟩
  have HF : Hid (PlayQ W1 B wb hold (n + 1) w3) := ⟨_, _, _, _, h3, by omega, (HW.out _).2.1.trans b3⟩
  clear h3 b3 HS
  go_wp2
  go_ret
  exact ⟨rfl, HF.out.from H1.out.2.1⟩
theorem law_play7m2 (w : World) (B wb : Nat) (hold : Int) (l : WL) (qv av : Value) (s : WS) (of_ o1 o2 : Int) (n : Nat) (h : St4 w B wb hold l qv av s) (hn : s.ms.length ≤ n) (hB : B ≤ w.heap.size) (k : Nat) (m : PM) (hk : s.ms[k]? = some m) (hkd : m.kd = 2) (ho : o1 = (k : Int)) (hnl : n ≤ 1048576) : Calls Tryz.prog 59 #[.pointer (some ⟨wb, 0, none⟩), .agg #[.int .i64 7, .int .i64 of_, .int .i64 o1, .int .i64 o2]] w fun e w' => e = .returned (.bool true) ∧ PlayQ w B wb hold (n + 1) w' := by
  have g1 := heap_alloc_new w (.cells #[.int .i64 7, .int .i64 of_, .int .i64 o1, .int .i64 o2] 120)
  obtain ⟨W1, hW1⟩ : ∃ W, w.alloc (.cells #[.int .i64 7, .int .i64 of_, .int .i64 o1, .int .i64 o2] 120) = W := ⟨_, rfl⟩
  rw [hW1] at g1
  have hb1 : Below w.heap.size w W1 := by rw [← hW1]; exact (Below.refl _ _).alloc (Nat.le_refl _) _
  have h1 := h.later hb1
  have H1 : Hid (St4 W1 B wb hold l qv av s ∧ Below B w W1 ∧ B ≤ W1.heap.size ∧ W1.heap[w.heap.size]? = some (.cells #[.int .i64 7, .int .i64 of_, .int .i64 o1, .int .i64 o2] 120) ∧ ∀ g, sF wb l qv av s g → g ≠ w.heap.size) := ⟨h1, hb1.mono hB, Nat.le_trans hB hb1.size, g1, fun g hg e => by have := (h.low g hg).2; omega⟩
  have o0 : W1.cell? ⟨w.heap.size, 0, none⟩ = some (.int .i64 7) := (cell?_heap g1 0).trans rfl
  have oF : W1.cell? ⟨w.heap.size, 1, none⟩ = some (.int .i64 of_) := (cell?_heap g1 1).trans rfl
  have oA : W1.cell? ⟨w.heap.size, 2, none⟩ = some (.int .i64 o1) := (cell?_heap g1 2).trans rfl
  have oB : W1.cell? ⟨w.heap.size, 3, none⟩ = some (.int .i64 o2) := (cell?_heap g1 3).trans rfl
  subst ho
  have ep : pmC m = [.int .i64 2, .pointer none, .pointer (some ⟨m.pb, 0, none⟩), .pointer none, .pointer none, .pointer (some ⟨m.rb, 0, none⟩), .pointer none] := by unfold pmC; rw [hkd]; rfl
  have HA : Hid (∀ _ : Unit, _) := fun _ => law_machine2 W1 B wb hold l qv av s k m h1 hk hkd (by omega)
  clear h h1 g1 hb1
  go_enter Tryz.func59, Tryz.ntmps59
  go_wp2_with fail
  clear hW1
  refine (HA.out ()).mono ?_
  rintro e w2 ⟨rfl, b2⟩
  have p0 := (b2.cell (p := ⟨w.heap.size, 0, none⟩) (lt_heap H1.out.2.2.2.1)).trans o0
  have HL : Hid (w.heap.size < w2.heap.size) := Nat.lt_of_lt_of_le (lt_heap H1.out.2.2.2.1) b2.size
  have HW : Hid (∀ o, St4 (w2.alloc o) B wb hold l qv av s ∧ Below B W1 (w2.alloc o) ∧ B ≤ (w2.alloc o).heap.size ∧ (w2.alloc o).cell? ⟨w.heap.size, 0, none⟩ = some (.int .i64 7)) := fun o => by
    have b3 : Below W1.heap.size W1 (w2.alloc o) := b2.alloc b2.size _
    exact ⟨H1.out.1.later b3, b3.mono H1.out.2.2.1, Nat.le_trans H1.out.2.2.1 b3.size, (b3.cell (p := ⟨w.heap.size, 0, none⟩) (lt_heap H1.out.2.2.2.1)).trans o0⟩
  have HS : Hid (∀ _ : Unit, _) := fun _ => law_step2 (w2.alloc (.cells #[.int .i64 2, .pointer none, .pointer (some ⟨m.pb, 0, none⟩), .pointer none, .pointer none, .pointer (some ⟨m.rb, 0, none⟩), .pointer none] 188)) B wb hold l qv av s k m (HW.out _).1 hk hkd (HW.out _).2.2.1
  rw [ep] at HS
  have p1 := (HW.out (.cells #[.int .i64 2, .pointer none, .pointer (some ⟨m.pb, 0, none⟩), .pointer none, .pointer none, .pointer (some ⟨m.rb, 0, none⟩), .pointer none] 188)).2.2.2
  clear b2 HA o0 oF oA oB ep
  go_wp2_with fail
  refine (HS.out ()).mono ?_
  rintro e w3 ⟨s2, rfl, ⟨h3, hl3⟩, b3⟩
  have HF : Hid (PlayQ W1 B wb hold (n + 1) w3) := ⟨_, _, _, _, h3, by omega, (HW.out _).2.1.trans b3⟩
  clear h3 b3 HS
  go_wp2
  go_ret
  exact ⟨rfl, HF.out.from H1.out.2.1⟩
theorem law_play7m4 (w : World) (B wb : Nat) (hold : Int) (l : WL) (qv av : Value) (s : WS) (of_ o1 o2 : Int) (n : Nat) (h : St4 w B wb hold l qv av s) (hn : s.ms.length ≤ n) (hB : B ≤ w.heap.size) (k : Nat) (m : PM) (hk : s.ms[k]? = some m) (hkd : m.kd = 4) (ho : o1 = (k : Int)) (hnl : n ≤ 1048576) : Calls Tryz.prog 59 #[.pointer (some ⟨wb, 0, none⟩), .agg #[.int .i64 7, .int .i64 of_, .int .i64 o1, .int .i64 o2]] w fun e w' => e = .returned (.bool true) ∧ PlayQ w B wb hold (n + 1) w' := by
  have g1 := heap_alloc_new w (.cells #[.int .i64 7, .int .i64 of_, .int .i64 o1, .int .i64 o2] 120)
  obtain ⟨W1, hW1⟩ : ∃ W, w.alloc (.cells #[.int .i64 7, .int .i64 of_, .int .i64 o1, .int .i64 o2] 120) = W := ⟨_, rfl⟩
  rw [hW1] at g1
  have hb1 : Below w.heap.size w W1 := by rw [← hW1]; exact (Below.refl _ _).alloc (Nat.le_refl _) _
  have h1 := h.later hb1
  have H1 : Hid (St4 W1 B wb hold l qv av s ∧ Below B w W1 ∧ B ≤ W1.heap.size ∧ W1.heap[w.heap.size]? = some (.cells #[.int .i64 7, .int .i64 of_, .int .i64 o1, .int .i64 o2] 120) ∧ ∀ g, sF wb l qv av s g → g ≠ w.heap.size) := ⟨h1, hb1.mono hB, Nat.le_trans hB hb1.size, g1, fun g hg e => by have := (h.low g hg).2; omega⟩
  have o0 : W1.cell? ⟨w.heap.size, 0, none⟩ = some (.int .i64 7) := (cell?_heap g1 0).trans rfl
  have oF : W1.cell? ⟨w.heap.size, 1, none⟩ = some (.int .i64 of_) := (cell?_heap g1 1).trans rfl
  have oA : W1.cell? ⟨w.heap.size, 2, none⟩ = some (.int .i64 o1) := (cell?_heap g1 2).trans rfl
  have oB : W1.cell? ⟨w.heap.size, 3, none⟩ = some (.int .i64 o2) := (cell?_heap g1 3).trans rfl
  subst ho
  have ep : pmC m = [.int .i64 4, .pointer none, .pointer none, .pointer (some ⟨m.pb, 0, none⟩), .pointer none, .pointer none, .pointer (some ⟨m.rb, 0, none⟩)] := by unfold pmC; rw [hkd]; rfl
  have HA : Hid (∀ _ : Unit, _) := fun _ => law_machine4 W1 B wb hold l qv av s k m h1 hk hkd (by omega)
  clear h h1 g1 hb1
  go_enter Tryz.func59, Tryz.ntmps59
  go_wp2_with fail
  clear hW1
  refine (HA.out ()).mono ?_
  rintro e w2 ⟨rfl, b2⟩
  have p0 := (b2.cell (p := ⟨w.heap.size, 0, none⟩) (lt_heap H1.out.2.2.2.1)).trans o0
  have HL : Hid (w.heap.size < w2.heap.size) := Nat.lt_of_lt_of_le (lt_heap H1.out.2.2.2.1) b2.size
  have HW : Hid (∀ o, St4 (w2.alloc o) B wb hold l qv av s ∧ Below B W1 (w2.alloc o) ∧ B ≤ (w2.alloc o).heap.size ∧ (w2.alloc o).cell? ⟨w.heap.size, 0, none⟩ = some (.int .i64 7)) := fun o => by
    have b3 : Below W1.heap.size W1 (w2.alloc o) := b2.alloc b2.size _
    exact ⟨H1.out.1.later b3, b3.mono H1.out.2.2.1, Nat.le_trans H1.out.2.2.1 b3.size, (b3.cell (p := ⟨w.heap.size, 0, none⟩) (lt_heap H1.out.2.2.2.1)).trans o0⟩
  have HS : Hid (∀ _ : Unit, _) := fun _ => law_step4 (w2.alloc (.cells #[.int .i64 4, .pointer none, .pointer none, .pointer (some ⟨m.pb, 0, none⟩), .pointer none, .pointer none, .pointer (some ⟨m.rb, 0, none⟩)] 188)) B wb hold l qv av s k m (HW.out _).1 hk hkd (HW.out _).2.2.1
  rw [ep] at HS
  have p1 := (HW.out (.cells #[.int .i64 4, .pointer none, .pointer none, .pointer (some ⟨m.pb, 0, none⟩), .pointer none, .pointer none, .pointer (some ⟨m.rb, 0, none⟩)] 188)).2.2.2
  clear b2 HA o0 oF oA oB ep
  go_wp2_with fail
  refine (HS.out ()).mono ?_
  rintro e w3 ⟨s2, rfl, ⟨h3, hl3⟩, b3⟩
  have HF : Hid (PlayQ W1 B wb hold (n + 1) w3) := ⟨_, _, _, _, h3, by omega, (HW.out _).2.1.trans b3⟩
  clear h3 b3 HS
  go_wp2
  go_ret
  exact ⟨rfl, HF.out.from H1.out.2.1⟩
theorem law_play8m1 (w : World) (B wb : Nat) (hold : Int) (l : WL) (qv av : Value) (s : WS) (of_ o1 o2 : Int) (n : Nat) (h : St4 w B wb hold l qv av s) (hn : s.ms.length ≤ n) (hB : B ≤ w.heap.size) (k : Nat) (m : PM) (hk : s.ms[k]? = some m) (hkd : m.kd = 1) (ho : o1 = (k : Int)) (hnl : n ≤ 1048576) : Calls Tryz.prog 59 #[.pointer (some ⟨wb, 0, none⟩), .agg #[.int .i64 8, .int .i64 of_, .int .i64 o1, .int .i64 o2]] w fun e w' => e = .returned (.bool true) ∧ PlayQ w B wb hold (n + 1) w' := by
  have g1 := heap_alloc_new w (.cells #[.int .i64 8, .int .i64 of_, .int .i64 o1, .int .i64 o2] 120)
  obtain ⟨W1, hW1⟩ : ∃ W, w.alloc (.cells #[.int .i64 8, .int .i64 of_, .int .i64 o1, .int .i64 o2] 120) = W := ⟨_, rfl⟩
  rw [hW1] at g1
  have hb1 : Below w.heap.size w W1 := by rw [← hW1]; exact (Below.refl _ _).alloc (Nat.le_refl _) _
  have h1 := h.later hb1
  have H1 : Hid (St4 W1 B wb hold l qv av s ∧ Below B w W1 ∧ B ≤ W1.heap.size ∧ W1.heap[w.heap.size]? = some (.cells #[.int .i64 8, .int .i64 of_, .int .i64 o1, .int .i64 o2] 120) ∧ ∀ g, sF wb l qv av s g → g ≠ w.heap.size) := ⟨h1, hb1.mono hB, Nat.le_trans hB hb1.size, g1, fun g hg e => by have := (h.low g hg).2; omega⟩
  have o0 : W1.cell? ⟨w.heap.size, 0, none⟩ = some (.int .i64 8) := (cell?_heap g1 0).trans rfl
  have oF : W1.cell? ⟨w.heap.size, 1, none⟩ = some (.int .i64 of_) := (cell?_heap g1 1).trans rfl
  have oA : W1.cell? ⟨w.heap.size, 2, none⟩ = some (.int .i64 o1) := (cell?_heap g1 2).trans rfl
  have oB : W1.cell? ⟨w.heap.size, 3, none⟩ = some (.int .i64 o2) := (cell?_heap g1 3).trans rfl
  subst ho
  have ep : pmC m = [.int .i64 1, .pointer (some ⟨m.pb, 0, none⟩), .pointer none, .pointer none, .pointer (some ⟨m.rb, 0, none⟩), .pointer none, .pointer none] := by unfold pmC; rw [hkd]; rfl
  have HA : Hid (∀ _ : Unit, _) := fun _ => law_machine1 W1 B wb hold l qv av s k m h1 hk hkd (by omega)
  clear h h1 g1 hb1
  go_enter Tryz.func59, Tryz.ntmps59
  go_wp2_with fail
  clear hW1
  refine (HA.out ()).mono ?_
  rintro e w2 ⟨rfl, b2⟩
  have p0 := (b2.cell (p := ⟨w.heap.size, 0, none⟩) (lt_heap H1.out.2.2.2.1)).trans o0
  have HL : Hid (w.heap.size < w2.heap.size) := Nat.lt_of_lt_of_le (lt_heap H1.out.2.2.2.1) b2.size
  have HW : Hid (∀ o, St4 (w2.alloc o) B wb hold l qv av s ∧ Below B W1 (w2.alloc o) ∧ B ≤ (w2.alloc o).heap.size ∧ (w2.alloc o).cell? ⟨w.heap.size, 0, none⟩ = some (.int .i64 8)) := fun o => by
    have b3 : Below W1.heap.size W1 (w2.alloc o) := b2.alloc b2.size _
    exact ⟨H1.out.1.later b3, b3.mono H1.out.2.2.1, Nat.le_trans H1.out.2.2.1 b3.size, (b3.cell (p := ⟨w.heap.size, 0, none⟩) (lt_heap H1.out.2.2.2.1)).trans o0⟩
  have HS : Hid (∀ _ : Unit, _) := fun _ => law_ask1 (w2.alloc (.cells #[.int .i64 1, .pointer (some ⟨m.pb, 0, none⟩), .pointer none, .pointer none, .pointer (some ⟨m.rb, 0, none⟩), .pointer none, .pointer none] 188)) B wb hold l qv av s k m (HW.out _).1 hk hkd
  skip
  have p1 := (HW.out (.cells #[.int .i64 1, .pointer (some ⟨m.pb, 0, none⟩), .pointer none, .pointer none, .pointer (some ⟨m.rb, 0, none⟩), .pointer none, .pointer none] 188)).2.2.2
  clear b2 HA o0 oF oA oB ep
  go_wp2_with fail
  refine (HS.out ()).mono ?_
  rintro e w3 ⟨rfl, b3⟩
  have HF : Hid (PlayQ W1 B wb hold (n + 1) w3) := PlayQ.same ((HW.out _).1.later b3) hn ((HW.out _).2.1.trans (b3.mono (HW.out _).2.2.1))
  clear b3 HS
  go_wp2
  go_ret
  exact ⟨rfl, HF.out.from H1.out.2.1⟩
theorem law_play8m2 (w : World) (B wb : Nat) (hold : Int) (l : WL) (qv av : Value) (s : WS) (of_ o1 o2 : Int) (n : Nat) (h : St4 w B wb hold l qv av s) (hn : s.ms.length ≤ n) (hB : B ≤ w.heap.size) (k : Nat) (m : PM) (hk : s.ms[k]? = some m) (hkd : m.kd = 2) (ho : o1 = (k : Int)) (hnl : n ≤ 1048576) : Calls Tryz.prog 59 #[.pointer (some ⟨wb, 0, none⟩), .agg #[.int .i64 8, .int .i64 of_, .int .i64 o1, .int .i64 o2]] w fun e w' => e = .returned (.bool true) ∧ PlayQ w B wb hold (n + 1) w' := by
  have g1 := heap_alloc_new w (.cells #[.int .i64 8, .int .i64 of_, .int .i64 o1, .int .i64 o2] 120)
  obtain ⟨W1, hW1⟩ : ∃ W, w.alloc (.cells #[.int .i64 8, .int .i64 of_, .int .i64 o1, .int .i64 o2] 120) = W := ⟨_, rfl⟩
  rw [hW1] at g1
  have hb1 : Below w.heap.size w W1 := by rw [← hW1]; exact (Below.refl _ _).alloc (Nat.le_refl _) _
  have h1 := h.later hb1
  have H1 : Hid (St4 W1 B wb hold l qv av s ∧ Below B w W1 ∧ B ≤ W1.heap.size ∧ W1.heap[w.heap.size]? = some (.cells #[.int .i64 8, .int .i64 of_, .int .i64 o1, .int .i64 o2] 120) ∧ ∀ g, sF wb l qv av s g → g ≠ w.heap.size) := ⟨h1, hb1.mono hB, Nat.le_trans hB hb1.size, g1, fun g hg e => by have := (h.low g hg).2; omega⟩
  have o0 : W1.cell? ⟨w.heap.size, 0, none⟩ = some (.int .i64 8) := (cell?_heap g1 0).trans rfl
  have oF : W1.cell? ⟨w.heap.size, 1, none⟩ = some (.int .i64 of_) := (cell?_heap g1 1).trans rfl
  have oA : W1.cell? ⟨w.heap.size, 2, none⟩ = some (.int .i64 o1) := (cell?_heap g1 2).trans rfl
  have oB : W1.cell? ⟨w.heap.size, 3, none⟩ = some (.int .i64 o2) := (cell?_heap g1 3).trans rfl
  subst ho
  have ep : pmC m = [.int .i64 2, .pointer none, .pointer (some ⟨m.pb, 0, none⟩), .pointer none, .pointer none, .pointer (some ⟨m.rb, 0, none⟩), .pointer none] := by unfold pmC; rw [hkd]; rfl
  have HA : Hid (∀ _ : Unit, _) := fun _ => law_machine2 W1 B wb hold l qv av s k m h1 hk hkd (by omega)
  clear h h1 g1 hb1
  go_enter Tryz.func59, Tryz.ntmps59
  go_wp2_with fail
  clear hW1
  refine (HA.out ()).mono ?_
  rintro e w2 ⟨rfl, b2⟩
  have p0 := (b2.cell (p := ⟨w.heap.size, 0, none⟩) (lt_heap H1.out.2.2.2.1)).trans o0
  have HL : Hid (w.heap.size < w2.heap.size) := Nat.lt_of_lt_of_le (lt_heap H1.out.2.2.2.1) b2.size
  have HW : Hid (∀ o, St4 (w2.alloc o) B wb hold l qv av s ∧ Below B W1 (w2.alloc o) ∧ B ≤ (w2.alloc o).heap.size ∧ (w2.alloc o).cell? ⟨w.heap.size, 0, none⟩ = some (.int .i64 8)) := fun o => by
    have b3 : Below W1.heap.size W1 (w2.alloc o) := b2.alloc b2.size _
    exact ⟨H1.out.1.later b3, b3.mono H1.out.2.2.1, Nat.le_trans H1.out.2.2.1 b3.size, (b3.cell (p := ⟨w.heap.size, 0, none⟩) (lt_heap H1.out.2.2.2.1)).trans o0⟩
  have HS : Hid (∀ _ : Unit, _) := fun _ => law_ask2 (w2.alloc (.cells #[.int .i64 2, .pointer none, .pointer (some ⟨m.pb, 0, none⟩), .pointer none, .pointer none, .pointer (some ⟨m.rb, 0, none⟩), .pointer none] 188)) B wb hold l qv av s k m (HW.out _).1 hk hkd
  skip
  have p1 := (HW.out (.cells #[.int .i64 2, .pointer none, .pointer (some ⟨m.pb, 0, none⟩), .pointer none, .pointer none, .pointer (some ⟨m.rb, 0, none⟩), .pointer none] 188)).2.2.2
  clear b2 HA o0 oF oA oB ep
  go_wp2_with fail
  refine (HS.out ()).mono ?_
  rintro e w3 ⟨rfl, b3⟩
  have HF : Hid (PlayQ W1 B wb hold (n + 1) w3) := PlayQ.same ((HW.out _).1.later b3) hn ((HW.out _).2.1.trans (b3.mono (HW.out _).2.2.1))
  clear b3 HS
  go_wp2
  go_ret
  exact ⟨rfl, HF.out.from H1.out.2.1⟩
theorem law_play8m4 (w : World) (B wb : Nat) (hold : Int) (l : WL) (qv av : Value) (s : WS) (of_ o1 o2 : Int) (n : Nat) (h : St4 w B wb hold l qv av s) (hn : s.ms.length ≤ n) (hB : B ≤ w.heap.size) (k : Nat) (m : PM) (hk : s.ms[k]? = some m) (hkd : m.kd = 4) (ho : o1 = (k : Int)) (hnl : n ≤ 1048576) : Calls Tryz.prog 59 #[.pointer (some ⟨wb, 0, none⟩), .agg #[.int .i64 8, .int .i64 of_, .int .i64 o1, .int .i64 o2]] w fun e w' => e = .returned (.bool true) ∧ PlayQ w B wb hold (n + 1) w' := by
  have g1 := heap_alloc_new w (.cells #[.int .i64 8, .int .i64 of_, .int .i64 o1, .int .i64 o2] 120)
  obtain ⟨W1, hW1⟩ : ∃ W, w.alloc (.cells #[.int .i64 8, .int .i64 of_, .int .i64 o1, .int .i64 o2] 120) = W := ⟨_, rfl⟩
  rw [hW1] at g1
  have hb1 : Below w.heap.size w W1 := by rw [← hW1]; exact (Below.refl _ _).alloc (Nat.le_refl _) _
  have h1 := h.later hb1
  have H1 : Hid (St4 W1 B wb hold l qv av s ∧ Below B w W1 ∧ B ≤ W1.heap.size ∧ W1.heap[w.heap.size]? = some (.cells #[.int .i64 8, .int .i64 of_, .int .i64 o1, .int .i64 o2] 120) ∧ ∀ g, sF wb l qv av s g → g ≠ w.heap.size) := ⟨h1, hb1.mono hB, Nat.le_trans hB hb1.size, g1, fun g hg e => by have := (h.low g hg).2; omega⟩
  have o0 : W1.cell? ⟨w.heap.size, 0, none⟩ = some (.int .i64 8) := (cell?_heap g1 0).trans rfl
  have oF : W1.cell? ⟨w.heap.size, 1, none⟩ = some (.int .i64 of_) := (cell?_heap g1 1).trans rfl
  have oA : W1.cell? ⟨w.heap.size, 2, none⟩ = some (.int .i64 o1) := (cell?_heap g1 2).trans rfl
  have oB : W1.cell? ⟨w.heap.size, 3, none⟩ = some (.int .i64 o2) := (cell?_heap g1 3).trans rfl
  subst ho
  have ep : pmC m = [.int .i64 4, .pointer none, .pointer none, .pointer (some ⟨m.pb, 0, none⟩), .pointer none, .pointer none, .pointer (some ⟨m.rb, 0, none⟩)] := by unfold pmC; rw [hkd]; rfl
  have HA : Hid (∀ _ : Unit, _) := fun _ => law_machine4 W1 B wb hold l qv av s k m h1 hk hkd (by omega)
  clear h h1 g1 hb1
  go_enter Tryz.func59, Tryz.ntmps59
  go_wp2_with fail
  clear hW1
  refine (HA.out ()).mono ?_
  rintro e w2 ⟨rfl, b2⟩
  have p0 := (b2.cell (p := ⟨w.heap.size, 0, none⟩) (lt_heap H1.out.2.2.2.1)).trans o0
  have HL : Hid (w.heap.size < w2.heap.size) := Nat.lt_of_lt_of_le (lt_heap H1.out.2.2.2.1) b2.size
  have HW : Hid (∀ o, St4 (w2.alloc o) B wb hold l qv av s ∧ Below B W1 (w2.alloc o) ∧ B ≤ (w2.alloc o).heap.size ∧ (w2.alloc o).cell? ⟨w.heap.size, 0, none⟩ = some (.int .i64 8)) := fun o => by
    have b3 : Below W1.heap.size W1 (w2.alloc o) := b2.alloc b2.size _
    exact ⟨H1.out.1.later b3, b3.mono H1.out.2.2.1, Nat.le_trans H1.out.2.2.1 b3.size, (b3.cell (p := ⟨w.heap.size, 0, none⟩) (lt_heap H1.out.2.2.2.1)).trans o0⟩
  have HS : Hid (∀ _ : Unit, _) := fun _ => law_ask4 (w2.alloc (.cells #[.int .i64 4, .pointer none, .pointer none, .pointer (some ⟨m.pb, 0, none⟩), .pointer none, .pointer none, .pointer (some ⟨m.rb, 0, none⟩)] 188)) B wb hold l qv av s k m (HW.out _).1 hk hkd
  skip
  have p1 := (HW.out (.cells #[.int .i64 4, .pointer none, .pointer none, .pointer (some ⟨m.pb, 0, none⟩), .pointer none, .pointer none, .pointer (some ⟨m.rb, 0, none⟩)] 188)).2.2.2
  clear b2 HA o0 oF oA oB ep
  go_wp2_with fail
  refine (HS.out ()).mono ?_
  rintro e w3 ⟨rfl, b3⟩
  have HF : Hid (PlayQ W1 B wb hold (n + 1) w3) := PlayQ.same ((HW.out _).1.later b3) hn ((HW.out _).2.1.trans (b3.mono (HW.out _).2.2.1))
  clear b3 HS
  go_wp2
  go_ret
  exact ⟨rfl, HF.out.from H1.out.2.1⟩
theorem law_play9 (w : World) (B wb : Nat) (hold : Int) (l : WL) (qv av : Value) (s : WS) (of_ o1 o2 : Int) (n : Nat) (h : St4 w B wb hold l qv av s) (hn : s.ms.length ≤ n) (hB : B ≤ w.heap.size) : Calls Tryz.prog 59 #[.pointer (some ⟨wb, 0, none⟩), .agg #[.int .i64 9, .int .i64 of_, .int .i64 o1, .int .i64 o2]] w fun e w' => e = .returned (.bool true) ∧ PlayQ w B wb hold (n + 1) w' := by
  have g1 := heap_alloc_new w (.cells #[.int .i64 9, .int .i64 of_, .int .i64 o1, .int .i64 o2] 120)
  obtain ⟨W1, hW1⟩ : ∃ W, w.alloc (.cells #[.int .i64 9, .int .i64 of_, .int .i64 o1, .int .i64 o2] 120) = W := ⟨_, rfl⟩
  rw [hW1] at g1
  have hb1 : Below w.heap.size w W1 := by rw [← hW1]; exact (Below.refl _ _).alloc (Nat.le_refl _) _
  have h1 := h.later hb1
  have H1 : Hid (St4 W1 B wb hold l qv av s ∧ Below B w W1 ∧ B ≤ W1.heap.size ∧ W1.heap[w.heap.size]? = some (.cells #[.int .i64 9, .int .i64 of_, .int .i64 o1, .int .i64 o2] 120) ∧ ∀ g, sF wb l qv av s g → g ≠ w.heap.size) := ⟨h1, hb1.mono hB, Nat.le_trans hB hb1.size, g1, fun g hg e => by have := (h.low g hg).2; omega⟩
  have o0 : W1.cell? ⟨w.heap.size, 0, none⟩ = some (.int .i64 9) := (cell?_heap g1 0).trans rfl
  have oF : W1.cell? ⟨w.heap.size, 1, none⟩ = some (.int .i64 of_) := (cell?_heap g1 1).trans rfl
  have oA : W1.cell? ⟨w.heap.size, 2, none⟩ = some (.int .i64 o1) := (cell?_heap g1 2).trans rfl
  have oB : W1.cell? ⟨w.heap.size, 3, none⟩ = some (.int .i64 o2) := (cell?_heap g1 3).trans rfl
  obtain ⟨i, hi, hI⟩ : ∃ i : Nat, i < 2 ∧ bits BinOp.and IntKind.i64 of_ 1 = (i : Int) := ⟨(of_ % 2).toNat, by omega, by rw [i64_and1]; omega⟩
  have HA : Hid (∀ _ : Unit, _) := fun _ => law_look W1 B wb hold l qv av s i o1 h1 hi H1.out.2.2.1
  clear h h1 g1 hb1
  go_enter Tryz.func59, Tryz.ntmps59
  go_wp2_with fail
  clear hW1
  refine (HA.out ()).mono ?_
  rintro e w2 ⟨rfl, h2, k2⟩
  have HF : Hid (PlayQ W1 B wb hold (n + 1) w2) := PlayQ.same h2 hn (keepsB H1.out.1 k2 H1.out.2.2.1)
  clear h2 k2 HA o0 oF oA oB
  go_wp2
  go_ret
  exact ⟨rfl, HF.out.from H1.out.2.1⟩
theorem law_play10 (w : World) (B wb : Nat) (hold : Int) (l : WL) (qv av : Value) (s : WS) (of_ o1 o2 : Int) (n : Nat) (h : St4 w B wb hold l qv av s) (hn : s.ms.length ≤ n) (hB : B ≤ w.heap.size) : Calls Tryz.prog 59 #[.pointer (some ⟨wb, 0, none⟩), .agg #[.int .i64 10, .int .i64 of_, .int .i64 o1, .int .i64 o2]] w fun e w' => e = .returned (.bool true) ∧ PlayQ w B wb hold (n + 1) w' := by
  have g1 := heap_alloc_new w (.cells #[.int .i64 10, .int .i64 of_, .int .i64 o1, .int .i64 o2] 120)
  obtain ⟨W1, hW1⟩ : ∃ W, w.alloc (.cells #[.int .i64 10, .int .i64 of_, .int .i64 o1, .int .i64 o2] 120) = W := ⟨_, rfl⟩
  rw [hW1] at g1
  have hb1 : Below w.heap.size w W1 := by rw [← hW1]; exact (Below.refl _ _).alloc (Nat.le_refl _) _
  have h1 := h.later hb1
  have H1 : Hid (St4 W1 B wb hold l qv av s ∧ Below B w W1 ∧ B ≤ W1.heap.size ∧ W1.heap[w.heap.size]? = some (.cells #[.int .i64 10, .int .i64 of_, .int .i64 o1, .int .i64 o2] 120) ∧ ∀ g, sF wb l qv av s g → g ≠ w.heap.size) := ⟨h1, hb1.mono hB, Nat.le_trans hB hb1.size, g1, fun g hg e => by have := (h.low g hg).2; omega⟩
  have o0 : W1.cell? ⟨w.heap.size, 0, none⟩ = some (.int .i64 10) := (cell?_heap g1 0).trans rfl
  have oF : W1.cell? ⟨w.heap.size, 1, none⟩ = some (.int .i64 of_) := (cell?_heap g1 1).trans rfl
  have oA : W1.cell? ⟨w.heap.size, 2, none⟩ = some (.int .i64 o1) := (cell?_heap g1 2).trans rfl
  have oB : W1.cell? ⟨w.heap.size, 3, none⟩ = some (.int .i64 o2) := (cell?_heap g1 3).trans rfl
  have HA : Hid (∀ _ : Unit, _) := fun _ => law_counts W1 B wb hold l qv av s h1 H1.out.2.2.1
  clear h h1 g1 hb1
  go_enter Tryz.func59, Tryz.ntmps59
  go_wp2_with fail
  clear hW1
  refine (HA.out ()).mono ?_
  rintro e w2 ⟨rfl, h2, k2⟩
  have HF : Hid (PlayQ W1 B wb hold (n + 1) w2) := PlayQ.same h2 hn (keepsB H1.out.1 k2 H1.out.2.2.1)
  clear h2 k2 HA o0 oF oA oB
  go_wp2
  go_ret
  exact ⟨rfl, HF.out.from H1.out.2.1⟩
theorem law_play11 (w : World) (B wb : Nat) (hold : Int) (l : WL) (qv av : Value) (s : WS) (of_ o1 o2 : Int) (n : Nat) (h : St4 w B wb hold l qv av s) (hn : s.ms.length ≤ n) (hB : B ≤ w.heap.size) : Calls Tryz.prog 59 #[.pointer (some ⟨wb, 0, none⟩), .agg #[.int .i64 11, .int .i64 of_, .int .i64 o1, .int .i64 o2]] w fun e w' => e = .returned (.bool true) ∧ PlayQ w B wb hold (n + 1) w' := by
  have g1 := heap_alloc_new w (.cells #[.int .i64 11, .int .i64 of_, .int .i64 o1, .int .i64 o2] 120)
  obtain ⟨W1, hW1⟩ : ∃ W, w.alloc (.cells #[.int .i64 11, .int .i64 of_, .int .i64 o1, .int .i64 o2] 120) = W := ⟨_, rfl⟩
  rw [hW1] at g1
  have hb1 : Below w.heap.size w W1 := by rw [← hW1]; exact (Below.refl _ _).alloc (Nat.le_refl _) _
  have h1 := h.later hb1
  have H1 : Hid (St4 W1 B wb hold l qv av s ∧ Below B w W1 ∧ B ≤ W1.heap.size ∧ W1.heap[w.heap.size]? = some (.cells #[.int .i64 11, .int .i64 of_, .int .i64 o1, .int .i64 o2] 120) ∧ ∀ g, sF wb l qv av s g → g ≠ w.heap.size) := ⟨h1, hb1.mono hB, Nat.le_trans hB hb1.size, g1, fun g hg e => by have := (h.low g hg).2; omega⟩
  have o0 : W1.cell? ⟨w.heap.size, 0, none⟩ = some (.int .i64 11) := (cell?_heap g1 0).trans rfl
  have oF : W1.cell? ⟨w.heap.size, 1, none⟩ = some (.int .i64 of_) := (cell?_heap g1 1).trans rfl
  have oA : W1.cell? ⟨w.heap.size, 2, none⟩ = some (.int .i64 o1) := (cell?_heap g1 2).trans rfl
  have oB : W1.cell? ⟨w.heap.size, 3, none⟩ = some (.int .i64 o2) := (cell?_heap g1 3).trans rfl
  have HA : Hid (∀ _ : Unit, _) := fun _ => law_peek W1 B wb hold l qv av s o1 h1 H1.out.2.2.1
  clear h h1 g1 hb1
  go_enter Tryz.func59, Tryz.ntmps59
  go_wp2_with fail
  clear hW1
  refine (HA.out ()).mono ?_
  rintro e w2 ⟨rfl, h2, k2⟩
  have HF : Hid (PlayQ W1 B wb hold (n + 1) w2) := PlayQ.same h2 hn (keepsB H1.out.1 k2 H1.out.2.2.1)
  clear h2 k2 HA o0 oF oA oB
  go_wp2
  go_ret
  exact ⟨rfl, HF.out.from H1.out.2.1⟩
theorem law_playx (w : World) (B wb : Nat) (hold : Int) (l : WL) (qv av : Value) (s : WS) (kd of_ o1 o2 : Int) (n : Nat) (h : St4 w B wb hold l qv av s) (hn : s.ms.length ≤ n) (hB : B ≤ w.heap.size) (k1 : ¬ kd = 1) (k2 : ¬ kd = 2) (k3 : ¬ kd = 3) (k4 : ¬ kd = 4) (k5 : ¬ kd = 5) (k6 : ¬ kd = 6) (k7 : ¬ kd = 7) (k8 : ¬ kd = 8) (k9 : ¬ kd = 9) (k10 : ¬ kd = 10) (k11 : ¬ kd = 11) : Calls Tryz.prog 59 #[.pointer (some ⟨wb, 0, none⟩), .agg #[.int .i64 kd, .int .i64 of_, .int .i64 o1, .int .i64 o2]] w fun e w' => e = .returned (.bool true) ∧ PlayQ w B wb hold (n + 1) w' := by
  have g1 := heap_alloc_new w (.cells #[.int .i64 kd, .int .i64 of_, .int .i64 o1, .int .i64 o2] 120)
  obtain ⟨W1, hW1⟩ : ∃ W, w.alloc (.cells #[.int .i64 kd, .int .i64 of_, .int .i64 o1, .int .i64 o2] 120) = W := ⟨_, rfl⟩
  rw [hW1] at g1
  have hb1 : Below w.heap.size w W1 := by rw [← hW1]; exact (Below.refl _ _).alloc (Nat.le_refl _) _
  have h1 := h.later hb1
  have H1 : Hid (St4 W1 B wb hold l qv av s ∧ Below B w W1 ∧ B ≤ W1.heap.size ∧ W1.heap[w.heap.size]? = some (.cells #[.int .i64 kd, .int .i64 of_, .int .i64 o1, .int .i64 o2] 120) ∧ ∀ g, sF wb l qv av s g → g ≠ w.heap.size) := ⟨h1, hb1.mono hB, Nat.le_trans hB hb1.size, g1, fun g hg e => by have := (h.low g hg).2; omega⟩
  have o0 : W1.cell? ⟨w.heap.size, 0, none⟩ = some (.int .i64 kd) := (cell?_heap g1 0).trans rfl
  have oF : W1.cell? ⟨w.heap.size, 1, none⟩ = some (.int .i64 of_) := (cell?_heap g1 1).trans rfl
  have oA : W1.cell? ⟨w.heap.size, 2, none⟩ = some (.int .i64 o1) := (cell?_heap g1 2).trans rfl
  have oB : W1.cell? ⟨w.heap.size, 3, none⟩ = some (.int .i64 o2) := (cell?_heap g1 3).trans rfl
  have HF : Hid (PlayQ W1 B wb hold (n + 1) W1) := PlayQ.same h1 hn (Below.refl _ _)
  clear h h1 g1 hb1
  go_enter Tryz.func59, Tryz.ntmps59
  go_wp2
  go_ret
  exact ⟨rfl, HF.out.from H1.out.2.1⟩
theorem law_play (w : World) (B wb : Nat) (hold : Int) (l : WL) (qv av : Value) (s : WS) (kd of_ o1 o2 : Int) (n : Nat) (h : St4 w B wb hold l qv av s) (hn : s.ms.length ≤ n) (hB : B ≤ w.heap.size) (hnl : n ≤ 1048576) : Calls Tryz.prog 59 #[.pointer (some ⟨wb, 0, none⟩), .agg #[.int .i64 kd, .int .i64 of_, .int .i64 o1, .int .i64 o2]] w fun e w' => e = .returned (.bool true) ∧ PlayQ w B wb hold (n + 1) w' := by
  by_cases k1 : kd = 1
  · subst k1
    cases hq : s.Q with
    | nil => exact law_play1f w B wb hold l qv av s of_ o1 o2 n h hn hB hq
    | cons k Q => exact law_play1 w B wb hold l qv av s of_ o1 o2 n h hn hB k Q hq
  by_cases k2 : kd = 2
  · subst k2
    cases hl : liv s.S o1 with
    | true => exact law_play2 w B wb hold l qv av s of_ o1 o2 n h hn hB hl
    | false => exact law_play2n w B wb hold l qv av s of_ o1 o2 n h hn hB hl
  by_cases k3 : kd = 3
  · subst k3
    exact law_play3 w B wb hold l qv av s of_ o1 o2 n h hn hB hnl
  by_cases k4 : kd = 4
  · subst k4
    exact law_play4 w B wb hold l qv av s of_ o1 o2 n h hn hB hnl
  by_cases k5 : kd = 5
  · subst k5
    exact law_play5 w B wb hold l qv av s of_ o1 o2 n h hn hB hnl
  by_cases k6 : kd = 6
  · subst k6
    exact law_play6 w B wb hold l qv av s of_ o1 o2 n h hn hB hnl
  by_cases k7 : kd = 7
  · subst k7
    by_cases hm : o1 < 0 ∨ (s.ms.length : Int) ≤ o1
    · exact law_play7n w B wb hold l qv av s of_ o1 o2 n h hn hB hm
    · obtain ⟨k, hk⟩ : ∃ k : Nat, o1 = (k : Int) := ⟨o1.toNat, by omega⟩
      have hkl : k < s.ms.length := by omega
      have hkm : s.ms[k]? = some s.ms[k] := List.getElem?_eq_getElem hkl
      rcases (h.b.m _ (List.getElem_mem hkl)).1 with e | e | e
      · exact law_play7m1 w B wb hold l qv av s of_ o1 o2 n h hn hB k _ hkm e.1 hk hnl
      · exact law_play7m2 w B wb hold l qv av s of_ o1 o2 n h hn hB k _ hkm e.1 hk hnl
      · exact law_play7m4 w B wb hold l qv av s of_ o1 o2 n h hn hB k _ hkm e.1 hk hnl
  by_cases k8 : kd = 8
  · subst k8
    by_cases hm : o1 < 0 ∨ (s.ms.length : Int) ≤ o1
    · exact law_play8n w B wb hold l qv av s of_ o1 o2 n h hn hB hm
    · obtain ⟨k, hk⟩ : ∃ k : Nat, o1 = (k : Int) := ⟨o1.toNat, by omega⟩
      have hkl : k < s.ms.length := by omega
      have hkm : s.ms[k]? = some s.ms[k] := List.getElem?_eq_getElem hkl
      rcases (h.b.m _ (List.getElem_mem hkl)).1 with e | e | e
      · exact law_play8m1 w B wb hold l qv av s of_ o1 o2 n h hn hB k _ hkm e.1 hk hnl
      · exact law_play8m2 w B wb hold l qv av s of_ o1 o2 n h hn hB k _ hkm e.1 hk hnl
      · exact law_play8m4 w B wb hold l qv av s of_ o1 o2 n h hn hB k _ hkm e.1 hk hnl
  by_cases k9 : kd = 9
  · subst k9
    exact law_play9 w B wb hold l qv av s of_ o1 o2 n h hn hB
  by_cases k10 : kd = 10
  · subst k10
    exact law_play10 w B wb hold l qv av s of_ o1 o2 n h hn hB
  by_cases k11 : kd = 11
  · subst k11
    exact law_play11 w B wb hold l qv av s of_ o1 o2 n h hn hB
  exact law_playx w B wb hold l qv av s kd of_ o1 o2 n h hn hB k1 k2 k3 k4 k5 k6 k7 k8 k9 k10 k11
end Go.Proofs.YtdjklcmkcccpeaaGreat
