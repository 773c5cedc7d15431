import Derived.Test.YteekompojgbkhaaGreatKBmN
import Derived.Test.YteekompojgbkhaaGreatKBmM
namespace Go.Proofs.YteekompojgbkhaaGreat
set_option linter.unusedSimpArgs false
open Go.ChangeShapes Go.WideShapes Go.ChangeAt Go.RowKit Go.MuLone Go.RwLone
set_option linter.unusedVariables false
set_option maxRecDepth 100000
set_option maxHeartbeats 6400000
/-- A machine of kind 0 does not begin. -/
theorem bk_start0n (w : World) (l : BkL) (bb N nb sn : Nat) (y z a : Int) (av : Value) (R1 : World → Prop) (a0 : -9223372036854775808 ≤ a) (a1 : a ≤ 9223372036854775807) (N0 : 1 ≤ N) (N1 : N ≤ 4096) (hs : 1 + a % (N : Int) = (sn : Int)) (hy : ¬ y = 0)
    (F0 : R1 ((w.alloc (.cells #[.int .i64 0, .int .i64 a] 40)).drew))
    (F1 : ∀ W, R1 W → RdS W l bb N nb av ∧ W.cell? ⟨l.ib, sn, none⟩ = some (.int .i64 y) ∧ W.cell? ⟨l.rb, sn, none⟩ = some (.int .i64 z)) :
    Calls Tryz.prog 13 #[.pointer (some ⟨bb, 0, none⟩), .agg #[.int .i64 0, .int .i64 a]] w fun e w' => e = .returned (.tuple #[]) ∧ R1 w' := by
  have HF0 : Hid (∀ _ : Unit, _) := fun _ => F0
  have HF1 : Hid (∀ _ : Unit, _) := fun _ => F1
  have g1 := heap_alloc_new w (.cells #[.int .i64 0, .int .i64 a] 40)
  have n0 := Int.emod_nonneg a (show (N : Int) ≠ 0 by omega)
  have n1 := Int.emod_lt_of_pos a (show (0 : Int) < (N : Int) by omega)
  obtain ⟨r1, _⟩ := F1 _ F0
  have sx : (w.alloc (.cells #[.int .i64 0, .int .i64 a] 40)).drew.cell? ⟨w.heap.size, 1, none⟩ = some (.int .i64 a) ∧ (w.alloc (.cells #[.int .i64 0, .int .i64 a] 40)).drew.cell? ⟨bb, 2, none⟩ = some (.int .i64 (N : Int)) ∧ (w.alloc (.cells #[.int .i64 0, .int .i64 a] 40)).drew.cell? ⟨w.heap.size, 0, none⟩ = some (.int .i64 0) := ⟨(cell?_heap g1 1).trans rfl, r1.b2, (cell?_heap g1 0).trans rfl⟩
  obtain ⟨rr, hrr⟩ : ∃ x, a % (N : Int) = x := ⟨_, rfl⟩
  have HM : Hid (∀ W, Calls Tryz.prog 14 #[.int .i64 a, .int .i64 (N : Int)] W fun e w' => e = .returned (.int .i64 rr) ∧ w' = W) := fun W => by
    have := bk_mod a (N : Int) W a0 a1 (by omega) (by omega)
    rw [hrr] at this
    exact this
  rw [hrr] at hs n0 n1
  have hw : IntKind.i64.wrap (1 + rr) = (sn : Int) := by rw [IntKind.wrap_i64, hs]; omega
  have hsn0 : (0 : Int) ≤ (sn : Int) := by omega
  have hsn1 : (sn : Int) < ((N + 1 : Nat) : Int) := by omega
  clear F0 F1 r1 g1 hrr hs
  go_enter Tryz.func13, Tryz.ntmps13
  go_wp2_with fail
  (refine wp_region_held_drew (S := (fun Z => Z.cell? ⟨w.heap.size, 1, none⟩ = some (.int .i64 a) ∧ Z.cell? ⟨bb, 2, none⟩ = some (.int .i64 (N : Int)) ∧ Z.cell? ⟨w.heap.size, 0, none⟩ = some (.int .i64 0))) (by kernel_rfl) sx (fun hHeld => ?_); simp only [List.size_toArray, List.length_cons, List.length_nil, Nat.reduceAdd, Array.replicate_succ, Array.replicate_zero, List.push_toArray, List.append_toArray, List.nil_append, List.cons_append])
  clear sx
  generalize (w.alloc (.cells #[.int .i64 0, .int .i64 a] 40)).drew = wd at *
  refine rgT 0 (h := ?_)
  refine rgT 1 (h := ?_)
  refine rgT 2 (h := ?_)
  refine rgT 3 (h := ?_)
  refine rgT 4 (h := ?_)
  refine rgT 5 (h := ?_)
  (refine rgS 6 (h := fun K hK => ?_); go_simp)
  refine (HM.out _).mono ?_
  rintro e w9 ⟨rfl, hw9⟩
  rw [hw9]
  clear hw9 w9
  (refine hK.out _ _ hHeld (fun hHeld => ?_); clear hK K; try simp only [Act.put, List.setIfInBounds_toArray, List.set_cons_zero, List.set_cons_succ])
  refine rgT 7 (h := ?_)
  refine rgT 8 (h := ?_)
  refine wpAnyH_done (by kernel_rfl) ?_ _
  have hk0 := hHeld.2.2
  clear hHeld
  obtain ⟨r1, ci, cr⟩ := HF1.out () wd (HF0.out ())
  have b4 := r1.b4
  have b5 := r1.b5
  have HR : Hid (R1 wd) := HF0.out ()
  clear r1 HF0 HF1 HM
  have e1 : (y == 0) = false := beq_eq_false_iff_ne.2 hy
  clear hy cr b5
  go_wp2
  exact ⟨rfl, .tuple #[], by simp [results, Tryz.results13], rfl, HR.out⟩
/-- A machine of kind 1 does not begin. -/
theorem bk_start1n (w : World) (l : BkL) (bb N nb sn : Nat) (y z a : Int) (av : Value) (R1 : World → Prop) (a0 : -9223372036854775808 ≤ a) (a1 : a ≤ 9223372036854775807) (N0 : 1 ≤ N) (N1 : N ≤ 4096) (hs : 1 + a % (N : Int) = (sn : Int)) (hy : y = 2 → ¬ z = 0)
    (F0 : R1 ((w.alloc (.cells #[.int .i64 1, .int .i64 a] 40)).drew))
    (F1 : ∀ W, R1 W → RdS W l bb N nb av ∧ W.cell? ⟨l.ib, sn, none⟩ = some (.int .i64 y) ∧ W.cell? ⟨l.rb, sn, none⟩ = some (.int .i64 z)) :
    Calls Tryz.prog 13 #[.pointer (some ⟨bb, 0, none⟩), .agg #[.int .i64 1, .int .i64 a]] w fun e w' => e = .returned (.tuple #[]) ∧ R1 w' := by
  have HF0 : Hid (∀ _ : Unit, _) := fun _ => F0
  have HF1 : Hid (∀ _ : Unit, _) := fun _ => F1
  have g1 := heap_alloc_new w (.cells #[.int .i64 1, .int .i64 a] 40)
  have n0 := Int.emod_nonneg a (show (N : Int) ≠ 0 by omega)
  have n1 := Int.emod_lt_of_pos a (show (0 : Int) < (N : Int) by omega)
  obtain ⟨r1, _⟩ := F1 _ F0
  have sx : (w.alloc (.cells #[.int .i64 1, .int .i64 a] 40)).drew.cell? ⟨w.heap.size, 1, none⟩ = some (.int .i64 a) ∧ (w.alloc (.cells #[.int .i64 1, .int .i64 a] 40)).drew.cell? ⟨bb, 2, none⟩ = some (.int .i64 (N : Int)) ∧ (w.alloc (.cells #[.int .i64 1, .int .i64 a] 40)).drew.cell? ⟨w.heap.size, 0, none⟩ = some (.int .i64 1) := ⟨(cell?_heap g1 1).trans rfl, r1.b2, (cell?_heap g1 0).trans rfl⟩
  obtain ⟨rr, hrr⟩ : ∃ x, a % (N : Int) = x := ⟨_, rfl⟩
  have HM : Hid (∀ W, Calls Tryz.prog 14 #[.int .i64 a, .int .i64 (N : Int)] W fun e w' => e = .returned (.int .i64 rr) ∧ w' = W) := fun W => by
    have := bk_mod a (N : Int) W a0 a1 (by omega) (by omega)
    rw [hrr] at this
    exact this
  rw [hrr] at hs n0 n1
  have hw : IntKind.i64.wrap (1 + rr) = (sn : Int) := by rw [IntKind.wrap_i64, hs]; omega
  have hsn0 : (0 : Int) ≤ (sn : Int) := by omega
  have hsn1 : (sn : Int) < ((N + 1 : Nat) : Int) := by omega
  clear F0 F1 r1 g1 hrr hs
  go_enter Tryz.func13, Tryz.ntmps13
  go_wp2_with fail
  (refine wp_region_held_drew (S := (fun Z => Z.cell? ⟨w.heap.size, 1, none⟩ = some (.int .i64 a) ∧ Z.cell? ⟨bb, 2, none⟩ = some (.int .i64 (N : Int)) ∧ Z.cell? ⟨w.heap.size, 0, none⟩ = some (.int .i64 1))) (by kernel_rfl) sx (fun hHeld => ?_); simp only [List.size_toArray, List.length_cons, List.length_nil, Nat.reduceAdd, Array.replicate_succ, Array.replicate_zero, List.push_toArray, List.append_toArray, List.nil_append, List.cons_append])
  clear sx
  generalize (w.alloc (.cells #[.int .i64 1, .int .i64 a] 40)).drew = wd at *
  refine rgT 0 (h := ?_)
  refine rgT 1 (h := ?_)
  refine rgT 2 (h := ?_)
  refine rgT 3 (h := ?_)
  refine rgT 4 (h := ?_)
  refine rgT 5 (h := ?_)
  (refine rgS 6 (h := fun K hK => ?_); go_simp)
  refine (HM.out _).mono ?_
  rintro e w9 ⟨rfl, hw9⟩
  rw [hw9]
  clear hw9 w9
  (refine hK.out _ _ hHeld (fun hHeld => ?_); clear hK K; try simp only [Act.put, List.setIfInBounds_toArray, List.set_cons_zero, List.set_cons_succ])
  refine rgT 7 (h := ?_)
  refine rgT 8 (h := ?_)
  refine wpAnyH_done (by kernel_rfl) ?_ _
  have hk0 := hHeld.2.2
  clear hHeld
  obtain ⟨r1, ci, cr⟩ := HF1.out () wd (HF0.out ())
  have b4 := r1.b4
  have b5 := r1.b5
  have HR : Hid (R1 wd) := HF0.out ()
  clear r1 HF0 HF1 HM
  by_cases h2 : y = 2
  · have hz := hy h2
    subst h2
    have e1 : (z == 0) = false := beq_eq_false_iff_ne.2 hz
    clear hy hz
    go_wp2
    exact ⟨rfl, .tuple #[], by simp [results, Tryz.results13], rfl, HR.out⟩
  · have e1 : (y == 2) = false := beq_eq_false_iff_ne.2 h2
    clear hy h2
    go_wp2
    exact ⟨rfl, .tuple #[], by simp [results, Tryz.results13], rfl, HR.out⟩
section
variable {w w' : World} {B bb : Nat} {l : BkL} {s : BkS}
/-- A machine more, the row of machines may lie elsewhere. -/
theorem BkM.pushT (h : BkM w B bb l s) (q : OL) (v' : Value) (k : Keeps (fun x => s.av.ownBlock = some x) w w') (ho : OwG olC 48 12 w' B v' (s.all ++ [q])) (hm : q.H w' l.X.x) (hd : OwI w' B q.dv q.o.t.due) (ht : OwI w' B q.mv q.o.t.met) (T' : Nat → Nat) (hT : ∀ x, s.T x ≠ 0 → T' x = s.T x) (hT0 : ∀ x, T' x ≠ 0 → B ≤ x ∧ x < w'.heap.size) (hv : ∀ g, v'.ownBlock = some g → T' g = 7) (h1 : T' q.mb = 8 + 4 * s.all.length) (h2 : ∀ g, q.dv.ownBlock = some g → T' g = 9 + 4 * s.all.length) (h3 : ∀ g, q.mv.ownBlock = some g → T' g = 10 + 4 * s.all.length) :
    BkM (w'.setCell ⟨bb, 9, none⟩ v') B bb l { s with av := v', all := s.all ++ [q], T := T' } := by
  have a1 : BkO w' B bb l s 7 := h.but 7 (k.mono (fun g hg => h.t7 g hg))
  have k2 : Keeps (fun x => s.T x = 2) w' (w'.setCell ⟨bb, 9, none⟩ v') := keepS bb 9 v' h.t2
  have n2 : ∀ x t, T' x = t → t ≠ 0 → t ≠ 2 → s.T x ≠ 2 := fun x t hx h0 h7 e => by
    have := hT x (by rw [e]; decide)
    rw [hx, e] at this
    exact h7 this
  have nI : ∀ {v : Value} {xs : List Int} (t : Nat), OwI w' B v xs → (∀ g, v.ownBlock = some g → s.T g = t) → t ≠ 2 → OwI (w'.setCell ⟨bb, 9, none⟩ v') B v xs := fun {v xs} t ho hh h2 => owK ho k2 (fun g hg e => h2 (by rw [← hh g hg]; exact e))
  have t2 := h.t2
  have t3 := h.t3
  have t4 := h.t4
  have t5 := h.t5
  have t6 := h.t6
  refine ⟨(a1.ch (by decide)).keeps k2 (fun g hg e => by have := h.t1 g hg; omega), heapSetC (a1.b (by decide)) 9 _, (a1.i (by decide)).keeps k2 (by omega), (a1.r (by decide)).keeps k2 (by omega), (a1.k (by decide)).keeps k2 (by omega), (a1.z (by decide)).keeps k2 (by omega),
    fun j hj => ⟨nI _ (a1.v j hj (by omega)).1 (h.t9 j hj) (by omega), (h.v j hj).2⟩, owK ho k2 (fun g hg e => n2 g 7 (hv g hg) (by decide) (by decide) e), fun j p hp => ?_, fun x hx => (hT x (by rw [h.t1 x hx]; decide)).trans (h.t1 x hx), (hT _ (by omega)).trans t2, (hT _ (by omega)).trans t3, (hT _ (by omega)).trans t4, (hT _ (by omega)).trans t5, (hT _ (by omega)).trans t6, hv, fun j p hp => ?_, fun j hj x hx => (hT x (by rw [h.t9 j hj x hx]; omega)).trans (h.t9 j hj x hx), fun x hx => ⟨(hT0 x hx).1, by simpa using (hT0 x hx).2⟩, fun g c t e => (k2.block _ (Array.getElem?_eq_some_iff.1 (a1.pp (by decide) g c t e)).1 (by have := h.tp g c t e; omega)).trans (a1.pp (by decide) g c t e), fun g c t e => (hT _ (by rw [h.tp g c t e]; decide)).trans (h.tp g c t e)⟩
  · rcases Nat.lt_or_ge j s.all.length with e | e
    · have hp : s.all[j]? = some p := by rw [← List.getElem?_append_left (l₂ := [q]) e]; exact hp
      have tt := h.t8 j p hp
      exact ⟨((a1.m j p hp).1 (by omega)).keeps k2 (by omega), nI _ ((a1.m j p hp).2.1 (by omega)) tt.2.1 (by omega), nI _ ((a1.m j p hp).2.2 (by omega)) tt.2.2 (by omega)⟩
    · have hp : (s.all ++ [q])[j]? = some p := hp
      rw [List.getElem?_append_right e] at hp
      have hj : j = s.all.length := by
        have := (List.getElem?_eq_some_iff.1 hp).1
        simp only [List.length_cons, List.length_nil] at this
        omega
      subst hj
      have hp : q = p := by simpa using hp
      subst hp
      exact ⟨hm.keeps k2 (n2 _ _ h1 (by omega) (by omega)), owK hd k2 (fun x hx => n2 x _ (h2 x hx) (by omega) (by omega)), owK ht k2 (fun x hx => n2 x _ (h3 x hx) (by omega) (by omega))⟩
  · rcases Nat.lt_or_ge j s.all.length with e | e
    · have hp : s.all[j]? = some p := by rw [← List.getElem?_append_left (l₂ := [q]) e]; exact hp
      have tt := h.t8 j p hp
      exact ⟨(hT _ (by omega)).trans tt.1, fun x hx => (hT x (by rw [tt.2.1 x hx]; omega)).trans (tt.2.1 x hx), fun x hx => (hT x (by rw [tt.2.2 x hx]; omega)).trans (tt.2.2 x hx)⟩
    · have hp : (s.all ++ [q])[j]? = some p := hp
      rw [List.getElem?_append_right e] at hp
      have hj : j = s.all.length := by
        have := (List.getElem?_eq_some_iff.1 hp).1
        simp only [List.length_cons, List.length_nil] at this
        omega
      subst hj
      have hp : q = p := by simpa using hp
      subst hp
      exact ⟨h1, h2, h3⟩
/-- The row of machines has grown by a machine just made. -/
theorem BkM.begun {w2 w3 w7 : World} {n cp b cap mb : Nat} {sp : Option Addr} (h : BkM w2 B bb l s) (hv : s.av = .slice sp n cp) (hn : s.all.length = n) (hmb : w2.heap.size = mb) (km : Keeps (fun _ => False) w2.drew w3) (hz : w3.heap.size = mb + 1) (o : On) (hm : OL.H w3 l.X.x ⟨o, mb, .slice none 0 0, .slice none 0 0⟩) (ho1 : o.t.due = []) (ho2 : o.t.met = []) (ho : OwG olC 48 12 w7 0 (.slice (some ⟨b, 0, none⟩) (n + 1) cap) (s.all ++ [⟨o, mb, .slice none 0 0, .slice none 0 0⟩])) (k7 : Keeps (fun x => (Value.slice sp n cp).ownBlock = some x) w3 w7) (hb : (Value.slice sp n cp).ownBlock = some b ∨ w3.heap.size ≤ b) :
    ∃ T', BkM (w7.setCell ⟨bb, 9, none⟩ (.slice (some ⟨b, 0, none⟩) (n + 1) cap)) B bb l { s with av := .slice (some ⟨b, 0, none⟩) (n + 1) cap, all := s.all ++ [⟨o, mb, .slice none 0 0, .slice none 0 0⟩], T := T' } ∧ BkM w3 B bb l s ∧ Below B w2 (w7.setCell ⟨bb, 9, none⟩ (.slice (some ⟨b, 0, none⟩) (n + 1) cap)) := by
  have k3 : Keeps (fun _ => False) w2 w3 := ((Keeps.refl (fun _ => False) _).drew).trans km
  have b3 := h.noC k3
  have hB := h.hB
  have Tmb : s.T mb = 0 := h.new0 mb (by omega)
  have hob : ∀ x, (Value.slice (some ⟨b, 0, none⟩) (n + 1) cap).ownBlock = some x → x = b := fun x hx => (Option.some.inj hx).symm
  have own7 : ∀ x, (Value.slice sp n cp).ownBlock = some x → s.T x = 7 := fun x hx => h.t7 x (by rw [hv]; exact hx)
  have bmb : b ≠ mb := by
    rcases hb with e | e
    · intro e2
      have := own7 b e
      rw [e2, Tmb] at this
      omega
    · omega
  have tb : s.T b = 7 ∨ s.T b = 0 := by
    rcases hb with e | e
    · exact .inl (own7 b e)
    · exact .inr (b3.new0 b e)
  have lb := World.ownsRow.lt ho b rfl
  have hbB : B ≤ b := by
    rcases hb with e | e
    · exact (h.tl b (by rw [own7 b e]; decide)).1
    · omega
  refine ⟨fun x => if x = mb then 8 + 4 * s.all.length else if x = b then 7 else s.T x, b3.pushT ⟨o, mb, .slice none 0 0, .slice none 0 0⟩ _ (by rw [hv]; exact k7) (owG_hi ho B (fun x hx => by rw [hob x hx]; exact hbB)) (hm.keeps k7 (fun e => by have := own7 mb e; omega)) (by rw [ho1]; exact OwG.nil _ _ _ _ _) (by rw [ho2]; exact OwG.nil _ _ _ _ _) _ (fun x hx => ?_) (fun x hx => ?_) (fun x hx => ?_) ?_ (fun x hx => by cases hx) (fun x hx => by cases hx), b3, ?_⟩
  · show (if x = mb then _ else if x = b then 7 else s.T x) = s.T x
    rw [if_neg (fun e => hx (by rw [e]; exact Tmb))]
    by_cases e : x = b
    · rw [if_pos e, e]
      rcases tb with t | t
      · exact t.symm
      · exact absurd (by rw [e]; exact t) hx
    · rw [if_neg e]
  · by_cases e1 : x = mb
    · rw [e1]
      have := k7.size
      exact ⟨by omega, by omega⟩
    · by_cases e2 : x = b
      · rw [e2]
        exact ⟨hbB, lb.2⟩
      · have hx : (if x = mb then 8 + 4 * s.all.length else if x = b then 7 else s.T x) ≠ 0 := hx
        rw [if_neg e1, if_neg e2] at hx
        have := b3.tl x hx
        exact ⟨this.1, Nat.lt_of_lt_of_le this.2 k7.size⟩
  · rw [hob x hx]
    show (if b = mb then _ else if b = b then 7 else _) = 7
    rw [if_neg bmb, if_pos rfl]
  · show (if mb = mb then _ else _) = _
    rw [if_pos rfl]
  · have bl : Below B w2 w7 := (k3.below hB (fun x hx e => e)).trans (k7.below b3.hB (fun x hx e => by have := (h.tl x (by rw [own7 x e]; decide)).1; omega))
    exact bl.setCell (p := ⟨bb, 9, none⟩) (h.tl bb (by rw [h.t2]; decide)).1 _
theorem BkM.rds7 {w7 : World} {n cp : Nat} {sp : Option Addr} (h : BkM w B bb l s) (hv : s.av = .slice sp n cp) (k7 : Keeps (fun x => (Value.slice sp n cp).ownBlock = some x) w w7) : RdS w7 l bb s.N s.nb (.slice sp n cp) := by
  have r := h.rds
  rw [hv] at r
  have nb : ¬ (Value.slice sp n cp).ownBlock = some bb := fun e => by
    have := h.t7 bb (by rw [hv]; exact e)
    have := h.t2
    omega
  have c : ∀ j, w7.cell? ⟨bb, j, none⟩ = w.cell? ⟨bb, j, none⟩ := fun j => k7.cell (p := ⟨bb, j, none⟩) h.lb nb
  exact ⟨(c 1).trans r.b1, (c 2).trans r.b2, (c 3).trans r.b3, (c 4).trans r.b4, (c 5).trans r.b5, (c 9).trans r.b9, fun j => (k7.frozen (p := ⟨bb, j, none⟩) h.lb nb).trans (r.fb j)⟩
end
/-- What is left when a machine was asked to begin. -/
def StNx (s : BkS) (kd : Nat) (s' : BkS) (G' : Gb) : Prop := BkJ s' G' ∧ s'.S = s.S ∧ s'.x = s.x ∧ s'.N = s.N ∧ s'.nb = s.nb ∧ s'.all.length ≤ s.all.length + 1 ∧ (kd = 2 → s'.all.length = s.all.length + 1)
theorem at_app {xs : List OL} {q p : OL} {j : Nat} (hp : (xs ++ [q])[j]? = some p) : p = q ∨ xs[j]? = some p := by
  rcases Nat.lt_or_ge j xs.length with e | e
  · rw [List.getElem?_append_left e] at hp
    exact .inr hp
  · rw [List.getElem?_append_right e] at hp
    have hj : j - xs.length = 0 := by
      have := (List.getElem?_eq_some_iff.1 hp).1
      simp only [List.length_cons, List.length_nil] at this
      omega
    rw [hj] at hp
    exact .inl (by simpa using hp.symm)
theorem bk_start (w : World) (B bb : Nat) (l : BkL) (s : BkS) (G : Gb) (kd : Nat) (a : Int) (h : BkM w B bb l s) (hJ : BkJ s G) (hkd : kd ≤ 2) (hl : s.all.length ≤ 1048575) (a0 : -9223372036854775808 ≤ a) (a1 : a ≤ 9223372036854775807) :
    Calls Tryz.prog 13 #[.pointer (some ⟨bb, 0, none⟩), .agg #[.int .i64 (kd : Int), .int .i64 a]] w fun e w' => e = .returned (.tuple #[]) ∧ ∃ s' G', BkM w' B bb l s' ∧ Below B w w' ∧ StNx s kd s' G' := by
  have n0 := hJ.n0
  have n1 := hJ.n1
  have hbk := bkO_in n1.1
  obtain ⟨sp, cp, hv⟩ := h.a.form
  obtain ⟨n, hn⟩ : ∃ n, s.all.length = n := ⟨_, rfl⟩
  rw [hn] at hv hl
  have hB := h.hB
  have m0 := Int.emod_nonneg a (show (s.N : Int) ≠ 0 by omega)
  have m1 := Int.emod_lt_of_pos a (show (0 : Int) < (s.N : Int) by omega)
  obtain ⟨sn, hsn⟩ : ∃ sn : Nat, 1 + a % (s.N : Int) = (sn : Int) := ⟨(1 + a % (s.N : Int)).toNat, by omega⟩
  have sN : 1 ≤ sn ∧ sn ≤ s.N := by omega
  have k0 := hbk (sn : Int)
  obtain ⟨k, hk⟩ : ∃ k : Nat, (sn : Int) % (s.nb : Int) = (k : Int) := ⟨((sn : Int) % (s.nb : Int)).toNat, by have : (sn : Int) % (s.nb : Int) = bkO s.nb (sn : Int) := rfl; omega⟩
  have al : ∀ kv : Int, BkM (w.alloc (.cells #[.int .i64 kv, .int .i64 a] 40)).drew B bb l s ∧ Below B w (w.alloc (.cells #[.int .i64 kv, .int .i64 a] 40)).drew := fun kv => by
    have ka : Keeps (fun _ => False) w (w.alloc (.cells #[.int .i64 kv, .int .i64 a] 40)).drew := ((Keeps.refl _ _).alloc _).drew
    exact ⟨h.noC ka, ka.below hB (fun x hx e => e)⟩
  have T3 := h.t3
  have T4 := h.t4
  have rd : ∀ W t, BkM W B bb l t → t.av = .slice sp n cp → t.N = s.N → t.nb = s.nb → RdS W l bb s.N s.nb (.slice sp n cp) := fun W t hW e1 e2 e3 => by
    have := hW.rds
    rw [e1, e2, e3] at this
    exact this
  rcases (by omega : kd = 0 ∨ kd = 1 ∨ kd = 2) with rfl | rfl | rfl
  · by_cases hy : s.ins (sn : Int) = 0
    · obtain ⟨s1, hs1⟩ : ∃ t : BkS, t = { s with ins := updI s.ins (sn : Int) 1 } := ⟨_, rfl⟩
      have f1 : s1.av = .slice sp n cp ∧ s1.N = s.N ∧ s1.nb = s.nb ∧ s1.all = s.all ∧ s1.T = s.T := by rw [hs1]; exact ⟨hv, rfl, rfl, rfl, rfl⟩
      refine (bk_start0 w l bb s.N s.nb n cp k sn 0 0 a sp s.all (fun W => BkM W B bb l s ∧ Below B w W) (fun W => BkM W B bb l s1 ∧ Below B w W) (fun W => ∃ s' G', BkM W B bb l s' ∧ Below B w W ∧ StNx s 0 s' G') a0 a1 n0.1 (by omega) n1.1 (by omega) hn hl hsn hk (al 0) ?_ ?_)
      · intro W hW
        refine ⟨rd W s hW.1 hv rfl rfl, ⟨(hW.1.i.c sn (by omega)).trans (by show some (Value.int .i64 (s.ins (sn : Int))) = _; rw [hy]), hW.1.i.f sn⟩, ?_, ?_⟩
        · rw [hs1]
          exact hW.1.setI sn sN.2 1
        · exact hW.1.belS hW.2 l.ib _ _ (by rw [T3]; decide)
      · intro W hW
        refine ⟨rd W s1 hW.1 f1.1 f1.2.1 f1.2.2.1, fun mb w3 hmb hm km hz => ?_⟩
        have b3 := hW.1.noC (((Keeps.refl (fun _ => False) _).drew).trans km)
        refine ⟨rd w3 s1 b3 f1.1 f1.2.1 f1.2.2.1, by have := b3.a; rw [f1.1, f1.2.2.2.1] at this; exact this.down (Nat.zero_le _), fun b cap w7 ho k7 hb => ?_⟩
        obtain ⟨T', c1, c2, c3⟩ := hW.1.begun f1.1 (by rw [f1.2.2.2.1]; exact hn) hmb km hz (onI (sn : Int) (k : Int)) ⟨fun _ => hm, fun e => (by cases e), fun e => (by cases e), by show mb < w3.heap.size; omega⟩ rfl rfl (by rw [f1.2.2.2.1]; exact ho) k7 hb
        have r7 := c2.rds7 f1.1 k7
        rw [f1.2.1, f1.2.2.1] at r7
        have r8 := c1.rds
        refine ⟨r7, by have e1 := f1.2.1; have e2 := f1.2.2.1; rw [← e1, ← e2]; exact r8, _, G.beg (sn : Int), c1, hW.2.trans c3, ?_⟩
        have hb0 := hJ.i.beg0 (onI (sn : Int) (k : Int)) (by show (1 : Int) ≤ (sn : Int); omega) (by show (sn : Int) ≤ (s.N : Int); omega) (by rw [hJ.e1]; exact hy) rfl rfl rfl rfl hk.symm
        have le : ∀ u, s.ins u = 2 → updI s.ins (sn : Int) 1 u = 2 ∧ s.rank u = s.rank u := fun u hu => ⟨(updI_ne _ _ (fun e => by rw [e, hy] at hu; omega)).trans hu, rfl⟩
        rw [hs1]
        refine ⟨⟨?_, ?_, hJ.e2, hJ.e3, hJ.e4, n0, n1, hJ.wd, fun i q hq e => ?_, fun i q hq e => ?_, fun i q hq => ?_, fun c => (hJ.rw c).to le, ?_⟩, rfl, rfl, rfl, rfl, ?_, fun e => by cases e⟩
        · show BkI _ _ _ _ _ _ _ ((s.all ++ [_]).map OL.o)
          rw [List.map_append]
          exact hb0
        · show updI G.ins (sn : Int) 1 = _
          rw [hJ.e1]
        · rcases at_app hq with e2 | e2
          · rw [e2]
            exact ⟨fun e => by have e : 1 ≤ 0 := e; omega, fun e => by have e : 0 = 2 := e; omega⟩
          · exact hJ.mi i q e2 e
        · rcases at_app hq with e2 | e2
          · rw [e2] at e
            cases e
          · exact hJ.mr i q e2 e
        · rcases at_app hq with e2 | e2
          · rw [e2]
            exact ⟨LOk.nil _ _ _, LOk.nil _ _ _⟩
          · exact ⟨(hJ.mw i q e2).1.to le, (hJ.mw i q e2).2.to le⟩
        · show RmAll s.N _ ((s.all ++ [_]).map OL.o)
          rw [List.map_append]
          exact hJ.un.app rfl rfl rfl (fun u hu => .inl hu) (fun e => by cases e)
        · show (s.all ++ [_]).length ≤ _
          simp
    · refine (bk_start0n w l bb s.N s.nb sn (s.ins (sn : Int)) (s.rem (sn : Int)) a s.av (fun W => BkM W B bb l s ∧ Below B w W) a0 a1 n0.1 (by omega) hsn hy (al 0) (fun W hW => ⟨hW.1.rds, hW.1.i.c sn (by omega), hW.1.r.c sn (by omega)⟩)).mono ?_
      rintro e W ⟨rfl, b1, b2⟩
      exact ⟨rfl, s, G, b1, b2, hJ, rfl, rfl, rfl, rfl, by omega, fun e => by cases e⟩
  · by_cases hy : s.ins (sn : Int) = 2 ∧ s.rem (sn : Int) = 0
    · obtain ⟨s1, hs1⟩ : ∃ t : BkS, t = { s with rem := updI s.rem (sn : Int) 1 } := ⟨_, rfl⟩
      have f1 : s1.av = .slice sp n cp ∧ s1.N = s.N ∧ s1.nb = s.nb ∧ s1.all = s.all ∧ s1.T = s.T := by rw [hs1]; exact ⟨hv, rfl, rfl, rfl, rfl⟩
      refine (bk_start1 w l bb s.N s.nb n cp k sn 0 0 a sp s.all (fun W => BkM W B bb l s ∧ Below B w W) (fun W => BkM W B bb l s1 ∧ Below B w W) (fun W => ∃ s' G', BkM W B bb l s' ∧ Below B w W ∧ StNx s 1 s' G') a0 a1 n0.1 (by omega) n1.1 (by omega) hn hl hsn hk (al 1) ?_ ?_)
      · intro W hW
        refine ⟨rd W s hW.1 hv rfl rfl, (hW.1.i.c sn (by omega)).trans (by show some (Value.int .i64 (s.ins (sn : Int))) = _; rw [hy.1]), ⟨(hW.1.r.c sn (by omega)).trans (by show some (Value.int .i64 (s.rem (sn : Int))) = _; rw [hy.2]), hW.1.r.f sn⟩, ?_, ?_⟩
        · rw [hs1]
          exact hW.1.setR sn sN.2 1
        · exact hW.1.belS hW.2 l.rb _ _ (by rw [T4]; decide)
      · intro W hW
        refine ⟨rd W s1 hW.1 f1.1 f1.2.1 f1.2.2.1, fun mb w3 hmb hm km hz => ?_⟩
        have b3 := hW.1.noC (((Keeps.refl (fun _ => False) _).drew).trans km)
        refine ⟨rd w3 s1 b3 f1.1 f1.2.1 f1.2.2.1, by have := b3.a; rw [f1.1, f1.2.2.2.1] at this; exact this.down (Nat.zero_le _), fun b cap w7 ho k7 hb => ?_⟩
        obtain ⟨T', c1, c2, c3⟩ := hW.1.begun f1.1 (by rw [f1.2.2.2.1]; exact hn) hmb km hz (onR (sn : Int) (k : Int)) ⟨fun e => (by cases e), fun _ => hm, fun e => (by cases e), by show mb < w3.heap.size; omega⟩ rfl rfl (by rw [f1.2.2.2.1]; exact ho) k7 hb
        have r7 := c2.rds7 f1.1 k7
        rw [f1.2.1, f1.2.2.1] at r7
        have r8 := c1.rds
        refine ⟨r7, by have e1 := f1.2.1; have e2 := f1.2.2.1; rw [← e1, ← e2]; exact r8, _, G.beg1 (sn : Int), c1, hW.2.trans c3, ?_⟩
        have hb0 := hJ.i.beg1 (onR (sn : Int) (k : Int)) (by show (1 : Int) ≤ (sn : Int); omega) (by show (sn : Int) ≤ (s.N : Int); omega) (by rw [hJ.e1]; exact hy.1) (by rw [hJ.e2]; exact hy.2) rfl rfl rfl rfl rfl hk.symm rfl
        rw [hs1]
        refine ⟨⟨?_, hJ.e1, ?_, hJ.e3, hJ.e4, n0, n1, hJ.wd, fun i q hq e => ?_, fun i q hq e => ?_, fun i q hq => ?_, hJ.rw, ?_⟩, rfl, rfl, rfl, rfl, ?_, fun e => by cases e⟩
        · show BkI _ _ _ _ _ _ _ ((s.all ++ [_]).map OL.o)
          rw [List.map_append]
          exact hb0
        · show updI G.rem (sn : Int) 1 = _
          rw [hJ.e2]
        · rcases at_app hq with e2 | e2
          · rw [e2] at e
            cases e
          · exact hJ.mi i q e2 e
        · rcases at_app hq with e2 | e2
          · rw [e2]
            exact ⟨fun e => by have e : 1 ≤ 0 := e; omega, fun e => by have e : 0 = 2 := e; omega, fun e => by have e : 0 = 5 := e; omega⟩
          · exact hJ.mr i q e2 e
        · rcases at_app hq with e2 | e2
          · rw [e2]
            exact ⟨LOk.nil _ _ _, LOk.nil _ _ _⟩
          · exact hJ.mw i q e2
        · show RmAll s.N _ ((s.all ++ [_]).map OL.o)
          rw [List.map_append]
          refine hJ.un.app rfl rfl rfl (fun u hu => ?_) (fun _ => Nat.zero_le _)
          by_cases e : u = (sn : Int)
          · exact .inr ⟨rfl, e⟩
          · exact .inl (fun e2 => hu ((updI_ne _ _ e).trans e2))
        · show (s.all ++ [_]).length ≤ _
          simp
    · refine (bk_start1n w l bb s.N s.nb sn (s.ins (sn : Int)) (s.rem (sn : Int)) a s.av (fun W => BkM W B bb l s ∧ Below B w W) a0 a1 n0.1 (by omega) hsn (fun e1 e2 => hy ⟨e1, e2⟩) (al 1) (fun W hW => ⟨hW.1.rds, hW.1.i.c sn (by omega), hW.1.r.c sn (by omega)⟩)).mono ?_
      rintro e W ⟨rfl, b1, b2⟩
      exact ⟨rfl, s, G, b1, b2, hJ, rfl, rfl, rfl, rfl, by omega, fun e => by cases e⟩
  · have j0 := Int.emod_nonneg a (show (s.nb : Int) ≠ 0 by omega)
    have j1 := Int.emod_lt_of_pos a (show (0 : Int) < (s.nb : Int) by omega)
    obtain ⟨k2, hk2⟩ : ∃ k : Nat, a % (s.nb : Int) = (k : Int) := ⟨(a % (s.nb : Int)).toNat, by omega⟩
    refine (bk_start2 w l bb s.N s.nb n cp k2 a sp s.all (fun W => BkM W B bb l s ∧ Below B w W) (fun W => BkM W B bb l s ∧ Below B w W) (fun W => ∃ s' G', BkM W B bb l s' ∧ Below B w W ∧ StNx s 2 s' G') a0 a1 n0.1 (by omega) n1.1 (by omega) hn hl hk2 (al 2) ?_ ?_)
    · intro W hW
      exact ⟨rd W s hW.1 hv rfl rfl, ⟨hW.1.drew, hW.2.drew⟩, hW⟩
    · intro W hW
      refine ⟨rd W s hW.1 hv rfl rfl, fun mb w3 hmb hm km hz => ?_⟩
      have b3 := hW.1.noC (((Keeps.refl (fun _ => False) _).drew).trans km)
      refine ⟨rd w3 s b3 hv rfl rfl, by have := b3.a; rw [hv] at this; exact this.down (Nat.zero_le _), fun b cap w7 ho k7 hb => ?_⟩
      obtain ⟨T', c1, c2, c3⟩ := hW.1.begun hv hn hmb km hz (onW (k2 : Int)) ⟨fun e => (by cases e), fun e => (by cases e), fun _ => hm, by show mb < w3.heap.size; omega⟩ rfl rfl ho k7 hb
      have r7 := c2.rds7 hv k7
      have r8 := c1.rds
      refine ⟨r7, r8, _, G, c1, hW.2.trans c3, ?_⟩
      have hb0 := hJ.i.beg2 (onW (k2 : Int)) rfl (by show (0 : Int) ≤ (k2 : Int); omega) (by show (k2 : Int) < (s.nb : Int); omega) rfl rfl rfl rfl rfl rfl rfl rfl rfl
      refine ⟨⟨?_, hJ.e1, hJ.e2, hJ.e3, hJ.e4, n0, n1, hJ.wd, fun i q hq e => ?_, fun i q hq e => ?_, fun i q hq => ?_, hJ.rw, ?_⟩, rfl, rfl, rfl, rfl, ?_, fun _ => ?_⟩
      · show BkI _ _ _ _ _ _ _ ((s.all ++ [_]).map OL.o)
        rw [List.map_append]
        exact hb0
      · rcases at_app hq with e2 | e2
        · rw [e2] at e
          cases e
        · exact hJ.mi i q e2 e
      · rcases at_app hq with e2 | e2
        · rw [e2] at e
          cases e
        · exact hJ.mr i q e2 e
      · rcases at_app hq with e2 | e2
        · rw [e2]
          exact ⟨LOk.nil _ _ _, LOk.nil _ _ _⟩
        · exact hJ.mw i q e2
      · show RmAll s.N _ ((s.all ++ [_]).map OL.o)
        rw [List.map_append]
        exact hJ.un.app rfl rfl rfl (fun u hu => .inl hu) (fun e => by cases e)
      · show (s.all ++ [_]).length ≤ _
        simp
      · show (s.all ++ [_]).length = _
        simp
/-- List is the book's row. -/
theorem bk_row (w : World) (B bb : Nat) (l : BkL) (s : BkS) (G : Gb) (k : Nat) (h : BkM w B bb l s) (hJ : BkJ s G) (hk : k < s.nb) : Calls Tryz.prog 12 #[.pointer (some ⟨bb, 0, none⟩), .int .i64 (k : Int)] w fun e w' => e = .returned (.bool true) ∧ BkM w' B bb l s ∧ Below B w w' := by
  have n0 := hJ.n0
  have hnb := hJ.i.l.b
  have hrow : pickL (rowX s.S s.x k) = s.rows (k : Int) := list_rows hJ.i.l hJ.i.g hJ.i.r hJ.i.n (by omega) (by omega) k (by omega)
  have hlr : (s.rows (k : Int)).length ≤ 4096 := by have := (hJ.rw (k : Int)).len; omega
  have HL : Hid (∀ _ : Unit, _) := fun _ => ix_list w l.L l.Q s.S l.X s.x k (by omega) h.ch hJ.wd hJ.sn
  have HB : Hid (BkM w B bb l s) := h
  have b1 : w.cell? ⟨bb, 1, none⟩ = some (.pointer (some ⟨l.X.x, 0, none⟩)) := (h.c 1).trans rfl
  have k0 : (0 : Int) ≤ (k : Int) := Int.natCast_nonneg _
  have k1 : (k : Int) < (s.nb : Int) := by omega
  have HR : Hid (pickL (rowX s.S s.x k) = s.rows (k : Int)) := hrow
  clear h hrow hJ hnb
  go_enter Tryz.func12, Tryz.ntmps12
  go_wp2_with fail
  refine (HL.out ()).mono ?_
  rintro e w1 ⟨v, rfl, ⟨hv, hc⟩, hk1⟩
  rw [HR.out] at hv
  have B1 : Hid (BkM w1 B bb l s ∧ Below B w w1) := ⟨HB.out.same hc (hk1.mono (fun g hg => .inl hg)), HB.out.bel hk1 (fun g hg => .inl (by rw [HB.out.t1 g (.inl hg)]; decide))⟩
  have b8 : w1.cell? ⟨bb, 8, none⟩ = some (.slice (some ⟨l.wb, 0, none⟩) s.nb l.wc) := (B1.out.1.c 8).trans rfl
  have bw := B1.out.1.z.c k hk
  have HS : Hid (∀ _ : Unit, _) := fun _ => law_same w1 v (s.rv k) (s.rows (k : Int)) w.heap.size B hv (B1.out.1.v k hk).1 hlr
  obtain ⟨va, vc, hvf⟩ := OwG.form hv
  obtain ⟨ra, rc, hrf⟩ := OwG.form (B1.out.1.v k hk).1
  obtain ⟨vn, hvn⟩ : ∃ x, (s.rows (k : Int)).length = x := ⟨_, rfl⟩
  rw [hvn] at hvf hrf
  rw [hvf, hrf] at HS
  rw [hrf] at bw
  rw [hvf]
  clear hv hc hk1 HL HB b1 HR hvf hrf hvn
  go_wp2_with fail
  refine (bk_num 0 _).mono ?_
  rintro e w3 ⟨rfl, hw⟩
  rw [hw]
  clear hw w3
  go_wp2_with fail
  refine (HS.out ()).mono ?_
  rintro e w2 ⟨rfl, k2⟩
  have B2 : Hid (BkM w2 B bb l s ∧ Below B w w2) := ⟨B1.out.1.noC k2, B1.out.2.trans (k2.below B1.out.1.hB (fun _ _ e => e))⟩
  clear k2 B1 HS b8 bw
  go_wp2
  go_ret
  exact ⟨rfl, B2.out⟩
end Go.Proofs.YteekompojgbkhaaGreat
