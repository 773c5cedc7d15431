import Derived.Test.YteekompojgbkhaaGreatKBmQ
namespace Go.Proofs.YteekompojgbkhaaGreat
set_option linter.unusedSimpArgs false
open Go.ChangeShapes Go.WideShapes Go.ChangeAt Go.RowKit Go.MuLone Go.RwLone
set_option linter.unusedVariables false
set_option maxRecDepth 100000
set_option maxHeartbeats 6400000
/-- An arena of which so many slots were given. -/
structure AlI (S : AS) (N i : Nat) : Prop where
  n : S.n = N
  wd : S.wd = 1
  us : ∀ k, k < i → S.use k = true
  w0 : ∀ j, S.word j = 0
theorem AlI.next {S : AS} {N i : Nat} (h : AlI S N i) (f : Nat → Int) : AlI (S.alloc i Ent.none (valW 0 f)) N (i + 1) := by
  refine ⟨h.n, h.wd, fun k hk => ?_, fun j => ?_⟩
  · show upd S.use i true k = true
    unfold upd
    split
    · rfl
    · exact h.us k (by omega)
  · show layW S.word (i * S.wd) S.wd (valW 0 f) j = 0
    unfold layW valW
    split
    · rfl
    · exact h.w0 j
/-- What holds while the lists are laid. -/
def Bg1 (w0 : World) (bb N nb : Nat) (L : Lay) (X : XL) (al ni nr nk nw : Nat) (W : World) : Prop := ∃ S lv n T, BgI W w0.heap.size bb N nb L ((List.range N).drop al) S X (freshX 0 nb) lv n T ∧ AlI S N al ∧ n 0 = ni ∧ n 1 = nr ∧ n 2 = nk ∧ n 3 = nw ∧ Below w0.heap.size w0 W
theorem Bg1.alloc {w0 W : World} {bb N nb al ni nr nk nw : Nat} {L : Lay} {X : XL} (h : Bg1 w0 bb N nb L X al ni nr nk nw W) (hal : al < N) : ∃ S, Arn W L (al :: (List.range N).drop (al + 1)) S ∧ ∀ w' f, Arn w' L ((List.range N).drop (al + 1)) (S.alloc al Ent.none (valW 0 f)) → Keeps L.has W w' → Bg1 w0 bb N nb L X (al + 1) ni nr nk nw w' := by
  obtain ⟨S, lv, n, T, h1, h2, h3, h4, h5, h6, h7⟩ := h
  have e : (List.range N).drop al = al :: (List.range N).drop (al + 1) := by
    rw [List.drop_eq_getElem_cons (by rw [List.length_range]; exact hal)]
    simp
  refine ⟨S, by rw [← e]; exact h1.ch.a, fun w' f ha k => ⟨_, lv, n, T, h1.ar ha k rfl, h2.next f, h3, h4, h5, h6, ?_⟩⟩
  refine h7.trans (k.below ?_ (fun x hx e => ?_))
  · have := (h1.tl bb (by rw [h1.t2]; decide))
    omega
  · have := (h1.tl x (by rw [h1.t1 x (.inl e)]; decide)).1
    omega
theorem Bg1.hB {w0 W : World} {bb N nb al ni nr nk nw : Nat} {L : Lay} {X : XL} (h : Bg1 w0 bb N nb L X al ni nr nk nw W) : w0.heap.size ≤ W.heap.size := by
  obtain ⟨S, lv, n, T, h1, h2, h3, h4, h5, h6, h7⟩ := h
  have := (h1.tl bb (by rw [h1.t2]; decide))
  omega
theorem Bg1.rd {w0 W : World} {bb N nb al ni nr nk nw : Nat} {L : Lay} {X : XL} (h : Bg1 w0 bb N nb L X al ni nr nk nw W) : W.cell? ⟨bb, 2, none⟩ = some (.int .i64 (N : Int)) ∧ W.cell? ⟨bb, 3, none⟩ = some (.int .i64 (nb : Int)) ∧ ∀ i, W.frozen? ⟨bb, i, none⟩ = false := by
  obtain ⟨S, lv, n, T, h1, h2, h3, h4, h5, h6, h7⟩ := h
  exact ⟨(cell?_heap h1.b 2).trans rfl, (cell?_heap h1.b 3).trans rfl, fun i => frozen?_heap h1.b i⟩
theorem Bg1.list0 {w0 W : World} {bb N nb al ni nr nk nw : Nat} {L : Lay} {X : XL} (h : Bg1 w0 bb N nb L X al ni nr nk nw W) : ∃ a c, W.cell? ⟨bb, 4, none⟩ = some (.slice a ni c) ∧ OwG vC 3 1 W 0 (.slice a ni c) (List.replicate ni (.int .i64 0)) ∧ ∀ b cap m w7, ni + 1 = m → OwG vC 3 1 w7 0 (.slice (some ⟨b, 0, none⟩) m cap) (List.replicate ni (.int .i64 0) ++ [(.int .i64 0)]) → Keeps (fun x => (Value.slice a ni c).ownBlock = some x) W w7 → ((Value.slice a ni c).ownBlock = some b ∨ W.heap.size ≤ b) → w7.cell? ⟨bb, 4, none⟩ = some (.slice a ni c) ∧ w7.frozen? ⟨bb, 4, none⟩ = false ∧ Bg1 w0 bb N nb L X al m nr nk nw (w7.setCell ⟨bb, 4, none⟩ (.slice (some ⟨b, 0, none⟩) m cap)) := by
  have hB := h.hB
  obtain ⟨S, lv, n, T, h1, h2, h3, h4, h5, h6, h7⟩ := h
  have ho := h1.o 0 (by decide)
  obtain ⟨a, c, hv⟩ := OwG.form ho
  rw [List.length_replicate] at hv
  have c0 : W.cell? ⟨bb, 4, none⟩ = some (lv 0) := (cell?_heap h1.b 4).trans rfl
  subst h3 h4 h5 h6
  rw [hv] at c0 ho
  refine ⟨a, c, c0, ho.down (Nat.zero_le _), fun b cap m w7 hm ho7 k7 hb => ?_⟩
  have nbb : ¬ (Value.slice a (n 0) c).ownBlock = some bb := fun e => by
    have := h1.t3 0 (by decide) bb (by rw [hv]; exact e)
    have := h1.t2
    omega
  obtain ⟨T', g1, g2⟩ := h1.app 0 (by decide) b cap m w7 hm ho7 (by rw [hv]; exact k7) (by rw [hv]; exact hb) hB
  exact ⟨(k7.cell (p := ⟨bb, 4, none⟩) h1.lb nbb).trans c0, (k7.frozen (p := ⟨bb, 4, none⟩) h1.lb nbb).trans (frozen?_heap h1.b 4), S, _, _, T', g1, h2, hm, rfl, rfl, rfl, h7.trans g2⟩
theorem Bg1.list1 {w0 W : World} {bb N nb al ni nr nk nw : Nat} {L : Lay} {X : XL} (h : Bg1 w0 bb N nb L X al ni nr nk nw W) : ∃ a c, W.cell? ⟨bb, 5, none⟩ = some (.slice a nr c) ∧ OwG vC 3 1 W 0 (.slice a nr c) (List.replicate nr (.int .i64 0)) ∧ ∀ b cap m w7, nr + 1 = m → OwG vC 3 1 w7 0 (.slice (some ⟨b, 0, none⟩) m cap) (List.replicate nr (.int .i64 0) ++ [(.int .i64 0)]) → Keeps (fun x => (Value.slice a nr c).ownBlock = some x) W w7 → ((Value.slice a nr c).ownBlock = some b ∨ W.heap.size ≤ b) → w7.cell? ⟨bb, 5, none⟩ = some (.slice a nr c) ∧ w7.frozen? ⟨bb, 5, none⟩ = false ∧ Bg1 w0 bb N nb L X al ni m nk nw (w7.setCell ⟨bb, 5, none⟩ (.slice (some ⟨b, 0, none⟩) m cap)) := by
  have hB := h.hB
  obtain ⟨S, lv, n, T, h1, h2, h3, h4, h5, h6, h7⟩ := h
  have ho := h1.o 1 (by decide)
  obtain ⟨a, c, hv⟩ := OwG.form ho
  rw [List.length_replicate] at hv
  have c0 : W.cell? ⟨bb, 5, none⟩ = some (lv 1) := (cell?_heap h1.b 5).trans rfl
  subst h3 h4 h5 h6
  rw [hv] at c0 ho
  refine ⟨a, c, c0, ho.down (Nat.zero_le _), fun b cap m w7 hm ho7 k7 hb => ?_⟩
  have nbb : ¬ (Value.slice a (n 1) c).ownBlock = some bb := fun e => by
    have := h1.t3 1 (by decide) bb (by rw [hv]; exact e)
    have := h1.t2
    omega
  obtain ⟨T', g1, g2⟩ := h1.app 1 (by decide) b cap m w7 hm ho7 (by rw [hv]; exact k7) (by rw [hv]; exact hb) hB
  exact ⟨(k7.cell (p := ⟨bb, 5, none⟩) h1.lb nbb).trans c0, (k7.frozen (p := ⟨bb, 5, none⟩) h1.lb nbb).trans (frozen?_heap h1.b 5), S, _, _, T', g1, h2, rfl, hm, rfl, rfl, h7.trans g2⟩
theorem Bg1.list2 {w0 W : World} {bb N nb al ni nr nk nw : Nat} {L : Lay} {X : XL} (h : Bg1 w0 bb N nb L X al ni nr nk nw W) : ∃ a c, W.cell? ⟨bb, 6, none⟩ = some (.slice a nk c) ∧ OwG vC 3 1 W 0 (.slice a nk c) (List.replicate nk (.int .i64 0)) ∧ ∀ b cap m w7, nk + 1 = m → OwG vC 3 1 w7 0 (.slice (some ⟨b, 0, none⟩) m cap) (List.replicate nk (.int .i64 0) ++ [(.int .i64 0)]) → Keeps (fun x => (Value.slice a nk c).ownBlock = some x) W w7 → ((Value.slice a nk c).ownBlock = some b ∨ W.heap.size ≤ b) → w7.cell? ⟨bb, 6, none⟩ = some (.slice a nk c) ∧ w7.frozen? ⟨bb, 6, none⟩ = false ∧ Bg1 w0 bb N nb L X al ni nr m nw (w7.setCell ⟨bb, 6, none⟩ (.slice (some ⟨b, 0, none⟩) m cap)) := by
  have hB := h.hB
  obtain ⟨S, lv, n, T, h1, h2, h3, h4, h5, h6, h7⟩ := h
  have ho := h1.o 2 (by decide)
  obtain ⟨a, c, hv⟩ := OwG.form ho
  rw [List.length_replicate] at hv
  have c0 : W.cell? ⟨bb, 6, none⟩ = some (lv 2) := (cell?_heap h1.b 6).trans rfl
  subst h3 h4 h5 h6
  rw [hv] at c0 ho
  refine ⟨a, c, c0, ho.down (Nat.zero_le _), fun b cap m w7 hm ho7 k7 hb => ?_⟩
  have nbb : ¬ (Value.slice a (n 2) c).ownBlock = some bb := fun e => by
    have := h1.t3 2 (by decide) bb (by rw [hv]; exact e)
    have := h1.t2
    omega
  obtain ⟨T', g1, g2⟩ := h1.app 2 (by decide) b cap m w7 hm ho7 (by rw [hv]; exact k7) (by rw [hv]; exact hb) hB
  exact ⟨(k7.cell (p := ⟨bb, 6, none⟩) h1.lb nbb).trans c0, (k7.frozen (p := ⟨bb, 6, none⟩) h1.lb nbb).trans (frozen?_heap h1.b 6), S, _, _, T', g1, h2, rfl, rfl, hm, rfl, h7.trans g2⟩
theorem Bg1.list3 {w0 W : World} {bb N nb al ni nr nk nw : Nat} {L : Lay} {X : XL} (h : Bg1 w0 bb N nb L X al ni nr nk nw W) : ∃ a c, W.cell? ⟨bb, 8, none⟩ = some (.slice a nw c) ∧ OwG vC 31 1 W 0 (.slice a nw c) (List.replicate nw (.slice none 0 0)) ∧ ∀ b cap m w7, nw + 1 = m → OwG vC 31 1 w7 0 (.slice (some ⟨b, 0, none⟩) m cap) (List.replicate nw (.slice none 0 0) ++ [(.slice none 0 0)]) → Keeps (fun x => (Value.slice a nw c).ownBlock = some x) W w7 → ((Value.slice a nw c).ownBlock = some b ∨ W.heap.size ≤ b) → w7.cell? ⟨bb, 8, none⟩ = some (.slice a nw c) ∧ w7.frozen? ⟨bb, 8, none⟩ = false ∧ Bg1 w0 bb N nb L X al ni nr nk m (w7.setCell ⟨bb, 8, none⟩ (.slice (some ⟨b, 0, none⟩) m cap)) := by
  have hB := h.hB
  obtain ⟨S, lv, n, T, h1, h2, h3, h4, h5, h6, h7⟩ := h
  have ho := h1.o 3 (by decide)
  obtain ⟨a, c, hv⟩ := OwG.form ho
  rw [List.length_replicate] at hv
  have c0 : W.cell? ⟨bb, 8, none⟩ = some (lv 3) := (cell?_heap h1.b 8).trans rfl
  subst h3 h4 h5 h6
  rw [hv] at c0 ho
  refine ⟨a, c, c0, ho.down (Nat.zero_le _), fun b cap m w7 hm ho7 k7 hb => ?_⟩
  have nbb : ¬ (Value.slice a (n 3) c).ownBlock = some bb := fun e => by
    have := h1.t3 3 (by decide) bb (by rw [hv]; exact e)
    have := h1.t2
    omega
  obtain ⟨T', g1, g2⟩ := h1.app 3 (by decide) b cap m w7 hm ho7 (by rw [hv]; exact k7) (by rw [hv]; exact hb) hB
  exact ⟨(k7.cell (p := ⟨bb, 8, none⟩) h1.lb nbb).trans c0, (k7.frozen (p := ⟨bb, 8, none⟩) h1.lb nbb).trans (frozen?_heap h1.b 8), S, _, _, T', g1, h2, rfl, rfl, rfl, hm, h7.trans g2⟩
theorem infoRw : (Tryz.prog.info? 31).map (fun i => (i.zero, i.size, i.bytes)) = some (some (.slice none 0 0), 1, 24) := by kernel_rfl
/-- The book was boxed, the arena and the index are made. -/
theorem Bg1.start {w0 w1 w2 w3 : World} {bb N nb : Nat} {L : Lay} {X : XL} (hb : w0.heap.size ≤ bb) (hs : bb < w1.heap.size) (h1 : w1.heap[bb]? = some (.cells #[.pointer none, .pointer none, .int .i64 (N : Int), .int .i64 (nb : Int), .slice none 0 0, .slice none 0 0, .slice none 0 0, .int .i64 0, .slice none 0 0, .slice none 0 0] 35)) (b1 : Below w0.heap.size w0 w1) (hL : ∀ g, L.has g → w1.heap.size ≤ g) (ha : Arn w2 L (List.range N) (.fresh N 1)) (b2 : Below w1.heap.size w1 w2) (hX : w2.heap.size ≤ X.x ∧ w2.heap.size ≤ X.h) (hi : IxH w3 L.b X (freshX 0 nb)) (b3 : Below w2.heap.size w2 w3) :
    (w3.heap[bb]? = some (.cells #[.pointer none, .pointer none, .int .i64 (N : Int), .int .i64 (nb : Int), .slice none 0 0, .slice none 0 0, .slice none 0 0, .int .i64 0, .slice none 0 0, .slice none 0 0] 35)) ∧ Bg1 w0 bb N nb L X 0 0 0 0 0 ((w3.setCell ⟨bb, 0, none⟩ (.pointer (some ⟨L.b, 0, none⟩))).setCell ⟨bb, 1, none⟩ (.pointer (some ⟨X.x, 0, none⟩))) := by
  classical
  have k2 := Below.keeps b2 (fun _ => False)
  have k3 := Below.keeps b3 (fun _ => False)
  have s2 := k2.size
  have s3 := k3.size
  have g3 := (k3.block bb (by omega) (fun e => e)).trans ((k2.block bb hs (fun e => e)).trans h1)
  have ks : Keeps (fun g => g = bb) w3 ((w3.setCell ⟨bb, 0, none⟩ (.pointer (some ⟨L.b, 0, none⟩))).setCell ⟨bb, 1, none⟩ (.pointer (some ⟨X.x, 0, none⟩))) := (keepS (D := fun g => g = bb) bb 0 _ rfl).trans (keepS bb 1 _ rfl)
  have nL : ∀ g, L.has g → ¬ g = bb := fun g hg e => by have := hL g hg; omega
  have nX : ∀ g, X.has g → ¬ g = bb := fun g hg e => by rcases hg with h | h <;> omega
  have hd : ∀ g, X.has g → ¬ L.has g := fun g hg hl => by
    have := ha.h.lt g hl
    rcases hg with h | h <;> omega
  have ch : CH ((w3.setCell ⟨bb, 0, none⟩ (.pointer (some ⟨L.b, 0, none⟩))).setCell ⟨bb, 1, none⟩ (.pointer (some ⟨X.x, 0, none⟩))) L (List.range N) (.fresh N 1) X (freshX 0 nb) := ⟨(ha.keeps k3 (fun _ _ e => e)).keeps ks nL, hi.keeps ks nX, hd, by show 0 < 1; decide⟩
  have nC : ∀ g, chF L X g → ¬ g = bb := fun g hg => hg.elim (nL g) (nX g)
  refine ⟨g3, _, fun _ => .slice none 0 0, fun _ => 0, fun g => if chF L X g then 1 else if g = bb then 2 else 0, ⟨ch, heapSetC (heapSetC g3 0 _) 1 _, (fun j hj => OwG.nil _ _ _ _ _), (fun g hg => if_pos hg), ?_, (fun j hj g hg => by cases hg), fun g hg => ?_⟩, ⟨rfl, rfl, fun k hk => absurd hk (Nat.not_lt_zero _), fun j => rfl⟩, rfl, rfl, rfl, rfl, ?_⟩
  · show (if chF L X bb then 1 else _) = 2
    rw [if_neg (fun e => nC bb e rfl), if_pos rfl]
  · by_cases hc : chF L X g
    · refine ⟨?_, ch.lt g hc⟩
      rcases hc with h | h
      · have := hL g h
        omega
      · rcases h with h | h <;> omega
    · have hg : (if chF L X g then 1 else if g = bb then 2 else 0) ≠ 0 := hg
      rw [if_neg hc] at hg
      by_cases e : g = bb
      · rw [e]
        exact ⟨hb, by simp; omega⟩
      · rw [if_neg e] at hg
        exact absurd rfl hg
  · exact (((b1.trans (k2.below b1.size (fun _ _ e => e))).trans (k3.below (Nat.le_trans b1.size k2.size) (fun _ _ e => e))).setCell (p := ⟨bb, 0, none⟩) hb _).setCell (p := ⟨bb, 1, none⟩) hb _
/-- A book at its beginning. -/
def Bg0 (w0 : World) (B bb : Nat) (l : BkL) (N nb : Nat) (W : World) : Prop := ∃ s, BkM W B bb l s ∧ BkJ s Gb.new ∧ Below B w0 W ∧ s.N = N ∧ s.nb = nb ∧ s.all = []
theorem Bg0.pl {w0 W : World} {B bb N nb : Nat} {l : BkL} (h : Bg0 w0 B bb l N nb W) : PlI w0 B bb l N nb 0 W := by
  obtain ⟨s, h1, h2, h3, h4, h5, h6⟩ := h
  exact ⟨s, Gb.new, h1, h2, h3, h4, h5, by rw [h6]; exact Nat.le_refl _⟩
/-- What was laid is a book at its beginning. -/
theorem Bg1.done {w0 W : World} {bb N nb : Nat} {L : Lay} {X : XL} (h : Bg1 w0 bb N nb L X N (N + 1) (N + 1) (N + 1) nb W) (hN : 1 ≤ N ∧ N ≤ 24) (hb : 1 ≤ nb ∧ nb ≤ 4) : ∃ l, Bg0 w0 w0.heap.size bb l N nb W ∧ l.pk = fun _ => none := by
  obtain ⟨S, lv, n, T, h1, h2, h3, h4, h5, h6, h7⟩ := h
  have hQ : (List.range N).drop N = [] := List.drop_of_length_le (by rw [List.length_range]; exact Nat.le_refl _)
  rw [hQ] at h1
  have rows : ∀ j, j < 4 → 0 < n j → ∃ g cap, lv j = .slice (some ⟨g, 0, none⟩) (n j) cap ∧ RwC W g (n j) (fun _ => zL j) ∧ T g = 3 + j := fun j hj hn => by
    have ho := h1.o j hj
    obtain ⟨g, cap, e1, e2, e3⟩ := owG_some ho (by intro e; have := congrArg List.length e; simp at this; omega)
    rw [List.length_replicate] at e1
    rw [e1] at ho
    obtain ⟨cur, hc⟩ := (owG_cap ho).2.2.2.2
    refine ⟨g, cap, e1, ⟨fun i hi => ?_, fun i => frozen?_heap hc i, e3⟩, h1.t3 j hj g (by rw [e1]; rfl)⟩
    have := ow_at (f := id) (cs := vC) (fun xs => by induction xs with | nil => rfl | cons x xs ih => rw [List.flatMap_cons, ih]; rfl) ho i (by rw [List.length_replicate]; exact hi)
    rw [this]
    simp
  obtain ⟨g0, c0, a0, r0, t0⟩ := rows 0 (by decide) (by omega)
  obtain ⟨g1, c1, a1, r1, t1⟩ := rows 1 (by decide) (by omega)
  obtain ⟨g2, c2, a2, r2, t2⟩ := rows 2 (by decide) (by omega)
  obtain ⟨g3, c3, a3, r3, t3⟩ := rows 3 (by decide) (by omega)
  have hb1 := h1.b
  rw [a0, a1, a2, a3, h3, h4, h5, h6] at hb1
  rw [h3] at r0
  rw [h4] at r1
  rw [h5] at r2
  rw [h6] at r3
  refine ⟨⟨L, [], X, g0, c0, g1, c1, g2, c2, g3, c3, fun _ => none⟩, ⟨⟨S, freshX 0 nb, N, nb, fun _ => 0, fun _ => 0, fun _ => 0, 0, fun _ => [], fun _ => .slice none 0 0, .slice none 0 0, [], T⟩, ⟨h1.ch, hb1, r0, r1, r2, r3, (fun j hj => ⟨OwG.nil _ _ _ _ _, fun _ => rfl⟩), OwG.nil _ _ _ _ _, (fun i q hq => by simp at hq), h1.t1, h1.t2, t0, t1, t2, t3, (fun g hg => by cases hg), (fun i q hq => by simp at hq), (fun j hj g hg => by cases hg), h1.tl, (fun g c t e => by cases e), (fun g c t e => by cases e)⟩, ⟨?_, rfl, rfl, rfl, rfl, hN, hb, ⟨fun i => ?_, fun b hb => ?_⟩, (fun i q hq => by simp at hq), (fun i q hq => by simp at hq), (fun i q hq => by simp at hq), (fun c => LOk.nil _ _ _), RmAll.new N⟩, h7, rfl, rfl, rfl⟩, rfl⟩
  · refine BkI.new (Lnk.new (by rw [h2.n]) h2.wd rfl rfl (fun s s1 s2 => ?_) (fun i hi => h2.w0 i) (fun b hb => rfl))
    have s2 : s ≤ (N : Int) := s2
    unfold liv
    rw [h2.n, decide_eq_true s1, decide_eq_true s2, h2.us _ (by omega)]
    rfl
  · rw [h2.w0]
    exact ⟨by decide, by decide⟩
  · show LkOk (hdZ b)
    have hb : b < nb := hb
    unfold hdZ LkOk
    omega
theorem bk_begin0 (w : World) (pa pb : Int) (ao : Option Addr) (mn cap : Nat) (pa0 : -9223372036854775808 ≤ pa ∧ pa ≤ 9223372036854775807) (pb0 : -9223372036854775808 ≤ pb ∧ pb ≤ 9223372036854775807) : Calls Tryz.prog 10 #[.agg #[.int .i64 pa, .int .i64 pb, .slice ao mn cap]] w fun e w' => ∃ bb, e = .returned (.tuple #[.pointer (some ⟨bb, 0, none⟩), .bool true]) ∧ ∃ l N nb, Bg0 w w.heap.size bb l N nb w' ∧ (l.pk = fun _ => none) ∧ (N : Int) = pa % 24 + 1 ∧ (nb : Int) = pb % 4 + 1 := by
  have a1 := Int.emod_nonneg pa (show (24 : Int) ≠ 0 by decide)
  have a2 := Int.emod_lt_of_pos pa (show (0 : Int) < 24 by decide)
  have b1 := Int.emod_nonneg pb (show (4 : Int) ≠ 0 by decide)
  have b2 := Int.emod_lt_of_pos pb (show (0 : Int) < 4 by decide)
  obtain ⟨Nm, hNm⟩ : ∃ x : Nat, pa % 24 = (x : Int) := ⟨(pa % 24).toNat, by omega⟩
  obtain ⟨bm, hbm⟩ : ∃ x : Nat, pb % 4 = (x : Int) := ⟨(pb % 4).toNat, by omega⟩
  obtain ⟨N, hN⟩ : ∃ x, Nm + 1 = x := ⟨_, rfl⟩
  obtain ⟨nb, hnb⟩ : ∃ x, bm + 1 = x := ⟨_, rfl⟩
  have hN2 : 1 ≤ N ∧ N ≤ 24 := by omega
  have hb2 : 1 ≤ nb ∧ nb ≤ 4 := by omega
  have HM1 : Hid (∀ W, Calls Tryz.prog 14 #[.int .i64 pa, .int .i64 24] W fun e w' => e = .returned (.int .i64 (Nm : Int)) ∧ w' = W) := fun W => by
    have := bk_mod pa 24 W pa0.1 pa0.2 (by omega) (by omega)
    rw [hNm] at this
    exact this
  have HM2 : Hid (∀ W, Calls Tryz.prog 14 #[.int .i64 pb, .int .i64 4] W fun e w' => e = .returned (.int .i64 (bm : Int)) ∧ w' = W) := fun W => by
    have := bk_mod pb 4 W pb0.1 pb0.2 (by omega) (by omega)
    rw [hbm] at this
    exact this
  have w1 : IntKind.i64.wrap (1 + (Nm : Int)) = (N : Int) := by rw [IntKind.wrap_i64]; omega
  have w2 : IntKind.i64.wrap (1 + (bm : Int)) = (nb : Int) := by rw [IntKind.wrap_i64]; omega
  have g1 := heap_alloc_new w (.cells #[.int .i64 pa, .int .i64 pb, .slice ao mn cap] 24)
  have sx : (w.alloc (.cells #[.int .i64 pa, .int .i64 pb, .slice ao mn cap] 24)).drew.cell? ⟨w.heap.size, 0, none⟩ = some (.int .i64 pa) ∧ (w.alloc (.cells #[.int .i64 pa, .int .i64 pb, .slice ao mn cap] 24)).drew.cell? ⟨w.heap.size, 1, none⟩ = some (.int .i64 pb) := ⟨(cell?_heap g1 0).trans rfl, (cell?_heap g1 1).trans rfl⟩
  have HW : Hid (Below w.heap.size w (w.alloc (.cells #[.int .i64 pa, .int .i64 pb, .slice ao mn cap] 24)).drew ∧ (w.alloc (.cells #[.int .i64 pa, .int .i64 pb, .slice ao mn cap] 24)).drew.heap.size = w.heap.size + 1) := ⟨((Below.refl _ _).alloc (Nat.le_refl _) _).drew, by show (w.alloc _).heap.size = _; simp⟩
  have HNB : Hid ((N : Int) = pa % 24 + 1 ∧ (nb : Int) = pb % 4 + 1) := ⟨by rw [hNm]; omega, by rw [hbm]; omega⟩
  clear a1 a2 b1 b2 hNm hbm hN hnb g1 pa0 pb0
  go_enter Tryz.func10, Tryz.ntmps10
  go_wp2_with fail
  (refine wp_region_held_drew (S := (fun Z => Z.cell? ⟨w.heap.size, 0, none⟩ = some (.int .i64 pa) ∧ Z.cell? ⟨w.heap.size, 1, none⟩ = some (.int .i64 pb))) (by kernel_rfl) sx (fun hHeld => ?_); simp only [List.size_toArray, List.length_cons, List.length_nil, Nat.reduceAdd, Array.replicate_succ, Array.replicate_zero, List.push_toArray, List.append_toArray, List.nil_append, List.cons_append])
  clear sx
  generalize (w.alloc (.cells #[.int .i64 pa, .int .i64 pb, .slice ao mn cap] 24)).drew = wd at *
  refine rgT 0 (h := ?_)
  refine rgT 1 (h := ?_)
  refine rgT 4 (h := ?_)
  refine rgT 5 (h := ?_)
  (refine rgS 2 (h := fun K hK => ?_); go_simp)
  refine (HM1.out _).mono ?_
  rintro e w9 ⟨rfl, hw9⟩
  rw [hw9]
  clear hw9 w9 HM1
  (refine hK.out _ _ hHeld (fun hHeld => ?_); clear hK K; try simp only [Act.put, List.setIfInBounds_toArray, List.set_cons_zero, List.set_cons_succ])
  refine rgT 3 (h := ?_)
  (refine rgS 6 (h := fun K hK => ?_); go_simp)
  refine (HM2.out _).mono ?_
  rintro e w9 ⟨rfl, hw9⟩
  rw [hw9]
  clear hw9 w9 HM2
  (refine hK.out _ _ hHeld (fun hHeld => ?_); clear hK K; try simp only [Act.put, List.setIfInBounds_toArray, List.set_cons_zero, List.set_cons_succ])
  refine rgT 7 (h := ?_)
  refine rgT 8 (h := ?_)
  obtain ⟨bb, hbb⟩ : ∃ x, wd.heap.size = x := ⟨_, rfl⟩
  have HS9 : Hid (∀ o, (wd.alloc o).cell? ⟨w.heap.size, 0, none⟩ = some (.int .i64 pa) ∧ (wd.alloc o).cell? ⟨w.heap.size, 1, none⟩ = some (.int .i64 pb)) := fun o => ⟨(allocC hHeld.1).trans hHeld.1, (allocC hHeld.2).trans hHeld.2⟩
  (refine rgS 9 (h := fun K hK => ?_); go_simp)
  (refine hK.out _ _ (HS9.out _) (fun hHeld => ?_); clear hK K; try simp only [Act.put, List.setIfInBounds_toArray, List.set_cons_zero, List.set_cons_succ])
  refine rgT 10 (h := ?_)
  refine wpAnyH_done (by kernel_rfl) ?_ _
  clear hHeld HS9
  have g1 := heap_alloc_new wd (.cells #[.pointer none, .pointer none, .int .i64 (N : Int), .int .i64 (nb : Int), .slice none 0 0, .slice none 0 0, .slice none 0 0, .int .i64 0, .slice none 0 0, .slice none 0 0] 35)
  rw [hbb] at g1
  have HB1 : Hid (Below w.heap.size w (wd.alloc (.cells #[.pointer none, .pointer none, .int .i64 (N : Int), .int .i64 (nb : Int), .slice none 0 0, .slice none 0 0, .slice none 0 0, .int .i64 0, .slice none 0 0, .slice none 0 0] 35))) := HW.out.1.trans ((Below.refl _ _).alloc (by rw [HW.out.2]; omega) _)
  have HBB : Hid (w.heap.size ≤ bb) := by have := HW.out.2; show _ ≤ _; omega
  generalize wd.alloc (.cells #[.pointer none, .pointer none, .int .i64 (N : Int), .int .i64 (nb : Int), .slice none 0 0, .slice none 0 0, .slice none 0 0, .int .i64 0, .slice none 0 0, .slice none 0 0] 35) = w1 at *
  have r2 : w1.cell? ⟨bb, 2, none⟩ = some (.int .i64 (N : Int)) := (cell?_heap g1 2).trans rfl
  have HG1 : Hid (∀ _ : Unit, _) := fun _ => g1
  have HNE : Hid (∀ _ : Unit, _) := fun _ => arn_new N 1 w1 hN2.1 (by omega) (by decide) (by decide)
  clear g1 HW hbb
  go_wp2_with fail
  refine (HNE.out ()).mono ?_
  rintro e w2 ⟨L, rfl, hL, ha, b2⟩
  have l1 : bb < w1.heap.size := (Array.getElem?_eq_some_iff.1 (HG1.out ())).1
  have g2 : w2.heap[bb]? = some (.cells #[.pointer none, .pointer none, .int .i64 (N : Int), .int .i64 (nb : Int), .slice none 0 0, .slice none 0 0, .slice none 0 0, .int .i64 0, .slice none 0 0, .slice none 0 0] 35) := ((Below.keeps b2 (fun _ => False)).block bb l1 (fun e => e)).trans (HG1.out ())
  have r3 : w2.cell? ⟨bb, 3, none⟩ = some (.int .i64 (nb : Int)) := (cell?_heap g2 3).trans rfl
  have HA : Hid ((∀ g, L.has g → w1.heap.size ≤ g) ∧ Arn w2 L (List.range N) (.fresh N 1) ∧ Below w1.heap.size w1 w2 ∧ bb < w1.heap.size) := ⟨hL, ha, b2, l1⟩
  have HX : Hid (∀ _ : Unit, _) := fun _ => ix_new L (.fresh N 1) w2 ha.h 0 nb (by show 0 < 1; decide) ⟨hb2.1, by omega⟩
  clear hL ha b2 l1 g2 r2 HNE
  go_wp2_with fail
  refine (bk_num 0 _).mono ?_
  rintro e w9 ⟨rfl, hw⟩
  rw [hw]
  clear hw w9
  go_wp2_with fail
  refine (HX.out ()).mono ?_
  rintro e w3 ⟨X, rfl, hX, hi, b3⟩
  obtain ⟨g3, hs⟩ := Bg1.start HBB.out HA.out.2.2.2 (HG1.out ()) HB1.out HA.out.1 HA.out.2.1 HA.out.2.2.1 hX hi b3
  have c0 : w3.cell? ⟨bb, 0, none⟩ = some (.pointer none) := (cell?_heap g3 0).trans rfl
  have c1 : w3.cell? ⟨bb, 1, none⟩ = some (.pointer none) := (cell?_heap g3 1).trans rfl
  have f0 := frozen?_heap g3 0
  have f1 := frozen?_heap g3 1
  have HS : Hid (Bg1 w bb N nb L X 0 0 0 0 0 ((w3.setCell ⟨bb, 0, none⟩ (.pointer (some ⟨L.b, 0, none⟩))).setCell ⟨bb, 1, none⟩ (.pointer (some ⟨X.x, 0, none⟩)))) := hs
  clear hX hi b3 hs g3 HX HA HG1 HB1 HBB r3
  go_wp2_with fail
  refine (bk_num 0 _).mono ?_
  rintro e w9 ⟨rfl, hw⟩
  rw [hw]
  clear hw w9
  go_wp2_with fail
  clear c0 c1 f0 f1
  generalize (w3.setCell ⟨bb, 0, none⟩ (.pointer (some ⟨L.b, 0, none⟩))).setCell ⟨bb, 1, none⟩ (.pointer (some ⟨X.x, 0, none⟩)) = w4 at *
  go_loopw [9] (fun i wr => ∃ t : Nat, t ≤ N + 1 ∧ i = .int .i64 (t : Int) ∧ Hid (Bg1 w bb N nb L X (t - 1) t t t 0 wr)) (fun i _ => N + 1 - (intOf i).toNat)
  case atStart => exact ⟨0, by omega, rfl, HS⟩
  case round =>
    obtain ⟨t, ht, rfl, hI⟩ := hrel
    clear HS
    obtain ⟨r2, r3, fz⟩ := hI.out.rd
    clear r3 fz
    by_cases h5 : t ≤ N
    · have t0 : (0 : Int) ≤ (t : Int) := Int.natCast_nonneg _
      have t1 : (t : Int) ≤ (N : Int) := by omega
      go_upto_if 73 with fail
      go_cut [] (fun wx => Hid (Bg1 w bb N nb L X t t t t 0 wx))
      case first =>
        by_cases e0 : t = 0
        · subst e0
          have H0 : Hid (Bg1 w bb N nb L X 0 0 0 0 0 wr) := hI
          clear hI r2
          go_wp2_with fail
          go_meet
          case rel => exact H0
        · have e1 : (0 : Int) < (t : Int) := by omega
          obtain ⟨S, ha, hF⟩ := hI.out.alloc (by omega)
          have HA : Hid (∀ _ : Unit, _) := fun _ => arn_alloc L S wr _ Ent.none none 0 0 (t - 1) (fun _ => 0) ha (fun i hi => absurd hi (Nat.not_lt_zero _)) (Nat.zero_le _)
          have et : ((t - 1 : Nat) : Int) + 1 = (t : Int) := by omega
          have e3 : t - 1 + 1 = t := by omega
          rw [et, e3] at HA
          have HF : Hid (∀ _ : Unit, _) := fun _ => hF
          rw [e3] at HF
          have ec : ((t : Int) != (t : Int)) = false := by simp
          clear ha hF hI r2 et e3
          go_wp2_with fail
          refine (HA.out ()).mono ?_
          rintro e w5 ⟨rfl, ha, k5⟩
          have H5 : Hid (Bg1 w bb N nb L X t t t t 0 w5) := HF.out () w5 _ ha k5
          clear ha k5 HA HF
          go_wp2_with fail
          refine (bk_num 0 _).mono ?_
          rintro e w9 ⟨rfl, hw⟩
          rw [hw]
          clear hw w9
          go_wp2_with fail
          go_meet
          case rel => exact H5
      case rest =>
        have HB : Hid (Bg1 w bb N nb L X t t t t 0 wc) := hcut
        clear hcut hI r2
        generalize wc = wq at *
        obtain ⟨a0, c0, hc0, ho0, hf0⟩ := HB.out.list0
        have HO0 : Hid (OwG vC 3 1 wq 0 (.slice a0 t c0) (List.replicate t (.int .i64 0))) := ho0
        have HF0 : Hid (∀ _ : Unit, _) := fun _ => hf0
        clear ho0 hf0 HB
        go_wp2_with (at_builtin; refine hideG ?_)
        change wpList _ _ _ _ _ _
        refine app_stay (cs := vC) (wr := wq) (by rfl) _ _ 31 3 (by rfl) Tryz.underlying31 infoZ rfl (by decide) (fun _ => rfl) _ (List.replicate t (.int .i64 0)) (.int .i64 0) HO0.out (by rfl) wq.heap.size rfl (by rfl) (fun u hu => by rw [List.mem_singleton.1 hu]; rfl) _ rfl (by rw [List.length_replicate]; unfold maxLen; omega) (by rw [List.length_replicate]; omega) ?_
        intro b cap w7 ho7 kk7 hb7
        rw [List.length_replicate] at ho7 ⊢
        obtain ⟨n0, hn0⟩ : ∃ n, t + 1 = n := ⟨_, rfl⟩
        rw [hn0] at ho7 ⊢
        obtain ⟨d7, f7, h8⟩ := HF0.out () b cap n0 w7 hn0 ho7 (by
          rcases kk7 with ⟨_, k⟩ | ⟨_, k⟩
          · exact k
          · exact k.mono (fun _ e => e.elim)) (kk7.imp (fun c => c.1) (fun c => c.1))
        have HN0 : Hid (t + 1 = n0) := hn0
        have H8 : Hid (Bg1 w bb N nb L X t n0 t t 0 (w7.setCell ⟨bb, 4, none⟩ (.slice (some ⟨b, 0, none⟩) n0 cap))) := h8
        clear h8 ho7 kk7 hb7 hn0 HO0 HF0 hc0
        go_upto_region 18 with fail
        clear d7 f7
        generalize w7.setCell ⟨bb, 4, none⟩ (.slice (some ⟨b, 0, none⟩) n0 cap) = wq at *
        have HB := H8
        clear H8
        obtain ⟨a1, c1, hc1, ho1, hf1⟩ := HB.out.list1
        have HO1 : Hid (OwG vC 3 1 wq 0 (.slice a1 t c1) (List.replicate t (.int .i64 0))) := ho1
        have HF1 : Hid (∀ _ : Unit, _) := fun _ => hf1
        clear ho1 hf1 HB
        go_wp2_with (at_builtin; refine hideG ?_)
        change wpList _ _ _ _ _ _
        refine app_stay (cs := vC) (wr := wq) (by rfl) _ _ 31 3 (by rfl) Tryz.underlying31 infoZ rfl (by decide) (fun _ => rfl) _ (List.replicate t (.int .i64 0)) (.int .i64 0) HO1.out (by rfl) wq.heap.size rfl (by rfl) (fun u hu => by rw [List.mem_singleton.1 hu]; rfl) _ rfl (by rw [List.length_replicate]; unfold maxLen; omega) (by rw [List.length_replicate]; omega) ?_
        intro b cap w7 ho7 kk7 hb7
        rw [List.length_replicate] at ho7 ⊢
        obtain ⟨n1, hn1⟩ : ∃ n, t + 1 = n := ⟨_, rfl⟩
        rw [hn1] at ho7 ⊢
        obtain ⟨d7, f7, h8⟩ := HF1.out () b cap n1 w7 hn1 ho7 (by
          rcases kk7 with ⟨_, k⟩ | ⟨_, k⟩
          · exact k
          · exact k.mono (fun _ e => e.elim)) (kk7.imp (fun c => c.1) (fun c => c.1))
        have HN1 : Hid (t + 1 = n1) := hn1
        have H8 : Hid (Bg1 w bb N nb L X t n0 n1 t 0 (w7.setCell ⟨bb, 5, none⟩ (.slice (some ⟨b, 0, none⟩) n1 cap))) := h8
        clear h8 ho7 kk7 hb7 hn1 HO1 HF1 hc1
        go_upto_region 19 with fail
        clear d7 f7
        generalize w7.setCell ⟨bb, 5, none⟩ (.slice (some ⟨b, 0, none⟩) n1 cap) = wq at *
        have HB := H8
        clear H8
        obtain ⟨a2, c2, hc2, ho2, hf2⟩ := HB.out.list2
        have HO2 : Hid (OwG vC 3 1 wq 0 (.slice a2 t c2) (List.replicate t (.int .i64 0))) := ho2
        have HF2 : Hid (∀ _ : Unit, _) := fun _ => hf2
        clear ho2 hf2 HB
        go_wp2_with (at_builtin; refine hideG ?_)
        change wpList _ _ _ _ _ _
        refine app_stay (cs := vC) (wr := wq) (by rfl) _ _ 31 3 (by rfl) Tryz.underlying31 infoZ rfl (by decide) (fun _ => rfl) _ (List.replicate t (.int .i64 0)) (.int .i64 0) HO2.out (by rfl) wq.heap.size rfl (by rfl) (fun u hu => by rw [List.mem_singleton.1 hu]; rfl) _ rfl (by rw [List.length_replicate]; unfold maxLen; omega) (by rw [List.length_replicate]; omega) ?_
        intro b cap w7 ho7 kk7 hb7
        rw [List.length_replicate] at ho7 ⊢
        obtain ⟨n2, hn2⟩ : ∃ n, t + 1 = n := ⟨_, rfl⟩
        rw [hn2] at ho7 ⊢
        obtain ⟨d7, f7, h8⟩ := HF2.out () b cap n2 w7 hn2 ho7 (by
          rcases kk7 with ⟨_, k⟩ | ⟨_, k⟩
          · exact k
          · exact k.mono (fun _ e => e.elim)) (kk7.imp (fun c => c.1) (fun c => c.1))
        have HN2 : Hid (t + 1 = n2) := hn2
        have H8 : Hid (Bg1 w bb N nb L X t n0 n1 n2 0 (w7.setCell ⟨bb, 6, none⟩ (.slice (some ⟨b, 0, none⟩) n2 cap))) := h8
        clear h8 ho7 kk7 hb7 hn2 HO2 HF2 hc2
        have H9 : Hid (Bg1 w bb N nb L X (t + 1 - 1) (t + 1) (t + 1) (t + 1) 0 (w7.setCell ⟨bb, 6, none⟩ (.slice (some ⟨b, 0, none⟩) n2 cap))) := by
          have := H8.out
          rw [← HN0.out, ← HN1.out] at this
          have e : t + 1 = n2 := HN2.out
          rw [show t + 1 - 1 = t by omega]
          subst e
          exact this
        clear H8 HN0 HN1 HN2
        go_wp2
        go_roundw
        case rel => exact ⟨t + 1, by omega, by go_num, H9⟩
        case measure => simp [intOf]; omega
    · have t1 : ¬ (t : Int) ≤ (N : Int) := by omega
      have te : t = N + 1 := by omega
      have HB0 : Hid (Bg1 w bb N nb L X N (N + 1) (N + 1) (N + 1) 0 wr) := by
        have := hI.out
        rw [te] at this
        exact this
      clear hI te
      go_wp2_with fail
      clear r2 t1 h5 ht
      go_loopw [12] (fun i wr => ∃ t : Nat, t ≤ nb ∧ i = .int .i64 (t : Int) ∧ Hid (Bg1 w bb N nb L X N (N + 1) (N + 1) (N + 1) t wr)) (fun i _ => nb - (intOf i).toNat)
      case atStart => exact ⟨0, by omega, rfl, HB0⟩
      case round =>
        obtain ⟨t, ht, rfl, hI⟩ := hrel
        clear HB0
        obtain ⟨r2, r3, fz⟩ := hI.out.rd
        clear r2 fz
        by_cases h5 : t < nb
        · have t0 : (0 : Int) ≤ (t : Int) := Int.natCast_nonneg _
          have t1 : (t : Int) < (nb : Int) := by omega
          generalize wr = wq at *
          have HB : Hid (Bg1 w bb N nb L X N (N + 1) (N + 1) (N + 1) t wq) := hI
          clear hI
          obtain ⟨a3, c3, hc3, ho3, hf3⟩ := HB.out.list3
          have HO3 : Hid (OwG vC 31 1 wq 0 (.slice a3 t c3) (List.replicate t (.slice none 0 0))) := ho3
          have HF3 : Hid (∀ _ : Unit, _) := fun _ => hf3
          clear ho3 hf3 HB
          go_wp2_with (at_builtin; refine hideG ?_)
          change wpList _ _ _ _ _ _
          refine app_stay (cs := vC) (wr := wq) (by rfl) _ _ 32 31 (by rfl) Tryz.underlying32 infoRw rfl (by decide) (fun _ => rfl) _ (List.replicate t (.slice none 0 0)) (.slice none 0 0) HO3.out (by rfl) wq.heap.size rfl (by rfl) (fun u hu => by rw [List.mem_singleton.1 hu]; rfl) _ rfl (by rw [List.length_replicate]; unfold maxLen; omega) (by rw [List.length_replicate]; omega) ?_
          intro b cap w7 ho7 kk7 hb7
          rw [List.length_replicate] at ho7 ⊢
          obtain ⟨n3, hn3⟩ : ∃ n, t + 1 = n := ⟨_, rfl⟩
          rw [hn3] at ho7 ⊢
          obtain ⟨d7, f7, h8⟩ := HF3.out () b cap n3 w7 hn3 ho7 (by
            rcases kk7 with ⟨_, k⟩ | ⟨_, k⟩
            · exact k
            · exact k.mono (fun _ e => e.elim)) (kk7.imp (fun c => c.1) (fun c => c.1))
          have HN3 : Hid (t + 1 = n3) := hn3
          have H8 : Hid (Bg1 w bb N nb L X N (N + 1) (N + 1) (N + 1) n3 (w7.setCell ⟨bb, 8, none⟩ (.slice (some ⟨b, 0, none⟩) n3 cap))) := h8
          clear h8 ho7 kk7 hb7 hn3 HO3 HF3 hc3
          have H9 : Hid (Bg1 w bb N nb L X N (N + 1) (N + 1) (N + 1) (t + 1) (w7.setCell ⟨bb, 8, none⟩ (.slice (some ⟨b, 0, none⟩) n3 cap))) := by
            have := H8.out
            have e : t + 1 = n3 := HN3.out
            subst e
            exact this
          clear H8 HN3
          go_wp2
          go_roundw
          case rel => exact ⟨t + 1, by omega, by go_num, H9⟩
          case measure => simp [intOf]; omega
        · have t1 : ¬ (t : Int) < (nb : Int) := by omega
          have te : t = nb := by omega
          have HD : Hid (∃ l, Bg0 w w.heap.size bb l N nb wr ∧ l.pk = fun _ => none) := by
            have := hI.out
            rw [te] at this
            exact this.done hN2 hb2
          clear hI te
          go_wp2
          go_ret2
          obtain ⟨l, d1, d2⟩ := HD.out
          exact ⟨bb, rfl, l, N, nb, d1, d2, HNB.out⟩
end Go.Proofs.YteekompojgbkhaaGreat
