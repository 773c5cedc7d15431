import Derived.Test.YteekompojgbkhaaGreatKBmP
import Derived.Test.YteekompojgbkhaaGreatKRowE
import Derived.Test.YteekompojgbkhaaGreatRows
import Derived.Deep.Slices
import Derived.SizedLaws
import Derived.ChangeOld
import Derived.OpenShut
namespace Go.Proofs.YteekompojgbkhaaGreat
open Go.ChangeShapes Go.WideShapes Go.ChangeAt Go.RowKit Go.MuLone Go.RwLone
set_option linter.unusedVariables false
set_option maxRecDepth 100000
set_option maxHeartbeats 6400000
def vC (u : Value) : List Value := [u]
def tyL (j : Nat) : TypeId := if j = 3 then 31 else 3
def zL (j : Nat) : Value := if j = 3 then .slice none 0 0 else .int .i64 0
def cjL (j : Nat) : Nat := if j = 3 then 8 else 4 + j
def updV (f : Nat → Value) (i : Nat) (x : Value) : Nat → Value := fun j => if j = i then x else f j
/-- The book while it is laid: arena, index, the four lists. -/
structure BgI (W : World) (B bb N nb : Nat) (L : Lay) (Q : List Nat) (S : AS) (X : XL) (x : XS) (lv : Nat → Value) (n : Nat → Nat) (T : Nat → Nat) : Prop where
  ch : CH W L Q S X x
  b : W.heap[bb]? = some (.cells #[.pointer (some ⟨L.b, 0, none⟩), .pointer (some ⟨X.x, 0, none⟩), .int .i64 (N : Int), .int .i64 (nb : Int), lv 0, lv 1, lv 2, .int .i64 0, lv 3, .slice none 0 0] 35)
  o : ∀ j, j < 4 → OwG vC (tyL j) 1 W B (lv j) (List.replicate (n j) (zL j))
  t1 : ∀ g, chF L X g → T g = 1
  t2 : T bb = 2
  t3 : ∀ j, j < 4 → ∀ g, (lv j).ownBlock = some g → T g = 3 + j
  tl : ∀ g, T g ≠ 0 → B ≤ g ∧ g < W.heap.size
section
variable {W w' : World} {B bb N nb : Nat} {L : Lay} {Q : List Nat} {S : AS} {X : XL} {x : XS} {lv : Nat → Value} {n T : Nat → Nat}
theorem BgI.lb (h : BgI W B bb N nb L Q S X x lv n T) : bb < W.heap.size := (Array.getElem?_eq_some_iff.1 h.b).1
theorem BgI.drew (h : BgI W B bb N nb L Q S X x lv n T) : BgI W.drew B bb N nb L Q S X x lv n T := ⟨h.ch.drew, h.b, fun j hj => owK (h.o j hj) (Keeps.refl (fun _ => False) _).drew (fun _ _ e => e), h.t1, h.t2, h.t3, h.tl⟩
/-- A slot is given. -/
theorem BgI.ar (h : BgI W B bb N nb L Q S X x lv n T) {Q' : List Nat} {S' : AS} (ha : Arn w' L Q' S') (k : Keeps L.has W w') (hw : S'.wd = S.wd) : BgI w' B bb N nb L Q' S' X x lv n T := by
  have n1 : ∀ g t, T g = t → t ≠ 1 → ¬ L.has g := fun g t hg ht e => ht (by rw [← hg]; exact h.t1 g (.inl e))
  have hc : CH w' L Q' S' X x := ⟨ha, h.ch.i.keeps k h.ch.d, h.ch.d, by rw [hw]; exact h.ch.c⟩
  exact ⟨hc, (k.block bb h.lb (n1 bb 2 h.t2 (by decide))).trans h.b, fun j hj => owK (h.o j hj) k (fun g hg => n1 g _ (h.t3 j hj g hg) (by omega)), h.t1, h.t2, h.t3, fun g hg => ⟨(h.tl g hg).1, Nat.lt_of_lt_of_le (h.tl g hg).2 k.size⟩⟩
/-- A list is longer by one. -/
theorem BgI.app (h : BgI W B bb N nb L Q S X x lv n T) (j : Nat) (hj : j < 4) (b cap m : Nat) (w7 : World) (hm : n j + 1 = m) (ho : OwG vC (tyL j) 1 w7 0 (.slice (some ⟨b, 0, none⟩) m cap) (List.replicate (n j) (zL j) ++ [zL j])) (k : Keeps (fun x => (lv j).ownBlock = some x) W w7) (hb : (lv j).ownBlock = some b ∨ W.heap.size ≤ b) (hB : B ≤ W.heap.size) :
    ∃ T', BgI (w7.setCell ⟨bb, cjL j, none⟩ (.slice (some ⟨b, 0, none⟩) m cap)) B bb N nb L Q S X x (updV lv j (.slice (some ⟨b, 0, none⟩) m cap)) (updN n j (n j + 1)) T' ∧ Below B W (w7.setCell ⟨bb, cjL j, none⟩ (.slice (some ⟨b, 0, none⟩) m cap)) := by
  have nk : ∀ g t, T g = t → t ≠ 0 → t ≠ 3 + j → ¬ (lv j).ownBlock = some g := fun g t hg h0 ht e => ht (by rw [← hg]; exact h.t3 j hj g e)
  have hbB : B ≤ b ∧ b < w7.heap.size := by
    have l7 := World.ownsRow.lt ho b rfl
    rcases hb with e | e
    · exact ⟨(World.ownsRow.lt (h.o j hj) b e).1, l7.2⟩
    · exact ⟨by omega, l7.2⟩
  have Tb : T b = 3 + j ∨ T b = 0 := by
    rcases hb with e | e
    · exact .inl (h.t3 j hj b e)
    · right
      by_cases e2 : T b = 0
      · exact e2
      · have := (h.tl b e2).2
        omega
  have k2 : Keeps (fun g => g = bb) w7 (w7.setCell ⟨bb, cjL j, none⟩ (.slice (some ⟨b, 0, none⟩) m cap)) := keepS bb _ _ rfl
  have t2 := h.t2
  have bbb : b ≠ bb := fun e => by
    rw [e, t2] at Tb
    omega
  have b7 := (k.block bb h.lb (nk bb 2 t2 (by decide) (by omega))).trans h.b
  refine ⟨fun x => if x = b then 3 + j else T x, ⟨?_, ?_, fun i hi => ?_, fun g hg => ?_, ?_, fun i hi g hg => ?_, fun g hg => ?_⟩, ?_⟩
  · exact (h.ch.keeps k (fun g hg => nk g 1 (h.t1 g hg) (by decide) (by omega))).keeps k2 (fun g hg e => by
      have := h.t1 g hg
      rw [e, t2] at this
      omega)
  · have := heapSetC b7 (cjL j) (.slice (some ⟨b, 0, none⟩) m cap)
    rw [this]
    rcases (by omega : j = 0 ∨ j = 1 ∨ j = 2 ∨ j = 3) with rfl | rfl | rfl | rfl <;> rfl
  · by_cases e : i = j
    · subst e
      show OwG vC _ 1 _ B (if i = i then _ else _) (List.replicate (if i = i then n i + 1 else n i) _)
      rw [if_pos rfl, if_pos rfl, List.replicate_succ']
      refine owK (owG_hi ho B (fun x hx => ?_)) k2 (fun x hx e2 => ?_)
      · have : b = x := Option.some.inj hx
        omega
      · have : b = x := Option.some.inj hx
        omega
    · show OwG vC _ 1 _ B (if i = j then _ else lv i) (List.replicate (if i = j then n j + 1 else n i) _)
      rw [if_neg e, if_neg e]
      refine owK (owK (h.o i hi) k (fun g hg => nk g _ (h.t3 i hi g hg) (by omega) (by omega))) k2 (fun g hg e2 => ?_)
      have := h.t3 i hi g hg
      rw [e2, t2] at this
      omega
  · have := h.t1 g hg
    show (if g = b then _ else _) = 1
    rw [if_neg (fun e => by rw [e] at this; omega)]
    exact this
  · show (if bb = b then _ else _) = 2
    rw [if_neg (fun e => bbb e.symm)]
    exact t2
  · by_cases e : i = j
    · subst e
      have hg : (if i = i then (Value.slice (some ⟨b, 0, none⟩) m cap) else lv i).ownBlock = some g := hg
      rw [if_pos rfl] at hg
      have : b = g := Option.some.inj hg
      show (if g = b then _ else _) = _
      rw [if_pos this.symm]
    · have hg : (if i = j then (Value.slice (some ⟨b, 0, none⟩) m cap) else lv i).ownBlock = some g := hg
      rw [if_neg e] at hg
      have := h.t3 i hi g hg
      show (if g = b then _ else _) = _
      rw [if_neg (fun e2 => by rw [e2] at this; omega)]
      exact this
  · by_cases e : g = b
    · rw [e]
      exact ⟨hbB.1, by simpa using hbB.2⟩
    · have hg : (if g = b then 3 + j else T g) ≠ 0 := hg
      rw [if_neg e] at hg
      have := h.tl g hg
      exact ⟨this.1, by simp; exact Nat.lt_of_lt_of_le this.2 k.size⟩
  · refine (k.below hB (fun x hx e => ?_)).setCell (p := ⟨bb, cjL j, none⟩) (h.tl bb (by rw [t2]; decide)).1 _
    have := (World.ownsRow.lt (h.o j hj) x e).1
    omega
end
end Go.Proofs.YteekompojgbkhaaGreat

namespace Go.Proofs.YteekompojgbkhaaGreat
set_option linter.unusedSimpArgs false
open Go.ChangeShapes Go.WideShapes Go.ChangeAt Go.RowKit Go.MuLone Go.RwLone
set_option linter.unusedVariables false
set_option maxRecDepth 100000
set_option maxHeartbeats 6400000
/-- An arena of which so many slots were given. -/
structure AlI (S : AS) (N i : Nat) : Prop where
  n : S.n = N
  wd : S.wd = 1
  us : ∀ k, k < i → S.use k = true
  w0 : ∀ j, S.word j = 0
theorem AlI.next {S : AS} {N i : Nat} (h : AlI S N i) (f : Nat → Int) : AlI (S.alloc i Ent.none (valW 0 f)) N (i + 1) := by
  refine ⟨h.n, h.wd, fun k hk => ?_, fun j => ?_⟩
  · show upd S.use i true k = true
    unfold upd
    split
    · rfl
    · exact h.us k (by omega)
  · show layW S.word (i * S.wd) S.wd (valW 0 f) j = 0
    unfold layW valW
    split
    · rfl
    · exact h.w0 j
/-- What holds while the lists are laid. -/
def Bg1 (w0 : World) (bb N nb : Nat) (L : Lay) (X : XL) (al ni nr nk nw : Nat) (W : World) : Prop := ∃ S lv n T, BgI W w0.heap.size bb N nb L ((List.range N).drop al) S X (freshX 0 nb) lv n T ∧ AlI S N al ∧ n 0 = ni ∧ n 1 = nr ∧ n 2 = nk ∧ n 3 = nw ∧ Below w0.heap.size w0 W
theorem Bg1.alloc {w0 W : World} {bb N nb al ni nr nk nw : Nat} {L : Lay} {X : XL} (h : Bg1 w0 bb N nb L X al ni nr nk nw W) (hal : al < N) : ∃ S, Arn W L (al :: (List.range N).drop (al + 1)) S ∧ ∀ w' f, Arn w' L ((List.range N).drop (al + 1)) (S.alloc al Ent.none (valW 0 f)) → Keeps L.has W w' → Bg1 w0 bb N nb L X (al + 1) ni nr nk nw w' := by
  obtain ⟨S, lv, n, T, h1, h2, h3, h4, h5, h6, h7⟩ := h
  have e : (List.range N).drop al = al :: (List.range N).drop (al + 1) := by
    rw [List.drop_eq_getElem_cons (by rw [List.length_range]; exact hal)]
    simp
  refine ⟨S, by rw [← e]; exact h1.ch.a, fun w' f ha k => ⟨_, lv, n, T, h1.ar ha k rfl, h2.next f, h3, h4, h5, h6, ?_⟩⟩
  refine h7.trans (k.below ?_ (fun x hx e => ?_))
  · have := (h1.tl bb (by rw [h1.t2]; decide))
    omega
  · have := (h1.tl x (by rw [h1.t1 x (.inl e)]; decide)).1
    omega
theorem Bg1.hB {w0 W : World} {bb N nb al ni nr nk nw : Nat} {L : Lay} {X : XL} (h : Bg1 w0 bb N nb L X al ni nr nk nw W) : w0.heap.size ≤ W.heap.size := by
  obtain ⟨S, lv, n, T, h1, h2, h3, h4, h5, h6, h7⟩ := h
  have := (h1.tl bb (by rw [h1.t2]; decide))
  omega
theorem Bg1.rd {w0 W : World} {bb N nb al ni nr nk nw : Nat} {L : Lay} {X : XL} (h : Bg1 w0 bb N nb L X al ni nr nk nw W) : W.cell? ⟨bb, 2, none⟩ = some (.int .i64 (N : Int)) ∧ W.cell? ⟨bb, 3, none⟩ = some (.int .i64 (nb : Int)) ∧ ∀ i, W.frozen? ⟨bb, i, none⟩ = false := by
  obtain ⟨S, lv, n, T, h1, h2, h3, h4, h5, h6, h7⟩ := h
  exact ⟨(cell?_heap h1.b 2).trans rfl, (cell?_heap h1.b 3).trans rfl, fun i => frozen?_heap h1.b i⟩
theorem Bg1.list0 {w0 W : World} {bb N nb al ni nr nk nw : Nat} {L : Lay} {X : XL} (h : Bg1 w0 bb N nb L X al ni nr nk nw W) : ∃ a c, W.cell? ⟨bb, 4, none⟩ = some (.slice a ni c) ∧ OwG vC 3 1 W 0 (.slice a ni c) (List.replicate ni (.int .i64 0)) ∧ ∀ b cap m w7, ni + 1 = m → OwG vC 3 1 w7 0 (.slice (some ⟨b, 0, none⟩) m cap) (List.replicate ni (.int .i64 0) ++ [(.int .i64 0)]) → Keeps (fun x => (Value.slice a ni c).ownBlock = some x) W w7 → ((Value.slice a ni c).ownBlock = some b ∨ W.heap.size ≤ b) → w7.cell? ⟨bb, 4, none⟩ = some (.slice a ni c) ∧ w7.frozen? ⟨bb, 4, none⟩ = false ∧ Bg1 w0 bb N nb L X al m nr nk nw (w7.setCell ⟨bb, 4, none⟩ (.slice (some ⟨b, 0, none⟩) m cap)) := by
  have hB := h.hB
  obtain ⟨S, lv, n, T, h1, h2, h3, h4, h5, h6, h7⟩ := h
  have ho := h1.o 0 (by decide)
  obtain ⟨a, c, hv⟩ := OwG.form ho
  rw [List.length_replicate] at hv
  have c0 : W.cell? ⟨bb, 4, none⟩ = some (lv 0) := (cell?_heap h1.b 4).trans rfl
  subst h3 h4 h5 h6
  rw [hv] at c0 ho
  refine ⟨a, c, c0, ho.down (Nat.zero_le _), fun b cap m w7 hm ho7 k7 hb => ?_⟩
  have nbb : ¬ (Value.slice a (n 0) c).ownBlock = some bb := fun e => by
    have := h1.t3 0 (by decide) bb (by rw [hv]; exact e)
    have := h1.t2
    omega
  obtain ⟨T', g1, g2⟩ := h1.app 0 (by decide) b cap m w7 hm ho7 (by rw [hv]; exact k7) (by rw [hv]; exact hb) hB
  exact ⟨(k7.cell (p := ⟨bb, 4, none⟩) h1.lb nbb).trans c0, (k7.frozen (p := ⟨bb, 4, none⟩) h1.lb nbb).trans (frozen?_heap h1.b 4), S, _, _, T', g1, h2, hm, rfl, rfl, rfl, h7.trans g2⟩
theorem Bg1.list1 {w0 W : World} {bb N nb al ni nr nk nw : Nat} {L : Lay} {X : XL} (h : Bg1 w0 bb N nb L X al ni nr nk nw W) : ∃ a c, W.cell? ⟨bb, 5, none⟩ = some (.slice a nr c) ∧ OwG vC 3 1 W 0 (.slice a nr c) (List.replicate nr (.int .i64 0)) ∧ ∀ b cap m w7, nr + 1 = m → OwG vC 3 1 w7 0 (.slice (some ⟨b, 0, none⟩) m cap) (List.replicate nr (.int .i64 0) ++ [(.int .i64 0)]) → Keeps (fun x => (Value.slice a nr c).ownBlock = some x) W w7 → ((Value.slice a nr c).ownBlock = some b ∨ W.heap.size ≤ b) → w7.cell? ⟨bb, 5, none⟩ = some (.slice a nr c) ∧ w7.frozen? ⟨bb, 5, none⟩ = false ∧ Bg1 w0 bb N nb L X al ni m nk nw (w7.setCell ⟨bb, 5, none⟩ (.slice (some ⟨b, 0, none⟩) m cap)) := by
  have hB := h.hB
  obtain ⟨S, lv, n, T, h1, h2, h3, h4, h5, h6, h7⟩ := h
  have ho := h1.o 1 (by decide)
  obtain ⟨a, c, hv⟩ := OwG.form ho
  rw [List.length_replicate] at hv
  have c0 : W.cell? ⟨bb, 5, none⟩ = some (lv 1) := (cell?_heap h1.b 5).trans rfl
  subst h3 h4 h5 h6
  rw [hv] at c0 ho
  refine ⟨a, c, c0, ho.down (Nat.zero_le _), fun b cap m w7 hm ho7 k7 hb => ?_⟩
  have nbb : ¬ (Value.slice a (n 1) c).ownBlock = some bb := fun e => by
    have := h1.t3 1 (by decide) bb (by rw [hv]; exact e)
    have := h1.t2
    omega
  obtain ⟨T', g1, g2⟩ := h1.app 1 (by decide) b cap m w7 hm ho7 (by rw [hv]; exact k7) (by rw [hv]; exact hb) hB
  exact ⟨(k7.cell (p := ⟨bb, 5, none⟩) h1.lb nbb).trans c0, (k7.frozen (p := ⟨bb, 5, none⟩) h1.lb nbb).trans (frozen?_heap h1.b 5), S, _, _, T', g1, h2, rfl, hm, rfl, rfl, h7.trans g2⟩
theorem Bg1.list2 {w0 W : World} {bb N nb al ni nr nk nw : Nat} {L : Lay} {X : XL} (h : Bg1 w0 bb N nb L X al ni nr nk nw W) : ∃ a c, W.cell? ⟨bb, 6, none⟩ = some (.slice a nk c) ∧ OwG vC 3 1 W 0 (.slice a nk c) (List.replicate nk (.int .i64 0)) ∧ ∀ b cap m w7, nk + 1 = m → OwG vC 3 1 w7 0 (.slice (some ⟨b, 0, none⟩) m cap) (List.replicate nk (.int .i64 0) ++ [(.int .i64 0)]) → Keeps (fun x => (Value.slice a nk c).ownBlock = some x) W w7 → ((Value.slice a nk c).ownBlock = some b ∨ W.heap.size ≤ b) → w7.cell? ⟨bb, 6, none⟩ = some (.slice a nk c) ∧ w7.frozen? ⟨bb, 6, none⟩ = false ∧ Bg1 w0 bb N nb L X al ni nr m nw (w7.setCell ⟨bb, 6, none⟩ (.slice (some ⟨b, 0, none⟩) m cap)) := by
  have hB := h.hB
  obtain ⟨S, lv, n, T, h1, h2, h3, h4, h5, h6, h7⟩ := h
  have ho := h1.o 2 (by decide)
  obtain ⟨a, c, hv⟩ := OwG.form ho
  rw [List.length_replicate] at hv
  have c0 : W.cell? ⟨bb, 6, none⟩ = some (lv 2) := (cell?_heap h1.b 6).trans rfl
  subst h3 h4 h5 h6
  rw [hv] at c0 ho
  refine ⟨a, c, c0, ho.down (Nat.zero_le _), fun b cap m w7 hm ho7 k7 hb => ?_⟩
  have nbb : ¬ (Value.slice a (n 2) c).ownBlock = some bb := fun e => by
    have := h1.t3 2 (by decide) bb (by rw [hv]; exact e)
    have := h1.t2
    omega
  obtain ⟨T', g1, g2⟩ := h1.app 2 (by decide) b cap m w7 hm ho7 (by rw [hv]; exact k7) (by rw [hv]; exact hb) hB
  exact ⟨(k7.cell (p := ⟨bb, 6, none⟩) h1.lb nbb).trans c0, (k7.frozen (p := ⟨bb, 6, none⟩) h1.lb nbb).trans (frozen?_heap h1.b 6), S, _, _, T', g1, h2, rfl, rfl, hm, rfl, h7.trans g2⟩
theorem Bg1.list3 {w0 W : World} {bb N nb al ni nr nk nw : Nat} {L : Lay} {X : XL} (h : Bg1 w0 bb N nb L X al ni nr nk nw W) : ∃ a c, W.cell? ⟨bb, 8, none⟩ = some (.slice a nw c) ∧ OwG vC 31 1 W 0 (.slice a nw c) (List.replicate nw (.slice none 0 0)) ∧ ∀ b cap m w7, nw + 1 = m → OwG vC 31 1 w7 0 (.slice (some ⟨b, 0, none⟩) m cap) (List.replicate nw (.slice none 0 0) ++ [(.slice none 0 0)]) → Keeps (fun x => (Value.slice a nw c).ownBlock = some x) W w7 → ((Value.slice a nw c).ownBlock = some b ∨ W.heap.size ≤ b) → w7.cell? ⟨bb, 8, none⟩ = some (.slice a nw c) ∧ w7.frozen? ⟨bb, 8, none⟩ = false ∧ Bg1 w0 bb N nb L X al ni nr nk m (w7.setCell ⟨bb, 8, none⟩ (.slice (some ⟨b, 0, none⟩) m cap)) := by
  have hB := h.hB
  obtain ⟨S, lv, n, T, h1, h2, h3, h4, h5, h6, h7⟩ := h
  have ho := h1.o 3 (by decide)
  obtain ⟨a, c, hv⟩ := OwG.form ho
  rw [List.length_replicate] at hv
  have c0 : W.cell? ⟨bb, 8, none⟩ = some (lv 3) := (cell?_heap h1.b 8).trans rfl
  subst h3 h4 h5 h6
  rw [hv] at c0 ho
  refine ⟨a, c, c0, ho.down (Nat.zero_le _), fun b cap m w7 hm ho7 k7 hb => ?_⟩
  have nbb : ¬ (Value.slice a (n 3) c).ownBlock = some bb := fun e => by
    have := h1.t3 3 (by decide) bb (by rw [hv]; exact e)
    have := h1.t2
    omega
  obtain ⟨T', g1, g2⟩ := h1.app 3 (by decide) b cap m w7 hm ho7 (by rw [hv]; exact k7) (by rw [hv]; exact hb) hB
  exact ⟨(k7.cell (p := ⟨bb, 8, none⟩) h1.lb nbb).trans c0, (k7.frozen (p := ⟨bb, 8, none⟩) h1.lb nbb).trans (frozen?_heap h1.b 8), S, _, _, T', g1, h2, rfl, rfl, rfl, hm, h7.trans g2⟩
theorem infoRw : (Tryz.prog.info? 31).map (fun i => (i.zero, i.size, i.bytes)) = some (some (.slice none 0 0), 1, 24) := by kernel_rfl
/-- The book was boxed, the arena and the index are made. -/
theorem Bg1.start {w0 w1 w2 w3 : World} {bb N nb : Nat} {L : Lay} {X : XL} (hb : w0.heap.size ≤ bb) (hs : bb < w1.heap.size) (h1 : w1.heap[bb]? = some (.cells #[.pointer none, .pointer none, .int .i64 (N : Int), .int .i64 (nb : Int), .slice none 0 0, .slice none 0 0, .slice none 0 0, .int .i64 0, .slice none 0 0, .slice none 0 0] 35)) (b1 : Below w0.heap.size w0 w1) (hL : ∀ g, L.has g → w1.heap.size ≤ g) (ha : Arn w2 L (List.range N) (.fresh N 1)) (b2 : Below w1.heap.size w1 w2) (hX : w2.heap.size ≤ X.x ∧ w2.heap.size ≤ X.h) (hi : IxH w3 L.b X (freshX 0 nb)) (b3 : Below w2.heap.size w2 w3) :
    (w3.heap[bb]? = some (.cells #[.pointer none, .pointer none, .int .i64 (N : Int), .int .i64 (nb : Int), .slice none 0 0, .slice none 0 0, .slice none 0 0, .int .i64 0, .slice none 0 0, .slice none 0 0] 35)) ∧ Bg1 w0 bb N nb L X 0 0 0 0 0 ((w3.setCell ⟨bb, 0, none⟩ (.pointer (some ⟨L.b, 0, none⟩))).setCell ⟨bb, 1, none⟩ (.pointer (some ⟨X.x, 0, none⟩))) := by
  classical
  have k2 := Below.keeps b2 (fun _ => False)
  have k3 := Below.keeps b3 (fun _ => False)
  have s2 := k2.size
  have s3 := k3.size
  have g3 := (k3.block bb (by omega) (fun e => e)).trans ((k2.block bb hs (fun e => e)).trans h1)
  have ks : Keeps (fun g => g = bb) w3 ((w3.setCell ⟨bb, 0, none⟩ (.pointer (some ⟨L.b, 0, none⟩))).setCell ⟨bb, 1, none⟩ (.pointer (some ⟨X.x, 0, none⟩))) := (keepS (D := fun g => g = bb) bb 0 _ rfl).trans (keepS bb 1 _ rfl)
  have nL : ∀ g, L.has g → ¬ g = bb := fun g hg e => by have := hL g hg; omega
  have nX : ∀ g, X.has g → ¬ g = bb := fun g hg e => by rcases hg with h | h <;> omega
  have hd : ∀ g, X.has g → ¬ L.has g := fun g hg hl => by
    have := ha.h.lt g hl
    rcases hg with h | h <;> omega
  have ch : CH ((w3.setCell ⟨bb, 0, none⟩ (.pointer (some ⟨L.b, 0, none⟩))).setCell ⟨bb, 1, none⟩ (.pointer (some ⟨X.x, 0, none⟩))) L (List.range N) (.fresh N 1) X (freshX 0 nb) := ⟨(ha.keeps k3 (fun _ _ e => e)).keeps ks nL, hi.keeps ks nX, hd, by show 0 < 1; decide⟩
  have nC : ∀ g, chF L X g → ¬ g = bb := fun g hg => hg.elim (nL g) (nX g)
  refine ⟨g3, _, fun _ => .slice none 0 0, fun _ => 0, fun g => if chF L X g then 1 else if g = bb then 2 else 0, ⟨ch, heapSetC (heapSetC g3 0 _) 1 _, (fun j hj => OwG.nil _ _ _ _ _), (fun g hg => if_pos hg), ?_, (fun j hj g hg => by cases hg), fun g hg => ?_⟩, ⟨rfl, rfl, fun k hk => absurd hk (Nat.not_lt_zero _), fun j => rfl⟩, rfl, rfl, rfl, rfl, ?_⟩
  · show (if chF L X bb then 1 else _) = 2
    rw [if_neg (fun e => nC bb e rfl), if_pos rfl]
  · by_cases hc : chF L X g
    · refine ⟨?_, ch.lt g hc⟩
      rcases hc with h | h
      · have := hL g h
        omega
      · rcases h with h | h <;> omega
    · have hg : (if chF L X g then 1 else if g = bb then 2 else 0) ≠ 0 := hg
      rw [if_neg hc] at hg
      by_cases e : g = bb
      · rw [e]
        exact ⟨hb, by simp; omega⟩
      · rw [if_neg e] at hg
        exact absurd rfl hg
  · exact (((b1.trans (k2.below b1.size (fun _ _ e => e))).trans (k3.below (Nat.le_trans b1.size k2.size) (fun _ _ e => e))).setCell (p := ⟨bb, 0, none⟩) hb _).setCell (p := ⟨bb, 1, none⟩) hb _
/-- A book at its beginning. -/
def Bg0 (w0 : World) (B bb : Nat) (l : BkL) (N nb : Nat) (W : World) : Prop := ∃ s, BkM W B bb l s ∧ BkJ s Gb.new ∧ Below B w0 W ∧ s.N = N ∧ s.nb = nb ∧ s.all = []
theorem Bg0.pl {w0 W : World} {B bb N nb : Nat} {l : BkL} (h : Bg0 w0 B bb l N nb W) : PlI w0 B bb l N nb 0 W := by
  obtain ⟨s, h1, h2, h3, h4, h5, h6⟩ := h
  exact ⟨s, Gb.new, h1, h2, h3, h4, h5, by rw [h6]; exact Nat.le_refl _⟩
/-- What was laid is a book at its beginning. -/
theorem Bg1.done {w0 W : World} {bb N nb : Nat} {L : Lay} {X : XL} (h : Bg1 w0 bb N nb L X N (N + 1) (N + 1) (N + 1) nb W) (hN : 1 ≤ N ∧ N ≤ 24) (hb : 1 ≤ nb ∧ nb ≤ 4) : ∃ l, Bg0 w0 w0.heap.size bb l N nb W ∧ l.pk = fun _ => none := by
  obtain ⟨S, lv, n, T, h1, h2, h3, h4, h5, h6, h7⟩ := h
  have hQ : (List.range N).drop N = [] := List.drop_of_length_le (by rw [List.length_range]; exact Nat.le_refl _)
  rw [hQ] at h1
  have rows : ∀ j, j < 4 → 0 < n j → ∃ g cap, lv j = .slice (some ⟨g, 0, none⟩) (n j) cap ∧ RwC W g (n j) (fun _ => zL j) ∧ T g = 3 + j := fun j hj hn => by
    have ho := h1.o j hj
    obtain ⟨g, cap, e1, e2, e3⟩ := owG_some ho (by intro e; have := congrArg List.length e; simp at this; omega)
    rw [List.length_replicate] at e1
    rw [e1] at ho
    obtain ⟨cur, hc⟩ := (owG_cap ho).2.2.2.2
    refine ⟨g, cap, e1, ⟨fun i hi => ?_, fun i => frozen?_heap hc i, e3⟩, h1.t3 j hj g (by rw [e1]; rfl)⟩
    have := ow_at (f := id) (cs := vC) (fun xs => by induction xs with | nil => rfl | cons x xs ih => rw [List.flatMap_cons, ih]; rfl) ho i (by rw [List.length_replicate]; exact hi)
    rw [this]
    simp
  obtain ⟨g0, c0, a0, r0, t0⟩ := rows 0 (by decide) (by omega)
  obtain ⟨g1, c1, a1, r1, t1⟩ := rows 1 (by decide) (by omega)
  obtain ⟨g2, c2, a2, r2, t2⟩ := rows 2 (by decide) (by omega)
  obtain ⟨g3, c3, a3, r3, t3⟩ := rows 3 (by decide) (by omega)
  have hb1 := h1.b
  rw [a0, a1, a2, a3, h3, h4, h5, h6] at hb1
  rw [h3] at r0
  rw [h4] at r1
  rw [h5] at r2
  rw [h6] at r3
  refine ⟨⟨L, [], X, g0, c0, g1, c1, g2, c2, g3, c3, fun _ => none⟩, ⟨⟨S, freshX 0 nb, N, nb, fun _ => 0, fun _ => 0, fun _ => 0, 0, fun _ => [], fun _ => .slice none 0 0, .slice none 0 0, [], T⟩, ⟨h1.ch, hb1, r0, r1, r2, r3, (fun j hj => ⟨OwG.nil _ _ _ _ _, fun _ => rfl⟩), OwG.nil _ _ _ _ _, (fun i q hq => by simp at hq), h1.t1, h1.t2, t0, t1, t2, t3, (fun g hg => by cases hg), (fun i q hq => by simp at hq), (fun j hj g hg => by cases hg), h1.tl, (fun g c t e => by cases e), (fun g c t e => by cases e)⟩, ⟨?_, rfl, rfl, rfl, rfl, hN, hb, ⟨fun i => ?_, fun b hb => ?_⟩, (fun i q hq => by simp at hq), (fun i q hq => by simp at hq), (fun i q hq => by simp at hq), (fun c => LOk.nil _ _ _), RmAll.new N⟩, h7, rfl, rfl, rfl⟩, rfl⟩
  · refine BkI.new (Lnk.new (by rw [h2.n]) h2.wd rfl rfl (fun s s1 s2 => ?_) (fun i hi => h2.w0 i) (fun b hb => rfl))
    have s2 : s ≤ (N : Int) := s2
    unfold liv
    rw [h2.n, decide_eq_true s1, decide_eq_true s2, h2.us _ (by omega)]
    rfl
  · rw [h2.w0]
    exact ⟨by decide, by decide⟩
  · show LkOk (hdZ b)
    have hb : b < nb := hb
    unfold hdZ LkOk
    omega
theorem bk_begin0 (w : World) (pa pb : Int) (ao : Option Addr) (mn cap : Nat) (pa0 : -9223372036854775808 ≤ pa ∧ pa ≤ 9223372036854775807) (pb0 : -9223372036854775808 ≤ pb ∧ pb ≤ 9223372036854775807) : Calls Tryz.prog 10 #[.agg #[.int .i64 pa, .int .i64 pb, .slice ao mn cap]] w fun e w' => ∃ bb, e = .returned (.tuple #[.pointer (some ⟨bb, 0, none⟩), .bool true]) ∧ ∃ l N nb, Bg0 w w.heap.size bb l N nb w' ∧ (l.pk = fun _ => none) ∧ (N : Int) = pa % 24 + 1 ∧ (nb : Int) = pb % 4 + 1 := by
  have a1 := Int.emod_nonneg pa (show (24 : Int) ≠ 0 by decide)
  have a2 := Int.emod_lt_of_pos pa (show (0 : Int) < 24 by decide)
  have b1 := Int.emod_nonneg pb (show (4 : Int) ≠ 0 by decide)
  have b2 := Int.emod_lt_of_pos pb (show (0 : Int) < 4 by decide)
  obtain ⟨Nm, hNm⟩ : ∃ x : Nat, pa % 24 = (x : Int) := ⟨(pa % 24).toNat, by omega⟩
  obtain ⟨bm, hbm⟩ : ∃ x : Nat, pb % 4 = (x : Int) := ⟨(pb % 4).toNat, by omega⟩
  obtain ⟨N, hN⟩ : ∃ x, Nm + 1 = x := ⟨_, rfl⟩
  obtain ⟨nb, hnb⟩ : ∃ x, bm + 1 = x := ⟨_, rfl⟩
  have hN2 : 1 ≤ N ∧ N ≤ 24 := by omega
  have hb2 : 1 ≤ nb ∧ nb ≤ 4 := by omega
  have HM1 : Hid (∀ W, Calls Tryz.prog 14 #[.int .i64 pa, .int .i64 24] W fun e w' => e = .returned (.int .i64 (Nm : Int)) ∧ w' = W) := fun W => by
    have := bk_mod pa 24 W pa0.1 pa0.2 (by omega) (by omega)
    rw [hNm] at this
    exact this
  have HM2 : Hid (∀ W, Calls Tryz.prog 14 #[.int .i64 pb, .int .i64 4] W fun e w' => e = .returned (.int .i64 (bm : Int)) ∧ w' = W) := fun W => by
    have := bk_mod pb 4 W pb0.1 pb0.2 (by omega) (by omega)
    rw [hbm] at this
    exact this
  have w1 : IntKind.i64.wrap (1 + (Nm : Int)) = (N : Int) := by rw [IntKind.wrap_i64]; omega
  have w2 : IntKind.i64.wrap (1 + (bm : Int)) = (nb : Int) := by rw [IntKind.wrap_i64]; omega
  have g1 := heap_alloc_new w (.cells #[.int .i64 pa, .int .i64 pb, .slice ao mn cap] 24)
  have sx : (w.alloc (.cells #[.int .i64 pa, .int .i64 pb, .slice ao mn cap] 24)).drew.cell? ⟨w.heap.size, 0, none⟩ = some (.int .i64 pa) ∧ (w.alloc (.cells #[.int .i64 pa, .int .i64 pb, .slice ao mn cap] 24)).drew.cell? ⟨w.heap.size, 1, none⟩ = some (.int .i64 pb) := ⟨(cell?_heap g1 0).trans rfl, (cell?_heap g1 1).trans rfl⟩
  have HW : Hid (Below w.heap.size w (w.alloc (.cells #[.int .i64 pa, .int .i64 pb, .slice ao mn cap] 24)).drew ∧ (w.alloc (.cells #[.int .i64 pa, .int .i64 pb, .slice ao mn cap] 24)).drew.heap.size = w.heap.size + 1) := ⟨((Below.refl _ _).alloc (Nat.le_refl _) _).drew, by show (w.alloc _).heap.size = _; simp⟩
  have HNB : Hid ((N : Int) = pa % 24 + 1 ∧ (nb : Int) = pb % 4 + 1) := ⟨by rw [hNm]; omega, by rw [hbm]; omega⟩
  clear a1 a2 b1 b2 hNm hbm hN hnb g1 pa0 pb0
  go_enter Tryz.func10, Tryz.ntmps10
  go_wp2_with fail
  (refine wp_region_held_drew (S := (fun Z => Z.cell? ⟨w.heap.size, 0, none⟩ = some (.int .i64 pa) ∧ Z.cell? ⟨w.heap.size, 1, none⟩ = some (.int .i64 pb))) (by kernel_rfl) sx (fun hHeld => ?_); simp only [List.size_toArray, List.length_cons, List.length_nil, Nat.reduceAdd, Array.replicate_succ, Array.replicate_zero, List.push_toArray, List.append_toArray, List.nil_append, List.cons_append])
  clear sx
  generalize (w.alloc (.cells #[.int .i64 pa, .int .i64 pb, .slice ao mn cap] 24)).drew = wd at *
  refine rgT 0 (h := ?_)
  refine rgT 1 (h := ?_)
  refine rgT 4 (h := ?_)
  refine rgT 5 (h := ?_)
  (refine rgS 2 (h := fun K hK => ?_); go_simp)
  refine (HM1.out _).mono ?_
  rintro e w9 ⟨rfl, hw9⟩
  rw [hw9]
  clear hw9 w9 HM1
  (refine hK.out _ _ hHeld (fun hHeld => ?_); clear hK K; try simp only [Act.put, List.setIfInBounds_toArray, List.set_cons_zero, List.set_cons_succ])
  refine rgT 3 (h := ?_)
  (refine rgS 6 (h := fun K hK => ?_); go_simp)
  refine (HM2.out _).mono ?_
  rintro e w9 ⟨rfl, hw9⟩
  rw [hw9]
  clear hw9 w9 HM2
  (refine hK.out _ _ hHeld (fun hHeld => ?_); clear hK K; try simp only [Act.put, List.setIfInBounds_toArray, List.set_cons_zero, List.set_cons_succ])
  refine rgT 7 (h := ?_)
  refine rgT 8 (h := ?_)
  obtain ⟨bb, hbb⟩ : ∃ x, wd.heap.size = x := ⟨_, rfl⟩
  have HS9 : Hid (∀ o, (wd.alloc o).cell? ⟨w.heap.size, 0, none⟩ = some (.int .i64 pa) ∧ (wd.alloc o).cell? ⟨w.heap.size, 1, none⟩ = some (.int .i64 pb)) := fun o => ⟨(allocC hHeld.1).trans hHeld.1, (allocC hHeld.2).trans hHeld.2⟩
  (refine rgS 9 (h := fun K hK => ?_); go_simp)
  (refine hK.out _ _ (HS9.out _) (fun hHeld => ?_); clear hK K; try simp only [Act.put, List.setIfInBounds_toArray, List.set_cons_zero, List.set_cons_succ])
  refine rgT 10 (h := ?_)
  refine wpAnyH_done (by kernel_rfl) ?_ _
  clear hHeld HS9
  have g1 := heap_alloc_new wd (.cells #[.pointer none, .pointer none, .int .i64 (N : Int), .int .i64 (nb : Int), .slice none 0 0, .slice none 0 0, .slice none 0 0, .int .i64 0, .slice none 0 0, .slice none 0 0] 35)
  rw [hbb] at g1
  have HB1 : Hid (Below w.heap.size w (wd.alloc (.cells #[.pointer none, .pointer none, .int .i64 (N : Int), .int .i64 (nb : Int), .slice none 0 0, .slice none 0 0, .slice none 0 0, .int .i64 0, .slice none 0 0, .slice none 0 0] 35))) := HW.out.1.trans ((Below.refl _ _).alloc (by rw [HW.out.2]; omega) _)
  have HBB : Hid (w.heap.size ≤ bb) := by have := HW.out.2; show _ ≤ _; omega
  generalize wd.alloc (.cells #[.pointer none, .pointer none, .int .i64 (N : Int), .int .i64 (nb : Int), .slice none 0 0, .slice none 0 0, .slice none 0 0, .int .i64 0, .slice none 0 0, .slice none 0 0] 35) = w1 at *
  have r2 : w1.cell? ⟨bb, 2, none⟩ = some (.int .i64 (N : Int)) := (cell?_heap g1 2).trans rfl
  have HG1 : Hid (∀ _ : Unit, _) := fun _ => g1
  have HNE : Hid (∀ _ : Unit, _) := fun _ => arn_new N 1 w1 hN2.1 (by omega) (by decide) (by decide)
  clear g1 HW hbb
  go_wp2_with fail
  refine (HNE.out ()).mono ?_
  rintro e w2 ⟨L, rfl, hL, ha, b2⟩
  have l1 : bb < w1.heap.size := (Array.getElem?_eq_some_iff.1 (HG1.out ())).1
  have g2 : w2.heap[bb]? = some (.cells #[.pointer none, .pointer none, .int .i64 (N : Int), .int .i64 (nb : Int), .slice none 0 0, .slice none 0 0, .slice none 0 0, .int .i64 0, .slice none 0 0, .slice none 0 0] 35) := ((Below.keeps b2 (fun _ => False)).block bb l1 (fun e => e)).trans (HG1.out ())
  have r3 : w2.cell? ⟨bb, 3, none⟩ = some (.int .i64 (nb : Int)) := (cell?_heap g2 3).trans rfl
  have HA : Hid ((∀ g, L.has g → w1.heap.size ≤ g) ∧ Arn w2 L (List.range N) (.fresh N 1) ∧ Below w1.heap.size w1 w2 ∧ bb < w1.heap.size) := ⟨hL, ha, b2, l1⟩
  have HX : Hid (∀ _ : Unit, _) := fun _ => ix_new L (.fresh N 1) w2 ha.h 0 nb (by show 0 < 1; decide) ⟨hb2.1, by omega⟩
  clear hL ha b2 l1 g2 r2 HNE
  go_wp2_with fail
  refine (bk_num 0 _).mono ?_
  rintro e w9 ⟨rfl, hw⟩
  rw [hw]
  clear hw w9
  go_wp2_with fail
  refine (HX.out ()).mono ?_
  rintro e w3 ⟨X, rfl, hX, hi, b3⟩
  obtain ⟨g3, hs⟩ := Bg1.start HBB.out HA.out.2.2.2 (HG1.out ()) HB1.out HA.out.1 HA.out.2.1 HA.out.2.2.1 hX hi b3
  have c0 : w3.cell? ⟨bb, 0, none⟩ = some (.pointer none) := (cell?_heap g3 0).trans rfl
  have c1 : w3.cell? ⟨bb, 1, none⟩ = some (.pointer none) := (cell?_heap g3 1).trans rfl
  have f0 := frozen?_heap g3 0
  have f1 := frozen?_heap g3 1
  have HS : Hid (Bg1 w bb N nb L X 0 0 0 0 0 ((w3.setCell ⟨bb, 0, none⟩ (.pointer (some ⟨L.b, 0, none⟩))).setCell ⟨bb, 1, none⟩ (.pointer (some ⟨X.x, 0, none⟩)))) := hs
  clear hX hi b3 hs g3 HX HA HG1 HB1 HBB r3
  go_wp2_with fail
  refine (bk_num 0 _).mono ?_
  rintro e w9 ⟨rfl, hw⟩
  rw [hw]
  clear hw w9
  go_wp2_with fail
  clear c0 c1 f0 f1
  generalize (w3.setCell ⟨bb, 0, none⟩ (.pointer (some ⟨L.b, 0, none⟩))).setCell ⟨bb, 1, none⟩ (.pointer (some ⟨X.x, 0, none⟩)) = w4 at *
  go_loopw [9] (fun i wr => ∃ t : Nat, t ≤ N + 1 ∧ i = .int .i64 (t : Int) ∧ Hid (Bg1 w bb N nb L X (t - 1) t t t 0 wr)) (fun i _ => N + 1 - (intOf i).toNat)
  case atStart => exact ⟨0, by omega, rfl, HS⟩
  case round =>
    obtain ⟨t, ht, rfl, hI⟩ := hrel
    clear HS
    obtain ⟨r2, r3, fz⟩ := hI.out.rd
    clear r3 fz
    by_cases h5 : t ≤ N
    · have t0 : (0 : Int) ≤ (t : Int) := Int.natCast_nonneg _
      have t1 : (t : Int) ≤ (N : Int) := by omega
      go_upto_if 73 with fail
      go_cut [] (fun wx => Hid (Bg1 w bb N nb L X t t t t 0 wx))
      case first =>
        by_cases e0 : t = 0
        · subst e0
          have H0 : Hid (Bg1 w bb N nb L X 0 0 0 0 0 wr) := hI
          clear hI r2
          go_wp2_with fail
          go_meet
          case rel => exact H0
        · have e1 : (0 : Int) < (t : Int) := by omega
          obtain ⟨S, ha, hF⟩ := hI.out.alloc (by omega)
          have HA : Hid (∀ _ : Unit, _) := fun _ => arn_alloc L S wr _ Ent.none none 0 0 (t - 1) (fun _ => 0) ha (fun i hi => absurd hi (Nat.not_lt_zero _)) (Nat.zero_le _)
          have et : ((t - 1 : Nat) : Int) + 1 = (t : Int) := by omega
          have e3 : t - 1 + 1 = t := by omega
          rw [et, e3] at HA
          have HF : Hid (∀ _ : Unit, _) := fun _ => hF
          rw [e3] at HF
          have ec : ((t : Int) != (t : Int)) = false := by simp
          clear ha hF hI r2 et e3
          go_wp2_with fail
          refine (HA.out ()).mono ?_
          rintro e w5 ⟨rfl, ha, k5⟩
          have H5 : Hid (Bg1 w bb N nb L X t t t t 0 w5) := HF.out () w5 _ ha k5
          clear ha k5 HA HF
          go_wp2_with fail
          refine (bk_num 0 _).mono ?_
          rintro e w9 ⟨rfl, hw⟩
          rw [hw]
          clear hw w9
          go_wp2_with fail
          go_meet
          case rel => exact H5
      case rest =>
        have HB : Hid (Bg1 w bb N nb L X t t t t 0 wc) := hcut
        clear hcut hI r2
        generalize wc = wq at *
        obtain ⟨a0, c0, hc0, ho0, hf0⟩ := HB.out.list0
        have HO0 : Hid (OwG vC 3 1 wq 0 (.slice a0 t c0) (List.replicate t (.int .i64 0))) := ho0
        have HF0 : Hid (∀ _ : Unit, _) := fun _ => hf0
        clear ho0 hf0 HB
        go_wp2_with (at_builtin; refine hideG ?_)
        change wpList _ _ _ _ _ _
        refine app_stay (cs := vC) (wr := wq) (by rfl) _ _ 31 3 (by rfl) Tryz.underlying31 infoZ rfl (by decide) (fun _ => rfl) _ (List.replicate t (.int .i64 0)) (.int .i64 0) HO0.out (by rfl) wq.heap.size rfl (by rfl) (fun u hu => by rw [List.mem_singleton.1 hu]; rfl) _ rfl (by rw [List.length_replicate]; unfold maxLen; omega) (by rw [List.length_replicate]; omega) ?_
        intro b cap w7 ho7 kk7 hb7
        rw [List.length_replicate] at ho7 ⊢
        obtain ⟨n0, hn0⟩ : ∃ n, t + 1 = n := ⟨_, rfl⟩
        rw [hn0] at ho7 ⊢
        obtain ⟨d7, f7, h8⟩ := HF0.out () b cap n0 w7 hn0 ho7 (by
          rcases kk7 with ⟨_, k⟩ | ⟨_, k⟩
          · exact k
          · exact k.mono (fun _ e => e.elim)) (kk7.imp (fun c => c.1) (fun c => c.1))
        have HN0 : Hid (t + 1 = n0) := hn0
        have H8 : Hid (Bg1 w bb N nb L X t n0 t t 0 (w7.setCell ⟨bb, 4, none⟩ (.slice (some ⟨b, 0, none⟩) n0 cap))) := h8
        clear h8 ho7 kk7 hb7 hn0 HO0 HF0 hc0
        go_upto_region 18 with fail
        clear d7 f7
        generalize w7.setCell ⟨bb, 4, none⟩ (.slice (some ⟨b, 0, none⟩) n0 cap) = wq at *
        have HB := H8
        clear H8
        obtain ⟨a1, c1, hc1, ho1, hf1⟩ := HB.out.list1
        have HO1 : Hid (OwG vC 3 1 wq 0 (.slice a1 t c1) (List.replicate t (.int .i64 0))) := ho1
        have HF1 : Hid (∀ _ : Unit, _) := fun _ => hf1
        clear ho1 hf1 HB
        go_wp2_with (at_builtin; refine hideG ?_)
        change wpList _ _ _ _ _ _
        refine app_stay (cs := vC) (wr := wq) (by rfl) _ _ 31 3 (by rfl) Tryz.underlying31 infoZ rfl (by decide) (fun _ => rfl) _ (List.replicate t (.int .i64 0)) (.int .i64 0) HO1.out (by rfl) wq.heap.size rfl (by rfl) (fun u hu => by rw [List.mem_singleton.1 hu]; rfl) _ rfl (by rw [List.length_replicate]; unfold maxLen; omega) (by rw [List.length_replicate]; omega) ?_
        intro b cap w7 ho7 kk7 hb7
        rw [List.length_replicate] at ho7 ⊢
        obtain ⟨n1, hn1⟩ : ∃ n, t + 1 = n := ⟨_, rfl⟩
        rw [hn1] at ho7 ⊢
        obtain ⟨d7, f7, h8⟩ := HF1.out () b cap n1 w7 hn1 ho7 (by
          rcases kk7 with ⟨_, k⟩ | ⟨_, k⟩
          · exact k
          · exact k.mono (fun _ e => e.elim)) (kk7.imp (fun c => c.1) (fun c => c.1))
        have HN1 : Hid (t + 1 = n1) := hn1
        have H8 : Hid (Bg1 w bb N nb L X t n0 n1 t 0 (w7.setCell ⟨bb, 5, none⟩ (.slice (some ⟨b, 0, none⟩) n1 cap))) := h8
        clear h8 ho7 kk7 hb7 hn1 HO1 HF1 hc1
        go_upto_region 19 with fail
        clear d7 f7
        generalize w7.setCell ⟨bb, 5, none⟩ (.slice (some ⟨b, 0, none⟩) n1 cap) = wq at *
        have HB := H8
        clear H8
        obtain ⟨a2, c2, hc2, ho2, hf2⟩ := HB.out.list2
        have HO2 : Hid (OwG vC 3 1 wq 0 (.slice a2 t c2) (List.replicate t (.int .i64 0))) := ho2
        have HF2 : Hid (∀ _ : Unit, _) := fun _ => hf2
        clear ho2 hf2 HB
        go_wp2_with (at_builtin; refine hideG ?_)
        change wpList _ _ _ _ _ _
        refine app_stay (cs := vC) (wr := wq) (by rfl) _ _ 31 3 (by rfl) Tryz.underlying31 infoZ rfl (by decide) (fun _ => rfl) _ (List.replicate t (.int .i64 0)) (.int .i64 0) HO2.out (by rfl) wq.heap.size rfl (by rfl) (fun u hu => by rw [List.mem_singleton.1 hu]; rfl) _ rfl (by rw [List.length_replicate]; unfold maxLen; omega) (by rw [List.length_replicate]; omega) ?_
        intro b cap w7 ho7 kk7 hb7
        rw [List.length_replicate] at ho7 ⊢
        obtain ⟨n2, hn2⟩ : ∃ n, t + 1 = n := ⟨_, rfl⟩
        rw [hn2] at ho7 ⊢
        obtain ⟨d7, f7, h8⟩ := HF2.out () b cap n2 w7 hn2 ho7 (by
          rcases kk7 with ⟨_, k⟩ | ⟨_, k⟩
          · exact k
          · exact k.mono (fun _ e => e.elim)) (kk7.imp (fun c => c.1) (fun c => c.1))
        have HN2 : Hid (t + 1 = n2) := hn2
        have H8 : Hid (Bg1 w bb N nb L X t n0 n1 n2 0 (w7.setCell ⟨bb, 6, none⟩ (.slice (some ⟨b, 0, none⟩) n2 cap))) := h8
        clear h8 ho7 kk7 hb7 hn2 HO2 HF2 hc2
        have H9 : Hid (Bg1 w bb N nb L X (t + 1 - 1) (t + 1) (t + 1) (t + 1) 0 (w7.setCell ⟨bb, 6, none⟩ (.slice (some ⟨b, 0, none⟩) n2 cap))) := by
          have := H8.out
          rw [← HN0.out, ← HN1.out] at this
          have e : t + 1 = n2 := HN2.out
          rw [show t + 1 - 1 = t by omega]
          subst e
          exact this
        clear H8 HN0 HN1 HN2
        go_wp2
        go_roundw
        case rel => exact ⟨t + 1, by omega, by go_num, H9⟩
        case measure => simp [intOf]; omega
    · have t1 : ¬ (t : Int) ≤ (N : Int) := by omega
      have te : t = N + 1 := by omega
      have HB0 : Hid (Bg1 w bb N nb L X N (N + 1) (N + 1) (N + 1) 0 wr) := by
        have := hI.out
        rw [te] at this
        exact this
      clear hI te
      go_wp2_with fail
      clear r2 t1 h5 ht
      go_loopw [12] (fun i wr => ∃ t : Nat, t ≤ nb ∧ i = .int .i64 (t : Int) ∧ Hid (Bg1 w bb N nb L X N (N + 1) (N + 1) (N + 1) t wr)) (fun i _ => nb - (intOf i).toNat)
      case atStart => exact ⟨0, by omega, rfl, HB0⟩
      case round =>
        obtain ⟨t, ht, rfl, hI⟩ := hrel
        clear HB0
        obtain ⟨r2, r3, fz⟩ := hI.out.rd
        clear r2 fz
        by_cases h5 : t < nb
        · have t0 : (0 : Int) ≤ (t : Int) := Int.natCast_nonneg _
          have t1 : (t : Int) < (nb : Int) := by omega
          generalize wr = wq at *
          have HB : Hid (Bg1 w bb N nb L X N (N + 1) (N + 1) (N + 1) t wq) := hI
          clear hI
          obtain ⟨a3, c3, hc3, ho3, hf3⟩ := HB.out.list3
          have HO3 : Hid (OwG vC 31 1 wq 0 (.slice a3 t c3) (List.replicate t (.slice none 0 0))) := ho3
          have HF3 : Hid (∀ _ : Unit, _) := fun _ => hf3
          clear ho3 hf3 HB
          go_wp2_with (at_builtin; refine hideG ?_)
          change wpList _ _ _ _ _ _
          refine app_stay (cs := vC) (wr := wq) (by rfl) _ _ 32 31 (by rfl) Tryz.underlying32 infoRw rfl (by decide) (fun _ => rfl) _ (List.replicate t (.slice none 0 0)) (.slice none 0 0) HO3.out (by rfl) wq.heap.size rfl (by rfl) (fun u hu => by rw [List.mem_singleton.1 hu]; rfl) _ rfl (by rw [List.length_replicate]; unfold maxLen; omega) (by rw [List.length_replicate]; omega) ?_
          intro b cap w7 ho7 kk7 hb7
          rw [List.length_replicate] at ho7 ⊢
          obtain ⟨n3, hn3⟩ : ∃ n, t + 1 = n := ⟨_, rfl⟩
          rw [hn3] at ho7 ⊢
          obtain ⟨d7, f7, h8⟩ := HF3.out () b cap n3 w7 hn3 ho7 (by
            rcases kk7 with ⟨_, k⟩ | ⟨_, k⟩
            · exact k
            · exact k.mono (fun _ e => e.elim)) (kk7.imp (fun c => c.1) (fun c => c.1))
          have HN3 : Hid (t + 1 = n3) := hn3
          have H8 : Hid (Bg1 w bb N nb L X N (N + 1) (N + 1) (N + 1) n3 (w7.setCell ⟨bb, 8, none⟩ (.slice (some ⟨b, 0, none⟩) n3 cap))) := h8
          clear h8 ho7 kk7 hb7 hn3 HO3 HF3 hc3
          have H9 : Hid (Bg1 w bb N nb L X N (N + 1) (N + 1) (N + 1) (t + 1) (w7.setCell ⟨bb, 8, none⟩ (.slice (some ⟨b, 0, none⟩) n3 cap))) := by
            have := H8.out
            have e : t + 1 = n3 := HN3.out
            subst e
            exact this
          clear H8 HN3
          go_wp2
          go_roundw
          case rel => exact ⟨t + 1, by omega, by go_num, H9⟩
          case measure => simp [intOf]; omega
        · have t1 : ¬ (t : Int) < (nb : Int) := by omega
          have te : t = nb := by omega
          have HD : Hid (∃ l, Bg0 w w.heap.size bb l N nb wr ∧ l.pk = fun _ => none) := by
            have := hI.out
            rw [te] at this
            exact this.done hN2 hb2
          clear hI te
          go_wp2
          go_ret2
          obtain ⟨l, d1, d2⟩ := HD.out
          exact ⟨bb, rfl, l, N, nb, d1, d2, HNB.out⟩
theorem bk_begin (w : World) (pa pb : Int) (ao : Option Addr) (mn cap : Nat) (pa0 : -9223372036854775808 ≤ pa ∧ pa ≤ 9223372036854775807) (pb0 : -9223372036854775808 ≤ pb ∧ pb ≤ 9223372036854775807) : Calls Tryz.prog 10 #[.agg #[.int .i64 pa, .int .i64 pb, .slice ao mn cap]] w fun e w' => ∃ bb, e = .returned (.tuple #[.pointer (some ⟨bb, 0, none⟩), .bool true]) ∧ ∃ l N nb, PlI w w.heap.size bb l N nb 0 w' ∧ l.pk = fun _ => none := by
  refine (bk_begin0 w pa pb ao mn cap pa0 pb0).mono ?_
  rintro e w' ⟨bb, rfl, l, N, nb, h1, h2, _⟩
  exact ⟨bb, rfl, l, N, nb, h1.pl, h2⟩
end Go.Proofs.YteekompojgbkhaaGreat

namespace Go.Proofs.YteekompojgbkhaaGreat
open Go.ChangeShapes Go.WideShapes Go.ChangeAt Go.RowKit
set_option linter.unusedVariables false
set_option maxRecDepth 100000
theorem list_of {α : Type} {p : Nat → α → Prop} : ∀ n, (∀ i, i < n → ∃ a, p i a) → ∃ xs : List α, xs.length = n ∧ ∀ i (h : i < xs.length), p i xs[i]
  | 0, _ => ⟨[], rfl, fun i h => by simp at h⟩
  | n + 1, h => by
    obtain ⟨xs, hl, hx⟩ := list_of n (fun i hi => h i (by omega))
    obtain ⟨a, ha⟩ := h n (by omega)
    refine ⟨xs ++ [a], by rw [List.length_append, hl]; rfl, fun i hi => ?_⟩
    rw [List.length_append, hl] at hi
    rcases Nat.lt_or_ge i xs.length with h' | h'
    · rw [List.getElem_append_left h']; exact hx i h'
    · have e : i = n := by simp at hi; omega
      subst e
      rw [List.getElem_append_right h']
      simpa [hl] using ha
theorem bulk_app {H : Type} : ∀ (a b : List (DataW H)), Rows.uptoBulkAll (a ++ b) = Rows.uptoBulkAll a + Rows.uptoBulkAll b
  | [], b => by simp [Rows.uptoBulkAll]
  | x :: a, b => by rw [List.cons_append, Rows.uptoBulkAll, Rows.uptoBulkAll, bulk_app a b]; omega
theorem bulk_range {α H : Type} (m : α → Nat) (D : Nat → DataW H) : ∀ xs : List α, (∀ i (h : i < xs.length), m xs[i] ≤ Rows.uptoBulk (D i)) → (xs.map m).sum ≤ Rows.uptoBulkAll ((List.range xs.length).map D) := by
  intro xs
  have key : ∀ n (ys : List α), ys.length = n → (∀ i (h : i < ys.length), m ys[i] ≤ Rows.uptoBulk (D i)) → (ys.map m).sum ≤ Rows.uptoBulkAll ((List.range ys.length).map D) := by
    intro n
    induction n with
    | zero =>
      intro ys hl _
      have : ys = [] := List.eq_nil_of_length_eq_zero hl
      subst this
      simp
    | succ n ih =>
      intro ys hl h
      have hne : ys ≠ [] := fun e => by rw [e] at hl; simp at hl
      have e : ys = ys.dropLast ++ [ys.getLast hne] := (List.dropLast_concat_getLast hne).symm
      have hd : ys.dropLast.length = n := by rw [List.length_dropLast]; omega
      have h1 := ih ys.dropLast hd (fun i hi => by
        have := h i (by rw [hd] at hi; omega)
        rw [List.getElem_dropLast]
        exact this)
      have h2 := h n (by omega)
      have e2 : ys[n]'(by omega) = ys.getLast hne := by rw [List.getLast_eq_getElem]; congr 1; omega
      rw [e2] at h2
      rw [hl, List.range_succ, List.map_append, bulk_app]
      rw [hd] at h1
      rw [e, List.map_append, List.sum_append]
      simp only [List.map_cons, List.map_nil, List.sum_cons, List.sum_nil, Rows.uptoBulkAll]
      omega
  exact key _ xs rfl
/-- A list read, whatever it is a list of. -/
theorem open_list {α H : Type} {enc : TypeId × Value → H} {W : World} (cs : α → List Value) (m : α → Nat) (ok : α → Prop) {t e : TypeId} {n : Nat} (ht : Tryz.prog.underlying t = some (.slice e)) (hc : Tryz.prog.cellsOf e = n) (hn : ∀ y, (cs y).length = n) (h0 : 0 < n)
    (each : ∀ (fuel : Nat) (c : List Value) (y : DataW H × List MemPlace), DataW.trod enc Tryz.prog W 0 (fun _ => true) true fuel e c = some y → ∃ a : α, c = cs a ∧ ok a ∧ m a ≤ Rows.uptoBulk y.1)
    {fuel : Nat} {c : List Value} {x : DataW H × List MemPlace} (hf : DataW.trod enc Tryz.prog W 0 (fun _ => true) true fuel t c = some x) :
    ∃ (v : Value) (xs : List α), c = [v] ∧ InG cs W W.heap.size v xs ∧ (∀ a ∈ xs, ok a) ∧ (xs.map m).sum + 1 ≤ Rows.uptoBulk x.1 := by
  rcases Deep.open_slice ht hf with ⟨hcs, rfl⟩ | ⟨a, len, cap, mm, fl, D, Pl, hcs, _, hl, hm, hmm, rfl, hx⟩
  · refine ⟨_, [], hcs, ⟨none, 0, rfl, by simp, fun _ => rfl, fun j u hj => by simp at hj⟩, (fun a ha => by cases ha), ?_⟩
    show 0 + 1 ≤ Rows.uptoBulk (DataW.nil : DataW H)
    rw [Rows.uptoBulk]
    exact Nat.le_refl _
  · simp only [if_true] at hmm
    subst hmm
    obtain ⟨xs, hxl, hxs⟩ := list_of (p := fun i (y : α) => W.cells? 0 (a.add (i * n)) n = some (cs y) ∧ ok y ∧ m y ≤ Rows.uptoBulk (D i)) len (fun i hi => by
      obtain ⟨c', h1, h2⟩ := hx i (by omega)
      obtain ⟨y, e1, e2, e3⟩ := each _ _ _ h2
      refine ⟨y, ?_, e2, e3⟩
      rw [← e1, ← hc]
      exact h1)
    subst hxl
    have cellAt : ∀ i (hi : i < xs.length) j, j < n → W.cell? ((a.add (i * n)).add j) = (cs xs[i])[j]? := fun i hi j hj => (World.cells?_some (hxs i hi).1).2.2 j hj
    refine ⟨_, xs, hcs, ⟨some a, _, rfl, hl, (fun h => by cases h), fun j u hj => ?_⟩, ?_, ?_⟩
    · have hjl : j < xs.length * n := by
        have := (List.getElem?_eq_some_iff.1 hj).1
        rw [flat_len cs n hn] at this
        exact this
      have hi : j / n < xs.length := by
        rw [Nat.div_lt_iff_lt_mul h0]
        exact hjl
      have hr : j % n < n := Nat.mod_lt _ h0
      have ej : j = j / n * n + j % n := by rw [Nat.mul_comm]; exact (Nat.div_add_mod j n).symm
      have hu : (cs xs[j / n])[j % n]? = some u := by
        rw [← flat_get cs n hn xs (j / n) hi (j % n) hr, ← ej]
        exact hj
      have h1 := (cellAt (j / n) hi (j % n) hr).trans hu
      obtain ⟨b, off, spot⟩ := a
      have hs : spot = none := by
        have hp : 0 < xs.length := Nat.lt_of_le_of_lt (Nat.zero_le _) hi
        have h2 := cellAt 0 hp 0 h0
        rw [List.getElem?_eq_getElem (by rw [hn]; exact h0)] at h2
        have hsp := World.cell?_spot h2
        simpa [Addr.add] using hsp
      subst hs
      rw [addr_add, addr_add, Nat.add_assoc, ← ej] at h1
      refine ⟨b, off, rfl, ?_, h1⟩
      rcases Nat.lt_or_ge b W.heap.size with h | h
      · exact h
      · unfold World.cell? at h1
        simp [Array.getElem?_eq_none h] at h1
    · intro y hy
      obtain ⟨i, hi, rfl⟩ := List.mem_iff_getElem.1 hy
      exact (hxs i hi).2.1
    · have := bulk_range m D xs (fun i hi => (hxs i hi).2.2)
      show (xs.map m).sum + 1 ≤ Rows.uptoBulk (DataW.slice _ _)
      rw [Rows.uptoBulk]
      omega
end Go.Proofs.YteekompojgbkhaaGreat

namespace Go.Proofs.YteekompojgbkhaaGreat
open Go.ChangeShapes Go.WideShapes Go.ChangeAt Go.RowKit
set_option linter.unusedVariables false
set_option maxRecDepth 100000
theorem oCint : Tryz.prog.cellsOf 3 = 1 := by kernel_rfl
theorem o_one {H : Type} (d : DataW H) : 1 ≤ Rows.uptoBulk d := by
  unfold Rows.uptoBulk
  split <;> omega
theorem o_two {cs : List Value} (h : cs.length = 2) : ∃ c0 c1, cs = [c0, c1] := by
  match cs, h with
  | [c0, c1], _ => exact ⟨c0, c1, rfl⟩
theorem o_some {A : Type} {xs : List A} {i n : Nat} (h : xs.length = n) (hi : i < n) : ∃ y, xs[i]? = some y := ⟨xs[i]'(by omega), List.getElem?_eq_getElem (by omega)⟩
/-- A step of a script. -/
structure O4 where
  k : Int
  f : Int
  a : Int
  b : Int
def opC (o : O4) : List Value := [.int .i64 o.k, .int .i64 o.f, .int .i64 o.a, .int .i64 o.b]
def i64ok (x : Int) : Prop := -9223372036854775808 ≤ x ∧ x ≤ 9223372036854775807
def O4.ok (o : O4) : Prop := i64ok o.k ∧ i64ok o.f ∧ i64ok o.a ∧ i64ok o.b
section
variable {H : Type} {enc : TypeId × Value → H} {W : World}
theorem o_i64 {fuel : Nat} {c : List Value} {y : DataW H × List MemPlace} (h : DataW.trod enc Tryz.prog W 0 (fun _ => true) true fuel 3 c = some y) : ∃ a : Int, c = [.int .i64 a] ∧ i64ok a := by
  obtain ⟨s, e1, rfl, hw⟩ := DataW.trod_int (k := .i64) (by kernel_rfl) h
  exact ⟨s, e1, (bounds_i64 hw).1, by have := (bounds_i64 hw).2; omega⟩
end
end Go.Proofs.YteekompojgbkhaaGreat

namespace Go.Proofs.YteekompojgbkhaaGreat
open Go.ChangeShapes Go.WideShapes Go.ChangeAt Go.RowKit Go.MuLone Go.RwLone
set_option linter.unusedVariables false
set_option maxRecDepth 100000
set_option maxHeartbeats 6400000
theorem pCmv : Tryz.prog.cellsOf 40 = 2 := by kernel_rfl
theorem pClm : Tryz.prog.cellsOf 22 = 1 := by kernel_rfl
theorem pCpl : Tryz.prog.cellsOf 24 = 3 := by kernel_rfl
theorem p_threes {α : Type} (xs : List α) : (xs.map (fun _ => 3)).sum = 3 * xs.length := by
  induction xs with
  | nil => rfl
  | cons a r ih => simp only [List.map_cons, List.sum_cons, List.length_cons, ih]; omega
theorem p_three {cs : List Value} (h : cs.length = 3) : ∃ c0 c1 c2, cs = [c0, c1, c2] := by
  match cs, h with
  | [c0, c1, c2], _ => exact ⟨c0, c1, c2, rfl⟩
theorem p_twoOf {A : Type} {xs : List A} {y0 y1 : A} (h : xs.length = 2) (h0 : xs[0]? = some y0) (h1 : xs[1]? = some y1) : xs = [y0, y1] := by
  match xs, h with
  | [a, b], _ => simp at h0 h1; rw [h0, h1]
theorem p_threeOf {A : Type} {xs : List A} {y0 y1 y2 : A} (h : xs.length = 3) (h0 : xs[0]? = some y0) (h1 : xs[1]? = some y1) (h2 : xs[2]? = some y2) : xs = [y0, y1, y2] := by
  match xs, h with
  | [a, b, c], _ => simp at h0 h1 h2; rw [h0, h1, h2]
section
variable {H : Type} {enc : TypeId × Value → H} {W : World}
theorem p_move (fuel : Nat) (c : List Value) (y : DataW H × List MemPlace) (h : DataW.trod enc Tryz.prog W 0 (fun _ => true) true fuel 40 c = some y) : ∃ a : Int × Int, c = mvC a ∧ (i64ok a.1 ∧ i64ok a.2) ∧ 3 ≤ Rows.uptoBulk y.1 := by
  obtain ⟨xs, m, _, rfl, hl, hlen, hf⟩ := DataW.trod_struct Tryz.underlying40 h
  rw [pCmv] at hl
  obtain ⟨c0, c1, rfl⟩ := o_two hl
  have hlen2 : xs.length = 2 := hlen
  obtain ⟨y0, e0⟩ := o_some (i := 0) hlen2 (by omega)
  obtain ⟨y1, e1⟩ := o_some (i := 1) hlen2 (by omega)
  have f0 := (hf 0 _ rfl).trans e0
  have f1 := (hf 1 _ rfl).trans e1
  obtain ⟨a0, q0, w0⟩ := o_i64 f0
  obtain ⟨a1, q1, w1⟩ := o_i64 f1
  change List.take (Tryz.prog.cellsOf 3) (List.drop 0 [c0, c1]) = _ at q0
  change List.take (Tryz.prog.cellsOf 3) (List.drop 1 [c0, c1]) = _ at q1
  rw [oCint] at q0 q1
  simp at q0 q1
  subst q0 q1
  refine ⟨⟨a0, a1⟩, rfl, ⟨w0, w1⟩, ?_⟩
  have k0 := o_one y0.1
  have k1 := o_one y1.1
  rw [p_twoOf hlen2 e0 e1]
  simp only [List.map_cons, List.map_nil, Rows.uptoBulk, Rows.uptoBulkAll]
  omega
/-- A plan read. -/
theorem open_pn {fuel : Nat} {c : List Value} {x : DataW H × List MemPlace} (h : DataW.trod enc Tryz.prog W 0 (fun _ => true) true fuel 24 c = some x) (hb : Rows.uptoBulk x.1 ≤ 1048576) :
    ∃ (pa pb : Int) (ao : Option Addr) (cap : Nat) (ms : List (Int × Int)), c = [.int .i64 pa, .int .i64 pb, .slice ao ms.length cap] ∧ InG mvC W W.heap.size (.slice ao ms.length cap) ms ∧ ms.length ≤ 524288 ∧ (∀ o ∈ ms, i64ok o.1 ∧ i64ok o.2) ∧ i64ok pa ∧ i64ok pb := by
  obtain ⟨xs, m, _, rfl, hl, hlen, hf⟩ := DataW.trod_struct Tryz.underlying24 h
  rw [pCpl] at hl
  obtain ⟨c0, c1, c2, rfl⟩ := p_three hl
  have hlen3 : xs.length = 3 := hlen
  obtain ⟨y0, e0⟩ := o_some (i := 0) hlen3 (by omega)
  obtain ⟨y1, e1⟩ := o_some (i := 1) hlen3 (by omega)
  obtain ⟨y2, e2⟩ := o_some (i := 2) hlen3 (by omega)
  have f0 := (hf 0 _ rfl).trans e0
  have f1 := (hf 1 _ rfl).trans e1
  have f2 := (hf 2 _ rfl).trans e2
  obtain ⟨a0, q0, w0⟩ := o_i64 f0
  obtain ⟨a1, q1, w1⟩ := o_i64 f1
  obtain ⟨v, ms, q2, i2, k2, b2⟩ := open_list (W := W) mvC (fun _ => 3) (fun a : Int × Int => i64ok a.1 ∧ i64ok a.2) Tryz.underlying22 pCmv (fun _ => rfl) (by omega) (fun f c y h => p_move f c y h) f2
  change List.take (Tryz.prog.cellsOf 3) (List.drop 0 [c0, c1, c2]) = _ at q0
  change List.take (Tryz.prog.cellsOf 3) (List.drop 1 [c0, c1, c2]) = _ at q1
  change List.take (Tryz.prog.cellsOf 22) (List.drop 2 [c0, c1, c2]) = _ at q2
  rw [oCint] at q0 q1
  rw [pClm] at q2
  simp at q0 q1 q2
  subst q0 q1 q2
  obtain ⟨ao, cap, ec⟩ := i2.form
  subst ec
  rw [p_threes] at b2
  have hb2 : Rows.uptoBulk y2.1 ≤ 1048576 := by
    rw [p_threeOf hlen3 e0 e1 e2] at hb
    simp only [List.map_cons, List.map_nil, Rows.uptoBulk, Rows.uptoBulkAll] at hb
    omega
  exact ⟨a0, a1, ao, cap, ms, rfl, i2, by omega, k2, w0, w1⟩
end
theorem PlI.base {w0 W : World} {B bb N nb n : Nat} {l : BkL} (h : PlI w0 B bb l N nb n W) : PlI W B bb l N nb n W := by
  obtain ⟨s, G, h1, h2, h3, h4⟩ := h
  exact ⟨s, G, h1, h2, Below.refl _ _, h4⟩
theorem PlI.below {w0 W : World} {B bb N nb n : Nat} {l : BkL} (h : PlI w0 B bb l N nb n W) : Below B w0 W := by
  obtain ⟨s, G, h1, h2, h3, h4⟩ := h
  exact h3

section
variable {H : Type} {enc : TypeId × Value → H} {W : World}
end
section
variable {H : Type} {enc : TypeId × Value → H} {W : World}
end
end Go.Proofs.YteekompojgbkhaaGreat
