import Derived.Test.YteekompojgbkhaaGreatKBmN
import Derived.Deep.DeepCutAuto
namespace Go.Proofs.YteekompojgbkhaaGreat
set_option linter.unusedSimpArgs false
open Go.ChangeShapes Go.WideShapes Go.ChangeAt Go.RowKit Go.MuLone Go.RwLone
set_option linter.unusedVariables false
set_option maxRecDepth 100000
set_option maxHeartbeats 6400000
section
variable {w w' : World} {B bb : Nat} {l : BkL} {s : BkS}
/-- A machine more, the row of machines may lie elsewhere. -/
theorem BkM.pushT (h : BkM w B bb l s) (q : OL) (v' : Value) (k : Keeps (fun x => s.av.ownBlock = some x) w w') (ho : OwG olC 48 12 w' B v' (s.all ++ [q])) (hm : q.H w' l.X.x) (hd : OwI w' B q.dv q.o.t.due) (ht : OwI w' B q.mv q.o.t.met) (T' : Nat → Nat) (hT : ∀ x, s.T x ≠ 0 → T' x = s.T x) (hT0 : ∀ x, T' x ≠ 0 → B ≤ x ∧ x < w'.heap.size) (hv : ∀ g, v'.ownBlock = some g → T' g = 7) (h1 : T' q.mb = 8 + 4 * s.all.length) (h2 : ∀ g, q.dv.ownBlock = some g → T' g = 9 + 4 * s.all.length) (h3 : ∀ g, q.mv.ownBlock = some g → T' g = 10 + 4 * s.all.length) :
    BkM (w'.setCell ⟨bb, 9, none⟩ v') B bb l { s with av := v', all := s.all ++ [q], T := T' } := by
  have a1 : BkO w' B bb l s 7 := h.but 7 (k.mono (fun g hg => h.t7 g hg))
  have k2 : Keeps (fun x => s.T x = 2) w' (w'.setCell ⟨bb, 9, none⟩ v') := keepS bb 9 v' h.t2
  have n2 : ∀ x t, T' x = t → t ≠ 0 → t ≠ 2 → s.T x ≠ 2 := fun x t hx h0 h7 e => by
    have := hT x (by rw [e]; decide)
    rw [hx, e] at this
    exact h7 this
  have nI : ∀ {v : Value} {xs : List Int} (t : Nat), OwI w' B v xs → (∀ g, v.ownBlock = some g → s.T g = t) → t ≠ 2 → OwI (w'.setCell ⟨bb, 9, none⟩ v') B v xs := fun {v xs} t ho hh h2 => owK ho k2 (fun g hg e => h2 (by rw [← hh g hg]; exact e))
  have t2 := h.t2
  have t3 := h.t3
  have t4 := h.t4
  have t5 := h.t5
  have t6 := h.t6
  refine ⟨(a1.ch (by decide)).keeps k2 (fun g hg e => by have := h.t1 g hg; omega), heapSetC (a1.b (by decide)) 9 _, (a1.i (by decide)).keeps k2 (by omega), (a1.r (by decide)).keeps k2 (by omega), (a1.k (by decide)).keeps k2 (by omega), (a1.z (by decide)).keeps k2 (by omega),
    fun j hj => ⟨nI _ (a1.v j hj (by omega)).1 (h.t9 j hj) (by omega), (h.v j hj).2⟩, owK ho k2 (fun g hg e => n2 g 7 (hv g hg) (by decide) (by decide) e), fun j p hp => ?_, fun x hx => (hT x (by rw [h.t1 x hx]; decide)).trans (h.t1 x hx), (hT _ (by omega)).trans t2, (hT _ (by omega)).trans t3, (hT _ (by omega)).trans t4, (hT _ (by omega)).trans t5, (hT _ (by omega)).trans t6, hv, fun j p hp => ?_, fun j hj x hx => (hT x (by rw [h.t9 j hj x hx]; omega)).trans (h.t9 j hj x hx), fun x hx => ⟨(hT0 x hx).1, by simpa using (hT0 x hx).2⟩, fun g c t e => (k2.block _ (Array.getElem?_eq_some_iff.1 (a1.pp (by decide) g c t e)).1 (by have := h.tp g c t e; omega)).trans (a1.pp (by decide) g c t e), fun g c t e => (hT _ (by rw [h.tp g c t e]; decide)).trans (h.tp g c t e)⟩
  · rcases Nat.lt_or_ge j s.all.length with e | e
    · have hp : s.all[j]? = some p := by rw [← List.getElem?_append_left (l₂ := [q]) e]; exact hp
      have tt := h.t8 j p hp
      exact ⟨((a1.m j p hp).1 (by omega)).keeps k2 (by omega), nI _ ((a1.m j p hp).2.1 (by omega)) tt.2.1 (by omega), nI _ ((a1.m j p hp).2.2 (by omega)) tt.2.2 (by omega)⟩
    · have hp : (s.all ++ [q])[j]? = some p := hp
      rw [List.getElem?_append_right e] at hp
      have hj : j = s.all.length := by
        have := (List.getElem?_eq_some_iff.1 hp).1
        simp only [List.length_cons, List.length_nil] at this
        omega
      subst hj
      have hp : q = p := by simpa using hp
      subst hp
      exact ⟨hm.keeps k2 (n2 _ _ h1 (by omega) (by omega)), owK hd k2 (fun x hx => n2 x _ (h2 x hx) (by omega) (by omega)), owK ht k2 (fun x hx => n2 x _ (h3 x hx) (by omega) (by omega))⟩
  · rcases Nat.lt_or_ge j s.all.length with e | e
    · have hp : s.all[j]? = some p := by rw [← List.getElem?_append_left (l₂ := [q]) e]; exact hp
      have tt := h.t8 j p hp
      exact ⟨(hT _ (by omega)).trans tt.1, fun x hx => (hT x (by rw [tt.2.1 x hx]; omega)).trans (tt.2.1 x hx), fun x hx => (hT x (by rw [tt.2.2 x hx]; omega)).trans (tt.2.2 x hx)⟩
    · have hp : (s.all ++ [q])[j]? = some p := hp
      rw [List.getElem?_append_right e] at hp
      have hj : j = s.all.length := by
        have := (List.getElem?_eq_some_iff.1 hp).1
        simp only [List.length_cons, List.length_nil] at this
        omega
      subst hj
      have hp : q = p := by simpa using hp
      subst hp
      exact ⟨h1, h2, h3⟩
/-- The row of machines has grown by a machine just made. -/
theorem BkM.begun {w2 w3 w7 : World} {n cp b cap mb : Nat} {sp : Option Addr} (h : BkM w2 B bb l s) (hv : s.av = .slice sp n cp) (hn : s.all.length = n) (hmb : w2.heap.size = mb) (km : Keeps (fun _ => False) w2.drew w3) (hz : w3.heap.size = mb + 1) (o : On) (hm : OL.H w3 l.X.x ⟨o, mb, .slice none 0 0, .slice none 0 0⟩) (ho1 : o.t.due = []) (ho2 : o.t.met = []) (ho : OwG olC 48 12 w7 0 (.slice (some ⟨b, 0, none⟩) (n + 1) cap) (s.all ++ [⟨o, mb, .slice none 0 0, .slice none 0 0⟩])) (k7 : Keeps (fun x => (Value.slice sp n cp).ownBlock = some x) w3 w7) (hb : (Value.slice sp n cp).ownBlock = some b ∨ w3.heap.size ≤ b) :
    ∃ T', BkM (w7.setCell ⟨bb, 9, none⟩ (.slice (some ⟨b, 0, none⟩) (n + 1) cap)) B bb l { s with av := .slice (some ⟨b, 0, none⟩) (n + 1) cap, all := s.all ++ [⟨o, mb, .slice none 0 0, .slice none 0 0⟩], T := T' } ∧ BkM w3 B bb l s ∧ Below B w2 (w7.setCell ⟨bb, 9, none⟩ (.slice (some ⟨b, 0, none⟩) (n + 1) cap)) := by
  have k3 : Keeps (fun _ => False) w2 w3 := ((Keeps.refl (fun _ => False) _).drew).trans km
  have b3 := h.noC k3
  have hB := h.hB
  have Tmb : s.T mb = 0 := h.new0 mb (by omega)
  have hob : ∀ x, (Value.slice (some ⟨b, 0, none⟩) (n + 1) cap).ownBlock = some x → x = b := fun x hx => (Option.some.inj hx).symm
  have own7 : ∀ x, (Value.slice sp n cp).ownBlock = some x → s.T x = 7 := fun x hx => h.t7 x (by rw [hv]; exact hx)
  have bmb : b ≠ mb := by
    rcases hb with e | e
    · intro e2
      have := own7 b e
      rw [e2, Tmb] at this
      omega
    · omega
  have tb : s.T b = 7 ∨ s.T b = 0 := by
    rcases hb with e | e
    · exact .inl (own7 b e)
    · exact .inr (b3.new0 b e)
  have lb := World.ownsRow.lt ho b rfl
  have hbB : B ≤ b := by
    rcases hb with e | e
    · exact (h.tl b (by rw [own7 b e]; decide)).1
    · omega
  refine ⟨fun x => if x = mb then 8 + 4 * s.all.length else if x = b then 7 else s.T x, b3.pushT ⟨o, mb, .slice none 0 0, .slice none 0 0⟩ _ (by rw [hv]; exact k7) (owG_hi ho B (fun x hx => by rw [hob x hx]; exact hbB)) (hm.keeps k7 (fun e => by have := own7 mb e; omega)) (by rw [ho1]; exact OwG.nil _ _ _ _ _) (by rw [ho2]; exact OwG.nil _ _ _ _ _) _ (fun x hx => ?_) (fun x hx => ?_) (fun x hx => ?_) ?_ (fun x hx => by cases hx) (fun x hx => by cases hx), b3, ?_⟩
  · show (if x = mb then _ else if x = b then 7 else s.T x) = s.T x
    rw [if_neg (fun e => hx (by rw [e]; exact Tmb))]
    by_cases e : x = b
    · rw [if_pos e, e]
      rcases tb with t | t
      · exact t.symm
      · exact absurd (by rw [e]; exact t) hx
    · rw [if_neg e]
  · by_cases e1 : x = mb
    · rw [e1]
      have := k7.size
      exact ⟨by omega, by omega⟩
    · by_cases e2 : x = b
      · rw [e2]
        exact ⟨hbB, lb.2⟩
      · have hx : (if x = mb then 8 + 4 * s.all.length else if x = b then 7 else s.T x) ≠ 0 := hx
        rw [if_neg e1, if_neg e2] at hx
        have := b3.tl x hx
        exact ⟨this.1, Nat.lt_of_lt_of_le this.2 k7.size⟩
  · rw [hob x hx]
    show (if b = mb then _ else if b = b then 7 else _) = 7
    rw [if_neg bmb, if_pos rfl]
  · show (if mb = mb then _ else _) = _
    rw [if_pos rfl]
  · have bl : Below B w2 w7 := (k3.below hB (fun x hx e => e)).trans (k7.below b3.hB (fun x hx e => by have := (h.tl x (by rw [own7 x e]; decide)).1; omega))
    exact bl.setCell (p := ⟨bb, 9, none⟩) (h.tl bb (by rw [h.t2]; decide)).1 _
end
/-- What is left when a machine was asked to begin. -/
def StNx (s : BkS) (kd : Nat) (s' : BkS) (G' : Gb) : Prop := BkJ s' G' ∧ s'.S = s.S ∧ s'.x = s.x ∧ s'.N = s.N ∧ s'.nb = s.nb ∧ s'.all.length ≤ s.all.length + 1 ∧ (kd = 2 → s'.all.length = s.all.length + 1)
end Go.Proofs.YteekompojgbkhaaGreat

namespace Go.Proofs.YteekompojgbkhaaGreat
set_option linter.unusedSimpArgs false
open Go.ChangeShapes Go.WideShapes Go.ChangeAt Go.RowKit Go.MuLone Go.RwLone
set_option linter.unusedVariables false
set_option maxRecDepth 100000
set_option maxHeartbeats 6400000
section
variable {w w' : World} {B bb : Nat} {l : BkL} {s : BkS}
def BkL.keep (l : BkL) (g : Nat) (c : Array Value) (t : TypeId) : BkL := { l with pk := fun x => if x = g then some (c, t) else l.pk x }
/-- One block more is kept. -/
theorem BkM.keepP (h : BkM w B bb l s) (g : Nat) (c : Array Value) (t : TypeId) (hg : w.heap[g]? = some (.cells c t)) (h0 : s.T g = 0) (hB : B ≤ g) : BkM w B bb (l.keep g c t) { s with T := updN s.T g 411 } := by
  have b := h.tag g 411 h0 hB (Array.getElem?_eq_some_iff.1 hg).1
  refine ⟨b.ch, b.b, b.i, b.r, b.k, b.z, b.v, b.a, b.m, b.t1, b.t2, b.t3, b.t4, b.t5, b.t6, b.t7, b.t8, b.t9, b.tl, fun x d u e => ?_, fun x d u e => ?_⟩
  · have e : (if x = g then some (c, t) else l.pk x) = some (d, u) := e
    by_cases ex : x = g
    · rw [if_pos ex] at e
      injection e with e
      injection e with e1 e2
      rw [ex, ← e1, ← e2]
      exact hg
    · rw [if_neg ex] at e
      exact h.pp x d u e
  · have e : (if x = g then some (c, t) else l.pk x) = some (d, u) := e
    by_cases ex : x = g
    · rw [ex]
      exact updN_at _ _ _
    · rw [if_neg ex] at e
      exact b.tp x d u e
theorem BkM.kept {g : Nat} {c : Array Value} {t : TypeId} (h : BkM w B bb (l.keep g c t) s) : w.heap[g]? = some (.cells c t) := h.pp g c t (if_pos rfl)
theorem BkJ.T {G : Gb} (h : BkJ s G) (T' : Nat → Nat) : BkJ { s with T := T' } G := ⟨h.i, h.e1, h.e2, h.e3, h.e4, h.n0, h.n1, h.wd, h.mi, h.mr, h.mw, h.rw, h.un⟩
end
/-- What holds between the moves of a play. -/
def PlI (w0 : World) (B bb : Nat) (l : BkL) (N nb n : Nat) (W : World) : Prop := ∃ s G, BkM W B bb l s ∧ BkJ s G ∧ Below B w0 W ∧ s.N = N ∧ s.nb = nb ∧ s.all.length ≤ n
theorem PlI.drew {w0 W : World} {B bb N nb n : Nat} {l : BkL} (h : PlI w0 B bb l N nb n W) : PlI w0 B bb l N nb n W.drew := by
  obtain ⟨s, G, h1, h2, h3, h4⟩ := h
  exact ⟨s, G, h1.drew, h2, h3.drew, h4⟩
def mvC (m : Int × Int) : List Value := [.int .i64 m.1, .int .i64 m.2]
/-- A move of the plan is read. -/
theorem PlI.read {w0 W : World} {B bb N nb n : Nat} {l : BkL} (h : PlI w0 B bb l N nb n W) (kd a : Int) (W2 : World) (ka : Keeps (fun _ => False) W W2) (hg : W2.heap[W.heap.size]? = some (.cells #[.int .i64 kd, .int .i64 a] 40)) : PlI w0 B bb (l.keep W.heap.size #[.int .i64 kd, .int .i64 a] 40) N nb n W2 := by
  obtain ⟨s, G, h1, h2, h3, h4⟩ := h
  have b := (h1.noC ka).keepP W.heap.size _ _ hg (h1.new0 _ (Nat.le_refl _)) h1.hB
  exact ⟨_, G, b, h2.T _, h3.trans (ka.below h1.hB (fun _ _ e => e)), h4⟩
end Go.Proofs.YteekompojgbkhaaGreat

namespace Go.Proofs.YteekompojgbkhaaGreat
open Go.ChangeShapes Go.WideShapes Go.ChangeAt Go.RowKit Go.MuLone Go.RwLone
set_option linter.unusedVariables false
set_option maxRecDepth 100000
set_option maxHeartbeats 6400000
def vC (u : Value) : List Value := [u]
def tyL (j : Nat) : TypeId := if j = 3 then 31 else 3
def zL (j : Nat) : Value := if j = 3 then .slice none 0 0 else .int .i64 0
def cjL (j : Nat) : Nat := if j = 3 then 8 else 4 + j
def updV (f : Nat → Value) (i : Nat) (x : Value) : Nat → Value := fun j => if j = i then x else f j
/-- The book while it is laid: arena, index, the four lists. -/
structure BgI (W : World) (B bb N nb : Nat) (L : Lay) (Q : List Nat) (S : AS) (X : XL) (x : XS) (lv : Nat → Value) (n : Nat → Nat) (T : Nat → Nat) : Prop where
  ch : CH W L Q S X x
  b : W.heap[bb]? = some (.cells #[.pointer (some ⟨L.b, 0, none⟩), .pointer (some ⟨X.x, 0, none⟩), .int .i64 (N : Int), .int .i64 (nb : Int), lv 0, lv 1, lv 2, .int .i64 0, lv 3, .slice none 0 0] 35)
  o : ∀ j, j < 4 → OwG vC (tyL j) 1 W B (lv j) (List.replicate (n j) (zL j))
  t1 : ∀ g, chF L X g → T g = 1
  t2 : T bb = 2
  t3 : ∀ j, j < 4 → ∀ g, (lv j).ownBlock = some g → T g = 3 + j
  tl : ∀ g, T g ≠ 0 → B ≤ g ∧ g < W.heap.size
section
variable {W w' : World} {B bb N nb : Nat} {L : Lay} {Q : List Nat} {S : AS} {X : XL} {x : XS} {lv : Nat → Value} {n T : Nat → Nat}
theorem BgI.lb (h : BgI W B bb N nb L Q S X x lv n T) : bb < W.heap.size := (Array.getElem?_eq_some_iff.1 h.b).1
theorem BgI.drew (h : BgI W B bb N nb L Q S X x lv n T) : BgI W.drew B bb N nb L Q S X x lv n T := ⟨h.ch.drew, h.b, fun j hj => owK (h.o j hj) (Keeps.refl (fun _ => False) _).drew (fun _ _ e => e), h.t1, h.t2, h.t3, h.tl⟩
/-- A slot is given. -/
theorem BgI.ar (h : BgI W B bb N nb L Q S X x lv n T) {Q' : List Nat} {S' : AS} (ha : Arn w' L Q' S') (k : Keeps L.has W w') (hw : S'.wd = S.wd) : BgI w' B bb N nb L Q' S' X x lv n T := by
  have n1 : ∀ g t, T g = t → t ≠ 1 → ¬ L.has g := fun g t hg ht e => ht (by rw [← hg]; exact h.t1 g (.inl e))
  have hc : CH w' L Q' S' X x := ⟨ha, h.ch.i.keeps k h.ch.d, h.ch.d, by rw [hw]; exact h.ch.c⟩
  exact ⟨hc, (k.block bb h.lb (n1 bb 2 h.t2 (by decide))).trans h.b, fun j hj => owK (h.o j hj) k (fun g hg => n1 g _ (h.t3 j hj g hg) (by omega)), h.t1, h.t2, h.t3, fun g hg => ⟨(h.tl g hg).1, Nat.lt_of_lt_of_le (h.tl g hg).2 k.size⟩⟩
/-- A list is longer by one. -/
theorem BgI.app (h : BgI W B bb N nb L Q S X x lv n T) (j : Nat) (hj : j < 4) (b cap m : Nat) (w7 : World) (hm : n j + 1 = m) (ho : OwG vC (tyL j) 1 w7 0 (.slice (some ⟨b, 0, none⟩) m cap) (List.replicate (n j) (zL j) ++ [zL j])) (k : Keeps (fun x => (lv j).ownBlock = some x) W w7) (hb : (lv j).ownBlock = some b ∨ W.heap.size ≤ b) (hB : B ≤ W.heap.size) :
    ∃ T', BgI (w7.setCell ⟨bb, cjL j, none⟩ (.slice (some ⟨b, 0, none⟩) m cap)) B bb N nb L Q S X x (updV lv j (.slice (some ⟨b, 0, none⟩) m cap)) (updN n j (n j + 1)) T' ∧ Below B W (w7.setCell ⟨bb, cjL j, none⟩ (.slice (some ⟨b, 0, none⟩) m cap)) := by
  have nk : ∀ g t, T g = t → t ≠ 0 → t ≠ 3 + j → ¬ (lv j).ownBlock = some g := fun g t hg h0 ht e => ht (by rw [← hg]; exact h.t3 j hj g e)
  have hbB : B ≤ b ∧ b < w7.heap.size := by
    have l7 := World.ownsRow.lt ho b rfl
    rcases hb with e | e
    · exact ⟨(World.ownsRow.lt (h.o j hj) b e).1, l7.2⟩
    · exact ⟨by omega, l7.2⟩
  have Tb : T b = 3 + j ∨ T b = 0 := by
    rcases hb with e | e
    · exact .inl (h.t3 j hj b e)
    · right
      by_cases e2 : T b = 0
      · exact e2
      · have := (h.tl b e2).2
        omega
  have k2 : Keeps (fun g => g = bb) w7 (w7.setCell ⟨bb, cjL j, none⟩ (.slice (some ⟨b, 0, none⟩) m cap)) := keepS bb _ _ rfl
  have t2 := h.t2
  have bbb : b ≠ bb := fun e => by
    rw [e, t2] at Tb
    omega
  have b7 := (k.block bb h.lb (nk bb 2 t2 (by decide) (by omega))).trans h.b
  refine ⟨fun x => if x = b then 3 + j else T x, ⟨?_, ?_, fun i hi => ?_, fun g hg => ?_, ?_, fun i hi g hg => ?_, fun g hg => ?_⟩, ?_⟩
  · exact (h.ch.keeps k (fun g hg => nk g 1 (h.t1 g hg) (by decide) (by omega))).keeps k2 (fun g hg e => by
      have := h.t1 g hg
      rw [e, t2] at this
      omega)
  · have := heapSetC b7 (cjL j) (.slice (some ⟨b, 0, none⟩) m cap)
    rw [this]
    rcases (by omega : j = 0 ∨ j = 1 ∨ j = 2 ∨ j = 3) with rfl | rfl | rfl | rfl <;> rfl
  · by_cases e : i = j
    · subst e
      show OwG vC _ 1 _ B (if i = i then _ else _) (List.replicate (if i = i then n i + 1 else n i) _)
      rw [if_pos rfl, if_pos rfl, List.replicate_succ']
      refine owK (owG_hi ho B (fun x hx => ?_)) k2 (fun x hx e2 => ?_)
      · have : b = x := Option.some.inj hx
        omega
      · have : b = x := Option.some.inj hx
        omega
    · show OwG vC _ 1 _ B (if i = j then _ else lv i) (List.replicate (if i = j then n j + 1 else n i) _)
      rw [if_neg e, if_neg e]
      refine owK (owK (h.o i hi) k (fun g hg => nk g _ (h.t3 i hi g hg) (by omega) (by omega))) k2 (fun g hg e2 => ?_)
      have := h.t3 i hi g hg
      rw [e2, t2] at this
      omega
  · have := h.t1 g hg
    show (if g = b then _ else _) = 1
    rw [if_neg (fun e => by rw [e] at this; omega)]
    exact this
  · show (if bb = b then _ else _) = 2
    rw [if_neg (fun e => bbb e.symm)]
    exact t2
  · by_cases e : i = j
    · subst e
      have hg : (if i = i then (Value.slice (some ⟨b, 0, none⟩) m cap) else lv i).ownBlock = some g := hg
      rw [if_pos rfl] at hg
      have : b = g := Option.some.inj hg
      show (if g = b then _ else _) = _
      rw [if_pos this.symm]
    · have hg : (if i = j then (Value.slice (some ⟨b, 0, none⟩) m cap) else lv i).ownBlock = some g := hg
      rw [if_neg e] at hg
      have := h.t3 i hi g hg
      show (if g = b then _ else _) = _
      rw [if_neg (fun e2 => by rw [e2] at this; omega)]
      exact this
  · by_cases e : g = b
    · rw [e]
      exact ⟨hbB.1, by simpa using hbB.2⟩
    · have hg : (if g = b then 3 + j else T g) ≠ 0 := hg
      rw [if_neg e] at hg
      have := h.tl g hg
      exact ⟨this.1, by simp; exact Nat.lt_of_lt_of_le this.2 k.size⟩
  · refine (k.below hB (fun x hx e => ?_)).setCell (p := ⟨bb, cjL j, none⟩) (h.tl bb (by rw [t2]; decide)).1 _
    have := (World.ownsRow.lt (h.o j hj) x e).1
    omega
end
end Go.Proofs.YteekompojgbkhaaGreat
