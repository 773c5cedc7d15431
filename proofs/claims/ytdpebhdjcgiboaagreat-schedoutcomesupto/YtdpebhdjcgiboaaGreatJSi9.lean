import Derived.Test.YtdpebhdjcgiboaaGreatJSnB
import Derived.LaidEqlPtr
import Derived.Lib.Builder
import Derived.Test.YtdpebhdjcgiboaaGreatJSi8
namespace Go.Proofs.YtdpebhdjcgiboaaGreat
set_option linter.unusedSimpArgs false
open Go.ChangeShapes Go.WideShapes Go.ChangeAt Go.RowKit Go.MuLone Go.RwLone
set_option linter.unusedVariables false
set_option maxRecDepth 100000
set_option maxHeartbeats 6400000
/-- The cells of the side and of the operation. -/
theorem PSt.cells {w : World} {G H P Q : Nat → Prop} {B : Bd} {bb b1 b2 : Nat} {tv : Value} {R : Rd} {r1 r2 hb qb rb sb sd : Nat} {a0 : Hp} {a : Hp × Ls} {ts : List (List I8)} {wd c nw : Nat} (p : PSt w G H P Q B bb b1 b2 tv R r1 r2 hb qb rb sb sd a0 a ts wd c nw) (kd wh tg nn : Int) (pv mv : Value) (W : World) (D : Nat → Prop) (k : Keeps D (opW w kd wh tg nn pv mv) W) (hD : ∀ y, D y → U4 G H P Q y ∨ w.heap.size < y) :
    (W.cell? ⟨sd, 0, none⟩ = some (.pointer (some ⟨hb, 0, none⟩)) ∧ W.cell? ⟨sd, 1, none⟩ = some (.pointer (some ⟨bb, 0, none⟩)) ∧ W.cell? ⟨sd, 2, none⟩ = some (.pointer (some ⟨rb, 0, none⟩)) ∧ W.cell? ⟨sd, 3, none⟩ = some (.pointer (some ⟨R.bk, 0, none⟩))) ∧ W.cell? ⟨w.heap.size, 1, none⟩ = some (.int .i64 wh) ∧ W.cell? ⟨w.heap.size, 2, none⟩ = some (.int .i64 tg) ∧ W.cell? ⟨w.heap.size, 3, none⟩ = some (.int .i64 nn) ∧ W.cell? ⟨w.heap.size, 4, none⟩ = some pv ∧ W.cell? ⟨w.heap.size, 5, none⟩ = some mv := by
  have sz : (opW w kd wh tg nn pv mv).heap.size = w.heap.size + 1 := szAl _ _
  have ls := (Array.getElem?_eq_some_iff.1 p.bs).1
  have eb : (opW w kd wh tg nn pv mv).heap[w.heap.size]? = some (.cells (opC kd wh tg nn pv mv) 93) := heap_alloc_last _ _ _ rfl
  have e0 : (opW w kd wh tg nn pv mv).heap[sd]? = some (.cells (sdC hb bb rb R.bk) 90) := (Below.heap_alloc _ _ _ ls).trans p.bs
  have e1 : W.heap[sd]? = some (.cells (sdC hb bb rb R.bk) 90) := (k.block sd (by omega) (fun e => (hD _ e).elim p.ns (fun e => by omega))).trans e0
  have e2 : W.heap[w.heap.size]? = some (.cells (opC kd wh tg nn pv mv) 93) := (k.block _ (by omega) (fun e => (hD _ e).elim (fun e => by have := p.q.lt _ e; omega) (fun e => by omega))).trans eb
  exact ⟨⟨(cell?_heap e1 0).trans rfl, (cell?_heap e1 1).trans rfl, (cell?_heap e1 2).trans rfl, (cell?_heap e1 3).trans rfl⟩, (cell?_heap e2 1).trans rfl, (cell?_heap e2 2).trans rfl, (cell?_heap e2 3).trans rfl, (cell?_heap e2 4).trans rfl, (cell?_heap e2 5).trans rfl⟩
end Go.Proofs.YtdpebhdjcgiboaaGreat

namespace Go.Proofs.YtdpebhdjcgiboaaGreat
set_option linter.unusedSimpArgs false
open Go.ChangeShapes Go.WideShapes Go.ChangeAt Go.RowKit Go.MuLone Go.RwLone
set_option linter.unusedVariables false
set_option maxRecDepth 100000
set_option maxHeartbeats 6400000
theorem PkR.lit {w : World} {Fb : Nat → Prop} {g : Nat} (h : w.heap[g]? = some (.cells #[.int .i64 6, .int .i64 0, .int .i64 0] 110)) (hg : ¬ Fb g) : PkR w Fb (.slice (some ⟨g, 0, none⟩) 1 1) [(6, 0, 0)] :=
  ⟨some ⟨g, 0, none⟩, 1, rfl, by simp, by simp, fun i hi => by
    have : i = 0 := by simpa using hi
    subst this
    exact ⟨g, 0, rfl, hg, (Array.getElem?_eq_some_iff.1 h).1, (cell?_heap h 0).trans rfl, (cell?_heap h 1).trans rfl, (cell?_heap h 2).trans rfl⟩⟩
end Go.Proofs.YtdpebhdjcgiboaaGreat

namespace Go.Proofs.YtdpebhdjcgiboaaGreat
set_option linter.unusedSimpArgs false
open Go.ChangeShapes Go.WideShapes Go.ChangeAt Go.RowKit Go.MuLone Go.RwLone
set_option linter.unusedVariables false
set_option maxRecDepth 100000
set_option maxHeartbeats 6400000
section
variable {w w' : World} {G H P Q : Nat → Prop} {B : Bd} {bb b1 b2 : Nat} {tv : Value} {R : Rd} {r1 r2 hb qb rb sb : Nat} {a0 : Hp} {pa ra : Hp × Ls}
end
end Go.Proofs.YtdpebhdjcgiboaaGreat

namespace Go.Proofs.YtdpebhdjcgiboaaGreat
set_option linter.unusedSimpArgs false
open Go.ChangeShapes Go.WideShapes Go.ChangeAt Go.RowKit Go.MuLone Go.RwLone
set_option linter.unusedVariables false
set_option maxRecDepth 100000
set_option maxHeartbeats 6400000
theorem wtl_app (l m : List Pq) : wtl (l ++ m) = wtl l + wtl m := by simp [wtl]
theorem wtl_plS (tg : Int) (ms : List Nat) (t : Nat) : wtl (plS tg ms t) = 2 * t := by
  induction t with
  | zero => rfl
  | succ t ih =>
    rw [plS_succ, wtl_app, ih]
    have h2 : ∀ (x : Nat) (y : Int), wtl [(x, y, false)] = 2 := fun _ _ => rfl
    rw [h2]
    omega
theorem Iw.sub {N c n : Nat} {h : Hp} (v : Iw N c h) (hn : h.q.length = n) (x tg : Int) (ms : List Nat) (hm : ∀ m ∈ ms, m < N) : Iw N (c + 128) (subP h x tg ms).2 ∧ (subP h x tg ms).2.q.length = n := by
  unfold subP
  split
  · rename_i hx
    split
    · exact ⟨v.up (by omega), hn⟩
    · rename_i h64
      have hi : x.toNat < h.q.length := by omega
      rw [List.getElem?_eq_getElem hi] at *
      simp only [Option.getD_some] at *
      have s1 := sum_set wtl h.q x.toNat hi (h.q[x.toNat] ++ plS tg ms ms.length)
      have s2 := sum_set List.length h.q x.toNat hi (h.q[x.toNat] ++ plS tg ms ms.length)
      rw [wtl_app, wtl_plS] at s1
      rw [List.length_append, plS_len] at s2
      have b := v.b
      have c' := v.c
      unfold wtq at b
      unfold szq at c'
      have va := v.a x.toNat _ (List.getElem?_eq_getElem hi)
      refine ⟨⟨fun j l hj => ?_, ?_, ?_, v.e⟩, by rw [List.length_set]; exact hn⟩
      · by_cases e : j = x.toNat
        · subst e
          dsimp only at hj
          rw [List.getElem?_set_self hi] at hj
          injection hj with hj
          subst hj
          refine ⟨by rw [List.length_append, plS_len]; omega, fun y hy => ?_⟩
          rcases List.mem_append.1 hy with hy | hy
          · exact va.2 y hy
          · unfold plS at hy
            obtain ⟨k, hk, rfl⟩ := List.mem_map.1 hy
            have hk' := List.mem_range.1 hk
            dsimp only
            rw [List.getD_eq_getElem?_getD, List.getElem?_eq_getElem hk']
            exact hm _ (List.getElem_mem hk')
        · dsimp only at hj
          rw [List.getElem?_set_ne (fun e' => e e'.symm)] at hj
          exact v.a j l hj
      · show h.ev.length + ((h.q.set x.toNat _).map wtl).sum ≤ _
        omega
      · show h.en.length + ((h.q.set x.toNat _).map List.length).sum ≤ _
        omega
  · exact ⟨v.up (by omega), hn⟩
/-- Rows of pointers to threads, some of them nil. -/
def ptC (x : Option Addr) : List Value := [.pointer x]
abbrev OwN (w : World) (B : Nat) (v : Value) (xs : List (Option Addr)) : Prop := OwG ptC 31 1 w B v xs
def ptL (T : Nat → Nat) (ms : List Nat) : List (Option Addr) := ms.map (fun m => some ⟨T m, 0, none⟩)
end Go.Proofs.YtdpebhdjcgiboaaGreat

namespace Go.Proofs.YtdpebhdjcgiboaaGreat
set_option linter.unusedSimpArgs false
open Go.ChangeShapes Go.WideShapes Go.ChangeAt Go.RowKit Go.MuLone Go.RwLone
set_option linter.unusedVariables false
set_option maxRecDepth 100000
set_option maxHeartbeats 6400000
end Go.Proofs.YtdpebhdjcgiboaaGreat

namespace Go.Proofs.YtdpebhdjcgiboaaGreat
set_option linter.unusedSimpArgs false
open Go.ChangeShapes Go.WideShapes Go.ChangeAt Go.RowKit Go.MuLone Go.RwLone
set_option linter.unusedVariables false
set_option maxRecDepth 100000
set_option maxHeartbeats 6400000
end Go.Proofs.YtdpebhdjcgiboaaGreat

namespace Go.Proofs.YtdpebhdjcgiboaaGreat
set_option linter.unusedSimpArgs false
open Go.ChangeShapes Go.WideShapes Go.ChangeAt Go.RowKit Go.MuLone Go.RwLone
set_option linter.unusedVariables false
set_option maxRecDepth 100000
set_option maxHeartbeats 6400000
end Go.Proofs.YtdpebhdjcgiboaaGreat

namespace Go.Proofs.YtdpebhdjcgiboaaGreat
set_option linter.unusedSimpArgs false
open Go.ChangeShapes Go.WideShapes Go.ChangeAt Go.RowKit Go.MuLone Go.RwLone
set_option linter.unusedVariables false
set_option maxRecDepth 100000
set_option maxHeartbeats 6400000
/-- Five rows of events, one behind the other. -/
structure E5 (W : World) (n0 n1 n2 n3 n4 n5 : Nat) (x1 k1 : Option Addr × Nat) (x3 x4 x5 : Option Addr × Nat) (E D : List Ev4) : Prop where
  o1 : OwE W n0 (.slice x1.1 E.length x1.2) E
  o2 : OwE W n1 (.slice k1.1 E.length k1.2) E
  o3 : OwE W n2 (.slice x3.1 D.length x3.2) D
  o4 : OwE W n3 (.slice x4.1 E.length x4.2) E
  o5 : OwE W n4 (.slice x5.1 D.length x5.2) D
end Go.Proofs.YtdpebhdjcgiboaaGreat

namespace Go.Proofs.YtdpebhdjcgiboaaGreat
set_option linter.unusedSimpArgs false
open Go.ChangeShapes Go.WideShapes Go.ChangeAt Go.RowKit Go.MuLone Go.RwLone
set_option linter.unusedVariables false
set_option maxRecDepth 100000
set_option maxHeartbeats 6400000
end Go.Proofs.YtdpebhdjcgiboaaGreat

namespace Go.Proofs.YtdpebhdjcgiboaaGreat
set_option linter.unusedSimpArgs false
open Go.ChangeShapes Go.WideShapes Go.ChangeAt Go.RowKit Go.MuLone Go.RwLone
set_option linter.unusedVariables false
set_option maxRecDepth 100000
set_option maxHeartbeats 6400000
end Go.Proofs.YtdpebhdjcgiboaaGreat

namespace Go.Proofs.YtdpebhdjcgiboaaGreat
set_option linter.unusedSimpArgs false
open Go.ChangeShapes Go.WideShapes Go.ChangeAt Go.RowKit Go.MuLone Go.RwLone
set_option linter.unusedVariables false
set_option maxRecDepth 100000
set_option maxHeartbeats 6400000
end Go.Proofs.YtdpebhdjcgiboaaGreat

namespace Go.Proofs.YtdpebhdjcgiboaaGreat
set_option linter.unusedSimpArgs false
open Go.ChangeShapes Go.WideShapes Go.ChangeAt Go.RowKit Go.MuLone Go.RwLone
set_option linter.unusedVariables false
set_option maxRecDepth 100000
set_option maxHeartbeats 6400000
/-- A row that lies at a, written full of p, and a list that has grown upon it. -/
structure Gr (w : World) (a : Option Addr) (n : Nat) (p : Int) (c : Value) (zs : List Int) : Prop where
  o : OwW w 0 c zs
  l : n ≤ zs.length
  z : ∀ j, j < n → zs[j]? = some p
  g : ∀ g, a = some ⟨g, 0, none⟩ → g < w.heap.size ∧ (c.ownBlock = some g ∨ (c.ownBlock ≠ some g ∧ ∀ j, j < n → w.cell? ⟨g, j, none⟩ = some (.int .u64 p)))
/-- Where it lies. -/
def Cx (a : Option Addr) (c : Value) (x : Nat) : Prop := c.ownBlock = some x ∨ a = some ⟨x, 0, none⟩
theorem Gr.lt {w : World} {a : Option Addr} {n : Nat} {p : Int} {c : Value} {zs : List Int} (h : Gr w a n p c zs) (x : Nat) (hx : Cx a c x) : x < w.heap.size := by
  rcases hx with e | e
  · exact (World.ownsRow.lt h.o x e).2
  · exact (h.g x e).1
theorem owW_cell {w : World} {B g n cap : Nat} {zs : List Int} (h : OwW w B (.slice (some ⟨g, 0, none⟩) n cap) zs) (j : Nat) (x : Int) (hj : zs[j]? = some x) : w.cell? ⟨g, j, none⟩ = some (.int .u64 x) := by
  have hn := (owG_cap h).1
  subst hn
  obtain ⟨hl, he⟩ := List.getElem?_eq_some_iff.1 hj
  exact (World.ownsRow.cellAt h j (by omega)).trans (by rw [flat_wd, List.getElem?_map, hj]; rfl)
theorem owW_block {w : World} {B g : Nat} {c : Value} {zs : List Int} (h : OwW w B c zs) (hg : c.ownBlock = some g) : ∃ cap, c = .slice (some ⟨g, 0, none⟩) zs.length cap := by
  rcases h.2 with ⟨rfl, _⟩ | ⟨g', cap, cur, rfl, _⟩
  · cases hg
  · have e : g' = g := Option.some.inj hg
    subst e
    exact ⟨cap, rfl⟩
theorem Gr.cell {w : World} {a : Option Addr} {n : Nat} {p : Int} {c : Value} {zs : List Int} (h : Gr w a n p c zs) (g : Nat) (hg : a = some ⟨g, 0, none⟩) (j : Nat) (hj : j < n) : w.cell? ⟨g, j, none⟩ = some (.int .u64 p) := by
  rcases (h.g g hg).2 with e | ⟨_, e⟩
  · obtain ⟨cap, rfl⟩ := owW_block h.o e
    exact owW_cell h.o j p (h.z j hj)
  · exact e j hj
theorem Gr.keeps {w w' : World} {D : Nat → Prop} {a : Option Addr} {n : Nat} {p : Int} {c : Value} {zs : List Int} (h : Gr w a n p c zs) (k : Keeps D w w') (hD : ∀ x, D x → ¬ Cx a c x) : Gr w' a n p c zs :=
  ⟨owK h.o k (fun g hg e => hD g e (.inl hg)), h.l, h.z, fun g hg => ⟨Nat.lt_of_lt_of_le (h.g g hg).1 k.size, (h.g g hg).2.imp id (fun e => ⟨e.1, fun j hj => (k.cell (p := ⟨g, j, none⟩) (h.g g hg).1 (fun e' => hD g e' (.inr hg))).trans (e.2 j hj)⟩)⟩⟩
/-- One more. -/
theorem Gr.app {w w' : World} {a : Option Addr} {n : Nat} {p : Int} {c : Value} {zs : List Int} (h : Gr w a n p c zs) {b cap : Nat} {m : Int} (o : OwW w' 0 (.slice (some ⟨b, 0, none⟩) (zs.length + 1) cap) (zs ++ [m])) (k : (c.ownBlock = some b ∧ Keeps (fun k => c.ownBlock = some k) w w') ∨ (w.heap.size ≤ b ∧ Keeps (fun _ => False) w w')) :
    Gr w' a n p (.slice (some ⟨b, 0, none⟩) (zs.length + 1) cap) (zs ++ [m]) ∧ (∀ x, Cx a (.slice (some ⟨b, 0, none⟩) (zs.length + 1) cap) x → Cx a c x ∨ w.heap.size ≤ x) ∧ Keeps (Cx a c) w w' := by
  have hl := h.l
  refine ⟨⟨o, by simp; omega, fun j hj => by rw [List.getElem?_append_left (by omega)]; exact h.z j hj, fun g hg => ?_⟩, fun x hx => ?_, ?_⟩
  · have hlt := (h.g g hg).1
    rcases k with ⟨e, k⟩ | ⟨e, k⟩
    · refine ⟨Nat.lt_of_lt_of_le hlt k.size, ?_⟩
      rcases (h.g g hg).2 with e2 | ⟨e2, e3⟩
      · rw [e] at e2
        exact .inl e2
      · refine .inr ⟨fun e4 => e2 (e.trans e4), fun j hj => (k.cell (p := ⟨g, j, none⟩) hlt (fun e' => e2 e')).trans (e3 j hj)⟩
    · refine ⟨Nat.lt_of_lt_of_le hlt k.size, .inr ⟨fun e4 => by have : b = g := Option.some.inj e4; omega, fun j hj => (k.cell (p := ⟨g, j, none⟩) hlt (fun e' => e')).trans (h.cell g hg j hj)⟩⟩
  · rcases hx with e | e
    · obtain rfl : b = x := Option.some.inj e
      rcases k with ⟨e, _⟩ | ⟨e, _⟩
      · exact .inl (.inl e)
      · exact .inr e
    · exact .inl (.inr e)
  · rcases k with ⟨e, k⟩ | ⟨e, k⟩
    · exact k.mono (fun x e => .inl e)
    · exact k.mono (fun x e => e.elim)
end Go.Proofs.YtdpebhdjcgiboaaGreat

namespace Go.Proofs.YtdpebhdjcgiboaaGreat
open Go.ChangeShapes Go.WideShapes Go.ChangeAt Go.RowKit Go.MuLone Go.RwLone
set_option linter.unusedVariables false
set_option maxRecDepth 100000
set_option maxHeartbeats 6400000
/-- Two rows and what has grown upon them. -/
structure Gp (w wr : World) (D : Nat → Prop) (a1 a2 : Option Addr) (n1 n2 : Nat) (c r : Value) (zs us : List Int) (t1 t2 : Nat) : Prop where
  g1 : Gr wr a1 n1 1000 c zs
  g2 : Gr wr a2 n2 2000 r us
  l1 : zs.length = n1 + t1
  l2 : us.length = n2 + t2
  e1 : t1 = 0 ∨ zs[n1 + t1 - 1]? = some 3000
  e2 : t2 = 0 ∨ us[n2 + t2 - 1]? = some 4000
  dj : ∀ x, Cx a1 c x → ¬ Cx a2 r x
  f1 : ∀ x, Cx a1 c x → D x ∨ w.heap.size ≤ x
  f2 : ∀ x, Cx a2 r x → D x ∨ w.heap.size ≤ x
  k : Keeps D w wr
theorem Gp.left {w wr w3 : World} {D : Nat → Prop} {a1 a2 : Option Addr} {n1 n2 : Nat} {c r : Value} {zs us : List Int} {t1 t2 : Nat} (h : Gp w wr D a1 a2 n1 n2 c r zs us t1 t2) {b cap : Nat} (o : OwW w3 0 (.slice (some ⟨b, 0, none⟩) (zs.length + 1) cap) (zs ++ [3000])) (k : (c.ownBlock = some b ∧ Keeps (fun k => c.ownBlock = some k) wr w3) ∨ (wr.heap.size ≤ b ∧ Keeps (fun _ => False) wr w3)) :
    Gp w w3 D a1 a2 n1 n2 (.slice (some ⟨b, 0, none⟩) (zs.length + 1) cap) r (zs ++ [3000]) us (t1 + 1) t2 := by
  obtain ⟨g1, hn, kk⟩ := h.g1.app o k
  have hs := h.k.size
  have hl := h.l1
  have kD : Keeps (fun x => D x ∨ w.heap.size ≤ x) w w3 := (h.k.mono (fun _ e => .inl e)).trans (kk.mono h.f1)
  refine ⟨g1, h.g2.keeps kk (fun x e e' => h.dj x e e'), by simp; omega, h.l2, .inr ?_, h.e2, fun x hx hr => ?_, fun x hx => ?_, h.f2, kD.thin⟩
  · rw [List.getElem?_append_right (by omega), show n1 + (t1 + 1) - 1 - zs.length = 0 from by omega]
    rfl
  · rcases hn x hx with e | e
    · exact h.dj x e hr
    · have := h.g2.lt x hr
      omega
  · rcases hn x hx with e | e
    · exact h.f1 x e
    · right; omega
theorem Gp.right {w wr w3 : World} {D : Nat → Prop} {a1 a2 : Option Addr} {n1 n2 : Nat} {c r : Value} {zs us : List Int} {t1 t2 : Nat} (h : Gp w wr D a1 a2 n1 n2 c r zs us t1 t2) {b cap : Nat} (o : OwW w3 0 (.slice (some ⟨b, 0, none⟩) (us.length + 1) cap) (us ++ [4000])) (k : (r.ownBlock = some b ∧ Keeps (fun k => r.ownBlock = some k) wr w3) ∨ (wr.heap.size ≤ b ∧ Keeps (fun _ => False) wr w3)) :
    Gp w w3 D a1 a2 n1 n2 c (.slice (some ⟨b, 0, none⟩) (us.length + 1) cap) zs (us ++ [4000]) t1 (t2 + 1) := by
  obtain ⟨g2, hn, kk⟩ := h.g2.app o k
  have hs := h.k.size
  have hl := h.l2
  have kD : Keeps (fun x => D x ∨ w.heap.size ≤ x) w w3 := (h.k.mono (fun _ e => .inl e)).trans (kk.mono h.f2)
  refine ⟨h.g1.keeps kk (fun x e e' => h.dj x e' e), g2, h.l1, by simp; omega, h.e1, .inr ?_, fun x hx hr => ?_, h.f1, fun x hx => ?_, kD.thin⟩
  · rw [List.getElem?_append_right (by omega), show n2 + (t2 + 1) - 1 - us.length = 0 from by omega]
    rfl
  · rcases hn x hr with e | e
    · exact h.dj x hx e
    · have := h.g1.lt x hx
      omega
  · rcases hn x hx with e | e
    · exact h.f2 x e
    · right; omega
theorem Gp.still {w wr w3 : World} {D : Nat → Prop} {a1 a2 : Option Addr} {n1 n2 : Nat} {c r : Value} {zs us : List Int} {t1 t2 : Nat} (h : Gp w wr D a1 a2 n1 n2 c r zs us t1 t2) (k : Keeps (fun _ => False) wr w3) : Gp w w3 D a1 a2 n1 n2 c r zs us t1 t2 :=
  ⟨h.g1.keeps k (fun _ e => e.elim), h.g2.keeps k (fun _ e => e.elim), h.l1, h.l2, h.e1, h.e2, h.dj, h.f1, h.f2, h.k.trans (k.mono (fun _ e => e.elim))⟩
theorem Gp.start {w wr : World} {D : Nat → Prop} {a1 a2 : Option Addr} {n1 n2 y1 y2 : Nat} (o1 : OwW wr 0 (.slice a1 n1 y1) (List.replicate n1 1000)) (o2 : OwW wr 0 (.slice a2 n2 y2) (List.replicate n2 2000)) (dj : ∀ x, (Value.slice a1 n1 y1).ownBlock = some x → (Value.slice a2 n2 y2).ownBlock ≠ some x) (f1 : ∀ x, (Value.slice a1 n1 y1).ownBlock = some x → D x) (f2 : ∀ x, (Value.slice a2 n2 y2).ownBlock = some x → D x) (k : Keeps D w wr) :
    Gp w wr D a1 a2 n1 n2 (.slice a1 n1 y1) (.slice a2 n2 y2) (List.replicate n1 1000) (List.replicate n2 2000) 0 0 := by
  have c1 : ∀ x, Cx a1 (.slice a1 n1 y1) x → (Value.slice a1 n1 y1).ownBlock = some x := fun x hx => hx.elim id (fun e => by rw [e]; rfl)
  have c2 : ∀ x, Cx a2 (.slice a2 n2 y2) x → (Value.slice a2 n2 y2).ownBlock = some x := fun x hx => hx.elim id (fun e => by rw [e]; rfl)
  refine ⟨⟨o1, by simp, fun j hj => by simp [hj], fun g hg => ⟨(World.ownsRow.lt o1 g (by rw [hg]; rfl)).2, .inl (by rw [hg]; rfl)⟩⟩, ⟨o2, by simp, fun j hj => by simp [hj], fun g hg => ⟨(World.ownsRow.lt o2 g (by rw [hg]; rfl)).2, .inl (by rw [hg]; rfl)⟩⟩, by simp, by simp, .inl rfl, .inl rfl, fun x h1 h2 => dj x (c1 x h1) (c2 x h2), fun x hx => .inl (f1 x (c1 x hx)), fun x hx => .inl (f2 x (c2 x hx)), k⟩
def vC (v : Value) : List Value := [v]
end Go.Proofs.YtdpebhdjcgiboaaGreat

namespace Go.Proofs.YtdpebhdjcgiboaaGreat
open Go.ChangeShapes Go.WideShapes Go.ChangeAt Go.RowKit Go.MuLone Go.RwLone
set_option linter.unusedVariables false
set_option maxRecDepth 100000
set_option maxHeartbeats 6400000
end Go.Proofs.YtdpebhdjcgiboaaGreat

namespace Go.Proofs.YtdpebhdjcgiboaaGreat
open Go.ChangeShapes Go.WideShapes Go.ChangeAt Go.RowKit Go.MuLone Go.RwLone
set_option linter.unusedVariables false
set_option maxRecDepth 100000
set_option maxHeartbeats 6400000
def outE (cs : List Int) (tl : List (List I8)) : Int := if soundP cs tl = true then 0 else 35
theorem below_keeps {w w' : World} (b : Below w.heap.size w w') : Keeps (fun _ => False) w w' := ⟨b.os, b.tape, b.output, b.size, fun x hx _ => b.block x hx⟩
/-- What the program's Lay answers; the document's. -/
def LayP (w : World) (G : Nat → Prop) (o : Option Addr) (cs : List Int) (ts : List (List I8)) : Prop :=
  (soundP cs ts = false ∧ o = none) ∨ (soundP cs ts = true ∧ ∃ B bb hb qb tv, o = some ⟨bb, 0, none⟩ ∧ BdOk B ∧ B.n = ts.length ∧ B.wd = cs.length ∧ B.ins = insL ts ∧ BnF w G B bb hb qb tv (begA cs ts))
def LayR (w : World) (H : Nat → Prop) (p : Option Addr) (cs : List Int) (ts : List (List I8)) : Prop :=
  (soundP cs ts = false ∧ p = none) ∨ (soundP cs ts = true ∧ ∃ R hb qb, p = some ⟨R.bk, 0, none⟩ ∧ RdOk R ∧ R.n = ts.length ∧ R.wd = cs.length ∧ R.ins = insL ts ∧ BsF w H R hb qb (begA cs ts))
theorem LayP.keeps {w w' : World} {G D : Nat → Prop} {o : Option Addr} {cs : List Int} {ts : List (List I8)} (h : LayP w G o cs ts) (k : Keeps D w w') (hD : ∀ y, D y → ¬ G y) : LayP w' G o cs ts := by
  rcases h with h | ⟨hs, B, bb, hb, qb, tv, e, h1, h2, h3, h4, b⟩
  · exact .inl h
  · exact .inr ⟨hs, B, bb, hb, qb, tv, e, h1, h2, h3, h4, b.keeps k hD⟩
theorem LayR.keeps {w w' : World} {G D : Nat → Prop} {o : Option Addr} {cs : List Int} {ts : List (List I8)} (h : LayR w G o cs ts) (k : Keeps D w w') (hD : ∀ y, D y → ¬ G y) : LayR w' G o cs ts := by
  rcases h with h | ⟨hs, R, hb, qb, e, h1, h2, h3, h4, b⟩
  · exact .inl h
  · exact .inr ⟨hs, R, hb, qb, e, h1, h2, h3, h4, b.keeps k hD⟩
end Go.Proofs.YtdpebhdjcgiboaaGreat

namespace Go.Proofs.YtdpebhdjcgiboaaGreat
open Go.ChangeShapes Go.WideShapes Go.ChangeAt Go.RowKit Go.MuLone Go.RwLone
set_option linter.unusedVariables false
set_option maxRecDepth 100000
set_option maxHeartbeats 6400000
/-- A harness of the program's just made. -/
theorem Hm.fresh {w w' : World} (pt : Nat → Nat) (n : Nat) (h2 : n ≤ 16) (k : Keeps (fun _ => False) ((w.alloc (.cells (madeCells #[.slice none 0 0] n) 120)).alloc (.cells #[.slice (some ⟨w.heap.size, 0, none⟩) n n, .int .i64 0, .slice none 0 0, .slice none 0 0] 118)) w') :
    Hm w' (fun y => y = w.heap.size ∨ y = w.heap.size + 1) pt (w.heap.size + 1) w.heap.size (fun _ => .slice none 0 0) (.slice none 0 0) (.slice none 0 0) (hpT n 0) := by
  have s1 : ((w.alloc (.cells (madeCells #[.slice none 0 0] n) 120)).alloc (.cells #[.slice (some ⟨w.heap.size, 0, none⟩) n n, .int .i64 0, .slice none 0 0, .slice none 0 0] 118)).heap.size = w.heap.size + 2 := by rw [szAl, szAl]
  have eq : w'.heap[w.heap.size]? = some (.cells (madeCells #[.slice none 0 0] n) 120) := (k.block _ (by omega) (fun e => e)).trans ((Below.heap_alloc _ _ _ (by rw [szAl]; omega)).trans (heap_alloc_last _ _ _ rfl))
  have eh : w'.heap[w.heap.size + 1]? = some (.cells #[.slice (some ⟨w.heap.size, 0, none⟩) n n, .int .i64 0, .slice none 0 0, .slice none 0 0] 118) := (k.block _ (by omega) (fun e => e)).trans (heap_alloc_last _ _ _ (szAl _ _).symm)
  have hl := hpT_len n 0
  refine ⟨by rw [hl]; exact eh, ⟨_, eq⟩, fun i hi => ?_, fun i hi => ?_, (fun i j g _ _ _ e => by cases e), OwG.nil _ _ _ _ _, OwG.nil _ _ _ _ _, .inr rfl, .inl rfl, (fun i g _ e => by cases e), (fun g e => by cases e), (fun g e => by cases e), fun x hx => ?_, by rw [hl]; exact h2⟩
  · rw [hl] at hi
    rw [cell?_heap eq i, ← Array.getElem?_toList, toList_madeCells_one]
    simp [hi]
  · have : (hpT n 0).q[i] = [] := by simp [hpT]
    rw [this]
    exact OwG.nil _ _ _ _ _
  · have := k.size
    rw [s1] at this
    rcases hx with rfl | rfl <;> omega
/-- An operation of a script, as it is handed in. -/
structure Opx where
  kd : Int
  wh : Int
  tg : Int
  nn : Int
  pv : Value
  vs : List (Int × Int × Int)
  mv : Value
  ks : List Int
def opL (o : Opx) : List Value := [.int .i64 o.kd, .int .i64 o.wh, .int .i64 o.tg, .int .i64 o.nn, o.pv, o.mv]
structure OpOk (w : World) (C : Nat) (o : Opx) : Prop where
  p : InG pkC w C o.pv o.vs
  m : InG inZ w C o.mv o.ks
  pl : o.vs.length ≤ 1048576
  ml : o.ks.length ≤ 1048576
  n : o.nn ≤ 9223372036854775807
  q : ∀ p ∈ o.vs, p.2.2 ≤ 9223372036854775807
theorem OpOk.later {w w' : World} {C : Nat} {o : Opx} (h : OpOk w C o) (b : Below C w w') : OpOk w' C o := ⟨h.p.later b, h.m.later b, h.pl, h.ml, h.n, h.q⟩
section
variable (w : World) (G H P Q : Nat → Prop) (B : Bd) (bb b1 b2 : Nat) (tv : Value) (R : Rd) (r1 r2 hb qb rb sb sd : Nat) (a0 : Hp) (a : Hp × Ls) (ts : List (List I8)) (wd c nw : Nat) (p : PSt w G H P Q B bb b1 b2 tv R r1 r2 hb qb rb sb sd a0 a ts wd c nw) (hc : c ≤ 1000000000) (C : Nat) (hU : ∀ y, U4 G H P Q y → C ≤ y) (hC : C ≤ w.heap.size) (o : Opx) (ho : OpOk w C o)
end
end Go.Proofs.YtdpebhdjcgiboaaGreat

namespace Go.Proofs.YtdpebhdjcgiboaaGreat
open Go.ChangeShapes Go.WideShapes Go.ChangeAt Go.RowKit Go.MuLone Go.RwLone
set_option linter.unusedVariables false
set_option maxRecDepth 100000
set_option maxHeartbeats 6400000
/-- What a run of any program tells. -/
def outX (cs : List Int) (tl : List (List I8)) (vs : List (Int × Int × Int)) : List Int := if soundP cs tl = true then wlL (endA cs tl vs).2.wo cs.length else []
def outY (cs : List Int) (tl : List (List I8)) (vs : List (Int × Int × Int)) : List Int := if soundP cs tl = true then regsL (endA cs tl vs).2.rg tl.length else []
end Go.Proofs.YtdpebhdjcgiboaaGreat
