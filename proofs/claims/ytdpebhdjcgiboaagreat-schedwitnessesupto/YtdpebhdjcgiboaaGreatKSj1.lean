import Derived.Test.YtdpebhdjcgiboaaGreatKSi9
namespace Go.Proofs.YtdpebhdjcgiboaaGreat
open Go.ChangeShapes Go.WideShapes Go.ChangeAt Go.RowKit Go.MuLone Go.RwLone
set_option linter.unusedVariables false
set_option maxRecDepth 100000
set_option maxHeartbeats 6400000
/-- The blocks of what was lent. -/
def ltQ (gc : Nat) (tvv : Value) (ab : Nat) (ps : List (Value × List I8)) (v79 : Value) (x : Nat) : Prop := x = gc ∨ tvv.ownBlock = some x ∨ x = ab ∨ (∃ v ∈ ps.map Prod.fst, v.ownBlock = some x) ∨ v79.ownBlock = some x
theorem Lt.keeps {w w' : World} {B : Nat} {cs : List Int} {ts : List (List I8)} {gc gcap : Nat} {tvv : Value} {ab acap : Nat} {ps : List (Value × List I8)} {v79 : Value} {D : Nat → Prop} (h : Lt w B cs ts gc gcap tvv ab acap ps v79) (k : Keeps D w w') (hD : ∀ x, ltQ gc tvv ab ps v79 x → ¬ D x) : Lt w' B cs ts gc gcap tvv ab acap ps v79 :=
  ⟨owK h.oc k (fun g hg => hD g (Or.inl (Option.some.inj hg).symm)), owK h.ot k (fun g hg => hD g (Or.inr (Or.inl hg))), owK h.oa k (fun g hg => hD g (Or.inr (Or.inr (Or.inl (Option.some.inj hg).symm)))), fun p hp => owK (h.oi p hp) k (fun g hg => hD g (Or.inr (Or.inr (Or.inr (Or.inl ⟨_, List.mem_map.2 ⟨p, hp, rfl⟩, hg⟩))))), owK h.o9 k (fun g hg => hD g (Or.inr (Or.inr (Or.inr (Or.inr hg))))), h.inc, h.pl, h.n9⟩
/-- What both sides' Run answer. -/
def RunP (W : World) (X Y : List Int) (E : Int) (e : Ending) (w' : World) : Prop := ∃ c1 k1 c2 k2, e = .returned (.tuple #[.agg #[.slice c1 X.length k1, .slice c2 Y.length k2], .int .i64 E]) ∧ OwW w' W.heap.size (.slice c1 X.length k1) X ∧ OwW w' W.heap.size (.slice c2 Y.length k2) Y ∧ (∀ x, (Value.slice c1 X.length k1).ownBlock = some x → (Value.slice c2 Y.length k2).ownBlock = some x → False) ∧ Keeps (fun _ => False) W w'
def RunR (W : World) (X Y : List Int) (E : Int) (e : Ending) (w' : World) : Prop := ∃ c1 k1 c2 k2, e = .returned (.tuple #[.agg #[.slice c1 X.length k1, .slice c2 Y.length k2], .int .i64 E]) ∧ OwW w' W.heap.size (.slice c1 X.length k1) X ∧ OwW w' W.heap.size (.slice c2 Y.length k2) Y ∧ Keeps (fun _ => False) W w'
/-- An outcome in its block. -/
structure RO (W : World) (b B : Nat) (c1 : Option Addr) (k1 : Nat) (c2 : Option Addr) (k2 : Nat) (X Y : List Int) : Prop where
  b : W.heap[b]? = some (.cells #[.slice c1 X.length k1, .slice c2 Y.length k2] 51)
  o1 : OwW W B (.slice c1 X.length k1) X
  o2 : OwW W B (.slice c2 Y.length k2) Y
theorem RO.keeps {W W' : World} {b B : Nat} {c1 : Option Addr} {k1 : Nat} {c2 : Option Addr} {k2 : Nat} {X Y : List Int} {D : Nat → Prop} (h : RO W b B c1 k1 c2 k2 X Y) (k : Keeps D W W') (hb : ¬ D b) (h1 : ∀ g, (Value.slice c1 X.length k1).ownBlock = some g → ¬ D g) (h2 : ∀ g, (Value.slice c2 Y.length k2).ownBlock = some g → ¬ D g) : RO W' b B c1 k1 c2 k2 X Y :=
  ⟨(k.block b (Array.getElem?_eq_some_iff.1 h.b).1 hb).trans h.b, owK h.o1 k h1, owK h.o2 k h2⟩
theorem RO.cells {W : World} {b B : Nat} {c1 : Option Addr} {k1 : Nat} {c2 : Option Addr} {k2 : Nat} {X Y : List Int} (h : RO W b B c1 k1 c2 k2 X Y) : W.cell? ⟨b, 0, none⟩ = some (.slice c1 X.length k1) ∧ W.cell? ⟨b, 1, none⟩ = some (.slice c2 Y.length k2) := ⟨(cell?_heap h.b 0).trans rfl, (cell?_heap h.b 1).trans rfl⟩
/-- What SchedRuns holds up to wreck: the program handed in, what was lent, given. -/
structure RA (w W : World) (C : Nat) (ca : Option Addr) (cc : Nat) (ta : Option Addr) (tc : Nat) (tvf : Nat → Value) (cs : List Int) (ts : List (List I8)) (gc gcap : Nat) (tvv : Value) (ab acap : Nat) (ps : List (Value × List I8)) (v79 : Value) (bx : Nat) : Prop where
  lit : LitG W C ca cc ta tc tvf cs ts
  l : W.heap[w.heap.size]? = some (.cells (litC ca cs.length cc ta ts.length tc) 49)
  lt : Lt W (w.heap.size + 4) cs ts gc gcap tvv ab acap ps v79
  x : W.heap[bx]? = some (.cells #[.slice (some ⟨gc, 0, none⟩) cs.length gcap, .slice (some ⟨ab, 0, none⟩) ts.length acap, .slice (some ⟨gc, 0, none⟩) (cs.length + 2) gcap, tvv, .slice (some ⟨ab, 0, none⟩) (ts.length + 1) acap] 53)
  g : W.heap[bx + 1]? = some (.cells (litC (some ⟨gc, 0, none⟩) cs.length gcap (some ⟨ab, 0, none⟩) ts.length acap) 49)
  tp : ∀ x, ltQ gc tvv ab ps v79 x → x < bx
  wb : w.heap.size < bx
  hC : C ≤ w.heap.size
  be : Below w.heap.size w W
section
variable {w W W' : World} {C : Nat} {ca : Option Addr} {cc : Nat} {ta : Option Addr} {tc : Nat} {tvf : Nat → Value} {cs : List Int} {ts : List (List I8)} {gc gcap : Nat} {tvv : Value} {ab acap : Nat} {ps : List (Value × List I8)} {v79 : Value} {bx : Nat}
theorem RA.sz (h : RA w W C ca cc ta tc tvf cs ts gc gcap tvv ab acap ps v79 bx) : bx + 2 ≤ W.heap.size := (Array.getElem?_eq_some_iff.1 h.g).1
theorem RA.keeps {D : Nat → Prop} (h : RA w W C ca cc ta tc tvf cs ts gc gcap tvv ab acap ps v79 bx) (k : Keeps D W W') (hD : ∀ x, D x → bx + 2 ≤ x) : RA w W' C ca cc ta tc tvf cs ts gc gcap tvv ab acap ps v79 bx := by
  have s := h.sz
  have wb := h.wb
  have hC := h.hC
  refine ⟨h.lit.later (k.below (by omega) (fun x hx e => by have := hD x e; omega)), (k.block _ (by omega) (fun e => by have := hD _ e; omega)).trans h.l, h.lt.keeps k (fun x hx e => by have := h.tp x hx; have := hD x e; omega), (k.block _ (by omega) (fun e => by have := hD _ e; omega)).trans h.x, (k.block _ (by omega) (fun e => by have := hD _ e; omega)).trans h.g, h.tp, h.wb, h.hC, h.be.trans (k.below (by omega) (fun x hx e => by have := hD x e; omega))⟩
end
end Go.Proofs.YtdpebhdjcgiboaaGreat
