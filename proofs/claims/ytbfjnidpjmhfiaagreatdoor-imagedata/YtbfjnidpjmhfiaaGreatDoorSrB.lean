import Derived.Test.YtbfjnidpjmhfiaaGreatDoorMf8
namespace Go.Proofs.YtbfjnidpjmhfiaaGreatDoor
open Go.ChangeShapes Go.WideShapes Go.ChangeAt Go.RowKit
set_option linter.unusedVariables false
set_option maxRecDepth 100000
/-- A row of bytes under way, beside a block eb that is kept. -/
structure Sr (w1 w : World) (B eb : Nat) (ob : Obj) (v : Value) (xs : List Int) : Prop where
  own : ownMB w B v xs
  blk : w.heap[eb]? = some ob
  ne : v.ownBlock ≠ some eb
  bel : Below B w1 w
theorem Sr.lt {w1 w : World} {B eb : Nat} {ob : Obj} {v : Value} {xs : List Int} (h : Sr w1 w B eb ob v xs) : eb < w.heap.size := (Array.getElem?_eq_some_iff.1 h.blk).1
theorem Sr.call {w1 w w' : World} {B eb : Nat} {ob : Obj} {v : Value} {xs : List Int} (h : Sr w1 w B eb ob v xs) (hB : B ≤ w1.heap.size) (hb : Below w.heap.size w w') : Sr w1 w' B eb ob v xs :=
  ⟨h.own.later hb, (hb.block eb h.lt).trans h.blk, h.ne, h.bel.trans (hb.mono (Nat.le_trans hB h.bel.size))⟩
theorem Sr.app {w1 w w' : World} {B eb : Nat} {ob : Obj} {v v' : Value} {xs ys : List Int} (h : Sr w1 w B eb ob v xs) (ho : ownMB w' B v' (xs ++ ys)) (hb : Below B w w') (hk : KeepG v w v' w') : Sr w1 w' B eb ob v' (xs ++ ys) :=
  ⟨ho, (hk.1 eb h.lt (fun e => h.ne e.symm)).trans h.blk, fun e => hk.2 eb h.lt (fun e2 => h.ne e2.symm) e.symm, h.bel.trans hb⟩
theorem own_first {w : World} {B : Nat} {v : Value} {t : ByteArray} {xs : List Int} (ht : txtN t = xs) (hz : 0 < t.size) (h : w.ownsRow B 5 1 v (0 + t.size) ([] ++ Lib.strCells t)) : ownMB w B v xs := by
  subst ht
  unfold ownMB
  rw [txtN_cells]
  rcases h.2 with ⟨_, hn⟩ | ⟨g, cap, cur, rfl, hb, hg, hnc, hm, hs, htk⟩
  · omega
  · have hlen := Lib.strCells_length t
    rw [List.nil_append] at htk
    refine ⟨g, cap, cur, (0, 0), by rw [hlen, Nat.zero_add], hb, hg, Or.inl rfl, by omega, hm, by simpa using hs, ?_⟩
    rw [hlen]
    simpa using htk
theorem ownMB.slice {w : World} {B : Nat} {v : Value} {xs : List Int} (h : ownMB w B v xs) : ∃ a n c, v = .slice a n c := by
  obtain ⟨g, cap, cur, fz, e, _⟩ := h
  exact ⟨_, _, _, e⟩
theorem strU (x : Int) (h0 : 0 ≤ x) (h1 : x ≤ 18446744073709551615) : txtN (strOfNums (uvB x)) = uvB x ∧ (strOfNums (uvB x)).size ≤ 10 ∧ 0 < (strOfNums (uvB x)).size := by
  have := uvB_len x
  refine ⟨txtStr _ (uvB_bytes x h0 h1), ?_, ?_⟩ <;> rw [strOfNums_size] <;> omega
theorem strF (x : Int) : txtN (strOfNums (fxB 4 x)) = fxB 4 x ∧ (strOfNums (fxB 4 x)).size = 4 := ⟨txtStr _ (fxB_bytes 4 x), by rw [strOfNums_size, fxB_len]⟩
end Go.Proofs.YtbfjnidpjmhfiaaGreatDoor
