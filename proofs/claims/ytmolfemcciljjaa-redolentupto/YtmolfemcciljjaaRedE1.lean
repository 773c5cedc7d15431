import Derived.Test.YtmolfemcciljjaaRedM2
namespace Go.Proofs.Ytmolfemcciljjaa
open Go.ChangeShapes Go.WideShapes Go.ChangeAt Go.RowKit
set_option linter.unusedVariables false
set_option maxRecDepth 100000
/-- The bytes of a write, and of a commit. -/
def encWr (p : W3) : List Int := [p.1 % 256] ++ (uvB p.2.1.size ++ txtN p.2.1) ++ (if p.1 = 1 then uvB p.2.2.size ++ txtN p.2.2 else [])
def encCo (s : Int) (vs : List W3) : List Int := uvB s ++ uvB vs.length ++ vs.flatMap encWr
def encR (s : Int) (vs : List W3) : ByteArray × Int := if mayC s vs = true then (strOfNums (encCo s vs), 0) else (⟨#[]⟩, 112)
theorem encWr_len (p : W3) : (encWr p).length ≤ 21 + p.2.1.size + p.2.2.size := by
  have h1 := uvB_len p.2.1.size
  have h2 := uvB_len p.2.2.size
  unfold encWr
  split <;> simp only [List.length_append, List.length_cons, List.length_nil, txtN_len] <;> omega
theorem encs_len : ∀ vs : List W3, (∀ p ∈ vs, mayW p = true) → (vs.flatMap encWr).length ≤ 700 * vs.length
  | [], _ => by simp
  | p :: r, h => by
    have h1 := encWr_len p
    have h2 := mayW_parts (h p (by simp))
    have h3 := encs_len r (fun q hq => h q (by simp [hq]))
    rw [List.flatMap_cons, List.length_append, List.length_cons]
    omega
theorem encs_take (vs : List W3) (k : Nat) (h : k < vs.length) : (vs.take (k + 1)).flatMap encWr = (vs.take k).flatMap encWr ++ encWr vs[k] := by
  rw [List.take_add_one, List.flatMap_append, List.getElem?_eq_getElem h]
  simp
theorem uvF_byt : ∀ (f : Nat) (v : Int), 0 ≤ v → v < 128 ^ (f + 1) → ∀ x ∈ uvF f v, 0 ≤ x ∧ x < 256
  | 0, v, h0, h1, x, hx => by
    simp [uvF] at hx; subst hx; simp at h1; omega
  | f + 1, v, h0, h1, x, hx => by
    by_cases hlt : v < 128
    · rw [uvF_small (f + 1) v hlt] at hx; simp at hx; omega
    · rw [uvF_great f v (by omega)] at hx
      simp only [List.mem_cons] at hx
      rcases hx with rfl | hx
      · omega
      · refine uvF_byt f (v / 128) (by omega) ?_ x hx
        rw [Int.pow_succ] at h1; omega
theorem uvB_byt (v : Int) (h0 : 0 ≤ v) (h1 : v ≤ 18446744073709551615) : ∀ x ∈ uvB v, 0 ≤ x ∧ x < 256 := uvF_byt 9 v h0 (by omega)
theorem txtBlob (s : ByteArray) (hs : s.size ≤ 1048576) : txtN (strOfNums (uvB s.size) ++ s) = uvB s.size ++ txtN s := by
  have h : ∀ a b : ByteArray, txtN (a ++ b) = txtN a ++ txtN b := fun a b => by
    unfold txtN
    rw [ByteArray.data_append, Array.toList_append, List.map_append]
  rw [h, txtStr _ (uvB_byt _ (by omega) (by omega))]
/-- What stands while a write is laid down. -/
structure St (n : Nat) (W1 W : World) (v : Value) (xs : List Int) (g : Nat) (p : W3) : Prop where
  own : ownMB W (n + 1) v xs
  blk : W.heap[g]? = some (.cells #[.int .i64 p.1, .string p.2.1, .string p.2.2] 47)
  ne : some g ≠ v.ownBlock
  bel : Below (n + 1) W1 W
  ge : n + 1 ≤ W.heap.size
theorem St.step {n : Nat} {W1 W W' : World} {v : Value} {xs : List Int} {g : Nat} {p : W3} (h : St n W1 W v xs g p) (hb : Below W.heap.size W W') : St n W1 W' v xs g p :=
  ⟨h.own.later hb, (hb.block g (Array.getElem?_eq_some_iff.1 h.blk).1).trans h.blk, h.ne, h.bel.trans (hb.mono h.ge), Nat.le_trans h.ge hb.size⟩
theorem St.app {n : Nat} {W1 W W' : World} {v v' : Value} {xs ys : List Int} {g : Nat} {p : W3} (h : St n W1 W v xs g p) (ho : ownMB W' (n + 1) v' ys) (hb : Below (n + 1) W W') (hk : KeepG v W v' W') : St n W1 W' v' ys g p :=
  ⟨ho, (hk.1 g (Array.getElem?_eq_some_iff.1 h.blk).1 h.ne).trans h.blk, hk.2 g (Array.getElem?_eq_some_iff.1 h.blk).1 h.ne, h.bel.trans hb, Nat.le_trans h.ge hb.size⟩
theorem St.c {n : Nat} {W1 W : World} {v : Value} {xs : List Int} {g : Nat} {p : W3} (h : St n W1 W v xs g p) : W.cell? ⟨g, 0, none⟩ = some (.int .i64 p.1) ∧ W.cell? ⟨g, 1, none⟩ = some (.string p.2.1) ∧ W.cell? ⟨g, 2, none⟩ = some (.string p.2.2) := ⟨(cellWH h.blk 0).trans rfl, (cellWH h.blk 1).trans rfl, (cellWH h.blk 2).trans rfl⟩
end Go.Proofs.Ytmolfemcciljjaa
