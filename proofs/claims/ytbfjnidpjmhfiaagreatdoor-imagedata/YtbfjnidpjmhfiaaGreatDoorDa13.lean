import Derived.Test.YtbfjnidpjmhfiaaGreatDoorDa10
import Derived.Test.YtbfjnidpjmhfiaaGreatDoorMfR
import Derived.Test.YtbfjnidpjmhfiaaGreatDoorDe9
import Derived.Test.YtbfjnidpjmhfiaaGreatDoorDa6
import Derived.Test.YtbfjnidpjmhfiaaGreatDoorMd8
namespace Go.Proofs.YtbfjnidpjmhfiaaGreatDoor
open Go.ChangeShapes Go.WideShapes Go.ChangeAt Go.RowKit
set_option linter.unusedVariables false
set_option maxRecDepth 100000
theorem encT_bytes {lo hi last : Int} {p : DT} (hm : mayT lo hi p) (hl : last ≤ p.beg) (h0 : 0 ≤ last) (hh : hi ≤ 4611686018427387903) : ∀ x ∈ encT last p, 0 ≤ x ∧ x < 256 := by
  obtain ⟨m1, m2, m3, m4, m5⟩ := hm
  unfold encT
  exact bytes_app (uvB_bytes _ (by omega) (by omega)) (bytes_app (blB_bytes _ (by omega)) (blB_bytes _ (by omega)))
theorem encTs_bytes {lo hi : Int} (hh : hi ≤ 4611686018427387903) : ∀ (ps : List DT) (last : Int), 0 ≤ last → okTs lo hi last ps → ∀ x ∈ encTs last ps, 0 ≤ x ∧ x < 256
  | [], _, _, _, x, h => by cases h
  | p :: ps, last, h0, ⟨o1, o2, o3⟩, x, h => bytes_app (encT_bytes o2 o1 h0 hh) (encTs_bytes hh ps p.beg (by omega) o3) x h
theorem encA_bytes {id lo hi : Int} {ps : List DT} (h0 : 0 ≤ lo) (hm : mayA id lo hi ps) : ∀ x ∈ encA id lo hi ps, 0 ≤ x ∧ x < 256 := by
  have hf := mayA_from hm
  obtain ⟨⟨g1, g2⟩, ⟨n1, n2⟩, l1, _⟩ := hm
  unfold encA
  exact bytes_app (uvB_bytes _ (by omega) (by omega)) (bytes_app (uvB_bytes _ (by omega) (by omega)) (bytes_app (uvB_bytes _ (by omega) (by omega)) (bytes_app (uvB_bytes _ (by omega) (by omega)) (encTs_bytes n2 ps lo h0 hf))))
theorem mgDa_bytes : ∀ x ∈ mgDa, 0 ≤ x ∧ x < 256 := by decide
theorem mgAB_str : mgAB = strOfNums mgDa := by decide
theorem AoYes.seal {b : ByteArray} {id lo hi : Int} {ps : List DT} (h : AoYes b id lo hi ps) : sealM mgDa (encA id lo hi ps) = b := by
  obtain ⟨h0, hr, hm, hw, hlo⟩ := h
  obtain ⟨h12, hg, hc⟩ := opE_parts h0
  have hsz : (b.extract 0 (b.size - 4)).size = b.size - 4 := by rw [ByteArray.size_extract]; omega
  obtain ⟨f1, f2, -⟩ := rdA_form (by omega) hr
  have e1 := has_ext (encA_bytes hlo hm) (by omega) f1
  rw [← f2] at e1
  have e2 : (b.extract 0 (b.size - 4)).extract 0 8 = strOfNums mgDa := by
    rw [← mgAB_str, ← hg, ByteArray.extract_extract]
    congr 1
    omega
  have e3 : b.extract 0 (b.size - 4) = strOfNums (mgDa ++ encA id lo hi ps) := by
    rw [strApp, ← e1, ← e2]
    exact split_at _ 8 (by omega)
  have e4 := (fx4_iff b (b.size - 4) _ (by omega) (by unfold crN; omega)).1 hc
  unfold sealM
  rw [← e3, e4]
  exact (split_at b (b.size - 4) (by omega)).symm
theorem sealA_parts {b : ByteArray} {l : List Int} (h : sealM mgDa l = b) : b.size = 12 + l.length ∧ b.extract 0 (b.size - 4) = strOfNums (mgDa ++ l) := by
  have hz : (strOfNums (mgDa ++ l)).size = 8 + l.length := by rw [strOfNums_size, List.length_append]; rfl
  have hb : b.size = 12 + l.length := by
    rw [← h]
    unfold sealM
    rw [ByteArray.size_append, hz, strOfNums_size, fxB_len]
    omega
  refine ⟨hb, ?_⟩
  rw [hb, show 12 + l.length - 4 = (strOfNums (mgDa ++ l)).size from by omega, ← h]
  unfold sealM
  exact ByteArray.extract_append_eq_left rfl
theorem sealA_has {b : ByteArray} {l : List Int} (hl : ∀ x ∈ l, 0 ≤ x ∧ x < 256) (h : sealM mgDa l = b) : HasAt (b.extract 0 (b.size - 4)) 8 l := by
  rw [(sealA_parts h).2]
  intro i hi
  obtain ⟨g, hg⟩ := nums_get (mgDa ++ l) (bytes_app mgDa_bytes hl) (8 + i) (by rw [List.length_append]; show _ < 8 + _; omega)
  refine ⟨g, ?_⟩
  rw [hg, List.getElem_append_right (by show 8 ≤ _; omega)]
  congr 1
  show 8 + i - 8 = i
  omega
theorem AoYes.of {b : ByteArray} {id lo hi : Int} {ps : List DT} (h0 : opE b mgAB = 0) (hlo : 0 ≤ lo) (hm : mayA id lo hi ps) (hw : ∀ p ∈ ps, p.wf) (h : sealM mgDa (encA id lo hi ps) = b) : AoYes b id lo hi ps := by
  have hp := (sealA_parts h).1
  have hsz : (b.extract 0 (b.size - 4)).size = b.size - 4 := by rw [ByteArray.size_extract]; omega
  exact ⟨h0, rdA_back (by omega) hlo hm (sealA_has (encA_bytes hlo hm) h) (by omega), hm, hw, hlo⟩
theorem AoYes.has {b : ByteArray} {id lo hi : Int} {ps : List DT} (h : AoYes b id lo hi ps) : HasAt (b.extract 8 (b.size - 4)) 0 (encA id lo hi ps) := by
  have hp := (sealA_parts h.seal).1
  exact has_shift (by omega) (sealA_has (encA_bytes h.2.2.2.2 h.2.2.1) h.seal) (by omega)
end Go.Proofs.YtbfjnidpjmhfiaaGreatDoor

namespace Go.Proofs.YtbfjnidpjmhfiaaGreatDoor
open Go.ChangeShapes Go.WideShapes Go.ChangeAt Go.RowKit
set_option linter.unusedVariables false
set_option maxRecDepth 100000
/-- What the document's DecodeData answers; Y: the file is that of a data file. -/
def QdC (w : World) (b : ByteArray) (Y : Prop) (e : Ending) (w' : World) : Prop :=
  Below w.heap.size w w' ∧ ((∃ id lo hi ps v, AoYes b id lo hi ps ∧ e = .returned (.tuple #[.agg #[.int .i64 id, .int .u64 lo, .int .u64 hi, v, .int .i64 0, .slice none 0 0], .int .i64 0]) ∧ ownT w' w.heap.size v ps) ∨ (¬ Y ∧ e = .returned (.tuple #[.agg #[.int .i64 0, .int .u64 0, .int .u64 0, .slice none 0 0, .int .i64 0, .slice none 0 0], .int .i64 (if opE b mgAB = 0 then 125 else opE b mgAB)])))
theorem cu_stepA {s : ByteArray} {p q : Nat} {bad bad' : Bool} {v hi : Int} {F : Int → List Int} (hx : ∀ x, 0 ≤ x → x ≤ hi → bad = false → HasAt s p (F x) → v = x ∧ q = p + (F x).length ∧ bad' = false) {x : Int} {rest : List Int} (h0 : 0 ≤ x) (h1 : x ≤ hi) (h : bad = false ∧ HasAt s p (F x ++ rest)) : v = x ∧ bad' = false ∧ HasAt s q rest := by
  obtain ⟨e1, e2, e3⟩ := hx x h0 h1 h.1 h.2.left
  exact ⟨e1, e3, by rw [e2]; exact h.2.right⟩
theorem cu_stepV {s : ByteArray} {p q : Nat} {bad bad' : Bool} {v : ByteArray} (hx : ∀ x : ByteArray, x.size ≤ 1048576 → bad = false → HasAt s p (blB x) → v = x ∧ q = p + (blB x).length ∧ bad' = false) {x : ByteArray} {rest : List Int} (h1 : x.size ≤ 1048576) (h : bad = false ∧ HasAt s p (blB x ++ rest)) : v = x ∧ bad' = false ∧ HasAt s q rest := by
  obtain ⟨e1, e2, e3⟩ := hx x h1 h.1 h.2.left
  exact ⟨e1, e3, by rw [e2]; exact h.2.right⟩
theorem Cu.frA {w w' : World} {C R : Nat} {s : ByteArray} {p : Nat} {bad : Bool} (h : Cu w C s p bad) (hf : Fr R w w') (hn : C ≠ R) : Cu w' C s p bad := (hf.rest C h.lt hn).trans h
theorem Fp6.set1 {W : World} {g : Nat} {a b c d e f : Value} (h : Fp6 W g a b c d e f) (v : Value) : Fp6 (W.setCell ⟨g, 1, none⟩ v) g a v c d e f := by
  unfold Fp6 at h ⊢
  simp [World.setCell, Array.getElem?_modify, h]
/-- A datum in a block. -/
def Dt3 (W : World) (g : Nat) (a b c : Value) : Prop := W.heap[g]? = some (.cells #[a, b, c] 31 (0, 0))
theorem Dt3.cell {W : World} {g : Nat} {a b c : Value} (h : Dt3 W g a b c) (j : Nat) : W.cell? ⟨g, j, none⟩ = (#[a, b, c] : Array Value)[j]? := cells_at h j
theorem Dt3.free {W : World} {g : Nat} {a b c : Value} (h : Dt3 W g a b c) (j : Nat) : W.frozen? ⟨g, j, none⟩ = false := by
  unfold Dt3 at h
  simp [World.frozen?, h]
theorem Dt3.lt {W : World} {g : Nat} {a b c : Value} (h : Dt3 W g a b c) : g < W.heap.size := (Array.getElem?_eq_some_iff.1 h).1
theorem Dt3.fr {W W' : World} {g R : Nat} {a b c : Value} (h : Dt3 W g a b c) (hf : Fr R W W') (hn : g ≠ R) : Dt3 W' g a b c := (hf.rest g h.lt hn).trans h
theorem Dt3.set1 {W : World} {g : Nat} {a b c : Value} (h : Dt3 W g a b c) (v : Value) : Dt3 (W.setCell ⟨g, 1, none⟩ v) g a v c := by
  unfold Dt3 at h ⊢
  simp [World.setCell, Array.getElem?_modify, h]
theorem Dt3.set2 {W : World} {g : Nat} {a b c : Value} (h : Dt3 W g a b c) (v : Value) : Dt3 (W.setCell ⟨g, 2, none⟩ v) g a b v := by
  unfold Dt3 at h ⊢
  simp [World.setCell, Array.getElem?_modify, h]
/-- What stands while the document reads a data file. -/
structure QdS (w : World) (C g B : Nat) (s : ByteArray) (id lo hi : Int) (W : World) (p : Nat) (bad : Bool) (v : Value) (ps : List DT) : Prop where
  bel : Below w.heap.size w W
  z : Fp6 W w.heap.size (.int .i64 0) (.int .u64 0) (.int .u64 0) (.slice none 0 0) (.int .i64 0) (.slice none 0 0)
  cu : Cu W C s p bad
  hg : Fp6 W g (.int .i64 id) (.int .u64 lo) (.int .u64 hi) v (.int .i64 0) (.slice none 0 0)
  own : ownT W B v ps
  r1 : w.heap.size < C
  r2 : w.heap.size < g
  n1 : C ≠ g
  b1 : C < B
  b2 : g < B
  b3 : B ≤ W.heap.size
theorem QdS.read {w : World} {C g B : Nat} {s : ByteArray} {id lo hi : Int} {W W' : World} {p q : Nat} {bad bad' : Bool} {v : Value} {ps : List DT} (h : QdS w C g B s id lo hi W p bad v ps) (hf : Fr C W W') (hr : Cu W' C s q bad') : QdS w C g B s id lo hi W' q bad' v ps :=
  ⟨h.bel.trans (hf.toBelow.mono (Nat.le_of_lt h.r1)), h.z.fr hf (by have := h.r1; omega), hr, h.hg.fr hf (Ne.symm h.n1), h.own.same (fun k hk hB => hf.rest k hk (by have := h.b1; omega)), h.r1, h.r2, h.n1, h.b1, h.b2, Nat.le_trans h.b3 hf.toBelow.size⟩
theorem QdS.put {w : World} {C g B : Nat} {s : ByteArray} {id lo hi : Int} {W : World} {p : Nat} {bad : Bool} {v : Value} {ps : List DT} (h : QdS w C g B s id lo hi W p bad v ps) (j : Nat) (u : Value) {id' lo' hi' : Int} (hm : Fp6 (W.setCell ⟨g, j, none⟩ u) g (.int .i64 id') (.int .u64 lo') (.int .u64 hi') v (.int .i64 0) (.slice none 0 0)) : QdS w C g B s id' lo' hi' (W.setCell ⟨g, j, none⟩ u) p bad v ps := by
  have := h.r1
  have := h.r2
  have := h.b1
  have := h.b2
  exact ⟨h.bel.setCell (p := ⟨g, j, none⟩) (by simp only; omega) _, h.z.other (p := ⟨g, j, none⟩) _ (by simp only; omega), Cu.other (p := ⟨g, j, none⟩) h.cu _ h.n1, hm, h.own.same (fun k hk hB => Below.heap_setCell _ _ _ k (by simp only; omega)), h.r1, h.r2, h.n1, h.b1, h.b2, by simp; exact h.b3⟩
theorem QdS.app {w : World} {C g B : Nat} {s : ByteArray} {id lo hi : Int} {W W' : World} {p : Nat} {bad : Bool} {v v' : Value} {ps ps' : List DT} (h : QdS w C g B s id lo hi W p bad v ps) (ho : ownT W' B v' ps') (hb : Below B W W') : QdS w C g B s id lo hi (W'.setCell ⟨g, 3, none⟩ v') p bad v' ps' := by
  have := h.r1
  have := h.r2
  have := h.b1
  have := h.b2
  refine ⟨(h.bel.trans (hb.mono (by omega))).setCell (p := ⟨g, 3, none⟩) (by simp only; omega) _, (h.z.later hb (by omega)).other (p := ⟨g, 3, none⟩) _ (by simp only; omega), Cu.other (p := ⟨g, 3, none⟩) (h.cu.later hb h.b1) _ h.n1, (h.hg.later hb h.b2).set3 v', ho.same (fun k hk hB => Below.heap_setCell _ _ _ k (by simp only; omega)), h.r1, h.r2, h.n1, h.b1, h.b2, ?_⟩
  have := hb.size
  have := h.b3
  simp
  omega
theorem QdS.drew {w : World} {C g B : Nat} {s : ByteArray} {id lo hi : Int} {W : World} {p : Nat} {bad : Bool} {v : Value} {ps : List DT} (h : QdS w C g B s id lo hi W p bad v ps) : QdS w C g B s id lo hi W.drew p bad v ps :=
  ⟨h.bel.drew, h.z, h.cu, h.hg, h.own.same (fun _ _ _ => rfl), h.r1, h.r2, h.n1, h.b1, h.b2, h.b3⟩
theorem QdS.later {w : World} {C g B : Nat} {s : ByteArray} {id lo hi : Int} {W W' : World} {p : Nat} {bad : Bool} {v : Value} {ps : List DT} (h : QdS w C g B s id lo hi W p bad v ps) (hb : Below W.heap.size W W') : QdS w C g B s id lo hi W' p bad v ps :=
  ⟨h.bel.trans (hb.mono h.bel.size), h.z.later hb h.z.lt, h.cu.later hb h.cu.lt, h.hg.later hb h.hg.lt, h.own.later hb, h.r1, h.r2, h.n1, h.b1, h.b2, Nat.le_trans h.b3 hb.size⟩
/-- The same, beside a datum that is being read, at the block q. -/
structure YdS (w : World) (C g B : Nat) (s : ByteArray) (id lo hi : Int) (v : Value) (ps : List DT) (q : Nat) (W : World) (p : Nat) (bad : Bool) (x : DT) : Prop where
  base : QdS w C g B s id lo hi W p bad v ps
  x : Dt3 W q (.int .u64 x.beg) (.string x.key) (.string x.data)
  q1 : g < q
  q2 : C < q
  q3 : ∀ k, v.ownBlock = some k → k ≠ q
theorem YdS.read {w : World} {C g B : Nat} {s : ByteArray} {id lo hi : Int} {v : Value} {ps : List DT} {q : Nat} {W W' : World} {p p' : Nat} {bad bad' : Bool} {x : DT} (h : YdS w C g B s id lo hi v ps q W p bad x) (hf : Fr C W W') (hr : Cu W' C s p' bad') : YdS w C g B s id lo hi v ps q W' p' bad' x :=
  ⟨h.base.read hf hr, h.x.fr hf (by have := h.q2; omega), h.q1, h.q2, h.q3⟩
theorem YdS.drew {w : World} {C g B : Nat} {s : ByteArray} {id lo hi : Int} {v : Value} {ps : List DT} {q : Nat} {W : World} {p : Nat} {bad : Bool} {x : DT} (h : YdS w C g B s id lo hi v ps q W p bad x) : YdS w C g B s id lo hi v ps q W.drew p bad x := ⟨h.base.drew, h.x, h.q1, h.q2, h.q3⟩
theorem YdS.put {w : World} {C g B : Nat} {s : ByteArray} {id lo hi : Int} {v : Value} {ps : List DT} {q : Nat} {W : World} {p : Nat} {bad : Bool} {x x' : DT} (h : YdS w C g B s id lo hi v ps q W p bad x) (j : Nat) (u : Value) (hx : Dt3 (W.setCell ⟨q, j, none⟩ u) q (.int .u64 x'.beg) (.string x'.key) (.string x'.data)) : YdS w C g B s id lo hi v ps q (W.setCell ⟨q, j, none⟩ u) p bad x' := by
  have := h.base.r1
  have := h.base.r2
  have := h.q1
  have := h.q2
  exact ⟨⟨h.base.bel.setCell (p := ⟨q, j, none⟩) (by simp only; omega) _, h.base.z.other (p := ⟨q, j, none⟩) _ (by simp only; omega), Cu.other (p := ⟨q, j, none⟩) h.base.cu _ (by simp only; omega), h.base.hg.other (p := ⟨q, j, none⟩) _ (by simp only; omega), h.base.own.keep (fun k hk => Below.heap_setCell _ _ _ k (h.q3 k hk)), h.base.r1, h.base.r2, h.base.n1, h.base.b1, h.base.b2, by simp; exact h.base.b3⟩, hx, h.q1, h.q2, h.q3⟩
theorem drop_getT (ps : List DT) (k : Nat) (d : DT) (h : k < ps.length) : ps.drop k = ps.getD k d :: ps.drop (k + 1) ∧ ps.getD k d = ps[k] := by
  have e : ps.getD k d = ps[k] := by simp [List.getD, List.getElem?_eq_getElem h]
  exact ⟨by rw [e]; exact List.drop_eq_getElem_cons h, e⟩
theorem ret_fp2 {fn : Func} {p u : Tmp} (h : fn.results = #[.cell p 26, .tmp u]) (tmps : Array Value) (w : World) (a b c d e f : Value) (g : Nat) (hp : tmps.getD p undef = .pointer (some ⟨g, 0, none⟩)) (hg : Fp6 w g a b c d e f) :
    (results fn tmps).run Tryz.prog w = .ok (.tuple #[.agg #[a, b, c, d, e, f], tmps.getD u undef]) w := by
  have hp' : tmps[p]?.getD undef = .pointer (some ⟨g, 0, none⟩) := by simpa using hp
  unfold Fp6 at hg
  simp [results, h, hp', asAddr, run_loadVar_row w g 26 26 _ (0, 0) _ hg Tryz.underlying26 rfl infoFp]
end Go.Proofs.YtbfjnidpjmhfiaaGreatDoor
