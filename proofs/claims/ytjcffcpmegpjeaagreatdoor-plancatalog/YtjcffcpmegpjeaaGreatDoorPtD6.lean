import Derived.Test.YtjcffcpmegpjeaaGreatDoorPtY
namespace Go.Proofs.YtjcffcpmegpjeaaGreatDoor
open Go.ChangeShapes Go.WideShapes Go.ChangeAt Go.RowKit
set_option linter.unusedVariables false
set_option maxRecDepth 100000
/-- What stands while a table is read: the reader in R, the table in g, its rows behind g. -/
structure TbS (w : World) (R g : Nat) (s : ByteArray) (nm : ByteArray) (num : Int) (W : World) (q : Nat) (cv : Value) (cs : List CD) (kv : Value) (ks : List Int) : Prop where
  bel : Below w.heap.size w W
  z : W.heap[w.heap.size + 1]? = some (.cells #[.string ⟨#[]⟩, .int .i64 0, .slice none 0 0, .slice none 0 0] 25)
  rd : Rp W R s (q : Int)
  t : W.heap[g]? = some (.cells #[.string nm, .int .i64 num, cv, kv] 25)
  oc : ownC W (g + 1) cv cs
  on : ownN W (g + 1) kv ks
  hR : w.heap.size + 1 < R
  hg : R < g
theorem rows_apart {w : World} {B : Nat} {cv kv : Value} {cs : List CD} {ks : List Int} (h : ownC w B cv cs) (g : ownN w B kv ks) : ∀ k, kv.ownBlock = some k → some k ≠ cv.ownBlock := by
  intro k hk he
  rcases h.2 with ⟨rfl, _⟩ | ⟨b, cap, cur, rfl, _, hb, _⟩
  · cases he
  · rcases g.2 with ⟨rfl, _⟩ | ⟨b', cap', cur', rfl, _, hb', _⟩
    · cases hk
    · have e1 : b = k := Option.some.inj he.symm
      have e2 : b' = k := Option.some.inj hk
      subst e1 e2
      rw [hb] at hb'
      simp at hb'
section
variable {w : World} {R g : Nat} {s nm : ByteArray} {num : Int} {W : World} {q : Nat} {cv : Value} {cs : List CD} {kv : Value} {ks : List Int}
theorem TbS.drew (h : TbS w R g s nm num W q cv cs kv ks) : TbS w R g s nm num W.drew q cv cs kv ks :=
  ⟨⟨h.bel.os, h.bel.tape, h.bel.output, h.bel.size, h.bel.block⟩, h.z, h.rd, h.t, World.ownsRow.drew h.oc, World.ownsRow.drew h.on, h.hR, h.hg⟩
theorem TbS.lt (h : TbS w R g s nm num W q cv cs kv ks) : g < W.heap.size := (Array.getElem?_eq_some_iff.1 h.t).1
theorem TbS.read {W' : World} {q' : Nat} (h : TbS w R g s nm num W q cv cs kv ks) (hf : Fr R W W') (hr : Rp W' R s (q' : Int)) : TbS w R g s nm num W' q' cv cs kv ks :=
  ⟨h.bel.trans (hf.toBelow.mono (by have := h.hR; omega)), (hf.rest _ (by have := h.lt; have := h.hR; have := h.hg; omega) (by have := h.hR; omega)).trans h.z, hr, (hf.rest _ h.lt (by have := h.hg; omega)).trans h.t, h.oc.fr hf (by have := h.hg; omega), h.on.fr hf (by have := h.hg; omega), h.hR, h.hg⟩
theorem TbS.cells (h : TbS w R g s nm num W q cv cs kv ks) : W.cell? ⟨g, 0, none⟩ = some (.string nm) ∧ W.cell? ⟨g, 1, none⟩ = some (.int .i64 num) ∧ W.cell? ⟨g, 2, none⟩ = some cv ∧ W.cell? ⟨g, 3, none⟩ = some kv ∧ W.frozen? ⟨g, 2, none⟩ = false ∧ W.frozen? ⟨g, 3, none⟩ = false := by
  have h1 := h.t
  unfold World.cell? World.frozen?
  rw [h1]
  exact ⟨rfl, rfl, rfl, rfl, rfl, rfl⟩
theorem TbS.colPut {W' : World} {v' : Value} {cs' : List CD} (h : TbS w R g s nm num W q cv cs kv ks) (ho : ownC W' (g + 1) v' cs') (hb : Below (g + 1) W W') (hk : ∀ k, k < W.heap.size → some k ≠ cv.ownBlock → W'.heap[k]? = W.heap[k]?) : TbS w R g s nm num (W'.setCell ⟨g, 2, none⟩ v') q v' cs' kv ks := by
  have hl := h.lt
  have h1 := h.hR
  have h2 := h.hg
  have hb1 := h.bel.size
  refine ⟨(h.bel.trans (hb.mono (by omega))).setCell (by simp only; omega) _, (heap_off (by omega) _).trans ((hb.block _ (by omega)).trans h.z), (heap_off (by omega) _).trans ((hb.block _ (by omega)).trans h.rd), heap_set ((hb.block _ (by omega)).trans h.t) _, ?_, ?_, h1, h2⟩
  · exact ho.keep fun k hk' => heap_off (by have := (ho.own k hk').1; omega) _
  · refine (h.on.keep (w' := W') fun k hk' => hk k (h.on.own k hk').2 (rows_apart h.oc h.on k hk')).keep fun k hk' => heap_off (by have := (h.on.own k hk').1; omega) _
theorem TbS.keyPut {W' : World} {v' : Value} {ks' : List Int} (h : TbS w R g s nm num W q cv cs kv ks) (ho : ownN W' (g + 1) v' ks') (hb : Below (g + 1) W W') (hk : ∀ k, k < W.heap.size → some k ≠ kv.ownBlock → W'.heap[k]? = W.heap[k]?) : TbS w R g s nm num (W'.setCell ⟨g, 3, none⟩ v') q cv cs v' ks' := by
  have hl := h.lt
  have h1 := h.hR
  have h2 := h.hg
  have hb1 := h.bel.size
  refine ⟨(h.bel.trans (hb.mono (by omega))).setCell (by simp only; omega) _, (heap_off (by omega) _).trans ((hb.block _ (by omega)).trans h.z), (heap_off (by omega) _).trans ((hb.block _ (by omega)).trans h.rd), heap_set ((hb.block _ (by omega)).trans h.t) _, ?_, ?_, h1, h2⟩
  · refine (h.oc.keep (w' := W') fun k hk' => hk k (h.oc.own k hk').2 (fun he => rows_apart h.oc h.on k he.symm hk'.symm)).keep fun k hk' => heap_off (by have := (h.oc.own k hk').1; omega) _
  · exact ho.keep fun k hk' => heap_off (by have := (ho.own k hk').1; omega) _
end
theorem cd_place {s : ByteArray} {q : Nat} (h : cdE s q = 0) : ∃ q' : Nat, cdP s q = (q' : Int) ∧ q < q' ∧ q' ≤ s.size := by
  unfold cdE at h
  split at h
  · rename_i hb
    obtain ⟨p, m, e1, e2, e3, e4⟩ := rB_place hb
    obtain ⟨_, p', u, m', f1, f2, f3, f4, f5, _⟩ := rU_form s _ h
    refine ⟨p' + m', ?_, by omega, f4⟩
    unfold cdP
    rw [f2]
  · contradiction
theorem cd_reads (R : Nat) (s : ByteArray) (q : Nat) (hs : s.size ≤ 512) (hq : q ≤ s.size) (W : World) (h : Rp W R s (q : Int)) :
    Calls Tryz.prog 94 #[.pointer (some ⟨R, 0, none⟩)] W fun e w' => Got (cdE s q) (.agg #[.string (cdV s q).1, .int .i64 (cdV s q).2.1, .bool (cdV s q).2.2]) (Rp w' R s (cdP s q)) e ∧ Fr R W w' := by
  refine colReadT R s q W h (by omega) (by omega) (by omega) (fun hb => ?_) (fun hb hu => ?_)
  · obtain ⟨p, m, e1, e2, e3, e4⟩ := rB_place hb
    rw [e2]; omega
  · obtain ⟨_, p', u, m', f1, f2, f3, f4, f5, _⟩ := rU_form s _ hu
    rw [f2]; omega
/-- A number at q is read, by what stands there. -/
theorem nu_place {s : ByteArray} {q : Nat} (h : (rU s q).2.2 = 0) : ∃ (u q' : Nat), rU s q = ((u : Int), (q' : Int), 0) ∧ q < q' ∧ q' ≤ s.size ∧ u < 18446744073709551616 := by
  obtain ⟨_, p', u, m', f1, f2, f3, f4, f5, _⟩ := rU_form s _ h
  exact ⟨u, p' + m', f2, by omega, f4, f5⟩
theorem nu_reads (R : Nat) (s : ByteArray) (q : Nat) (hs : s.size ≤ 512) (hq : q ≤ s.size) (W : World) (h : Rp W R s (q : Int)) :
    Calls Tryz.prog 93 #[.pointer (some ⟨R, 0, none⟩)] W fun e w' => Got (rU s q).2.2 (.int .u64 (rU s q).1) (Rp w' R s (rU s q).2.1) e ∧ Fr R W w' :=
  numberT R s q W h (by omega) (by omega) (by omega)
end Go.Proofs.YtjcffcpmegpjeaaGreatDoor

namespace Go.Proofs.YtjcffcpmegpjeaaGreatDoor
open Go.ChangeShapes Go.WideShapes Go.ChangeAt Go.RowKit
set_option linter.unusedVariables false
set_option maxRecDepth 100000
/-- What reading a table comes to: it gives up, or hands a table over; where one has just this pair, that one. -/
def RdT (w : World) (k d : ByteArray) (e : Ending) (w' : World) : Prop :=
  Below w.heap.size w w' ∧ ((e = oops 169 ∧ ∀ nm num cs ks, ¬ Yt nm num cs ks k d) ∨ ∃ (nm : ByteArray) (num : Int) (cv kv : Value) (cs : List CD) (ks : List Int), e = .returned (.agg #[.string nm, .int .i64 num, cv, kv]) ∧ ownC w' w.heap.size cv cs ∧ ownN w' w.heap.size kv ks ∧ cs.length ≤ 512 ∧ ks.length ≤ 512 ∧ -9223372036854775808 ≤ num ∧ num ≤ 9223372036854775807 ∧ ∀ nm' num' cs' ks', Yt nm' num' cs' ks' k d → nm' = nm ∧ num' = num ∧ cs' = cs ∧ ks' = ks)
theorem RdT.no {w w' : World} {k d : ByteArray} (h : Below w.heap.size w w') (hn : ∀ nm num cs ks, ¬ Yt nm num cs ks k d) : RdT w k d (oops 169) w' := ⟨h, .inl ⟨rfl, hn⟩⟩
/-- What is known of the table that has this pair, the reader being at q, behind i columns. -/
def AtC (k d : ByteArray) (nm : ByteArray) (num : Int) (m : Int) (cs : List CD) (q : Nat) : Prop := ∀ nm' num' cs' ks', Yt nm' num' cs' ks' k d → nm' = nm ∧ num' = num ∧ m = (cs'.length : Int) ∧ cs = cs'.take cs.length ∧ cs.length ≤ cs'.length ∧ q = (colsD num' cs' cs.length).size
def AtK (k d : ByteArray) (nm : ByteArray) (num : Int) (cs : List CD) (m : Int) (ks : List Int) (q : Nat) : Prop := ∀ nm' num' cs' ks', Yt nm' num' cs' ks' k d → nm' = nm ∧ num' = num ∧ cs' = cs ∧ m = (ks'.length : Int) ∧ ks = ks'.take ks.length ∧ ks.length ≤ ks'.length ∧ q = (keysD num' cs' ks' ks.length).size
theorem AtC.next {k d nm : ByteArray} {num m : Int} {cs : List CD} {q : Nat} (h : AtC k d nm num m cs q) (hl : (cs.length : Int) < m) : (∀ nm' num' cs' ks', Yt nm' num' cs' ks' k d → cdE d q = 0) ∧ ∀ q' : Nat, cdP d q = (q' : Int) → AtC k d nm num m (cs ++ [cdV d q]) q' := by
  constructor
  · intro nm' num' cs' ks' y
    obtain ⟨_, _, h3, h4, h5, h6⟩ := h nm' num' cs' ks' y
    have := (y.readC cs.length (by omega)).1
    rw [h6]; exact this
  · intro q' hq nm' num' cs' ks' y
    obtain ⟨h1, h2, h3, h4, h5, h6⟩ := h nm' num' cs' ks' y
    obtain ⟨_, b, c⟩ := y.readC cs.length (by omega)
    rw [← h6] at b c
    rw [b]
    have hlt : cs.length < cs'.length := by omega
    have hle : (cs ++ [cs'[cs.length]]).length = cs.length + 1 := by simp
    refine ⟨h1, h2, h3, ?_, by omega, ?_⟩
    · rw [hle, List.take_succ_eq_append_getElem hlt, ← h4]
    · rw [hle]
      rw [hq] at c
      omega
theorem AtC.done {k d nm : ByteArray} {num m : Int} {cs : List CD} {q : Nat} (h : AtC k d nm num m cs q) (hl : (cs.length : Int) = m) : (∀ nm' num' cs' ks', Yt nm' num' cs' ks' k d → (rU d q).2.2 = 0) ∧ ∀ (u q' : Nat), rU d q = ((u : Int), (q' : Int), 0) → AtK k d nm num cs (u : Int) [] q' := by
  constructor
  · intro nm' num' cs' ks' y
    obtain ⟨h1, h2, h3, h4, h5, h6⟩ := h nm' num' cs' ks' y
    have := y.readN y.few.2.1
    rw [show cs'.length = cs.length from by omega, ← h6] at this
    rw [this]
  · intro u q' hq nm' num' cs' ks' y
    obtain ⟨h1, h2, h3, h4, h5, h6⟩ := h nm' num' cs' ks' y
    have hll : cs.length = cs'.length := by omega
    have := y.readN y.few.2.1
    rw [← hll, ← h6, hq] at this
    injection this with t1 t2
    injection t2 with t3 t4
    refine ⟨h1, h2, ?_, t1, rfl, by simp, ?_⟩
    · rw [h4, hll, List.take_length]
    · show q' = (keysD num' cs' ks' 0).size
      omega
theorem AtK.next {k d nm : ByteArray} {num m : Int} {cs : List CD} {ks : List Int} {q : Nat} (h : AtK k d nm num cs m ks q) (hl : (ks.length : Int) < m) : (∀ nm' num' cs' ks', Yt nm' num' cs' ks' k d → (rU d q).2.2 = 0) ∧ ∀ (u q' : Nat) (x : Int), rU d q = ((u : Int), (q' : Int), 0) → (u < 9223372036854775808 → x = (u : Int)) → AtK k d nm num cs m (ks ++ [x]) q' := by
  constructor
  · intro nm' num' cs' ks' y
    obtain ⟨h1, h2, h3, h4, h5, h6, h7⟩ := h nm' num' cs' ks' y
    have hlt : ks.length < ks'.length := by omega
    obtain ⟨b1, b2⟩ := y.few.2.2.2.2 ks'[ks.length] (List.getElem_mem hlt)
    have b3 := y.few.1
    have := y.readK ks.length hlt b1 (by omega)
    rw [← h7] at this
    rw [this]
  · intro u q' x hq hx nm' num' cs' ks' y
    obtain ⟨h1, h2, h3, h4, h5, h6, h7⟩ := h nm' num' cs' ks' y
    have hlt : ks.length < ks'.length := by omega
    obtain ⟨b1, b2⟩ := y.few.2.2.2.2 ks'[ks.length] (List.getElem_mem hlt)
    have b3 := y.few.1
    have := y.readK ks.length hlt b1 (by omega)
    rw [← h7, hq] at this
    injection this with t1 t2
    injection t2 with t3 t4
    have hxx : x = ks'[ks.length] := by rw [hx (by omega)]; exact t1
    have hle : (ks ++ [x]).length = ks.length + 1 := by simp
    refine ⟨h1, h2, h3, h4, ?_, by omega, ?_⟩
    · rw [hle, List.take_succ_eq_append_getElem hlt, ← h5, hxx]
    · rw [hle]; omega
theorem AtK.done {k d nm : ByteArray} {num m : Int} {cs : List CD} {ks : List Int} {q : Nat} (h : AtK k d nm num cs m ks q) (hl : (ks.length : Int) = m) : ∀ nm' num' cs' ks', Yt nm' num' cs' ks' k d → nm' = nm ∧ num' = num ∧ cs' = cs ∧ ks' = ks := by
  intro nm' num' cs' ks' y
  obtain ⟨h1, h2, h3, h4, h5, h6, h7⟩ := h nm' num' cs' ks' y
  refine ⟨h1, h2, h3, ?_⟩
  rw [h5, show ks.length = ks'.length from by omega, List.take_length]
end Go.Proofs.YtjcffcpmegpjeaaGreatDoor

namespace Go.Proofs.YtjcffcpmegpjeaaGreatDoor
open Go.ChangeShapes Go.WideShapes Go.ChangeAt Go.RowKit
set_option linter.unusedVariables false
set_option maxRecDepth 100000
/-- What is kept of a pair that was handed over, and of the result's block. -/
structure PRS (w W : World) (k d : ByteArray) : Prop where
  below : Below w.heap.size w W
  pair : W.heap[w.heap.size]? = some (.cells #[.string k, .string d] 28)
  z : W.heap[w.heap.size + 1]? = some (.cells #[.string ⟨#[]⟩, .int .i64 0, .slice none 0 0, .slice none 0 0] 25)
  size : w.heap.size + 2 ≤ W.heap.size
theorem PRS.later {w W W' : World} {k d : ByteArray} {B : Nat} (h : PRS w W k d) (hb : Below B W W') (hB : w.heap.size + 2 ≤ B) : PRS w W' k d :=
  ⟨h.below.trans (hb.mono (by omega)), (hb.block _ (by omega)).trans h.pair, (hb.block _ (by omega)).trans h.z, by have := hb.size; have := h.size; omega⟩
theorem PRS.cells {w W : World} {k d : ByteArray} (h : PRS w W k d) : W.cell? ⟨w.heap.size, 0, none⟩ = some (.string k) ∧ W.cell? ⟨w.heap.size, 1, none⟩ = some (.string d) := by
  have h1 := h.pair
  unfold World.cell?
  rw [h1]
  exact ⟨rfl, rfl⟩
theorem PRS.new (w : World) (k d : ByteArray) : PRS w ((w.alloc (.cells #[.string k, .string d] 28)).alloc (.cells #[.string ⟨#[]⟩, .int .i64 0, .slice none 0 0, .slice none 0 0] 25)) k d := by
  have s1 : (w.alloc (.cells #[.string k, .string d] 28)).heap.size = w.heap.size + 1 := szAl _ _
  refine ⟨((Below.refl _ _).alloc (Nat.le_refl _) _).alloc (by omega) _, ?_, ?_, by rw [szAl, s1]; omega⟩
  · rw [Below.heap_alloc _ _ _ (by omega)]; exact heap_new _ _
  · have := heap_new (w.alloc (.cells #[.string k, .string d] 28)) (.cells #[.string ⟨#[]⟩, .int .i64 0, .slice none 0 0, .slice none 0 0] 25)
    rw [s1] at this
    exact this
/-- A number as an int64. -/
def i64of (u : Nat) : Int := IntKind.i64.wrap (u : Int)
theorem i64of_small {u : Nat} (h : u < 9223372036854775808) : i64of u = (u : Int) := by
  unfold i64of IntKind.wrap
  simp [IntKind.bits, IntKind.signed]
  omega
theorem i64of_in (u : Nat) (h : u < 18446744073709551616) : -9223372036854775808 ≤ i64of u ∧ i64of u ≤ 9223372036854775807 := by
  unfold i64of IntKind.wrap
  simp [IntKind.bits, IntKind.signed]
  omega
theorem at_start {k d : ByteArray} {vs : List VL} {n : Nat} (hk : rkL k 0 = (vs, n, 0)) {tx : ByteArray} (htx : ∀ nm, vs = catV nm → tx = nm) {u q1 m q2 : Nat} (h0 : rU d 0 = ((u : Int), (q1 : Int), 0)) (h1 : rU d q1 = ((m : Int), (q2 : Int), 0)) : AtC k d tx (i64of u) (m : Int) [] q2 := by
  intro nm' num' cs' ks' y
  have e1 := y.key_read
  rw [hk] at e1
  injection e1 with e1 e2
  have e3 := y.read0
  rw [h0] at e3
  injection e3 with e3 e4
  injection e4 with e4 e5
  have e6 := y.read1 y.few.1
  rw [← e4, h1] at e6
  injection e6 with e6 e7
  injection e7 with e7 e8
  have ht := y.top
  refine ⟨(htx nm' e1).symm, ?_, e6, rfl, by simp, ?_⟩
  · rw [i64of_small (by omega)]; exact e3.symm
  · show q2 = (colsD num' cs' 0).size
    omega
theorem no_key {k d : ByteArray} (h : (rkL k 0).2.2 ≠ 0 ∨ (rkL k 0).1 = []) : ∀ nm num cs ks, ¬ Yt nm num cs ks k d := by
  intro nm num cs ks y
  have e := y.key_read
  rw [e] at h
  rcases h with h | h
  · exact h rfl
  · cases h
theorem no_num {k d : ByteArray} (h : (rU d (0 : Int)).2.2 ≠ 0) : ∀ nm num cs ks, ¬ Yt nm num cs ks k d := by
  intro nm num cs ks y
  have e := y.read0
  rw [e] at h
  exact h rfl
theorem no_cnt {k d : ByteArray} {u q1 : Nat} (h0 : rU d 0 = ((u : Int), (q1 : Int), 0)) (h : (rU d (q1 : Int)).2.2 ≠ 0) : ∀ nm num cs ks, ¬ Yt nm num cs ks k d := by
  intro nm num cs ks y
  have e3 := y.read0
  rw [h0] at e3
  injection e3 with e3 e4
  injection e4 with e4 e5
  have e6 := y.read1 y.few.1
  rw [← e4] at e6
  rw [e6] at h
  exact h rfl
/-- A region ends as it should, with an act and a world that hang on one number (a new block's). -/
def Post3 (A : Nat → Act) (S : Nat → World → Prop) : Exit → Act → World → Prop
  | .normal, b, w' => ∃ g, b = A g ∧ S g w'
  | _, _, _ => False
theorem Post3.here (A : Nat → Act) {S : Nat → World → Prop} (g : Nat) {w' : World} (h : S g w') : Post3 A S .normal (A g) w' := ⟨g, rfl, h⟩
theorem wp_onceG {P : Program} {c : Code} {Q : Exit → Act → World → Prop} {a : Act} {w : World} (S : Nat → World → Prop) (h : ∃ A : Nat → Act, c.wp P (Post3 A S) a w ∧ ∀ g w', S g w' → Q .normal (A g) w') : c.wp P Q a w := by
  obtain ⟨A, h1, h2⟩ := h
  refine Code.wp_mono ?_ h1
  intro e b w' h
  cases e <;> first | exact h.elim | (obtain ⟨g, rfl, h3⟩ := h; exact h2 _ _ h3)
theorem nu_yes {R : Nat} {s : ByteArray} {q u q' : Nat} (hs : s.size ≤ 512) (hq : q ≤ s.size) (h : rU s q = ((u : Int), (q' : Int), 0)) (W : World) (hr : Rp W R s (q : Int)) :
    Calls Tryz.prog 93 #[.pointer (some ⟨R, 0, none⟩)] W fun e w' => e = .returned (.int .u64 (u : Int)) ∧ Rp w' R s (q' : Int) ∧ Fr R W w' := by
  refine (nu_reads R s q hs hq W hr).mono ?_
  rw [h]
  rintro e w' ⟨⟨g0, _⟩, hf⟩
  exact ⟨(g0 rfl).1, (g0 rfl).2, hf⟩
theorem nu_no {R : Nat} {s : ByteArray} {q : Nat} (hs : s.size ≤ 512) (hq : q ≤ s.size) (h : (rU s q).2.2 ≠ 0) (W : World) (hr : Rp W R s (q : Int)) :
    Calls Tryz.prog 93 #[.pointer (some ⟨R, 0, none⟩)] W fun e w' => e = oops 169 ∧ Fr R W w' := by
  refine (nu_reads R s q hs hq W hr).mono ?_
  rintro e w' ⟨⟨_, g1⟩, hf⟩
  exact ⟨g1 h, hf⟩
theorem cd_yes {R : Nat} {s : ByteArray} {q q' : Nat} (hs : s.size ≤ 512) (hq : q ≤ s.size) (h : cdE s q = 0) (hp : cdP s q = (q' : Int)) (W : World) (hr : Rp W R s (q : Int)) :
    Calls Tryz.prog 94 #[.pointer (some ⟨R, 0, none⟩)] W fun e w' => e = .returned (.agg #[.string (cdV s q).1, .int .i64 (cdV s q).2.1, .bool (cdV s q).2.2]) ∧ Rp w' R s (q' : Int) ∧ Fr R W w' := by
  refine (cd_reads R s q hs hq W hr).mono ?_
  rw [hp]
  rintro e w' ⟨⟨g0, _⟩, hf⟩
  exact ⟨(g0 h).1, (g0 h).2, hf⟩
theorem cd_no {R : Nat} {s : ByteArray} {q : Nat} (hs : s.size ≤ 512) (hq : q ≤ s.size) (h : cdE s q ≠ 0) (W : World) (hr : Rp W R s (q : Int)) :
    Calls Tryz.prog 94 #[.pointer (some ⟨R, 0, none⟩)] W fun e w' => e = oops 169 ∧ Fr R W w' := by
  refine (cd_reads R s q hs hq W hr).mono ?_
  rintro e w' ⟨⟨_, g1⟩, hf⟩
  exact ⟨g1 h, hf⟩
theorem TbS.fresh {w W : World} {R : Nat} {s nm : ByteArray} {num : Int} {q : Nat} (hb : Below w.heap.size w W) (hz : W.heap[w.heap.size + 1]? = some (.cells #[.string ⟨#[]⟩, .int .i64 0, .slice none 0 0, .slice none 0 0] 25)) (hr : Rp W R s (q : Int)) (hR : w.heap.size + 1 < R) (g : Nat) (hg : R < g) (ht : W.heap[g]? = some (.cells #[.string nm, .int .i64 num, .slice none 0 0, .slice none 0 0] 25)) : TbS w R g s nm num W q (.slice none 0 0) [] (.slice none 0 0) [] :=
  ⟨hb, hz, hr, ht, ownC_nil _ _, ownN_nil _ _, hR, hg⟩
end Go.Proofs.YtjcffcpmegpjeaaGreatDoor
