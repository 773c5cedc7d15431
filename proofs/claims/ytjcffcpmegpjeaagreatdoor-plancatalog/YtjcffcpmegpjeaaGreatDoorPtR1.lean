import Derived.Test.YtjcffcpmegpjeaaGreatDoorPtLaw
namespace Go.Proofs.YtjcffcpmegpjeaaGreatDoor
open Go.ChangeShapes Go.WideShapes Go.ChangeAt Go.RowKit
set_option linter.unusedVariables false
set_option maxRecDepth 100000
/-- What stands while the document takes a table apart: the result in its block, the table in the next. -/
structure TpS (w : World) (nm : ByteArray) (num : Int) (W : World) (cv : Value) (cs : List CD) (kv : Value) (ks : List Int) : Prop where
  bel : Below w.heap.size w W
  z : W.heap[w.heap.size]? = some (.cells #[.string ⟨#[]⟩, .int .i64 0, .slice none 0 0, .slice none 0 0] 25)
  t : W.heap[w.heap.size + 1]? = some (.cells #[.string nm, .int .i64 num, cv, kv] 25)
  oc : ownC W (w.heap.size + 2) cv cs
  on : ownN W (w.heap.size + 2) kv ks
section
variable {w : World} {nm : ByteArray} {num : Int} {W : World} {cv : Value} {cs : List CD} {kv : Value} {ks : List Int}
theorem TpS.lt (h : TpS w nm num W cv cs kv ks) : w.heap.size + 1 < W.heap.size := (Array.getElem?_eq_some_iff.1 h.t).1
theorem TpS.later {W' : World} {B : Nat} (h : TpS w nm num W cv cs kv ks) (hb : Below B W W') (hB : B = W.heap.size) : TpS w nm num W' cv cs kv ks := by
  subst hB
  have hl := h.lt
  exact ⟨h.bel.trans (hb.mono h.bel.size), (hb.block _ (by omega)).trans h.z, (hb.block _ (by omega)).trans h.t, h.oc.later hb, h.on.later hb⟩
theorem TpS.cells (h : TpS w nm num W cv cs kv ks) : (W.cell? ⟨w.heap.size + 1, 0, none⟩ = some (.string nm) ∧ W.cell? ⟨w.heap.size + 1, 1, none⟩ = some (.int .i64 num) ∧ W.cell? ⟨w.heap.size + 1, 2, none⟩ = some cv ∧ W.cell? ⟨w.heap.size + 1, 3, none⟩ = some kv) ∧ (W.cell? ⟨w.heap.size, 0, none⟩ = some (.string ⟨#[]⟩) ∧ W.cell? ⟨w.heap.size, 1, none⟩ = some (.int .i64 0) ∧ W.cell? ⟨w.heap.size, 2, none⟩ = some (.slice none 0 0) ∧ W.cell? ⟨w.heap.size, 3, none⟩ = some (.slice none 0 0)) := by
  have h1 := h.t
  have h2 := h.z
  unfold World.cell?
  rw [h1, h2]
  exact ⟨⟨rfl, rfl, rfl, rfl⟩, ⟨rfl, rfl, rfl, rfl⟩⟩
theorem TpS.free (h : TpS w nm num W cv cs kv ks) : (W.frozen? ⟨w.heap.size + 1, 0, none⟩ = false ∧ W.frozen? ⟨w.heap.size + 1, 1, none⟩ = false ∧ W.frozen? ⟨w.heap.size + 1, 2, none⟩ = false ∧ W.frozen? ⟨w.heap.size + 1, 3, none⟩ = false) ∧ (W.frozen? ⟨w.heap.size, 0, none⟩ = false ∧ W.frozen? ⟨w.heap.size, 1, none⟩ = false ∧ W.frozen? ⟨w.heap.size, 2, none⟩ = false ∧ W.frozen? ⟨w.heap.size, 3, none⟩ = false) := by
  have h1 := h.t
  have h2 := h.z
  unfold World.frozen?
  rw [h1, h2]
  exact ⟨⟨rfl, rfl, rfl, rfl⟩, ⟨rfl, rfl, rfl, rfl⟩⟩
theorem TpS.new (w : World) (nm : ByteArray) (num : Int) : TpS w nm num ((w.alloc (.cells #[.string ⟨#[]⟩, .int .i64 0, .slice none 0 0, .slice none 0 0] 25)).alloc (.cells #[.string nm, .int .i64 num, .slice none 0 0, .slice none 0 0] 25)) (.slice none 0 0) [] (.slice none 0 0) [] := by
  have s1 := szAl w (.cells #[.string ⟨#[]⟩, .int .i64 0, .slice none 0 0, .slice none 0 0] 25)
  refine ⟨((Below.refl _ _).alloc (Nat.le_refl _) _).alloc (by omega) _, ?_, ?_, ownC_nil _ _, ownN_nil _ _⟩
  · rw [Below.heap_alloc _ _ _ (by omega)]; exact heap_new _ _
  · have := heap_new (w.alloc (.cells #[.string ⟨#[]⟩, .int .i64 0, .slice none 0 0, .slice none 0 0] 25)) (.cells #[.string nm, .int .i64 num, .slice none 0 0, .slice none 0 0] 25)
    rw [s1] at this
    exact this
theorem TpS.numPut (h : TpS w nm num W cv cs kv ks) (x : Int) : TpS w nm x (W.setCell ⟨w.heap.size + 1, 1, none⟩ (.int .i64 x)) cv cs kv ks := by
  have hl := h.lt
  refine ⟨h.bel.setCell (by simp only; omega) _, (heap_off (by omega) _).trans h.z, heap_set h.t _, ?_, ?_⟩
  · exact h.oc.keep fun k hk => heap_off (by have := (h.oc.own k hk).1; omega) _
  · exact h.on.keep fun k hk => heap_off (by have := (h.on.own k hk).1; omega) _
theorem TpS.colPut {W' : World} {v' : Value} {cs' : List CD} (h : TpS w nm num W cv cs kv ks) (ho : ownC W' (w.heap.size + 2) v' cs') (hb : Below (w.heap.size + 2) W W') (hk : ∀ k, k < W.heap.size → some k ≠ cv.ownBlock → W'.heap[k]? = W.heap[k]?) : TpS w nm num (W'.setCell ⟨w.heap.size + 1, 2, none⟩ v') v' cs' kv ks := by
  have hl := h.lt
  have hb1 := h.bel.size
  refine ⟨(h.bel.trans (hb.mono (by omega))).setCell (by simp only; omega) _, (heap_off (by omega) _).trans ((hb.block _ (by omega)).trans h.z), heap_set ((hb.block _ (by omega)).trans h.t) _, ?_, ?_⟩
  · exact ho.keep fun k hk' => heap_off (by have := (ho.own k hk').1; omega) _
  · refine (h.on.keep (w' := W') fun k hk' => hk k (h.on.own k hk').2 (rows_apart h.oc h.on k hk')).keep fun k hk' => heap_off (by have := (h.on.own k hk').1; omega) _
theorem TpS.keyPut {W' : World} {v' : Value} {ks' : List Int} (h : TpS w nm num W cv cs kv ks) (ho : ownN W' (w.heap.size + 2) v' ks') (hb : Below (w.heap.size + 2) W W') (hk : ∀ k, k < W.heap.size → some k ≠ kv.ownBlock → W'.heap[k]? = W.heap[k]?) : TpS w nm num (W'.setCell ⟨w.heap.size + 1, 3, none⟩ v') cv cs v' ks' := by
  have hl := h.lt
  have hb1 := h.bel.size
  refine ⟨(h.bel.trans (hb.mono (by omega))).setCell (by simp only; omega) _, (heap_off (by omega) _).trans ((hb.block _ (by omega)).trans h.z), heap_set ((hb.block _ (by omega)).trans h.t) _, ?_, ?_⟩
  · refine (h.oc.keep (w' := W') fun k hk' => hk k (h.oc.own k hk').2 (fun he => rows_apart h.oc h.on k he.symm hk'.symm)).keep fun k hk' => heap_off (by have := (h.oc.own k hk').1; omega) _
  · exact ho.keep fun k hk' => heap_off (by have := (ho.own k hk').1; omega) _
/-- The table stored into the result's block. -/
theorem TpS.put (h : TpS w nm num W cv cs kv ks) : Below w.heap.size w ((((W.setCell ⟨w.heap.size, 0, none⟩ (.string nm)).setCell ⟨w.heap.size, 1, none⟩ (.int .i64 num)).setCell ⟨w.heap.size, 2, none⟩ cv).setCell ⟨w.heap.size, 3, none⟩ kv) ∧ ((((W.setCell ⟨w.heap.size, 0, none⟩ (.string nm)).setCell ⟨w.heap.size, 1, none⟩ (.int .i64 num)).setCell ⟨w.heap.size, 2, none⟩ cv).setCell ⟨w.heap.size, 3, none⟩ kv).heap[w.heap.size]? = some (.cells #[.string nm, .int .i64 num, cv, kv] 25) ∧ ownC ((((W.setCell ⟨w.heap.size, 0, none⟩ (.string nm)).setCell ⟨w.heap.size, 1, none⟩ (.int .i64 num)).setCell ⟨w.heap.size, 2, none⟩ cv).setCell ⟨w.heap.size, 3, none⟩ kv) w.heap.size cv cs ∧ ownN ((((W.setCell ⟨w.heap.size, 0, none⟩ (.string nm)).setCell ⟨w.heap.size, 1, none⟩ (.int .i64 num)).setCell ⟨w.heap.size, 2, none⟩ cv).setCell ⟨w.heap.size, 3, none⟩ kv) w.heap.size kv ks := by
  have e : ∀ j, j ≠ w.heap.size → ((((W.setCell ⟨w.heap.size, 0, none⟩ (.string nm)).setCell ⟨w.heap.size, 1, none⟩ (.int .i64 num)).setCell ⟨w.heap.size, 2, none⟩ cv).setCell ⟨w.heap.size, 3, none⟩ kv).heap[j]? = W.heap[j]? := fun j hj => (heap_off hj.symm _).trans ((heap_off hj.symm _).trans ((heap_off hj.symm _).trans (heap_off hj.symm _)))
  refine ⟨(((h.bel.setCell (by simp only; omega) _).setCell (by simp only; omega) _).setCell (by simp only; omega) _).setCell (by simp only; omega) _, heap_set (heap_set (heap_set (heap_set h.z _) _) _) _, ?_, ?_⟩
  · exact (h.oc.keep fun k hk => e k (by have := (h.oc.own k hk).1; omega)).down (by omega)
  · exact (h.on.keep fun k hk => e k (by have := (h.on.own k hk).1; omega)).down (by omega)
end
/-- What the document's taking apart comes to. -/
def PaT (w : World) (nm k d : ByteArray) (e : Ending) (w' : World) : Prop :=
  Below w.heap.size w w' ∧ ((∃ (nm' : ByteArray) (num : Int) (ca : Option Addr) (cn cc : Nat) (ka : Option Addr) (kn kc : Nat), e = .returned (.tuple #[.agg #[.string nm', .int .i64 num, .slice ca cn cc, .slice ka kn kc], .bool false]) ∧ ∀ nm num cs ks, ¬ Yt nm num cs ks k d) ∨ ∃ (num : Int) (ca : Option Addr) (cc : Nat) (ka : Option Addr) (kc : Nat) (cs : List CD) (ks : List Int), e = .returned (.tuple #[.agg #[.string nm, .int .i64 num, .slice ca cs.length cc, .slice ka ks.length kc], .bool true]) ∧ ownC w' w.heap.size (.slice ca cs.length cc) cs ∧ ownN w' w.heap.size (.slice ka ks.length kc) ks ∧ cs.length ≤ 512 ∧ ks.length ≤ 512 ∧ -9223372036854775808 ≤ num ∧ num ≤ 9223372036854775807 ∧ ∀ nm' num' cs' ks', Yt nm' num' cs' ks' k d → nm' = nm ∧ num' = num ∧ cs' = cs ∧ ks' = ks)
theorem at_startR {k d nm : ByteArray} (hnm : ∀ nm' num' cs' ks', Yt nm' num' cs' ks' k d → nm' = nm) {u q1 m q2 : Nat} (h0 : rU d 0 = ((u : Int), (q1 : Int), 0)) (h1 : rU d q1 = ((m : Int), (q2 : Int), 0)) : AtC k d nm (u : Int) (m : Int) [] q2 := by
  intro nm' num' cs' ks' y
  have e3 := y.read0
  rw [h0] at e3
  injection e3 with e3 e4
  injection e4 with e4 e5
  have e6 := y.read1 y.few.1
  rw [← e4, h1] at e6
  injection e6 with e6 e7
  injection e7 with e7 e8
  refine ⟨hnm _ _ _ _ y, e3.symm, e6, rfl, by simp, ?_⟩
  show q2 = (colsD num' cs' 0).size
  omega
theorem no_numR {k d : ByteArray} (h : (rU d (0 : Int)).2.2 ≠ 0 ∨ 9223372036854775807 < (rU d (0 : Int)).1) : ∀ nm num cs ks, ¬ Yt nm num cs ks k d := by
  intro nm num cs ks y
  have e := y.read0
  have t := y.top
  rw [e] at h
  rcases h with h | h
  · exact h rfl
  · simp only at h; omega
theorem no_cntR {k d : ByteArray} {u q1 : Nat} (h0 : rU d 0 = ((u : Int), (q1 : Int), 0)) (h : (rU d (q1 : Int)).2.2 ≠ 0 ∨ 16 < (rU d (q1 : Int)).1) : ∀ nm num cs ks, ¬ Yt nm num cs ks k d := by
  intro nm num cs ks y
  have e3 := y.read0
  rw [h0] at e3
  injection e3 with e3 e4
  injection e4 with e4 e5
  have f := y.few.1
  have e6 := y.read1 f
  rw [← e4] at e6
  rw [e6] at h
  rcases h with h | h
  · exact h rfl
  · simp only at h; omega
/-- One column, as the document reads it. -/
theorem AtC.nextD {k d nm : ByteArray} {num m : Int} {cs : List CD} {q : Nat} (h : AtC k d nm num m cs q) (hl : (cs.length : Int) < m) : (∀ nm' num' cs' ks', Yt nm' num' cs' ks' k d → (rU d q).2.2 = 0 ∧ (rU d q).1 ≤ 32 ∧ (rU d q).2.1 + (rU d q).1 + 1 ≤ (d.size : Int)) ∧ ∀ (u q1 : Nat), rU d q = ((u : Int), (q1 : Int), 0) → (hh : q1 + u < d.size) → AtC k d nm num m (cs ++ [(d.extract q1 (q1 + u), ((d[q1 + u].toNat : Nat) : Int) % 4, decide (4 ≤ ((d[q1 + u].toNat : Nat) : Int)))]) (q1 + u + 1) := by
  constructor
  · intro nm' num' cs' ks' y
    obtain ⟨h1, h2, h3, h4, h5, h6⟩ := h nm' num' cs' ks' y
    have hlt : cs.length < cs'.length := by omega
    obtain ⟨p, r1, r2, r3, r4, r5⟩ := y.readD cs.length hlt
    have hn := ((isTb_parts y.tab).2.2 cs.length hlt).1
    rw [← h6] at r1
    rw [r1]
    simp only
    refine ⟨trivial, by omega, by omega⟩
  · intro u q1 hq hh nm' num' cs' ks' y
    obtain ⟨h1, h2, h3, h4, h5, h6⟩ := h nm' num' cs' ks' y
    have hlt : cs.length < cs'.length := by omega
    obtain ⟨p, r1, r2, r3, r4, r5⟩ := y.readD cs.length hlt
    obtain ⟨b0, b1, b2, b3⟩ := kd_bounds y.tab cs.length hlt
    rw [← h6, hq] at r1
    injection r1 with t1 t2
    injection t2 with t3 t4
    have e1 : u = cs'[cs.length].1.size := by omega
    have e2 : q1 = p := by omega
    subst e2
    have ev : (d.extract q1 (q1 + u), ((d[q1 + u].toNat : Nat) : Int) % 4, decide (4 ≤ ((d[q1 + u].toNat : Nat) : Int))) = cs'[cs.length] := by
      have x1 : d.extract q1 (q1 + u) = cs'[cs.length].1 := by rw [e1]; exact r2
      have x2 : ((d[q1 + u].toNat : Nat) : Int) = kdC cs'[cs.length] := by
        rw [← r5]
        congr 3
        omega
      rw [x1, x2, b2, b3]
    rw [ev]
    have hle : (cs ++ [cs'[cs.length]]).length = cs.length + 1 := by simp
    refine ⟨h1, h2, h3, ?_, by omega, ?_⟩
    · rw [hle, List.take_succ_eq_append_getElem hlt, ← h4]
    · rw [hle]; omega
theorem AtC.doneR {k d nm : ByteArray} {num m : Int} {cs : List CD} {q : Nat} (h : AtC k d nm num m cs q) (hl : (cs.length : Int) = m) : ∀ nm' num' cs' ks', Yt nm' num' cs' ks' k d → (rU d q).2.2 = 0 ∧ (rU d q).1 ≤ 8 := by
  intro nm' num' cs' ks' y
  obtain ⟨h1, h2, h3, h4, h5, h6⟩ := h nm' num' cs' ks' y
  have f := y.few.2.1
  have := y.readN f
  rw [show cs'.length = cs.length from by omega, ← h6] at this
  rw [this]
  simp only
  exact ⟨trivial, by omega⟩
theorem AtK.nextR {k d nm : ByteArray} {num m : Int} {cs : List CD} {ks : List Int} {q : Nat} (h : AtK k d nm num cs m ks q) (hl : (ks.length : Int) < m) : ∀ nm' num' cs' ks', Yt nm' num' cs' ks' k d → (rU d q).2.2 = 0 ∧ (rU d q).1 ≤ 16 := by
  intro nm' num' cs' ks' y
  obtain ⟨h1, h2, h3, h4, h5, h6, h7⟩ := h nm' num' cs' ks' y
  have hlt : ks.length < ks'.length := by omega
  obtain ⟨b1, b2⟩ := y.few.2.2.2.2 ks'[ks.length] (List.getElem_mem hlt)
  have b3 := y.few.1
  have := y.readK ks.length hlt b1 (by omega)
  rw [← h7] at this
  rw [this]
  simp only
  exact ⟨trivial, by omega⟩
end Go.Proofs.YtjcffcpmegpjeaaGreatDoor
