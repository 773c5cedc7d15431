import Derived.Lib.AppendStr
import Derived.Lib.ConvBytes
import Derived.Laws.CopyRow
import Derived.OwnWalk
import Derived.Below
namespace Go.Proofs.YtlidkdnfibfnfaaGreatDoor
open Go Go.RowKit
set_option linter.unusedVariables false
/-! Rows of bytes that a conversion has made: their block bears a mark at its end, so that they are no 'ownsRow'; appending to them. -/
theorem store_mark {P : Program} (g o : Nat) (t : TypeId) (fz : Nat × Nat) : ∀ (vs : List Value) (i : Nat) (cur : Array Value) (w : World), w.heap[g]? = some (.cells cur t fz) → (fz.2 = 0 ∨ cur.size ≤ fz.1) → o + i + vs.length ≤ cur.size → (∀ v ∈ vs, v.oneCell' = true) →
    (storeCells ⟨g, o, none⟩ vs i).run P w = .ok () (w.setRow g (cur.toList.take (o + i) ++ vs ++ cur.toList.drop (o + i + vs.length)).toArray)
  | [], i, cur, w, hg, _, _, _ => by
    simp only [storeCells, List.append_nil, List.length_nil, Nat.add_zero, List.take_append_drop, Array.toArray_toList]
    rw [setRow_self w g cur t fz hg]
    rfl
  | v :: rest, i, cur, w, hg, hz, hl, h1 => by
    have hi : o + i < cur.size := by simp at hl; omega
    have hadd : (⟨g, o, none⟩ : Addr).add i = ⟨g, o + i, none⟩ := by unfold Addr.add; split <;> simp_all
    have hcell : w.cell? ⟨g, o + i, none⟩ = some cur[o + i] := by simp [World.cell?, hg, hi]
    have hfro : w.frozen? ⟨g, o + i, none⟩ = false := by
      obtain ⟨lo, hi2⟩ := fz
      simp only [World.frozen?, hg]
      rcases hz with h | h
      · simp only at h; subst h; simp
      · simp only at h; simp; omega
    have hst : (store ((⟨g, o, none⟩ : Addr).add i) v).run P w = .ok () (w.setRow g (cur.setIfInBounds (o + i) v)) := by
      rw [hadd, run_store P w _ v _ (h1 v (by simp)), hcell]
      simp [hfro, setCell_eq_setRow w g (o + i) cur t fz v hg]
    have ih := store_mark (P := P) g o t fz rest (i + 1) (cur.setIfInBounds (o + i) v) (w.setRow g (cur.setIfInBounds (o + i) v)) (setRow_heap w g cur _ t _ hg) (by simpa using hz) (by simp at hl ⊢; omega) (fun x hx => h1 x (by simp [hx]))
    simp only [storeCells, Sem.run_bind, hst, Result.andThen_ok, ih, setRow_setRow]
    congr 3
    have e := list_seg_step cur.toList (o + i) v rest (by simp at hl ⊢; omega)
    simpa [Array.toList_setIfInBounds, Nat.add_assoc] using e
/-- The value v holds the cells xs in a row of one's own (blocks from B on), whatever mark lies at the block's end. -/
def ownsM (w : World) (B : Nat) (e : TypeId) (v : Value) (xs : List Value) : Prop :=
  ∃ g cap cur fz, v = .slice (some ⟨g, 0, none⟩) xs.length cap ∧ B ≤ g ∧ w.heap[g]? = some (.cells cur e fz) ∧ (fz.2 = 0 ∨ cap ≤ fz.1) ∧ xs.length ≤ cap ∧ cap ≤ maxLen ∧ cur.size = cap ∧ cur.toList.take xs.length = xs
theorem ownsM.lt {w : World} {B : Nat} {e : TypeId} {v : Value} {xs : List Value} (h : ownsM w B e v xs) : ∀ k, v.ownBlock = some k → B ≤ k ∧ k < w.heap.size := by
  obtain ⟨g, cap, cur, fz, rfl, hb, hg, _⟩ := h
  intro k hk
  simp only [Value.ownBlock, Option.some.injEq] at hk
  subst hk
  exact ⟨hb, (Array.getElem?_eq_some_iff.1 hg).1⟩
theorem ownsM.same {w w' : World} {B : Nat} {e : TypeId} {v : Value} {xs : List Value} (h : ownsM w B e v xs) (hk : ∀ k, k < w.heap.size → B ≤ k → w'.heap[k]? = w.heap[k]?) : ownsM w' B e v xs := by
  obtain ⟨g, cap, cur, fz, rfl, hb, hg, hr⟩ := h
  exact ⟨g, cap, cur, fz, rfl, hb, (hk g (Array.getElem?_eq_some_iff.1 hg).1 hb).trans hg, hr⟩
theorem ownsM.later {w w' : World} {B : Nat} {e : TypeId} {v : Value} {xs : List Value} (h : ownsM w B e v xs) (hb : Below w.heap.size w w') : ownsM w' B e v xs := h.same fun k hk _ => hb.block k hk
theorem ownsM.cells {w : World} {B : Nat} {e : TypeId} {xs : List Value} {g n cap : Nat} (h : ownsM w B e (.slice (some ⟨g, 0, none⟩) n cap) xs) : ∀ j u, xs[j]? = some u → w.cell? ((⟨g, 0, none⟩ : Addr).add j) = some u := by
  obtain ⟨g', cap', cur, fz, he, hb, hg, hz, hl, hm, hs, ht⟩ := h
  simp only [Value.slice.injEq, Option.some.injEq, Addr.mk.injEq, and_true] at he
  obtain ⟨rfl, rfl, rfl⟩ := he
  intro j u hj
  have hadd : (⟨g, 0, none⟩ : Addr).add j = ⟨g, j, none⟩ := by unfold Addr.add; split <;> simp_all
  have hjl : j < xs.length := (List.getElem?_eq_some_iff.1 hj).1
  rw [hadd]
  simp only [World.cell?, hg]
  rw [← ht, List.getElem?_take, if_pos hjl] at hj
  simpa using hj
section
variable {P : Program} (w : World)
theorem run_room_str (t u ty e : TypeId) (i : TypeInfo) (ht : P.underlying t = some (.slice e)) (hu : P.underlying u = some .string) (hi : P.info? e = some i) (hs1 : i.size = 1)
    (g sLen sCap : Nat) (cur : Array Value) (fz : Nat × Nat) (hg : w.heap[g]? = some (.cells cur e fz)) (hz : fz.2 = 0 ∨ cur.size ≤ fz.1) (s : ByteArray)
    (hroom : sLen + s.size ≤ sCap) (hfit : sLen + s.size ≤ cur.size) :
    (Builtin.append_ #[t, u] ty #[.slice (some ⟨g, 0, none⟩) sLen sCap, .string s]).run P w =
      .ok (.slice (some ⟨g, 0, none⟩) (sLen + s.size) sCap) (w.setRow g (cur.toList.take sLen ++ Lib.strCells s ++ cur.toList.drop (sLen + s.size)).toArray) := by
  have hf := Lib.run_firstCells_string (P := P) w 1 s
  have hst := store_mark (P := P) g sLen e fz (Lib.strCells s) 0 cur w hg hz (by simpa [Lib.strCells_length] using hfit) (Lib.strCells_oneCell s)
  simp only [Nat.add_zero, Lib.strCells_length] at hst
  simp [Builtin.append_, run_underlying ht, run_underlying hu, sizeOf, typeInfo, hi, hs1, Builtin.lenOf, hroom, hf, Addr.add_lit, hst]
theorem run_room_row (t ty e : TypeId) (i : TypeInfo) (ht : P.underlying t = some (.slice e)) (hi : P.info? e = some i) (hs1 : i.size = 1)
    (g sLen sCap : Nat) (cur : Array Value) (fz : Nat × Nat) (hg : w.heap[g]? = some (.cells cur e fz)) (hz : fz.2 = 0 ∨ cur.size ≤ fz.1)
    (a : Addr) (m c : Nat) (news : List Value) (hl : news.length = m) (hnews : ∀ j u, news[j]? = some u → w.cell? (a.add j) = some u) (h1 : ∀ u ∈ news, u.oneCell' = true)
    (hroom : sLen + m ≤ sCap) (hfit : sLen + m ≤ cur.size) :
    (Builtin.append_ #[t, t] ty #[.slice (some ⟨g, 0, none⟩) sLen sCap, .slice (some a) m c]).run P w =
      .ok (.slice (some ⟨g, 0, none⟩) (sLen + m) sCap) (w.setRow g (cur.toList.take sLen ++ news ++ cur.toList.drop (sLen + m)).toArray) := by
  have hf := run_firstCells_some (P := P) w 1 m a m c news (by simpa using hl) hnews
  have hst := store_mark (P := P) g sLen e fz news 0 cur w hg hz (by simpa [hl] using hfit) h1
  simp only [Nat.add_zero, hl] at hst
  simp [Builtin.append_, run_underlying ht, sizeOf, typeInfo, hi, hs1, Builtin.lenOf, hroom, hf, Addr.add_lit, hst]
/-- What a row with room is behind the writing. -/
theorem room_own {B : Nat} {e : TypeId} {xs ys : List Value} {g cap : Nat} {cur : Array Value} {fz : Nat × Nat} (hb : B ≤ g) (hg : w.heap[g]? = some (.cells cur e fz)) (hz : fz.2 = 0 ∨ cap ≤ fz.1) (hm : cap ≤ maxLen) (hs : cur.size = cap) (ht : cur.toList.take xs.length = xs) (hr : xs.length + ys.length ≤ cap) :
    ownsM (w.setRow g (cur.toList.take xs.length ++ ys ++ cur.toList.drop (xs.length + ys.length)).toArray) B e (.slice (some ⟨g, 0, none⟩) (xs.length + ys.length) cap) (xs ++ ys) ∧ w.grownBy (w.setRow g (cur.toList.take xs.length ++ ys ++ cur.toList.drop (xs.length + ys.length)).toArray) (some g) := by
  refine ⟨⟨g, cap, _, fz, by rw [List.length_append], hb, setRow_heap w g cur _ e _ hg, hz, by rw [List.length_append]; exact hr, hm, ?_, ?_⟩, ⟨rfl, rfl, rfl, by simp, fun k _ hk => setRow_other w g k _ (fun e => hk (by rw [e]))⟩⟩
  · simp only [List.size_toArray, List.length_append, List.length_take, List.length_drop, Array.length_toList]
    omega
  · rw [ht, List.length_append, ← List.length_append]
    exact List.take_left
/-- What a row that has grown is. -/
theorem grown_own {B : Nat} {e : TypeId} {xs ys : List Value} (hB : B ≤ w.heap.size) (old : Nat) (h63 : xs.length + ys.length ≤ maxLen) (row : Option Nat) :
    ownsM (w.drew.alloc (.cells (xs.toArray ++ ys.toArray ++ Builtin.zeroCells (Value.int .u8 0).cells (grownCap w (xs.length + ys.length) old e - (xs.length + ys.length))) e)) B e (.slice (some ⟨w.heap.size, 0, none⟩) (xs.length + ys.length) (grownCap w (xs.length + ys.length) old e)) (xs ++ ys) ∧
    w.grownBy (w.drew.alloc (.cells (xs.toArray ++ ys.toArray ++ Builtin.zeroCells (Value.int .u8 0).cells (grownCap w (xs.length + ys.length) old e - (xs.length + ys.length))) e)) row := by
  have hge := grownCap_ge w (xs.length + ys.length) old e
  have hcm : grownCap w (xs.length + ys.length) old e ≤ maxLen := grownCap_le_maxLen w (xs.length + ys.length) old e h63
  refine ⟨⟨w.heap.size, _, _, (0, 0), by rw [List.length_append], hB, heap_alloc_new w.drew _, .inl rfl, by rw [List.length_append]; exact hge, hcm, ?_, ?_⟩, ⟨rfl, rfl, rfl, by simp, fun k hk _ => heap_alloc_old w.drew _ k hk⟩⟩
  · have hz1 : (Value.int IntKind.u8 0).cells.size = 1 := rfl
    simp only [Array.size_append, List.size_toArray, size_zeroCells, hz1]
    omega
  · simp only [Array.toList_append, List.append_assoc]
    rw [← List.append_assoc]
    exact List.take_left
theorem run_append_M_str (B : Nat) (t u ty e : TypeId) (i : TypeInfo) (ht : P.underlying t = some (.slice e)) (hu : P.underlying u = some .string) (hi : P.info? e = some i) (hz : i.zero = some (.int .u8 0)) (hsize : i.size = 1) (hby : i.bytes = 1)
    (v : Value) (xs : List Value) (hown : ownsM w B e v xs) (s : ByteArray) (hlen : xs.length + s.size ≤ 140737488355328) (hB : B ≤ w.heap.size) :
    ∃ v' w', (Builtin.append_ #[t, u] ty #[v, .string s]).run P w = .ok v' w' ∧ ownsM w' B e v' (xs ++ Lib.strCells s) ∧ w.grownBy w' v.ownBlock ∧ ∀ k, k < w.heap.size → some k ≠ v.ownBlock → some k ≠ v'.ownBlock := by
  have hown' := hown
  obtain ⟨g, cap, cur, fz, rfl, hb, hg, hf, hl, hm, hs, htk⟩ := hown
  have hsl := Lib.strCells_length s
  by_cases hroom : xs.length + s.size ≤ cap
  · have hr := run_room_str (P := P) w t u ty e i ht hu hi hsize g xs.length cap cur fz hg (by rw [hs]; exact hf) s hroom (by omega)
    have ho := room_own w (ys := Lib.strCells s) hb hg hf hm hs htk (by omega)
    rw [hsl] at ho
    exact ⟨_, _, hr, ho.1, ho.2, fun k _ h => h⟩
  · have hr := Lib.run_append_grow_string (P := P) w t u ty e i (.int .u8 0) ht hu hi hz ⟨g, 0, none⟩ xs.length cap xs (by rw [hsize]; simp) hown'.cells s (by omega) (by omega) (by rw [hby]; exact growslice_fits (by omega) (by omega))
    have ho := grown_own w (xs := xs) (ys := Lib.strCells s) (e := e) hB cap (by unfold maxLen; omega) (some g)
    rw [hsl] at ho
    exact ⟨_, _, hr, ho.1, ho.2, fun k hk _ h => by simp only [Value.ownBlock, Option.some.injEq] at h; omega⟩
theorem run_append_M_row (B : Nat) (t ty e : TypeId) (i : TypeInfo) (ht : P.underlying t = some (.slice e)) (hi : P.info? e = some i) (hz : i.zero = some (.int .u8 0)) (hsize : i.size = 1) (hby : i.bytes = 1)
    (v : Value) (xs : List Value) (hown : ownsM w B e v xs) (a : Addr) (m c : Nat) (news : List Value) (hl' : news.length = m) (hnews : ∀ j u, news[j]? = some u → w.cell? (a.add j) = some u) (h1 : ∀ u ∈ news, u.oneCell' = true) (hlen : xs.length + m ≤ 140737488355328) (hB : B ≤ w.heap.size) :
    ∃ v' w', (Builtin.append_ #[t, t] ty #[v, .slice (some a) m c]).run P w = .ok v' w' ∧ ownsM w' B e v' (xs ++ news) ∧ w.grownBy w' v.ownBlock ∧ ∀ k, k < w.heap.size → some k ≠ v.ownBlock → some k ≠ v'.ownBlock := by
  have hown' := hown
  obtain ⟨g, cap, cur, fz, rfl, hb, hg, hf, hl, hm, hs, htk⟩ := hown
  by_cases hroom : xs.length + m ≤ cap
  · have hr := run_room_row (P := P) w t ty e i ht hi hsize g xs.length cap cur fz hg (by rw [hs]; exact hf) a m c news hl' hnews h1 hroom (by omega)
    have ho := room_own w (ys := news) hb hg hf hm hs htk (by omega)
    rw [hl'] at ho
    exact ⟨_, _, hr, ho.1, ho.2, fun k _ h => h⟩
  · have hr := run_append_grow (P := P) w t ty e i (.int .u8 0) ht hi hz ⟨g, 0, none⟩ xs.length cap xs (by rw [hsize]; simp) hown'.cells a m c news (by rw [hsize]; simpa using hl') hnews (by omega) (by omega) (by rw [hby]; exact growslice_fits (by omega) (by omega))
    have ho := grown_own w (xs := xs) (ys := news) (e := e) hB cap (by unfold maxLen; omega) (some g)
    rw [hl'] at ho
    exact ⟨_, _, hr, ho.1, ho.2, fun k hk _ h => by simp only [Value.ownBlock, Option.some.injEq] at h; omega⟩
/-- '[]byte(s)' -/
theorem conv_own (B : Nat) (e : TypeId) (s : ByteArray) (hB : B ≤ w.heap.size) (hs : s.size ≤ maxLen) : ownsM (Lib.bytesWorld w e s) B e (.slice (some ⟨w.heap.size, 0, none⟩) s.size (grownCap w s.size 0 e)) (Lib.strCells s) ∧ Below w.heap.size w (Lib.bytesWorld w e s) := by
  have hge := grownCap_ge w s.size 0 e
  have hsz : (Lib.bytesCells w e s).size = grownCap w s.size 0 e := by
    have : s.data.size = s.size := rfl
    simp [Lib.bytesCells]; omega
  refine ⟨⟨w.heap.size, _, _, _, by rw [Lib.strCells_length], hB, Lib.bytesWorld_at_new w e s, .inr (by simp only; omega), by rw [Lib.strCells_length]; exact hge, grownCap_le_maxLen w _ _ _ hs, hsz, ?_⟩, ?_⟩
  · unfold Lib.bytesCells
    rw [Array.toList_append, Lib.strCells_length]
    have e1 : (s.data.map fun b => Value.int .u8 b.toNat).toList = Lib.strCells s := by simp [Lib.strCells]
    rw [e1, ← Lib.strCells_length s]
    exact List.take_left
  · exact ⟨rfl, rfl, rfl, by rw [Lib.bytesWorld_size]; omega, fun k hk => Lib.bytesWorld_at_old w e s k hk⟩
end
end Go.Proofs.YtlidkdnfibfnfaaGreatDoor
