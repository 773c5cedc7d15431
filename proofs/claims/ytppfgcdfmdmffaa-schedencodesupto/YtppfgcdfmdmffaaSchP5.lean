import Derived.Test.YtppfgcdfmdmffaaSchP4
import Derived.Deep.AppendLies
import Derived.Deep.DrawnRows
namespace Go.Proofs.Ytppfgcdfmdmffaa
open Go.ChangeShapes Go.WideShapes Go.ChangeAt Go.RowKit
set_option linter.unusedVariables false

theorem lt_alloc (w : World) (o : Obj) : w.heap.size < (w.alloc o).heap.size := by show _ < (Array.push _ _).size; simp
/-- From the slice b in w to the slice c in w': no block is turned but b's own. -/
structure Gr (b : Value) (w : World) (c : Value) (w' : World) : Prop where
  far : ∀ k, k < w.heap.size → some k ≠ b.ownBlock → w'.heap[k]? = w.heap[k]?
  own : c.ownBlock = b.ownBlock ∨ ∀ k, c.ownBlock = some k → w.heap.size ≤ k
  size : w.heap.size ≤ w'.heap.size
theorem Gr.refl (b : Value) (w : World) : Gr b w b w := ⟨fun _ _ _ => rfl, .inl rfl, Nat.le_refl _⟩
theorem Gr.trans {b c d : Value} {w w1 w2 : World} (h : Gr b w c w1) (k : Gr c w1 d w2) : Gr b w d w2 := by
  refine ⟨fun j hj hn => ?_, ?_, Nat.le_trans h.size k.size⟩
  · rw [k.far j (Nat.lt_of_lt_of_le hj h.size) ?_, h.far j hj hn]
    rcases h.own with e | e
    · rw [e]; exact hn
    · intro e2; have := e j e2.symm; omega
  · rcases k.own with e | e
    · rcases h.own with e2 | e2
      · exact .inl (e.trans e2)
      · exact .inr (by rw [e]; exact e2)
    · exact .inr fun j hj => Nat.le_trans h.size (e j hj)
theorem Gr.put {w : World} {g n cap : Nat} {b : Value} (h : b.ownBlock = some g) (j : Nat) (u : Value) : Gr b w b (w.setCell ⟨g, j, none⟩ u) :=
  ⟨fun k hk hn => Below.heap_setCell w _ _ k (by rw [h] at hn; intro e; exact hn (by rw [e])), .inl rfl, by simp [World.setCell]⟩
theorem app_pickL {wr : World} {ops : Array Oper} {rest : List Oper} {o : Oper} {a : Act} {Q : Exit → Act → World → Prop} (hgd : o.guard = none) (s x : Operand)
    (ho : o.op = .call { callee := .builtin .append, args := #[s, x], argTypes := #[22, 22] })
    (B : Nat) (v : Value) (vs : List (Int × Int × Int)) (c : Int × Int × Int) (hown : ownP wr B v vs) (hs : a.eval s = v) (hx : a.eval x = .slice (some ⟨wr.heap.size, 0, none⟩) 1 1)
    (hlen : (vs.length + 1) * 24 ≤ 140737488355328) (hB : B ≤ wr.heap.size)
    (h : ∀ v' w', ownP w' B v' (vs ++ [c]) → Below B wr w' → Gr v wr v' w' → wpList Try.prog ops Q rest (a.put o.dst v') w') :
    wpList Try.prog ops Q (o :: rest) a (wr.alloc (.cells #[.int .i64 c.1, .int .i64 c.2.1, .int .i64 c.2.2] 32)) := by
  obtain ⟨i0, hi, hz0, hz1, hz2⟩ := info_parts infoP
  refine wpList_append_lies _ hgd s x 22 ho B 32 i0 (.agg #[.int .i64 0, .int .i64 0, .int .i64 0]) 3 24 Try.underlying22 hi hz0 hz1 hz2 rfl (by decide) v vs.length _ hs (World.ownsRow.alloc hown _)
    ⟨wr.heap.size, 0, none⟩ 1 1 (cellP c) hx rfl ?_ ?_ (by decide) (by unfold maxLen; omega) (by omega) (by simp; omega) (wr.heap.size + 1) (by simp) ?_
  · intro j u hj
    match j, hj with
    | 0, hj => simp [cellP] at hj; subst hj; simp [Addr.add]
    | 1, hj => simp [cellP] at hj; subst hj; simp [Addr.add]
    | 2, hj => simp [cellP] at hj; subst hj; simp [Addr.add]
  · intro u hu; simp [cellP] at hu; rcases hu with rfl | rfl | rfl <;> rfl
  · intro g' cap w' hown' hgrow hlies _
    have hsz := lt_alloc wr (.cells #[.int .i64 c.1, .int .i64 c.2.1, .int .i64 c.2.2] 32)
    refine h _ w' ?_ ?_ ?_
    · have : (vs ++ [c]).length = vs.length + 1 := by simp
      unfold ownP; rw [this, show cellsP (vs ++ [c]) = cellsP vs ++ cellP c from by simp [cellsP]]; exact hown'
    · exact ((Below.refl _ _).alloc hB _).grown hgrow (by omega) (fun k hk => (World.ownsRow.lt hown k hk).1)
    · refine ⟨fun k hk hn => ?_, ?_, ?_⟩
      · rw [hgrow.block k (by omega) hn]; exact Below.heap_alloc wr _ k hk
      · rcases hlies with e | e
        · exact .inl e.symm
        · exact .inr fun k hk => by simp [Value.ownBlock] at hk; omega
      · have := hgrow.size; omega
theorem cellsP_set : ∀ (vs : List (Int × Int × Int)) (k : Nat) (a b c : Int), k < vs.length → (((cellsP vs).set (k * 3) (.int .i64 a)).set (k * 3 + 1) (.int .i64 b)).set (k * 3 + 2) (.int .i64 c) = cellsP (vs.set k (a, b, c))
  | [], k, a, b, c, h => by simp at h
  | v :: vs, 0, a, b, c, h => rfl
  | v :: vs, k + 1, a, b, c, h => by
    have ih := cellsP_set vs k a b c (by simpa using h)
    have e : ∀ (x : Int × Int × Int) (l : List (Int × Int × Int)), cellsP (x :: l) = .int .i64 x.1 :: .int .i64 x.2.1 :: .int .i64 x.2.2 :: cellsP l := fun _ _ => rfl
    rw [e, List.set_cons_succ, e, ← ih, show (k + 1) * 3 = k * 3 + 1 + 1 + 1 by omega]
    rfl
theorem ownP.put {w : World} {B g n cap : Nat} {vs : List (Int × Int × Int)} (h : ownP w B (.slice (some ⟨g, 0, none⟩) n cap) vs) (hn : vs.length = n) (k : Nat) (hk : k < n) (a b c : Int) : ownP (((w.setCell ⟨g, k * 3, none⟩ (.int .i64 a)).setCell ⟨g, k * 3 + 1, none⟩ (.int .i64 b)).setCell ⟨g, k * 3 + 2, none⟩ (.int .i64 c)) B (.slice (some ⟨g, 0, none⟩) n cap) (vs.set k (a, b, c)) := by
  unfold ownP at h ⊢
  rw [hn] at h
  rw [List.length_set, hn, ← cellsP_set vs k a b c (by omega)]
  exact (World.ownsRow.stored (World.ownsRow.stored (World.ownsRow.stored h _ _).1 _ _).1 _ _).1
theorem ownP.at {w : World} {B g n cap : Nat} {vs : List (Int × Int × Int)} (h : ownP w B (.slice (some ⟨g, 0, none⟩) n cap) vs) (hn : vs.length = n) (k : Nat) (hk : k < n) : w.cell? ⟨g, k * 3, none⟩ = some (.int .i64 (vs[k]'(by omega)).1) ∧ w.cell? ⟨g, k * 3 + 1, none⟩ = some (.int .i64 (vs[k]'(by omega)).2.1) ∧ w.cell? ⟨g, k * 3 + 2, none⟩ = some (.int .i64 (vs[k]'(by omega)).2.2) ∧ (∀ j, w.frozen? ⟨g, j, none⟩ = false) := by
  unfold ownP at h
  rw [hn] at h
  have c := cellsP_get vs k (by omega)
  refine ⟨?_, ?_, ?_, fun j => World.ownsRow.frozenAt h j⟩
  · rw [World.ownsRow.cellAt h _ (by omega)]; exact c.1
  · rw [World.ownsRow.cellAt h _ (by omega)]; exact c.2.1
  · rw [World.ownsRow.cellAt h _ (by omega)]; exact c.2.2
set_option maxRecDepth 100000 in
set_option maxHeartbeats 3200000 in
theorem picked_any (a : Value) (vs : List (Int × Int × Int)) (B : Nat) (w : World) (hB : B ≤ w.heap.size) (ha : ownP w B a vs) (hl : vs.length ≤ 1466015503360) :
    Calls Try.prog 11 #[a] w fun e w' => e = .returned (.tuple #[]) ∧ Below B w w' ∧ (∀ k, k < w.heap.size → some k ≠ a.ownBlock → w'.heap[k]? = w.heap[k]?) := by
  have hsh : ∃ ao cap, a = .slice ao vs.length cap ∧ ((ao = none ∧ vs.length = 0) ∨ ∃ g, ao = some ⟨g, 0, none⟩) := by
    rcases ha.2 with ⟨e, e2⟩ | ⟨g, cap, cur, e, _⟩
    · exact ⟨none, 0, by rw [e, e2], .inl ⟨rfl, e2⟩⟩
    · exact ⟨some ⟨g, 0, none⟩, cap, e, .inr ⟨g, rfl⟩⟩
  obtain ⟨ao, cap, rfl, hao⟩ := hsh
  have HA : Hid (ownP w B (.slice ao vs.length cap) vs) := ha
  clear ha
  go_enter Try.func11, Try.ntmps11
  go_wp2_with fail
  go_loopw [2] (fun i wr => ∃ (k : Nat) (us : List (Int × Int × Int)), k ≤ vs.length ∧ i = .int .i64 (k : Int) ∧ us.length = vs.length ∧ ownP wr B (.slice ao vs.length cap) us ∧ Below B w wr ∧ Gr (.slice ao vs.length cap) w (.slice ao vs.length cap) wr) (fun i _ => vs.length - (intOf i).toNat)
  case atStart => exact ⟨0, vs, by omega, rfl, rfl, HA.out, Below.refl _ _, Gr.refl _ _⟩
  case round =>
    obtain ⟨k, us, hk, rfl, hul, hown, hbel, hgr⟩ := hrel
    have HO : Hid (ownP wr B (.slice ao vs.length cap) us) := hown
    have HB : Hid (Below B w wr) := hbel
    have HG : Hid (Gr (.slice ao vs.length cap) w (.slice ao vs.length cap) wr) := hgr
    clear hown hbel hgr
    by_cases h1 : k < vs.length
    · obtain ⟨g, rfl⟩ : ∃ g, ao = some ⟨g, 0, none⟩ := by
        rcases hao with ⟨_, h2⟩ | h2
        · omega
        · exact h2
      obtain ⟨x0, x1, x2, fz⟩ := HO.out.at hul k h1
      have f0 := fz (k * 3)
      have f1 := fz (k * 3 + 1)
      have f2 := fz (k * 3 + 2)
      have h1' : (k : Int) < (vs.length : Int) := by omega
      have HP : Hid _ := HO.out.put hul k h1 (-9) (k : Int) 7
      have hgB : B ≤ g := by
        rcases HO.out.2 with ⟨e, _⟩ | ⟨g', cap', cur, e, hb, _⟩
        · simp at e
        · simp only [Value.slice.injEq, Option.some.injEq, Addr.mk.injEq, and_true] at e; omega
      have HB2 : Hid (∀ a b c, Below B w (((wr.setCell ⟨g, k * 3, none⟩ a).setCell ⟨g, k * 3 + 1, none⟩ b).setCell ⟨g, k * 3 + 2, none⟩ c)) := fun a b c => ((HB.out.setCell (p := ⟨g, k * 3, none⟩) hgB _).setCell (p := ⟨g, k * 3 + 1, none⟩) hgB _).setCell (p := ⟨g, k * 3 + 2, none⟩) hgB _
      have HG2 : Hid (∀ a b c, Gr (.slice (some ⟨g, 0, none⟩) vs.length cap) w (.slice (some ⟨g, 0, none⟩) vs.length cap) (((wr.setCell ⟨g, k * 3, none⟩ a).setCell ⟨g, k * 3 + 1, none⟩ b).setCell ⟨g, k * 3 + 2, none⟩ c)) := fun a b c => ((HG.out.trans (Gr.put (n := 0) (cap := 0) rfl _ a)).trans (Gr.put (n := 0) (cap := 0) rfl _ b)).trans (Gr.put (n := 0) (cap := 0) rfl _ c)
      clear fz HO HB HG
      go_wp2
      go_roundw
      case rel => exact ⟨k + 1, _, by omega, by go_num, by rw [List.length_set]; exact hul, HP.out, HB2.out _ _ _, HG2.out _ _ _⟩
      case measure => simp [intOf]; omega
    · have h1' : ¬ (k : Int) < (vs.length : Int) := by omega
      go_wp2_with fail
      generalize wr = W2 at *
      go_loopw [0, 3] (fun c i wr => ∃ (j : Nat) (xs : List (Int × Int × Int)), j ≤ 40 ∧ i = .int .i64 (j : Int) ∧ xs.length = vs.length + j ∧ ownP wr B c xs ∧ Below B w wr ∧ Gr (.slice ao vs.length cap) w c wr) (fun _ i _ => 40 - (intOf i).toNat)
      case atStart => exact ⟨0, us, by omega, rfl, by omega, HO.out, HB.out, HG.out⟩
      case round =>
        obtain ⟨j, xs, hj, rfl, hxl, hown, hbel, hgr⟩ := hrel
        have HO3 : Hid (ownP wr B _ xs) := hown
        have HB3 : Hid (Below B w wr) := hbel
        have HG3 : Hid (Gr (.slice ao vs.length cap) w _ wr) := hgr
        clear hown hbel hgr
        by_cases h2 : j < 40
        · have h2' : (j : Int) < 40 := by omega
          have hal : (xs.length + 1) * 24 ≤ 140737488355328 := by omega
          have hBr : B ≤ wr.heap.size := Nat.le_trans hB HB3.out.size
          have HX : Hid (xs.length = vs.length + j) := hxl
          clear hxl HO HB HG
          go_wp2_with (at_builtin; refine app_pickL (by rfl) _ _ (by rfl) B _ xs (-8, (j : Int), 0) HO3.out (by rfl) (by rfl) hal hBr ?_; intro v' w6 hown6 hbel6 hgr6; have HO6 : Hid (ownP w6 B v' (xs ++ [(-8, (j : Int), 0)])) := hown6; have HB6 : Hid (Below B w w6) := HB3.out.trans hbel6; have HG6 : Hid (Gr (.slice ao vs.length cap) w v' w6) := HG3.out.trans hgr6; clear hown6 hbel6 hgr6)
          go_roundw
          case rel => exact ⟨j + 1, _, by omega, by go_num, by rw [List.length_append, List.length_singleton, HX.out]; omega, HO6.out, HB6.out, HG6.out⟩
          case measure => simp [intOf]; omega
        · have h2' : ¬ (j : Int) < 40 := by omega
          go_wp2
          go_end0
          exact ⟨rfl, HB3.out, HG3.out.far⟩
end Go.Proofs.Ytppfgcdfmdmffaa
