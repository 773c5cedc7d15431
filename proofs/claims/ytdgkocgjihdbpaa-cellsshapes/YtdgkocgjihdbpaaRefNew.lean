import Derived.Test.YtdgkocgjihdbpaaOwnI
namespace Go.Proofs.Ytdgkocgjihdbpaa
open Go.ChangeShapes Go.WideShapes Go.ChangeAt Go.RowKit
set_option linter.unusedVariables false
theorem infoSl : (Try.prog.info? 116).map (fun i => (i.zero, i.size, i.bytes)) = some (some (.agg #[.bool false, .string ⟨#[]⟩, .string ⟨#[]⟩, .int .i64 0, .slice none 0 0, .int .i64 0]), 6, 80) := by kernel_rfl
/-- A document's slot as made. -/
def zSlot : List Value := [.bool false, .string ⟨#[]⟩, .string ⟨#[]⟩, .int .i64 0, .slice none 0 0, .int .i64 0]
def ownSl (w : World) (B : Nat) (v : Value) (m : Nat) (xs : List Value) : Prop := w.ownsRow B 116 6 v m xs
theorem rows_ne {w : World} {B B' e e' k k' n n' : Nat} {v v' : Value} {xs xs' : List Value} (h : w.ownsRow B e k v n xs) (h' : w.ownsRow B' e' k' v' n' xs') (he : e ≠ e') : v.ownBlock = none ∨ v.ownBlock ≠ v'.ownBlock := by
  rcases h.2 with ⟨rfl, _⟩ | ⟨g, cap, cur, rfl, _, h1, _⟩
  · exact Or.inl rfl
  · refine Or.inr fun e1 => ?_
    rcases h'.2 with ⟨rfl, _⟩ | ⟨g', cap', cur', rfl, _, h2, _⟩
    · cases e1
    · have : g = g' := by injection e1
      subst this
      rw [h1] at h2
      injection h2 with h2
      injection h2 with _ h3 _
      exact he h3
theorem app_slotL {wr : World} {ops : Array Oper} {rest : List Oper} {o : Oper} {a : Act} {Q : Exit → Act → World → Prop} (hgd : o.guard = none) (s x : Operand)
    (ho : o.op = .call { callee := .builtin .append, args := #[s, x], argTypes := #[85, 85] })
    (B : Nat) (v : Value) (m : Nat) (xs : List Value) (hown : ownSl wr B v m xs) (hs : a.eval s = v) (gn : Nat) (hgn : gn = wr.heap.size) (hx : a.eval x = .slice (some ⟨gn, 0, none⟩) 1 1)
    (hlen : (m + 1) * 80 ≤ 140737488355328) (hB : B ≤ wr.heap.size)
    (h : ∀ v' w', ownSl w' B v' (m + 1) (xs ++ zSlot) → Below B wr w' → (∀ vQ qs, ownI wr B vQ qs → ownI w' B vQ qs) → wpList Try.prog ops Q rest (a.put o.dst v') w') :
    wpList Try.prog ops Q (o :: rest) a (wr.alloc (.cells #[.bool false, .string ⟨#[]⟩, .string ⟨#[]⟩, .int .i64 0, .slice none 0 0, .int .i64 0] 116)) := by
  subst hgn
  obtain ⟨i0, hi, hz0, hz1, hz2⟩ := info_parts infoSl
  have hg := heap_alloc_new wr (.cells #[.bool false, .string ⟨#[]⟩, .string ⟨#[]⟩, .int .i64 0, .slice none 0 0, .int .i64 0] 116)
  refine wpList_append_own _ hgd s x 85 ho B 116 i0 _ 6 80 Try.underlying85 hi hz0 hz1 hz2 rfl (by decide) v m _ hs (World.ownsRow.alloc hown _)
    ⟨wr.heap.size, 0, none⟩ 1 1 zSlot hx rfl ?_ ?_ (by unfold maxLen; omega) (by omega) (by simp; omega) ?_
  · intro j u hj
    have hj6 : j < 6 := by
      have := (List.getElem?_eq_some_iff.1 hj).1
      simpa [zSlot] using this
    have ea : (⟨wr.heap.size, 0, none⟩ : Addr).add j = ⟨wr.heap.size, j, none⟩ := by unfold Addr.add; split <;> simp_all
    rw [ea, cell?_heap hg, ← hj, ← Array.getElem?_toList]
    rfl
  · intro u hu
    simp [zSlot] at hu
    rcases hu with rfl | rfl | rfl | rfl | rfl <;> rfl
  · intro v' w' hown' hgrow _
    refine h v' w' hown' ?_ (fun vQ qs hq => ?_)
    · exact ((Below.refl _ _).alloc hB _).grown hgrow (by simp; omega) (fun k hk => (World.ownsRow.lt hown k hk).1)
    · exact World.ownsRow.kept (World.ownsRow.alloc hq _) hgrow (rows_ne hq hown (by decide))
theorem app_queL {wr : World} {ops : Array Oper} {rest : List Oper} {o : Oper} {a : Act} {Q : Exit → Act → World → Prop} (hgd : o.guard = none) (s x : Operand)
    (ho : o.op = .call { callee := .builtin .append, args := #[s, x], argTypes := #[31, 31] })
    (B : Nat) (v : Value) (xs : List Int) (c : Int) (hown : ownI wr B v xs) (hs : a.eval s = v) (gn : Nat) (hgn : gn = wr.heap.size) (hx : a.eval x = .slice (some ⟨gn, 0, none⟩) 1 1)
    (hlen : (xs.length + 1) * 8 ≤ 140737488355328) (hB : B ≤ wr.heap.size)
    (h : ∀ v' w', ownI w' B v' (xs ++ [c]) → Below B wr w' → (∀ vS m ss, ownSl wr B vS m ss → ownSl w' B vS m ss) → wpList Try.prog ops Q rest (a.put o.dst v') w') :
    wpList Try.prog ops Q (o :: rest) a (wr.alloc (.cells #[.int .i64 c] 3)) := by
  subst hgn
  obtain ⟨i0, hi, hz0, hz1, hz2⟩ := info_parts infoI
  refine wpList_append_own _ hgd s x 31 ho B 3 i0 (.int .i64 0) 1 8 Try.underlying31 hi hz0 hz1 hz2 rfl (by decide) v xs.length _ hs (World.ownsRow.alloc hown _)
    ⟨wr.heap.size, 0, none⟩ 1 1 [.int .i64 c] hx rfl ?_ ?_ (by unfold maxLen; omega) (by omega) (by simp; omega) ?_
  · intro j u hj
    match j, hj with
    | 0, hj => simp at hj; subst hj; simp [Addr.add]
  · intro u hu; simp at hu; subst hu; rfl
  · intro v' w' hown' hgrow _
    refine h v' w' ?_ ?_ (fun vS m ss hq => ?_)
    · have : (xs ++ [c]).length = xs.length + 1 := by simp
      unfold ownI; rw [this, List.map_append]; exact hown'
    · exact ((Below.refl _ _).alloc hB _).grown hgrow (by simp; omega) (fun k hk => (World.ownsRow.lt hown k hk).1)
    · exact World.ownsRow.kept (World.ownsRow.alloc hq _) hgrow (rows_ne hq hown (by decide))
theorem ownSl.form {w : World} {B m : Nat} {v : Value} {xs : List Value} (h : ownSl w B v (m + 1) xs) : ∃ g cap, v = .slice (some ⟨g, 0, none⟩) (m + 1) cap := by
  rcases h.2 with ⟨_, h0⟩ | ⟨g, cap, cur, rfl, _⟩
  · omega
  · exact ⟨g, cap, rfl⟩
theorem ownI.formS {w : World} {B : Nat} {v : Value} {xs : List Int} {c : Int} (h : ownI w B v (xs ++ [c])) : ∃ g cap, v = .slice (some ⟨g, 0, none⟩) (xs.length + 1) cap := by
  rcases h.2 with ⟨_, h0⟩ | ⟨g, cap, cur, rfl, _⟩
  · simp at h0
  · exact ⟨g, cap, by simp⟩
/-- The document's arena while it is made: it has m slots (the first is none), t numbers in its queue. -/
structure RefN (w : World) (rb wd m t : Nat) (vS vQ : Value) (W : World) : Prop where
  c0 : W.cell? ⟨rb, 0, none⟩ = some (.int .i64 (wd : Int))
  c1 : W.cell? ⟨rb, 1, none⟩ = some vS
  c2 : W.cell? ⟨rb, 2, none⟩ = some vQ
  fz : ∀ j, W.frozen? ⟨rb, j, none⟩ = false
  oS : ∃ ss, ownSl W (rb + 1) vS m ss
  oQ : ∃ qs, ownI W (rb + 1) vQ qs ∧ qs.length = t
  low : Below w.heap.size w W
  hb : w.heap.size ≤ rb
  lt : rb + 1 ≤ W.heap.size
theorem RefN.at {w W w2 : World} {rb wd m t : Nat} {vS vQ : Value} (h : RefN w rb wd m t vS vQ W) (hb : Below (rb + 1) W w2) : (∀ j, w2.cell? ⟨rb, j, none⟩ = W.cell? ⟨rb, j, none⟩) ∧ (∀ j, w2.frozen? ⟨rb, j, none⟩ = false) :=
  ⟨fun j => hb.cell (p := ⟨rb, j, none⟩) (by show rb < rb + 1; omega), fun j => (hb.frozen (p := ⟨rb, j, none⟩) (by show rb < rb + 1; omega)).trans (h.fz j)⟩
theorem RefN.slot {w W w2 : World} {rb wd m t : Nat} {vS vQ v' : Value} {ss : List Value} (h : RefN w rb wd m t vS vQ W) (ho : ownSl w2 (rb + 1) v' (m + 1) ss) (hb : Below (rb + 1) W w2) (hq : ∀ vQ qs, ownI W (rb + 1) vQ qs → ownI w2 (rb + 1) vQ qs) : RefN w rb wd (m + 1) t v' vQ (w2.setCell ⟨rb, 1, none⟩ v') := by
  obtain ⟨cc, cf⟩ := h.at hb
  have hne : ∀ j, j ≠ 1 → (w2.setCell ⟨rb, 1, none⟩ v').cell? ⟨rb, j, none⟩ = w2.cell? ⟨rb, j, none⟩ := fun j hj => World.cell?_setCell_other _ _ _ _ (fun e => hj (congrArg Addr.off e).symm)
  obtain ⟨qs, q1, q2⟩ := h.oQ
  refine ⟨(hne 0 (by decide)).trans ((cc 0).trans h.c0), World.cell?_setCell_same _ _ _ ((cc 1).trans h.c1), (hne 2 (by decide)).trans ((cc 2).trans h.c2), fun j => by simpa using cf j, ⟨ss, ownsRow_setCell_below ho (a := ⟨rb, 1, none⟩) (by show rb < rb + 1; omega) _⟩, ⟨qs, ownsRow_setCell_below (hq vQ qs q1) (a := ⟨rb, 1, none⟩) (by show rb < rb + 1; omega) _, q2⟩, (h.low.trans (hb.mono (by have := h.hb; omega))).setCell (p := ⟨rb, 1, none⟩) h.hb _, h.hb, ?_⟩
  have := hb.size
  have := h.lt
  simp
  omega
theorem RefN.que {w W w2 : World} {rb wd m t : Nat} {vS vQ v' : Value} {qs : List Int} {c : Int} (h : RefN w rb wd m t vS vQ W) (ho : ownI w2 (rb + 1) v' (qs ++ [c])) (hl : qs.length = t) (hb : Below (rb + 1) W w2) (hq : ∀ vS m ss, ownSl W (rb + 1) vS m ss → ownSl w2 (rb + 1) vS m ss) : RefN w rb wd m (t + 1) vS v' (w2.setCell ⟨rb, 2, none⟩ v') := by
  obtain ⟨cc, cf⟩ := h.at hb
  have hne : ∀ j, j ≠ 2 → (w2.setCell ⟨rb, 2, none⟩ v').cell? ⟨rb, j, none⟩ = w2.cell? ⟨rb, j, none⟩ := fun j hj => World.cell?_setCell_other _ _ _ _ (fun e => hj (congrArg Addr.off e).symm)
  obtain ⟨ss, q1⟩ := h.oS
  refine ⟨(hne 0 (by decide)).trans ((cc 0).trans h.c0), (hne 1 (by decide)).trans ((cc 1).trans h.c1), World.cell?_setCell_same _ _ _ ((cc 2).trans h.c2), fun j => by simpa using cf j, ⟨ss, ownsRow_setCell_below (hq vS m ss q1) (a := ⟨rb, 2, none⟩) (by show rb < rb + 1; omega) _⟩, ⟨qs ++ [c], ownsRow_setCell_below ho (a := ⟨rb, 2, none⟩) (by show rb < rb + 1; omega) _, by simp [hl]⟩, (h.low.trans (hb.mono (by have := h.hb; omega))).setCell (p := ⟨rb, 2, none⟩) h.hb _, h.hb, ?_⟩
  have := hb.size
  have := h.lt
  simp
  omega
theorem RefN.start (w : World) (wd : Nat) : RefN w w.heap.size wd 0 0 (.slice none 0 0) (.slice none 0 0) (w.alloc (.cells #[.int .i64 (wd : Int), .slice none 0 0, .slice none 0 0, .int .i64 0, .int .i64 0] 87)) := by
  have hg := heap_alloc_new w (.cells #[.int .i64 (wd : Int), .slice none 0 0, .slice none 0 0, .int .i64 0, .int .i64 0] 87)
  exact ⟨(cell?_heap hg 0).trans rfl, (cell?_heap hg 1).trans rfl, (cell?_heap hg 2).trans rfl, fun j => frozen?_heap hg j, ⟨[], World.ownsRow_nil _ _ _ _⟩, ⟨[], ownI_nil _ _, rfl⟩, (Below.refl _ _).alloc (Nat.le_refl _) _, Nat.le_refl _, by simp⟩
theorem ownI.sl {w : World} {B : Nat} {v : Value} {xs : List Int} (h : ownI w B v xs) : ∃ sp len cap, v = .slice sp len cap := by
  rcases h.2 with ⟨rfl, _⟩ | ⟨g, cap, cur, rfl, _⟩
  · exact ⟨none, 0, 0, rfl⟩
  · exact ⟨_, _, _, rfl⟩
set_option maxRecDepth 100000 in
set_option maxHeartbeats 3200000 in
theorem ref_new (n wd : Nat) (w : World) (h1 : 1 ≤ n) (h2 : n ≤ 4096) (h3 : 1 ≤ wd) (h4 : wd ≤ 16) : Calls Try.prog 19 #[.int .i64 (n : Int), .int .i64 (wd : Int)] w fun e w' => ∃ vS vQ, e = .returned (.tuple #[.pointer (some ⟨w.heap.size, 0, none⟩), .int .i64 0]) ∧ RefN w w.heap.size wd (n + 1) n vS vQ w' := by
  have i1 : ¬ (n : Int) < 1 := by omega
  have i2 : ¬ (n : Int) > 4096 := by omega
  have i3 : ¬ (wd : Int) < 1 := by omega
  have i4 : ¬ (wd : Int) > 16 := by omega
  have HC : Hid (RefN w w.heap.size wd 0 0 _ _ _) := RefN.start w wd
  go_enter Try.func19, Try.ntmps19
  go_wp2_with (at_builtin; refine app_slotL (by rfl) _ _ (by rfl) (w.heap.size + 1) (.slice none 0 0) 0 [] (World.ownsRow_nil _ _ _ _) (by rfl) (w.heap.size + 1) (by simp) (by rfl) (by omega) (by simp) ?_; intro v' w2 ho2 hb2 hq2; have d1 : w2.cell? ⟨w.heap.size, 1, none⟩ = some (.slice none 0 0) := ((HC.out.at hb2).1 1).trans HC.out.c1; have d2 : w2.frozen? ⟨w.heap.size, 1, none⟩ = false := (HC.out.at hb2).2 1; obtain ⟨g', cap', rfl⟩ := ho2.form; have H2 : Hid (RefN w w.heap.size wd (0 + 1) 0 _ _ _) := HC.out.slot ho2 hb2 hq2; clear ho2 hb2 hq2)
  have hrb : w.heap.size = w.heap.size := rfl
  generalize hrb2 : w.heap.size = rb at *
  clear hrb d1 d2 HC
  go_loopw [7] (fun i wr => ∃ (t : Nat) (vS vQ : Value), t ≤ n ∧ i = .int .i64 ((t : Int) + 1) ∧ RefN w rb wd (t + 1) t vS vQ wr) (fun i _ => n + 1 - (intOf i).toNat)
  case atStart => exact ⟨0, _, _, by omega, rfl, H2.out⟩
  case round =>
    obtain ⟨t, vS, vQ, ht, rfl, hR⟩ := hrel
    have H3 : Hid (RefN w rb wd (t + 1) t vS vQ wr) := hR
    clear hR H2
    by_cases h5 : t < n
    · obtain ⟨ss, hoS⟩ := H3.out.oS
      obtain ⟨g0, k0, rfl⟩ := hoS.form
      obtain ⟨qs, hoQ, hql⟩ := H3.out.oQ
      obtain ⟨sp, ln, cp, rfl⟩ := hoQ.sl
      have c1 := H3.out.c1
      have HS : Hid (ownSl wr (rb + 1) (.slice (some ⟨g0, 0, none⟩) (t + 1) k0) (t + 1) ss) := hoS
      have HQ : Hid (∃ qs, ownI wr (rb + 1) (.slice sp ln cp) qs ∧ qs.length = t) := ⟨qs, hoQ, hql⟩
      clear hoS hoQ hql qs
      go_wp2_with (first
        | (at_builtin; refine app_slotL (by rfl) _ _ (by rfl) (rb + 1) _ (t + 1) ss HS.out (by rfl) wr.heap.size (by rfl) (by rfl) (by omega) H3.out.lt ?_; intro v' w3 ho3 hb3 hq3; have d1 := ((H3.out.at hb3).1 1).trans H3.out.c1; have d2 := (H3.out.at hb3).2 1; obtain ⟨g1, k1, rfl⟩ := ho3.form; have H4 : Hid (RefN w rb wd (t + 1 + 1) t _ _ _) := H3.out.slot ho3 hb3 hq3; clear ho3 hb3 hq3; have c2 := H4.out.c2; obtain ⟨qs, hoQ, hql⟩ := H4.out.oQ; have HQ2 : Hid (ownI _ (rb + 1) (.slice sp ln cp) qs ∧ qs.length = t) := ⟨hoQ, hql⟩; clear hoQ hql)
        | (at_builtin; refine app_queL (by rfl) _ _ (by rfl) (rb + 1) _ qs ((t : Int) + 1) HQ2.out.1 (by rfl) w3.heap.size (by simp) (by rfl) (by rw [HQ2.out.2]; omega) H4.out.lt ?_; intro v'' w5 ho5 hb5 hq5; have d3 := ((H4.out.at hb5).1 2).trans H4.out.c2; have d4 := (H4.out.at hb5).2 2; obtain ⟨g2, k2, rfl⟩ := ho5.formS; have H5 : Hid (RefN w rb wd (t + 1 + 1) (t + 1) _ _ _) := H4.out.que ho5 HQ2.out.2 hb5 hq5; clear ho5 hb5 hq5))
      go_roundw
      case rel => exact ⟨t + 1, _, _, by omega, by go_num, H5.out⟩
      case measure => simp [intOf]; omega
    · have e5 : t = n := by omega
      subst e5
      go_wp2
      go_ret2
      exact ⟨vS, vQ, by rw [hrb2]; rfl, by rw [hrb2]; exact H3.out⟩
end Go.Proofs.Ytdgkocgjihdbpaa
