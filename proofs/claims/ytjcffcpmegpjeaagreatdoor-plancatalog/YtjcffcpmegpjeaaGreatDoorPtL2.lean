import Derived.Test.YtjcffcpmegpjeaaGreatDoorPtR3
namespace Go.Proofs.YtjcffcpmegpjeaaGreatDoor
open Go.ChangeShapes Go.WideShapes Go.ChangeAt Go.RowKit
set_option linter.unusedVariables false
set_option maxRecDepth 100000
/-- What both decodings answer: one table, with its rows twice, or none. -/
structure CtS (w W : World) (k d : ByteArray) : Prop where
  below : Below w.heap.size w W
  pair : W.heap[w.heap.size]? = some (.cells #[.string k, .string d] 28)
theorem CtS.lt {w W : World} {k d : ByteArray} (h : CtS w W k d) : w.heap.size < W.heap.size := (Array.getElem?_eq_some_iff.1 h.pair).1
theorem CtS.later {w W W' : World} {k d : ByteArray} (h : CtS w W k d) (hb : Below W.heap.size W W') : CtS w W' k d := ⟨h.below.trans (hb.mono h.below.size), (hb.block _ h.lt).trans h.pair⟩
theorem CtS.new (w : World) (k d : ByteArray) : CtS w (w.alloc (.cells #[.string k, .string d] 28)) k d := ⟨(Below.refl _ _).alloc (Nat.le_refl _) _, heap_new _ _⟩
theorem CtS.cells {w W : World} {k d : ByteArray} (h : CtS w W k d) : W.cell? ⟨w.heap.size, 0, none⟩ = some (.string k) ∧ W.cell? ⟨w.heap.size, 1, none⟩ = some (.string d) := by
  have h1 := h.pair
  unfold World.cell?
  rw [h1]
  exact ⟨rfl, rfl⟩
set_option maxHeartbeats 8000000 in
/-- Behind both decodings: the same table in both blocks, the same number. -/
theorem catalog_law (k d : ByteArray) (w : World) (hk : k.size ≤ 1125899906842624) (hdz : d.size ≤ 140737488355328) (hg : ErrTy w) :
    Calls Tryz.prog 6 #[.agg #[.string k, .string d]] w fun e w' => e = .returned (.bool true) ∧ Below w.heap.size w w' := by
  have HN : Hid (CtS w _ k d) := CtS.new w k d
  have HP : Hid (∀ W, CtS w W k d → Calls Tryz.prog 15 #[.agg #[.string k, .string d]] W (DcT (.int .i64 0) (.int .i64 169) W k d)) := fun W h => DecTabT k d W hk hdz (hg.later h.below hg.pos)
  have HR : Hid (∀ W, Calls Tryz.prog 17 #[.agg #[.string k, .string d]] W (DcT (.int .i64 0) (.int .i64 169) W k d)) := fun W => DecTabR k d W hk hdz
  obtain ⟨c0, c1⟩ := HN.out.cells
  clear hg
  go_enter Tryz.func6, Tryz.ntmps6
  go_wp2_with fail
  refine (HP.out _ HN.out).mono ?_
  generalize w.alloc (.cells #[.string k, .string d] 28) = W1 at *
  rintro e w2 ⟨hb2, h | h⟩
  · obtain ⟨rfl, hno⟩ := h
    have HN2 : Hid (CtS w w2 k d) := HN.out.later hb2
    have HA : Hid (Below w2.heap.size w2 (w2.alloc (.cells #[.string ⟨#[]⟩, .int .i64 0, .slice none 0 0, .slice none 0 0] 25))) := (Below.refl _ _).alloc (Nat.le_refl _) _
    have HN3 : Hid (CtS w (w2.alloc (.cells #[.string ⟨#[]⟩, .int .i64 0, .slice none 0 0, .slice none 0 0] 25)) k d) := HN2.out.later HA.out
    have HT3 : Hid ((w2.alloc (.cells #[.string ⟨#[]⟩, .int .i64 0, .slice none 0 0, .slice none 0 0] 25)).heap[w2.heap.size]? = some (.cells #[.string ⟨#[]⟩, .int .i64 0, .slice none 0 0, .slice none 0 0] 25)) := heap_new _ _
    clear hb2 HN HN2 c0 c1 HP
    obtain ⟨c0, c1⟩ := HN3.out.cells
    go_wp2_with fail
    refine (HR.out _).mono ?_
    generalize w2.alloc (.cells #[.string ⟨#[]⟩, .int .i64 0, .slice none 0 0, .slice none 0 0] 25) = w3 at *
    rintro e w4 ⟨hb4, h | ⟨nm, num, ca, cc, ka, kc, cs, ks, rfl, hoc, hon, hy, hyu⟩⟩
    · obtain ⟨rfl, _⟩ := h
      have HT4 : Hid (w4.heap[w2.heap.size]? = some (.cells #[.string ⟨#[]⟩, .int .i64 0, .slice none 0 0, .slice none 0 0] 25)) := (hb4.block _ (Array.getElem?_eq_some_iff.1 HT3.out).1).trans HT3.out
      have HN4 : Hid (CtS w w4 k d) := HN3.out.later hb4
      have HA4 : Hid (Below w4.heap.size w4 (w4.alloc (.cells #[.string ⟨#[]⟩, .int .i64 0, .slice none 0 0, .slice none 0 0] 25))) := (Below.refl _ _).alloc (Nat.le_refl _) _
      have HN5 : Hid (CtS w (w4.alloc (.cells #[.string ⟨#[]⟩, .int .i64 0, .slice none 0 0, .slice none 0 0] 25)) k d) := HN4.out.later HA4.out
      have HT5 : Hid ((w4.alloc (.cells #[.string ⟨#[]⟩, .int .i64 0, .slice none 0 0, .slice none 0 0] 25)).heap[w2.heap.size]? = some (.cells #[.string ⟨#[]⟩, .int .i64 0, .slice none 0 0, .slice none 0 0] 25)) := (HA4.out.block _ (Array.getElem?_eq_some_iff.1 HT4.out).1).trans HT4.out
      have HU5 : Hid ((w4.alloc (.cells #[.string ⟨#[]⟩, .int .i64 0, .slice none 0 0, .slice none 0 0] 25)).heap[w4.heap.size]? = some (.cells #[.string ⟨#[]⟩, .int .i64 0, .slice none 0 0, .slice none 0 0] 25)) := heap_new _ _
      clear hb4 HT3 HN3 HT4 HN4 c0 c1
      obtain ⟨t0, t1, t2, t3⟩ := tab_cells HT5.out
      obtain ⟨u0, u1, u2, u3⟩ := tab_cells HU5.out
      have HSM : Hid (∀ _ : Unit, _) := fun _ => sameTab ⟨#[]⟩ 0 (.slice none 0 0) (.slice none 0 0) (.slice none 0 0) (.slice none 0 0) [] [] (w4.alloc (.cells #[.string ⟨#[]⟩, .int .i64 0, .slice none 0 0, .slice none 0 0] 25)).heap.size (w4.alloc (.cells #[.string ⟨#[]⟩, .int .i64 0, .slice none 0 0, .slice none 0 0] 25)) (Nat.le_refl _) (ownC_nil _ 0).sees (ownN_nil _ 0).sees (ownC_nil _ 0).sees (ownN_nil _ 0).sees (by simp) (by simp)
      go_wp2_with fail
      refine (HSM.out ()).mono ?_
      generalize w4.alloc (.cells #[.string ⟨#[]⟩, .int .i64 0, .slice none 0 0, .slice none 0 0] 25) = w5 at *
      rintro e w6 ⟨rfl, hb6⟩
      have HB6 : Hid (Below w.heap.size w w6) := HN5.out.below.trans (hb6.mono HN5.out.below.size)
      clear hb6
      go_wp2_with fail
      refine (numT 169 w6).mono ?_
      rintro e w7 ⟨rfl, rfl⟩
      go_wp2
      go_ret
      exact ⟨rfl, HB6.out⟩
    · exact absurd hy (hno _ _ _ _)
  · obtain ⟨nm, num, ca, cc, ka, kc, cs, ks, rfl, hoc, hon, hy, hyu⟩ := h
    have HN2 : Hid (CtS w w2 k d) := HN.out.later hb2
    have HA : Hid (Below w2.heap.size w2 (w2.alloc (.cells #[.string nm, .int .i64 num, .slice ca cs.length cc, .slice ka ks.length kc] 25))) := (Below.refl _ _).alloc (Nat.le_refl _) _
    have HN3 : Hid (CtS w (w2.alloc (.cells #[.string nm, .int .i64 num, .slice ca cs.length cc, .slice ka ks.length kc] 25)) k d) := HN2.out.later HA.out
    have HT3 : Hid ((w2.alloc (.cells #[.string nm, .int .i64 num, .slice ca cs.length cc, .slice ka ks.length kc] 25)).heap[w2.heap.size]? = some (.cells #[.string nm, .int .i64 num, .slice ca cs.length cc, .slice ka ks.length kc] 25)) := heap_new _ _
    have HOC3 : Hid (ownC (w2.alloc (.cells #[.string nm, .int .i64 num, .slice ca cs.length cc, .slice ka ks.length kc] 25)) W1.heap.size (.slice ca cs.length cc) cs) := hoc.later HA.out
    have HON3 : Hid (ownN (w2.alloc (.cells #[.string nm, .int .i64 num, .slice ca cs.length cc, .slice ka ks.length kc] 25)) W1.heap.size (.slice ka ks.length kc) ks) := hon.later HA.out
    have HFW : Hid (cs.length ≤ 16 ∧ ks.length ≤ 8) := ⟨hy.few.1, hy.few.2.1⟩
    have HYY : Hid (Yt nm num cs ks k d) := hy
    have HYU : Hid (∀ nm' num' cs' ks', Yt nm' num' cs' ks' k d → nm' = nm ∧ num' = num ∧ cs' = cs ∧ ks' = ks) := hyu
    clear hb2 HN HN2 c0 c1 HP hoc hon hy hyu
    obtain ⟨c0, c1⟩ := HN3.out.cells
    go_wp2_with fail
    refine (HR.out _).mono ?_
    generalize w2.alloc (.cells #[.string nm, .int .i64 num, .slice ca cs.length cc, .slice ka ks.length kc] 25) = w3 at *
    rintro e w4 ⟨hb4, h | ⟨nm', num', ca', cc', ka', kc', cs', ks', rfl, hoc, hon, hy, _⟩⟩
    · exact absurd HYY.out (h.2 _ _ _ _)
    · obtain ⟨e1, e2, e3, e4⟩ := HYU.out _ _ _ _ hy
      subst e1 e2 e3 e4
      have HT4 : Hid (w4.heap[w2.heap.size]? = some (.cells #[.string nm', .int .i64 num', .slice ca cs'.length cc, .slice ka ks'.length kc] 25)) := (hb4.block _ (Array.getElem?_eq_some_iff.1 HT3.out).1).trans HT3.out
      have HN4 : Hid (CtS w w4 k d) := HN3.out.later hb4
      have HOC4 : Hid (ownC w4 W1.heap.size (.slice ca cs'.length cc) cs') := HOC3.out.later hb4
      have HON4 : Hid (ownN w4 W1.heap.size (.slice ka ks'.length kc) ks') := HON3.out.later hb4
      have HA4 : Hid (Below w4.heap.size w4 (w4.alloc (.cells #[.string nm', .int .i64 num', .slice ca' cs'.length cc', .slice ka' ks'.length kc'] 25))) := (Below.refl _ _).alloc (Nat.le_refl _) _
      have HN5 : Hid (CtS w (w4.alloc (.cells #[.string nm', .int .i64 num', .slice ca' cs'.length cc', .slice ka' ks'.length kc'] 25)) k d) := HN4.out.later HA4.out
      have HT5 : Hid ((w4.alloc (.cells #[.string nm', .int .i64 num', .slice ca' cs'.length cc', .slice ka' ks'.length kc'] 25)).heap[w2.heap.size]? = some (.cells #[.string nm', .int .i64 num', .slice ca cs'.length cc, .slice ka ks'.length kc] 25)) := (HA4.out.block _ (Array.getElem?_eq_some_iff.1 HT4.out).1).trans HT4.out
      have HU5 : Hid ((w4.alloc (.cells #[.string nm', .int .i64 num', .slice ca' cs'.length cc', .slice ka' ks'.length kc'] 25)).heap[w4.heap.size]? = some (.cells #[.string nm', .int .i64 num', .slice ca' cs'.length cc', .slice ka' ks'.length kc'] 25)) := heap_new _ _
      have hfw := HFW.out
      have HSM : Hid (∀ _ : Unit, _) := fun _ => sameTab nm' num' (.slice ca cs'.length cc) (.slice ka ks'.length kc) (.slice ca' cs'.length cc') (.slice ka' ks'.length kc') cs' ks' (w4.alloc (.cells #[.string nm', .int .i64 num', .slice ca' cs'.length cc', .slice ka' ks'.length kc'] 25)).heap.size (w4.alloc (.cells #[.string nm', .int .i64 num', .slice ca' cs'.length cc', .slice ka' ks'.length kc'] 25)) (Nat.le_refl _) (HOC4.out.later HA4.out).sees (HON4.out.later HA4.out).sees (hoc.later HA4.out).sees (hon.later HA4.out).sees (by omega) (by omega)
      clear hb4 HT3 HN3 HT4 HN4 c0 c1 hoc hon hy hfw HOC3 HON3
      obtain ⟨t0, t1, t2, t3⟩ := tab_cells HT5.out
      obtain ⟨u0, u1, u2, u3⟩ := tab_cells HU5.out
      go_wp2_with fail
      refine (HSM.out ()).mono ?_
      generalize w4.alloc (.cells #[.string nm', .int .i64 num', .slice ca' cs'.length cc', .slice ka' ks'.length kc'] 25) = w5 at *
      rintro e w6 ⟨rfl, hb6⟩
      have HB6 : Hid (Below w.heap.size w w6) := HN5.out.below.trans (hb6.mono HN5.out.below.size)
      clear hb6
      go_wp2_with fail
      refine (numT 0 w6).mono ?_
      rintro e w7 ⟨rfl, rfl⟩
      go_wp2
      go_ret
      exact ⟨rfl, HB6.out⟩
theorem catalog_open (pk pd : ByteArray) (W : World) (rk : pk.size ≤ reachBytes ∧ pd.size ≤ reachBytes) (hg : ErrTy W) :
    Calls Tryz.prog 6 #[.agg #[.string pk, .string pd]] W fun e w' => e = .returned (.bool true) ∧ Below W.heap.size W w' := by
  unfold reachBytes at rk
  exact catalog_law pk pd W (by omega) (by omega) hg
end Go.Proofs.YtjcffcpmegpjeaaGreatDoor
