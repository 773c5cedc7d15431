import Derived.Test.YtfofionocnbohaaDoorLkT2
namespace Go.Proofs.YtfofionocnbohaaDoor
open Go.ChangeShapes Go.WideShapes Go.ChangeAt Go.RowKit
set_option linter.unusedVariables false
set_option maxRecDepth 100000
theorem indexByte_one : ∀ l : List UInt8, Lib.indexByte l 37 = Lib.index l [37]
  | [] => by simp [Lib.indexByte, Lib.index]
  | b :: l => by
    have ih := indexByte_one l
    by_cases h : b = 37
    · subst h; simp [Lib.indexByte, Lib.index, List.isPrefixOf]
    · have hp : ([37] : List UInt8).isPrefixOf (b :: l) = false := by simp [List.isPrefixOf, Ne.symm h]
      rw [Lib.indexByte, Lib.index, hp, ih]
      simp [h]
theorem splitG (s : ByteArray) (w : World) (hs : s.size < 4294967281) :
    Calls Tryd.prog 14 #[.string s, .string pct, .int .i64 0, .int .i64 (-1)] w fun e w' =>
      e = .returned (.slice (some ⟨w.heap.size, 0, none⟩) (pcsB s).length (pcsB s).length) ∧ w' = w.alloc (.cells ((pcsB s).map Value.string).toArray 9) := by
  have hle := Lib.countB_le pct (by decide) s.size s (Nat.le_refl _)
  have hlen := pcsB_len s
  have c := Any.strings_genSplit_core Tryd.lays221 (by kernel_rfl) s pct 0 (-1) (Lib.countB s pct + 1) w hs (by decide) (Nat.zero_le _)
    (fun x c hx => (Tryd.strings_Index_one x 37 _).mono (fun e w' h => ⟨h.1.trans (by rw [indexByte_one]; rfl), h.2⟩))
    ((Tryd.strings_Count_one s 37 w).mono (fun e w' h => ⟨h.1.trans (by
      have : Lib.countByte s.data.toList 37 = Lib.countB s pct := (Lib.count_one 37 s.data.toList).symm
      rw [this]), h.2⟩))
    (by decide) (by decide) (by rw [if_pos (by decide)]; omega)
  have e2 : Lib.cellsOf (Lib.splitB pct 0 (Lib.countB s pct) s) (Lib.countB s pct + 1) = ((pcsB s).map Value.string).toArray := by rw [← hlen]; exact Lib.cellsOf_full _
  rw [Nat.add_sub_cancel, e2] at c
  rw [hlen]
  have e3 : (Lib.splitB pct 0 (Lib.countB s pct) s).length = Lib.countB s pct + 1 := hlen
  rw [e3] at c
  exact c
theorem cells_sees {w : World} (qs : List ByteArray) : SeesG Value.string (w.alloc (.cells (qs.map Value.string).toArray 9)) (w.heap.size + 1) (.slice (some ⟨w.heap.size, 0, none⟩) qs.length qs.length) qs := by
  refine ⟨_, _, rfl, Nat.le_refl _, fun i hi => ⟨w.heap.size, 0, rfl, by omega, ?_⟩⟩
  have h1 : (w.alloc (.cells (qs.map Value.string).toArray 9)).heap[w.heap.size]? = some (.cells (qs.map Value.string).toArray 9) := by
    show (w.heap.push _)[w.heap.size]? = _
    simp
  rw [Nat.zero_add, World.cell?, h1]
  simp [List.getElem?_eq_getElem hi]
theorem spT (s : ByteArray) (w : World) (hs : s.size < 4294967281) :
    Calls Tryd.prog 9 #[.string s, .string ⟨#[37]⟩] w fun e w' => ∃ v, e = .returned v ∧ SeesG Value.string w' w'.heap.size v (pcsB s) ∧ Below w.heap.size w w' := by
  have HC : Hid (∀ _ : Unit, _) := fun _ => splitG s w hs
  have HS : Hid _ := cells_sees (w := w) (pcsB s)
  have HB : Hid _ := (Below.refl w.heap.size w).alloc (Nat.le_refl _) (.cells ((pcsB s).map Value.string).toArray 9)
  generalize pcsB s = qs at *
  go_enter Tryd.func9, Tryd.ntmps9
  go_wp2_with fail
  refine (HC.out ()).mono ?_
  rintro e w1 ⟨rfl, rfl⟩
  go_wp2
  go_ret
  exact ⟨_, rfl, SeesG.up (f := Value.string) (xs := qs) HS.out (by show w.heap.size + 1 ≤ (w.heap.push _).size; simp), HB.out⟩
theorem sizeS (w : World) : (sizeOf (Tryd.prog.elem 23)).run Tryd.prog w = .ok 1 w := by kernel_rfl
/-- A part of a row. -/
theorem slice_part {α : Type} {f : α → Value} {w : World} {B : Nat} {a : Option Addr} {n cap : Nat} {xs : List α} (t : TypeId) (hu : Tryd.prog.underlying t = some (.slice (Tryd.prog.elem t))) (hs : ∀ w, (sizeOf (Tryd.prog.elem t)).run Tryd.prog w = .ok 1 w)
    (h : SeesG f w B (.slice a n cap) xs) (l : Nat) (hl : 1 ≤ l) (hk : l ≤ xs.length) :
    ∃ a' cap', (Instr.slice t (.slice a n cap) (some (.int .i64 1)) (some (.int .i64 (l : Int))) none).run Tryd.prog w = .ok (.slice a' (l - 1) cap') w ∧ SeesG f w B (.slice a' (l - 1) cap') ((xs.take l).drop 1) := by
  obtain ⟨a0, cap0, e, hc, hx⟩ := h
  injection e with e1 e2 e3
  subst e1 e2 e3
  rw [run_slice_lh w t a xs.length cap hu .i64 .i64 1 l (by omega) (by omega) (by omega), hs]
  simp only [Result.andThen, sliced, Int.toNat_natCast, Int.toNat_one]
  have e4 : ((xs.take l).drop 1).length = l - 1 := by rw [List.length_drop, List.length_take]; omega
  refine ⟨_, _, rfl, ?_⟩
  refine ⟨_, _, by rw [e4], by omega, fun i hi => ?_⟩
  have hi' : 1 + i < xs.length := by omega
  obtain ⟨b, off, e1, e2, e3⟩ := hx (1 + i) hi'
  subst e1
  refine ⟨b, off + 1, ?_, e2, ?_⟩
  · rw [if_neg (by omega)]; simp [addr_add]
  · rw [List.getElem_drop, List.getElem_take, Nat.add_assoc]; exact e3
end Go.Proofs.YtfofionocnbohaaDoor
