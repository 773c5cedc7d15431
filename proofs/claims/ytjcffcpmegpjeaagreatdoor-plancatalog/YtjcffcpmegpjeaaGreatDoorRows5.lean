import Derived.Test.YtjcffcpmegpjeaaGreatDoorRows2
import Derived.Test.YtjcffcpmegpjeaaGreatDoorNumbers
import Derived.Lib.AppendStr
import Derived.Deep.DrawnRows
namespace Go.Proofs.YtjcffcpmegpjeaaGreatDoor
open Go.ChangeShapes Go.WideShapes Go.ChangeAt Go.RowKit
set_option linter.unusedVariables false
set_option maxRecDepth 100000

set_option maxRecDepth 100000 in
theorem laySG (b : Value) (xs : List Int) (v : Int) (B : Nat) (w : World) (h0 : -9223372036854775808 ≤ v) (h1 : v ≤ 9223372036854775807) (hB : B ≤ w.heap.size) (hown : ownB w B b xs) (hx : xs.length ≤ 140737488351232) :
    Calls Tryz.prog 152 #[b, .int .i64 v] w fun e w' => ∃ b', e = .returned b' ∧ ownB w' B b' (xs ++ uvB (svV v)) ∧ Below B w w' ∧ Gr b w b' w' := by
  go_enter Tryz.func152, Tryz.ntmps152
  go_wp2_with fail
  rw [IntKind.wrap_u64, IntKind.wrap_u64, IntKind.wrap_u64, xor_sign v h0 h1]
  have hb := svV_bounds v h0 h1
  refine (layUG _ xs _ B w hb.1 hb.2 hB hown hx).mono ?_
  rintro e w1 ⟨b', rfl, hown, hbel, hgr⟩
  have HB : Hid _ := hbel
  have HO : Hid _ := hown
  have HG : Hid (Gr b w b' w1) := hgr
  clear hown hbel hgr
  go_wp2
  go_ret
  exact ⟨_, rfl, HO.out, HB.out, HG.out⟩
set_option maxRecDepth 100000 in
theorem row2 (b : Value) (xs : List Int) (v : Int × Int × ByteArray) (B : Nat) (w : World) (hB : B ≤ w.heap.size) (hown : ownB w B b xs) (hx : xs.length ≤ 140737488351232) (h0 : -9223372036854775808 ≤ v.2.1) (h1 : v.2.1 ≤ 9223372036854775807) :
    Calls Tryz.prog 132 #[b, .agg #[.int .i64 v.1, .int .i64 v.2.1, .string v.2.2]] w fun e w' => ∃ b', e = .returned b' ∧ ownB w' B b' (xs ++ uvB (svV v.2.1)) ∧ Below B w w' ∧ Gr b w b' w' := by
  obtain ⟨a, i, t⟩ := v
  have HO : Hid (ownB w B b xs) := hown
  have HB : Hid (Below B w (w.alloc (.cells #[.int .i64 a, .int .i64 i, .string t] 59))) := (Below.refl _ _).alloc hB _
  simp only at h0 h1 ⊢
  clear hown
  go_enter Tryz.func132, Tryz.ntmps132
  go_wp2_with fail
  refine (laySG _ xs i B _ h0 h1 (Nat.le_trans hB (Nat.le_of_lt (lt_alloc _ _))) (HO.out.alloc _) hx).mono ?_
  rintro e w1 ⟨b', rfl, hown1, hbel1, hgr1⟩
  have HO1 : Hid (ownB w1 B b' (xs ++ uvB (svV i))) := hown1
  have HB1 : Hid _ := hbel1
  have HG1 : Hid (Gr b w b' w1) := (Gr.alloc b w _).trans hgr1
  clear hown1 hbel1 hgr1
  go_wp2
  go_ret
  exact ⟨_, rfl, HO1.out, HB.out.trans HB1.out, HG1.out⟩
end Go.Proofs.YtjcffcpmegpjeaaGreatDoor

namespace Go.Proofs.YtjcffcpmegpjeaaGreatDoor
open Go.ChangeShapes Go.WideShapes Go.ChangeAt Go.RowKit
set_option linter.unusedVariables false
set_option maxRecDepth 100000

/-- A text's bytes as numbers. -/
def txt (t : ByteArray) : List Int := t.data.toList.map fun x => (x.toNat : Int)
theorem txt_len (t : ByteArray) : (txt t).length = t.size := by unfold txt; rw [List.length_map, Array.length_toList]; rfl
theorem step_app_str {W : World} {ops : Array Oper} {o : Oper} {a : Act} {K : Act → World → Prop} {Q : Exit → Act → World → Prop} {E : Prop} (hgd : o.guard = none) (s x : Operand)
    (ho : o.op = .call { callee := .builtin .append, args := #[s, x], argTypes := #[72, 9] })
    (B : Nat) (v : Value) (xs : List Int) (t : ByteArray) (hown : ownB W B v xs) (hs : a.eval s = v) (hx : a.eval x = .string t)
    (hlen : xs.length + t.size ≤ 140737488355328) (hB : B ≤ W.heap.size)
    (h : ∀ v' w', ownB w' B v' (xs ++ txt t) → W.grownBy w' v.ownBlock → K (a.put o.dst v') w') :
    if Region.wanted o (yielded ops a.tmps) = true then Oper.wp Tryz.prog o a W K Q else E := by
  obtain ⟨i0, hi, hz0, hz1, hz2⟩ := info_parts infoB
  have hw : Region.wanted o (yielded ops a.tmps) = true := by simp [Region.wanted, hgd]
  rw [if_pos hw]
  obtain ⟨v', w', hr, h2, h3, h4⟩ := Lib.run_append_own_string (P := Tryz.prog) W B 72 9 o.type 5 i0 Tryz.underlying72 Tryz.underlying9 hi hz0 hz1 hz2 v xs.length _ hown t (by unfold maxLen; omega) (by omega) hB
  unfold Oper.wp execOp
  simp only [ho, resolve, invoke, builtin, Sem.run_bind, Sem.run_pure, Result.andThen_ok, List.map_toArray, List.map_cons, List.map_nil, hs, hx, hr]
  refine h v' w' ?_ h3
  unfold ownB
  rw [List.length_append, txt_len, List.map_append]
  have e : (txt t).map (Value.int .u8) = Lib.strCells t := by unfold txt Lib.strCells; rw [List.map_map]; rfl
  rw [e]
  exact h2
theorem uvB_len (v : Int) : (uvB v).length ≤ 10 := (uvF_len 9 v).1
theorem len_str {xs : List Int} {t : ByteArray} (h : xs.length ≤ 140737488340000) (hs : t.size ≤ 4096) : (xs ++ uvB t.size).length + t.size ≤ 140737488355328 := by
  have := uvB_len t.size
  rw [List.length_append]; omega
theorem keepD {W w1 : World} {b b1 : Value} {n : Nat} {x : Value} {j : Nat} (hc : W.cell? ⟨n, j, none⟩ = some x) (hn : n < W.heap.size) (hne : some n ≠ b.ownBlock) (hg : Gr b W.drew b1 w1) : w1.cell? ⟨n, j, none⟩ = some x := Gr.cell (w := W.drew) hg hc hn hne
theorem keepE {W w1 w2 : World} {b b1 : Value} {n : Nat} {x : Value} {j : Nat} (hc : W.cell? ⟨n, j, none⟩ = some x) (hn : n < W.heap.size) (hne : some n ≠ b.ownBlock) (hg : Gr b W.drew b1 w1) (hg2 : w1.grownBy w2 b1.ownBlock) : w2.cell? ⟨n, j, none⟩ = some x := by
  rw [hg2.cell_far ⟨n, j, none⟩ (Nat.lt_of_lt_of_le hn hg.size) (Gr.ne (w := W.drew) hg hn hne)]
  exact keepD hc hn hne hg
attribute [local go_sem ↓] Go.wp_at_zero Go.wp_at_succ
set_option maxRecDepth 100000 in
set_option maxHeartbeats 800000 in
theorem row3 (b : Value) (xs : List Int) (v : Int × Int × ByteArray) (B : Nat) (w : World) (hB : B ≤ w.heap.size) (hown : ownB w B b xs) (hx : xs.length ≤ 140737488340000) (hs : v.2.2.size ≤ 4096) :
    Calls Tryz.prog 137 #[b, .agg #[.int .i64 v.1, .int .i64 v.2.1, .string v.2.2]] w fun e w' => ∃ b', e = .returned b' ∧ ownB w' B b' (xs ++ (uvB v.2.2.size ++ txt v.2.2)) ∧ Below B w w' ∧ ∀ k, k < w.heap.size → some k ≠ b.ownBlock → w'.heap[k]? = w.heap[k]? := by
  obtain ⟨a, i, t⟩ := v
  have HO : Hid (ownB w B b xs) := hown
  have HB : Hid (Below B w (w.alloc (.cells #[.int .i64 a, .int .i64 i, .string t] 59))) := (Below.refl _ _).alloc hB _
  simp only at hs ⊢
  clear hown
  have hne : (some w.heap.size : Option Nat) ≠ b.ownBlock := fun h => by have := World.ownsRow.lt HO.out _ h.symm; omega
  have HL : Hid (∀ k, b.ownBlock = some k → B ≤ k) := fun k hk => (World.ownsRow.lt HO.out k hk).1
  go_enter Tryz.func137, Tryz.ntmps137
  go_wp2_with fail
  have hc : (w.alloc (.cells #[.int .i64 a, .int .i64 i, .string t] 59)).cell? ⟨w.heap.size, 2, none⟩ = some (.string t) := by simp [go_sem]
  have hnW := lt_alloc w (.cells #[.int .i64 a, .int .i64 i, .string t] 59)
  have HO2 : Hid (ownB (w.alloc (.cells #[.int .i64 a, .int .i64 i, .string t] 59)) B b xs) := HO.out.alloc _
  have HGW : Hid (Gr b w b (w.alloc (.cells #[.int .i64 a, .int .i64 i, .string t] 59))) := Gr.alloc _ _ _
  generalize w.alloc (.cells #[.int .i64 a, .int .i64 i, .string t] 59) = W at *
  generalize hn : w.heap.size = n at *
  have hBW : B ≤ W.heap.size := by omega
  have ht0 : (0 : Int) ≤ (t.size : Int) := by omega
  have ht1 : (t.size : Int) ≤ 18446744073709551615 := by omega
  have hx2 : xs.length ≤ 140737488351232 := by omega
  have HWT : Hid (IntKind.u64.wrap (t.size : Int) = (t.size : Int)) := by show (t.size : Int) % 18446744073709551616 = _; omega
  go_region_held3 (fun W' => W'.cell? ⟨n, 2, none⟩ = some (.string t)) (first | go_keep | exact keepE hc hnW hne hgr1 hgrow2 | exact keepD hc hnW hne hgr1) (first | (go_at_call 89; rw [HWT.out]; refine (layUG b xs (t.size : Int) B W.drew ht0 ht1 hBW HO2.out.drew hx2).mono ?_; rintro e w1 ⟨b1, rfl, hown1, hbel1, hgr1⟩) | ((refine step_app_str (by rfl) _ _ (by rfl) B b1 _ t hown1 (by rfl) (by rfl) (len_str hx hs) (Nat.le_trans hBW hbel1.size) ?_; intro v2 w2 hown2 hgrow2)))
  have HO3 : Hid (ownB w2 B v2 (xs ++ uvB t.size ++ txt t)) := hown2
  have HB3 : Hid (Below B W w2) := ((Below.refl B W).drew.trans hbel1).grown hgrow2 (Nat.le_trans hBW hbel1.size) (fun k hk => (World.ownsRow.lt hown1 k hk).1)
  have HF : Hid (∀ k, k < n → some k ≠ b.ownBlock → w2.heap[k]? = w.heap[k]?) := fun k hk hne2 => by
    have g2 := HGW.out.trans (Gr.trans (w1 := W.drew) ⟨fun _ _ _ => rfl, .inl rfl, Nat.le_refl _⟩ hgr1)
    have hk2 : k < w.heap.size := by omega
    have hkz := g2.size
    rw [hgrow2.block k (by omega) (g2.ne hk2 hne2), g2.far k hk2 hne2]
  clear hown1 hbel1 hgr1 hown2 hgrow2
  go_wp2
  go_ret
  refine ⟨_, rfl, ?_, HB.out.trans HB3.out, by rw [hn]; exact HF.out⟩
  rw [← List.append_assoc]
  exact HO3.out
end Go.Proofs.YtjcffcpmegpjeaaGreatDoor

namespace Go.Proofs.YtjcffcpmegpjeaaGreatDoor
open Go.ChangeShapes Go.WideShapes Go.ChangeAt Go.RowKit
set_option linter.unusedVariables false
set_option maxRecDepth 100000

/-- A byte of four kinds: the kinds from the place m on. -/
def kind4 (vs : List (Int × Int × ByteArray)) (m : Nat) : Int := (vs[m]?.map (·.1)).getD 0
/-- The byte j of the kinds, those ahead of k alone. -/
def kbyte (vs : List (Int × Int × ByteArray)) (k j : Nat) : Int :=
  kind4 (vs.take k) (4 * j) + 4 * kind4 (vs.take k) (4 * j + 1) + 16 * kind4 (vs.take k) (4 * j + 2) + 64 * kind4 (vs.take k) (4 * j + 3)
def kbytes (vs : List (Int × Int × ByteArray)) (k nb : Nat) : List Int := (List.range nb).map (kbyte vs k)
theorem kind4_take (vs : List (Int × Int × ByteArray)) (k m : Nat) : kind4 (vs.take k) m = if m < k then kind4 vs m else 0 := by
  unfold kind4
  rw [List.getElem?_take]
  split <;> rfl
theorem kbytes_len (vs : List (Int × Int × ByteArray)) (k nb : Nat) : (kbytes vs k nb).length = nb := by simp [kbytes]
theorem kbytes_zero (vs : List (Int × Int × ByteArray)) (nb : Nat) : kbytes vs 0 nb = List.replicate nb 0 := by
  unfold kbytes
  have : kbyte vs 0 = fun _ => 0 := by
    funext j
    unfold kbyte
    simp only [kind4_take, Nat.not_lt_zero, if_false]
    rfl
  rw [this, List.map_const', List.length_range]
theorem kbyte_same (vs : List (Int × Int × ByteArray)) (k j : Nat) (h : j ≠ k / 4) : kbyte vs (k + 1) j = kbyte vs k j := by
  unfold kbyte
  simp only [kind4_take]
  have e : ∀ m, m < 4 → ((4 * j + m < k + 1) ↔ (4 * j + m < k)) := by intro m hm; omega
  have e0 := e 0 (by omega)
  have e1 := e 1 (by omega)
  have e2 := e 2 (by omega)
  have e3 := e 3 (by omega)
  simp only [Nat.add_zero] at e0
  simp only [e0, e1, e2, e3]
theorem kbyte_next (vs : List (Int × Int × ByteArray)) (k : Nat) : kbyte vs (k + 1) (k / 4) = kbyte vs k (k / 4) + 4 ^ (k % 4) * kind4 vs k := by
  unfold kbyte
  simp only [kind4_take]
  have hk : k = 4 * (k / 4) + k % 4 := by omega
  generalize k / 4 = j at *
  have hm : k % 4 = 0 ∨ k % 4 = 1 ∨ k % 4 = 2 ∨ k % 4 = 3 := by omega
  rcases hm with e | e | e | e <;> (rw [e] at hk ⊢; subst hk; simp; try omega)
theorem kbytes_next (vs : List (Int × Int × ByteArray)) (k nb : Nat) (h : k / 4 < nb) : (kbytes vs k nb).set (k / 4) (kbyte vs k (k / 4) + 4 ^ (k % 4) * kind4 vs k) = kbytes vs (k + 1) nb := by
  apply List.ext_getElem
  · simp [kbytes]
  · intro j h1 h2
    rw [List.getElem_set]
    have hj : j < nb := by simpa [kbytes] using h2
    split
    · rename_i e; subst e; simp [kbytes, kbyte_next]
    · rename_i e; simp [kbytes, kbyte_same vs k j (fun x => e x.symm)]
end Go.Proofs.YtjcffcpmegpjeaaGreatDoor
