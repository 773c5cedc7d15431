import Derived.Test.YtfabgoanammaiaaKeys4
namespace Go.Proofs.Ytfabgoanammaiaa
open Go.ChangeShapes Go.WideShapes Go.ChangeAt Go.RowKit
set_option linter.unusedVariables false

theorem Gr.cell {b c : Value} {w w' : World} (h : Gr b w c w') {n j : Nat} {x : Value} (hc : w.cell? ⟨n, j, none⟩ = some x) (hn : n < w.heap.size) (hne : some n ≠ b.ownBlock) : w'.cell? ⟨n, j, none⟩ = some x := by
  rw [World.cell?_of_block (w := w) (h.far n hn hne)]; exact hc
theorem Gr.ne {b c : Value} {w w' : World} (h : Gr b w c w') {n : Nat} (hn : n < w.heap.size) (hne : some n ≠ b.ownBlock) : some n ≠ c.ownBlock := by
  rcases h.own with e | e
  · rw [e]; exact hne
  · intro e2; have := e n e2.symm; omega
theorem app_two {wr : World} {ops : Array Oper} {rest : List Oper} {o : Oper} {a : Act} {Q : Exit → Act → World → Prop} (hgd : o.guard = none) (s x : Operand)
    (ho : o.op = .call { callee := .builtin .append, args := #[s, x], argTypes := #[47, 47] })
    (B : Nat) (v : Value) (xs : List Int) (c d : Int) (hown : ownB wr B v xs) (hs : a.eval s = v) (g : Nat) (hg : g = wr.heap.size) (hx : a.eval x = .slice (some ⟨g, 0, none⟩) 2 2)
    (hlen : xs.length + 2 ≤ 140737488355328) (hB : B ≤ wr.heap.size)
    (h : ∀ v' w', ownB w' B v' (xs ++ [c, d]) → Below B wr w' → Gr v wr v' w' → wpList Try.prog ops Q rest (a.put o.dst v') w') :
    wpList Try.prog ops Q (o :: rest) a (wr.alloc (.cells #[.int .u8 c, .int .u8 d] 5)) := by
  subst hg
  obtain ⟨i0, hi, hz0, hz1, hz2⟩ := info_parts infoB
  refine wpList_append_lies _ hgd s x 47 ho B 5 i0 (.int .u8 0) 1 1 Try.underlying47 hi hz0 hz1 hz2 rfl (by decide) v xs.length _ hs (World.ownsRow.alloc hown _)
    ⟨wr.heap.size, 0, none⟩ 2 2 [.int .u8 c, .int .u8 d] hx rfl (World.news_of_block (cs := #[.int .u8 c, .int .u8 d]) (heap_alloc_new wr _)) (by intro u hu; simp at hu; rcases hu with rfl | rfl <;> rfl) (by decide) (by unfold maxLen; omega) (by omega) (by simp; omega) (wr.heap.size + 1) (by simp) ?_
  intro g' cap w' hown' hgrow hlies _
  have hsz := lt_alloc wr (.cells #[.int .u8 c, .int .u8 d] 5)
  refine h _ w' ?_ ?_ ?_
  · have : (xs ++ [c, d]).length = xs.length + 2 := by simp
    unfold ownB; rw [this, List.map_append]; exact hown'
  · exact ((Below.refl _ _).alloc hB _).grown hgrow (by omega) (fun k hk => (World.ownsRow.lt hown k hk).1)
  · refine ⟨fun k hk hn => ?_, ?_, ?_⟩
    · rw [hgrow.block k (by omega) hn]; exact Below.heap_alloc wr _ k hk
    · rcases hlies with e | e
      · exact .inl e.symm
      · exact .inr fun k hk => by simp [Value.ownBlock] at hk; omega
    · have := hgrow.size; omega
/-- A text's bytes in a key. -/
def escL : List UInt8 → List Int
  | [] => []
  | x :: r => if x = 0 then 0 :: 255 :: escL r else (x.toNat : Int) :: escL r
theorem escL_len : ∀ l, (escL l).length ≤ 2 * l.length
  | [] => by simp [escL]
  | x :: r => by have := escL_len r; unfold escL; split <;> simp <;> omega
theorem escL_append : ∀ l m, escL (l ++ m) = escL l ++ escL m
  | [], m => rfl
  | x :: r, m => by
    rw [List.cons_append, escL, escL, escL_append r m]
    split <;> simp
theorem esc_take (t : ByteArray) (k : Nat) (h : k < t.size) : escL (t.data.toList.take (k + 1)) = escL (t.data.toList.take k) ++ escL [t[k]] := by
  have : t.data.toList.take (k + 1) = t.data.toList.take k ++ [t[k]] := by
    have hl : k < t.data.toList.length := by simpa using h
    rw [List.take_succ_eq_append_getElem hl]
    rfl
  rw [this, escL_append]
theorem esc_take_len (t : ByteArray) (k : Nat) (hs : t.size ≤ 4096) : (escL (t.data.toList.take k)).length ≤ 8192 := by
  have h1 := escL_len (t.data.toList.take k)
  have h2 : (t.data.toList.take k).length ≤ t.data.toList.length := by rw [List.length_take]; omega
  have h3 : t.data.toList.length = t.size := by rw [Array.length_toList]; rfl
  omega
set_option maxRecDepth 100000 in
set_option maxHeartbeats 1600000 in
theorem key3 (b : Value) (xs : List Int) (v : Int × Int × ByteArray) (B : Nat) (w : World) (hB : B ≤ w.heap.size) (hown : ownB w B b xs) (hx : xs.length ≤ 140737488340000) (hs : v.2.2.size ≤ 4096) :
    Calls Try.prog 59 #[b, .agg #[.int .i64 v.1, .int .i64 v.2.1, .string v.2.2]] w fun e w' => ∃ b', e = .returned b' ∧ ownB w' B b' (xs ++ (80 :: escL v.2.2.data.toList ++ [0, 1])) ∧ Below B w w' ∧ Gr b w b' w' := by
  obtain ⟨a, i, t⟩ := v
  have HO : Hid (ownB w B b xs) := hown
  have hne : (some w.heap.size : Option Nat) ≠ b.ownBlock := fun h => by have := World.ownsRow.lt hown _ h.symm; omega
  simp only at hs ⊢
  clear hown
  have HB0 : Hid (Below B w (w.alloc (.cells #[.int .i64 a, .int .i64 i, .string t] 45))) := (Below.refl _ _).alloc hB _
  have HG0 : Hid (Gr b w b (w.alloc (.cells #[.int .i64 a, .int .i64 i, .string t] 45))) := Gr.alloc _ _ _
  have HC0 : Hid ((w.alloc (.cells #[.int .i64 a, .int .i64 i, .string t] 45)).cell? ⟨w.heap.size, 2, none⟩ = some (.string t)) := by show _ = _; simp [go_sem]
  have HS0 : Hid (w.heap.size < (w.alloc (.cells #[.int .i64 a, .int .i64 i, .string t] 45)).heap.size) := lt_alloc _ _
  go_enter Try.func59, Try.ntmps59
  go_wp2_with (at_builtin; refine app_oneL (by rfl) _ _ (by rfl) B _ xs _ (HO.out.alloc _) (by rfl) (w.heap.size + 1) (by simp) (by rfl) (by omega) (by simp; omega) ?_; intro v' w1 hown1 hbel1 hgr1; have hc1 := hgr1.cell HC0.out HS0.out hne; have HO1 : Hid (ownB w1 B v' (xs ++ [80])) := hown1; have HB1 : Hid _ := hbel1; have HG1 : Hid (Gr b (w.alloc (.cells #[.int .i64 a, .int .i64 i, .string t] 45)) v' w1) := hgr1; clear hown1 hbel1 hgr1)
  generalize hW : w.alloc (.cells #[.int .i64 a, .int .i64 i, .string t] 45) = W at *
  generalize w.heap.size = n at *
  go_loopw [0, 12] (fun c i wr => ∃ k : Nat, k ≤ t.size ∧ i = .int .i64 k ∧ ownB wr B c (xs ++ [80] ++ escL (t.data.toList.take k)) ∧ Below B W wr ∧ Gr b W c wr) (fun _ i _ => t.size - (intOf i).toNat)
  case atStart => exact ⟨0, by omega, rfl, by simpa [escL] using HO1.out, HB1.out, HG1.out⟩
  case round =>
    obtain ⟨k, hk, rfl, hown2, hbel2, hgr2⟩ := hrel
    have hcr := hgr2.cell HC0.out HS0.out hne
    have HO2 : Hid (ownB wr B _ (xs ++ [80] ++ escL (t.data.toList.take k))) := hown2
    have HB2 : Hid (Below B W wr) := hbel2
    have HG2 : Hid (Gr b W _ wr) := hgr2
    have hBr : B ≤ wr.heap.size := by have := HS0.out; have := hbel2.size; omega
    have hlen : (xs ++ [80] ++ escL (t.data.toList.take k)).length ≤ 140737488354000 := by have := esc_take_len t k hs; rw [List.length_append, List.length_append, List.length_singleton]; omega
    clear hown2 hbel2 hgr2 hc1 HO1 HB1 HG1
    by_cases hlt : k < t.size
    · have hk0 : (0 : Int) ≤ (k : Int) := by omega
      have hk1 : (k : Int) < (t.size : Int) := by omega
      have HT := esc_take t k hlt
      by_cases hz : t[k] = 0
      · have hz2 : (t[k].toNat : Int) = 0 := by rw [hz]; rfl
        have HT2 : Hid (escL (t.data.toList.take (k + 1)) = escL (t.data.toList.take k) ++ [0] ++ [255]) := by show _ = _; rw [HT, hz]; simp [escL]
        clear HT
        go_wp2_with (at_builtin; first | (refine app_oneL (by rfl) _ _ (by rfl) B _ _ _ HO2.out (by rfl) _ (by rfl) (by rfl) (by omega) hBr ?_; intro v3 w3 hown3 hbel3 hgr3; have hc3 := (HG2.out.trans hgr3).cell HC0.out HS0.out hne; have HO3 : Hid (ownB w3 B v3 (_ ++ _)) := hown3; have HB3 : Hid (Below B wr w3) := hbel3; have HG3 : Hid (Gr _ wr v3 w3) := hgr3; have hB3 : B ≤ w3.heap.size := Nat.le_trans hBr hbel3.size; clear hown3 hbel3 hgr3) | (refine app_oneL (by rfl) _ _ (by rfl) B _ _ _ HO3.out (by rfl) _ (by rfl) (by rfl) (by rw [List.length_append, List.length_singleton]; omega) hB3 ?_; intro v4 w4 hown4 hbel4 hgr4; have hc4 := (HG2.out.trans (HG3.out.trans hgr4)).cell HC0.out HS0.out hne; have HO4 : Hid (ownB w4 B v4 (_ ++ _)) := hown4; have HB4 : Hid (Below B w3 w4) := hbel4; have HG4 : Hid (Gr v3 w3 v4 w4) := hgr4; clear hown4 hbel4 hgr4))
        go_roundw
        case rel =>
          refine ⟨k + 1, by omega, by go_num, ?_, HB2.out.trans (HB3.out.trans HB4.out), HG2.out.trans (HG3.out.trans HG4.out)⟩
          rw [HT2.out, ← List.append_assoc, ← List.append_assoc]
          exact HO4.out
        case measure => simp [intOf]; omega
      · have hz2 : ¬ (t[k].toNat : Int) = 0 := fun h => hz (UInt8.toNat_inj.1 (by have e : UInt8.toNat 0 = 0 := rfl; omega))
        have HT2 : Hid (escL (t.data.toList.take (k + 1)) = escL (t.data.toList.take k) ++ [(t[k].toNat : Int)]) := by show _ = _; rw [HT]; simp [escL, hz]
        clear HT
        go_wp2_with (at_builtin; first | (refine app_oneL (by rfl) _ _ (by rfl) B _ _ _ HO2.out (by rfl) _ (by rfl) (by rfl) (by omega) hBr ?_; intro v3 w3 hown3 hbel3 hgr3; have hc3 := (HG2.out.trans hgr3).cell HC0.out HS0.out hne; have HO3 : Hid (ownB w3 B v3 (_ ++ _)) := hown3; have HB3 : Hid (Below B wr w3) := hbel3; have HG3 : Hid (Gr _ wr v3 w3) := hgr3; have hB3 : B ≤ w3.heap.size := Nat.le_trans hBr hbel3.size; clear hown3 hbel3 hgr3))
        go_roundw
        case rel =>
          refine ⟨k + 1, by omega, by go_num, ?_, HB2.out.trans HB3.out, HG2.out.trans HG3.out⟩
          rw [HT2.out, ← List.append_assoc]
          exact HO3.out
        case measure => simp [intOf]; omega
    · have hk1 : ¬ (k : Int) < (t.size : Int) := by omega
      have hke : t.data.toList.take k = t.data.toList := List.take_of_length_le (by rw [Array.length_toList]; show t.size ≤ k; omega)
      go_wp2_with (at_builtin; refine app_two (by rfl) _ _ (by rfl) B _ _ _ _ HO2.out (by rfl) _ (by rfl) (by rfl) (by omega) hBr ?_; intro v3 w3 hown3 hbel3 hgr3; have HO3 : Hid (ownB w3 B v3 (_ ++ _)) := hown3; have HB3 : Hid (Below B wr w3) := hbel3; have HG3 : Hid (Gr _ wr v3 w3) := hgr3; clear hown3 hbel3 hgr3)
      go_ret
      refine ⟨_, rfl, ?_, HB0.out.trans (HB2.out.trans HB3.out), HG0.out.trans (HG2.out.trans HG3.out)⟩
      rw [hke] at HO3
      have h9 := HO3.out
      rw [List.append_assoc, List.append_assoc] at h9
      exact h9
end Go.Proofs.Ytfabgoanammaiaa
