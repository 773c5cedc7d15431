import Derived.Test.YtlidkdnfibfnfaaGreatDoorLxS16
import Derived.Maps.AppendAt
namespace Go.Proofs.YtlidkdnfibfnfaaGreatDoor
set_option linter.unusedSimpArgs false
open Go.ChangeShapes Go.WideShapes Go.ChangeAt Go.RowKit
set_option linter.unusedVariables false
set_option maxRecDepth 100000
theorem cellsT_cons (t : TK) (ts : List TK) : cellsT (t :: ts) = cellT t ++ cellsT ts := rfl
theorem cellsT_get : ∀ (ts : List TK) (i : Nat) (hi : i < ts.length), (cellsT ts)[i * 4]? = some (.int .i64 ts[i].kind) ∧ (cellsT ts)[i * 4 + 1]? = some (.string ts[i].text) ∧ (cellsT ts)[i * 4 + 2]? = some (.int .i64 ts[i].num) ∧ (cellsT ts)[i * 4 + 3]? = some (.int .i64 ts[i].at_)
  | t :: ts, 0, _ => ⟨rfl, rfl, rfl, rfl⟩
  | t :: ts, i + 1, hi => by
    obtain ⟨h0, h1, h2, h3⟩ := cellsT_get ts i (by simp at hi; omega)
    rw [cellsT_cons, show (i + 1) * 4 = i * 4 + 4 from by omega]
    refine ⟨?_, ?_, ?_, ?_⟩
    · rw [List.getElem?_append_right (by show 4 ≤ _; omega)]; exact h0
    · rw [List.getElem?_append_right (by show 4 ≤ _; omega), show i * 4 + 4 + 1 - (cellT t).length = i * 4 + 1 from by show i * 4 + 4 + 1 - 4 = _; omega]; exact h1
    · rw [List.getElem?_append_right (by show 4 ≤ _; omega), show i * 4 + 4 + 2 - (cellT t).length = i * 4 + 2 from by show i * 4 + 4 + 2 - 4 = _; omega]; exact h2
    · rw [List.getElem?_append_right (by show 4 ≤ _; omega), show i * 4 + 4 + 3 - (cellT t).length = i * 4 + 3 from by show i * 4 + 4 + 3 - 4 = _; omega]; exact h3
theorem ownT.cell {w : World} {B n cap : Nat} {a : Option Addr} {ts : List TK} (h : ownT w B (.slice a n cap) ts) (i : Nat) (hi : i < ts.length) : ∃ g, a = some ⟨g, 0, none⟩ ∧ g < w.heap.size ∧ w.cell? ⟨g, i * 4, none⟩ = some (.int .i64 ts[i].kind) ∧ w.cell? ⟨g, i * 4 + 1, none⟩ = some (.string ts[i].text) ∧ w.cell? ⟨g, i * 4 + 2, none⟩ = some (.int .i64 ts[i].num) ∧ w.cell? ⟨g, i * 4 + 3, none⟩ = some (.int .i64 ts[i].at_) := by
  have hh := h
  rcases h.2 with ⟨_, hn⟩ | ⟨g, cap', cur, e, hb, hg, _⟩
  · omega
  · injection e with e1 e2 e3
    subst e1 e2 e3
    obtain ⟨h0, h1, h2, h3⟩ := cellsT_get ts i hi
    unfold ownT at hh
    refine ⟨g, rfl, (Array.getElem?_eq_some_iff.1 hg).1, ?_, ?_, ?_, ?_⟩
    · rw [World.ownsRow.cellAt hh _ (by omega)]; exact h0
    · rw [World.ownsRow.cellAt hh _ (by omega)]; exact h1
    · rw [World.ownsRow.cellAt hh _ (by omega)]; exact h2
    · rw [World.ownsRow.cellAt hh _ (by omega)]; exact h3
set_option maxHeartbeats 4000000 in
theorem sameTkT (va vb : Value) (ts : List TK) (B C : Nat) (w : World) (ha : ownT w B va ts) (hb : ownT w C vb ts) (hl : ts.length ≤ 65537) :
    Calls Tryz.prog 6 #[va, vb] w fun e w' => e = .returned (.bool true) ∧ Below w.heap.size w w' := by
  obtain ⟨aa, ac, rfl⟩ := ha.form
  obtain ⟨ba, bc, rfl⟩ := hb.form
  have HA : Hid (ownT w B (.slice aa ts.length ac) ts) := ha
  have HB : Hid (ownT w C (.slice ba ts.length bc) ts) := hb
  clear ha hb
  go_enter Tryz.func6, Tryz.ntmps6
  go_wp2
  go_loopw [5] (fun x wr => ∃ k : Nat, k ≤ ts.length ∧ x = .int .i64 (k : Int) ∧ Below w.heap.size w wr) (fun x _ => ts.length - (intOf x).toNat)
  case atStart => exact ⟨0, by omega, rfl, Below.refl _ _⟩
  case round =>
    obtain ⟨k, hk, rfl, hbw⟩ := hrel
    by_cases hkl : k < ts.length
    · have hki : (k : Int) < (ts.length : Int) := by omega
      obtain ⟨b1, rfl, l1, x0, x1, x2, x3⟩ := HA.out.cell k hkl
      obtain ⟨b2, rfl, l2, y0, y1, y2, y3⟩ := HB.out.cell k hkl
      rw [← hbw.cell (p := ⟨b1, k * 4, none⟩) l1] at x0
      rw [← hbw.cell (p := ⟨b1, k * 4 + 1, none⟩) l1] at x1
      rw [← hbw.cell (p := ⟨b1, k * 4 + 2, none⟩) l1] at x2
      rw [← hbw.cell (p := ⟨b1, k * 4 + 3, none⟩) l1] at x3
      rw [← hbw.cell (p := ⟨b2, k * 4, none⟩) l2] at y0
      rw [← hbw.cell (p := ⟨b2, k * 4 + 1, none⟩) l2] at y1
      rw [← hbw.cell (p := ⟨b2, k * 4 + 2, none⟩) l2] at y2
      rw [← hbw.cell (p := ⟨b2, k * 4 + 3, none⟩) l2] at y3
      have HW : Hid (Below w.heap.size w wr) := hbw
      clear hbw
      generalize ts[k] = t at *
      obtain ⟨tk, tt, tn, ta⟩ := t
      dsimp only at *
      go_wp2_with fail
      (refine wp_region_held_drew (S := (fun w' => w'.cell? ⟨b1, k * 4, none⟩ = some (.int .i64 tk) ∧ w'.cell? ⟨b1, k * 4 + 1, none⟩ = some (.string tt) ∧ w'.cell? ⟨b1, k * 4 + 2, none⟩ = some (.int .i64 tn) ∧ w'.cell? ⟨b1, k * 4 + 3, none⟩ = some (.int .i64 ta) ∧ w'.cell? ⟨b2, k * 4, none⟩ = some (.int .i64 tk) ∧ w'.cell? ⟨b2, k * 4 + 1, none⟩ = some (.string tt) ∧ w'.cell? ⟨b2, k * 4 + 2, none⟩ = some (.int .i64 tn) ∧ w'.cell? ⟨b2, k * 4 + 3, none⟩ = some (.int .i64 ta))) (by kernel_rfl) ⟨x0, x1, x2, x3, y0, y1, y2, y3⟩ (fun hHeld => ?_); simp only [List.size_toArray, List.length_cons, List.length_nil, Nat.reduceAdd, Array.replicate_succ, Array.replicate_zero, List.push_toArray, List.append_toArray, List.nil_append, List.cons_append])
      (refine tk0 (v := ?_) (by kernel_rfl) (by kernel_rfl) (by kernel_rfl) (fun _ _ _ h => h) (Or.inl ⟨by rfl, ?_⟩) (by assumption) ?_; rotate_left; (focus (intro w hSw; (try dsimp only at hSw); go_simp; (try first | (rw [dif_pos (by omega)]; simp only [Result.andThen_ok]) | rw [if_pos (by omega)]); (try with_reducible rfl); done)); try simp only [Act.put, List.setIfInBounds_toArray, List.set_cons_zero, List.set_cons_succ])
      (refine tk1 (v := ?_) (by kernel_rfl) (by kernel_rfl) (by kernel_rfl) (fun _ _ _ h => h) (Or.inl ⟨by rfl, ?_⟩) (by assumption) ?_; rotate_left; (focus (intro w hSw; (try dsimp only at hSw); go_simp; (try first | (rw [dif_pos (by omega)]; simp only [Result.andThen_ok]) | rw [if_pos (by omega)]); (try with_reducible rfl); done)); try simp only [Act.put, List.setIfInBounds_toArray, List.set_cons_zero, List.set_cons_succ])
      (refine tk2 (v := ?_) (by kernel_rfl) (by kernel_rfl) (by kernel_rfl) (fun _ _ _ h => h) (Or.inl ⟨by rfl, ?_⟩) (by assumption) ?_; rotate_left; (focus (intro w hSw; (try dsimp only at hSw); go_simp; (try first | (rw [dif_pos (by omega)]; simp only [Result.andThen_ok]) | rw [if_pos (by omega)]); (try with_reducible rfl); done)); try simp only [Act.put, List.setIfInBounds_toArray, List.set_cons_zero, List.set_cons_succ])
      (refine tk3 (v := ?_) (by kernel_rfl) (by kernel_rfl) (by kernel_rfl) (fun _ _ _ h => h) (Or.inl ⟨by rfl, ?_⟩) (by assumption) ?_; rotate_left; (focus (intro w hSw; (try dsimp only at hSw); go_simp; (try first | (rw [dif_pos (by omega)]; simp only [Result.andThen_ok]) | rw [if_pos (by omega)]); (try with_reducible rfl); done)); try simp only [Act.put, List.setIfInBounds_toArray, List.set_cons_zero, List.set_cons_succ])
      (refine tk4 (v := ?_) (by kernel_rfl) (by kernel_rfl) (by kernel_rfl) (fun _ _ _ h => h) (Or.inl ⟨by rfl, ?_⟩) (by assumption) ?_; rotate_left; (focus (intro w hSw; (try dsimp only at hSw); go_simp; (try first | (rw [dif_pos (by omega)]; simp only [Result.andThen_ok]) | rw [if_pos (by omega)]); (try with_reducible rfl); done)); try simp only [Act.put, List.setIfInBounds_toArray, List.set_cons_zero, List.set_cons_succ])
      (refine tk5 (v := ?_) (by kernel_rfl) (by kernel_rfl) (by kernel_rfl) (fun _ _ _ h => h) (Or.inl ⟨by rfl, ?_⟩) (by assumption) ?_; rotate_left; (focus (intro w hSw; (try dsimp only at hSw); go_simp; (try first | (rw [dif_pos (by omega)]; simp only [Result.andThen_ok]) | rw [if_pos (by omega)]); (try with_reducible rfl); done)); try simp only [Act.put, List.setIfInBounds_toArray, List.set_cons_zero, List.set_cons_succ])
      (refine tk6 (v := ?_) (by kernel_rfl) (by kernel_rfl) (by kernel_rfl) (fun _ _ _ h => h) (Or.inl ⟨by rfl, ?_⟩) (by assumption) ?_; rotate_left; (focus (intro w hSw; (try dsimp only at hSw); go_simp; (try first | (rw [dif_pos (by omega)]; simp only [Result.andThen_ok]) | rw [if_pos (by omega)]); (try with_reducible rfl); done)); try simp only [Act.put, List.setIfInBounds_toArray, List.set_cons_zero, List.set_cons_succ])
      (refine tk7 (v := ?_) (by kernel_rfl) (by kernel_rfl) (by kernel_rfl) (fun _ _ _ h => h) (Or.inl ⟨by rfl, ?_⟩) (by assumption) ?_; rotate_left; (focus (intro w hSw; (try dsimp only at hSw); go_simp; (try first | (rw [dif_pos (by omega)]; simp only [Result.andThen_ok]) | rw [if_pos (by omega)]); (try with_reducible rfl); done)); try simp only [Act.put, List.setIfInBounds_toArray, List.set_cons_zero, List.set_cons_succ])
      (refine tk8 (v := ?_) (by kernel_rfl) (by kernel_rfl) (by kernel_rfl) (fun _ _ _ h => h) (Or.inl ⟨by rfl, ?_⟩) (by assumption) ?_; rotate_left; (focus (intro w hSw; (try dsimp only at hSw); go_simp; (try first | (rw [dif_pos (by omega)]; simp only [Result.andThen_ok]) | rw [if_pos (by omega)]); (try with_reducible rfl); done)); try simp only [Act.put, List.setIfInBounds_toArray, List.set_cons_zero, List.set_cons_succ])
      refine wpAnyH_done (by kernel_rfl) ?_ _
      go_wp2
      go_roundw
      case rel => exact ⟨k + 1, by omega, by go_num, ⟨HW.out.os, HW.out.tape, HW.out.output, HW.out.size, HW.out.block⟩⟩
      case measure => simp [intOf]; omega
    · have hki : ¬ (k : Int) < (ts.length : Int) := by omega
      go_wp2
      go_ret
      exact ⟨rfl, hbw⟩
/-- What Lex tells: the error, its place, the tokens. -/
def lexO (s : ByteArray) : Int × Nat × List TK := match lexA s with
  | .ok ts => (0, 0, ts)
  | .error (er, p) => (er, p, [])
theorem LexR.out {B : Nat} {s : ByteArray} {e : Ending} {w' : World} (h : LexR B (lexA s) e w') : ∃ v, e = .returned (.tuple #[v, .int .i64 (lexO s).1, .int .i64 ((lexO s).2.1 : Int)]) ∧ ownT w' B v (lexO s).2.2 := by
  unfold lexO
  unfold LexR at h
  rcases hl : lexA s with ⟨er, p⟩ | ts
  · rw [hl] at h
    exact ⟨_, h, ownT_nil _ _⟩
  · rw [hl] at h
    obtain ⟨v, rfl, ho⟩ := h
    exact ⟨v, rfl, ho⟩
theorem lexP_len {s : ByteArray} : ∀ (n i : Nat) (l ts : List TK), lexP s n i l = .ok ts → ts.length ≤ l.length + n
  | 0, i, l, ts, h => by
    rw [lexP] at h
    injection h with h
    rw [h]
    omega
  | n + 1, i, l, ts, h => by
    rcases hg : gapP s i with q | j
    · rw [lexP_gapE hg] at h; cases h
    · by_cases hj : s.size ≤ j
      · rw [lexP_end hg hj] at h
        injection h with h
        rw [← h, List.length_append]
        simp only [List.length_cons, List.length_nil]
        omega
      · rcases ht : tokP s j with er | ⟨t, k⟩
        · rw [lexP_tokE hg (by omega) ht] at h; cases h
        · rw [lexP_tok hg (by omega) ht] at h
          have := lexP_len n k _ ts h
          rw [List.length_append] at this
          simp only [List.length_cons, List.length_nil] at this
          omega
theorem lexO_len (s : ByteArray) : (lexO s).2.2.length ≤ 65537 := by
  unfold lexO
  rcases hl : lexA s with ⟨er, p⟩ | ts
  · simp
  · unfold lexA at hl
    split at hl
    · cases hl
    · have := lexP_len _ _ _ _ hl
      simp only [List.length_nil] at this
      show ts.length ≤ _
      omega
/-- What stands while the first list is written over: the rest stays. -/
structure ASt (w w5 : World) (M : Nat) (wr : World) (va : Value) (n : Nat) : Prop where
  bel : Below w.heap.size w wr
  kept : ∀ k, M ≤ k → k < w5.heap.size → wr.heap[k]? = w5.heap[k]?
  size : w5.heap.size ≤ wr.heap.size
  row : ∃ xs, wr.ownsRow w.heap.size 30 4 va n xs
  apart : ∀ k, va.ownBlock = some k → k < M ∨ w5.heap.size ≤ k
theorem ASt.form {w w5 wr : World} {M n : Nat} {va : Value} (h : ASt w w5 M wr va n) : ∃ a cap, va = .slice a n cap := by
  obtain ⟨xs, hx⟩ := h.row
  rcases hx.2 with ⟨rfl, hn⟩ | ⟨g, cap, cur, rfl, _⟩
  · exact ⟨none, 0, by rw [hn]⟩
  · exact ⟨_, cap, rfl⟩
theorem ASt.cell {w w5 wr : World} {M n cap : Nat} {a : Option Addr} (h : ASt w w5 M wr (.slice a n cap) n) (i : Nat) (hi : i < n) : ∃ g x0 x1 x2 x3, a = some ⟨g, 0, none⟩ ∧ wr.cell? ⟨g, i * 4, none⟩ = some x0 ∧ wr.cell? ⟨g, i * 4 + 1, none⟩ = some x1 ∧ wr.cell? ⟨g, i * 4 + 2, none⟩ = some x2 ∧ wr.cell? ⟨g, i * 4 + 3, none⟩ = some x3 ∧ ∀ j, wr.frozen? ⟨g, j, none⟩ = false := by
  obtain ⟨xs, hx⟩ := h.row
  have hh := hx
  rcases hx.2 with ⟨_, hn⟩ | ⟨g, cap', cur, e, hb, hg, _⟩
  · omega
  · injection e with e1 e2 e3
    subst e1 e3
    have hl := hx.1
    have get : ∀ j, j < n * 4 → wr.cell? ⟨g, j, none⟩ = some (xs[j]?.getD undef) := fun j hj => by
      rw [World.ownsRow.cellAt hh j hj, List.getElem?_eq_getElem (by omega)]
      rfl
    exact ⟨g, _, _, _, _, rfl, get _ (by omega), get _ (by omega), get _ (by omega), get _ (by omega), fun j => by simp [World.frozen?, hg]⟩
theorem ASt.set {w w5 wr : World} {M n cap g : Nat} (h : ASt w w5 M wr (.slice (some ⟨g, 0, none⟩) n cap) n) (j : Nat) (u : Value) : ASt w w5 M (wr.setCell ⟨g, j, none⟩ u) (.slice (some ⟨g, 0, none⟩) n cap) n := by
  obtain ⟨xs, hx⟩ := h.row
  have hb := (World.ownsRow.lt hx g rfl).1
  have ha := h.apart g rfl
  refine ⟨h.bel.setCell (p := ⟨g, j, none⟩) hb _, fun k h1 h2 => ?_, by simpa using h.size, ⟨_, (World.ownsRow.stored hx j u).1⟩, h.apart⟩
  rw [Below.heap_setCell _ _ _ _ (by show k ≠ g; omega)]
  exact h.kept k h1 h2
/-- One token more behind the first list. -/
theorem app_more {w w5 wr : World} {M : Nat} {ops : Array Oper} {rest : List Oper} {o : Oper} {a : Act} {Q : Exit → Act → World → Prop} (hgd : o.guard = none) (s x : Operand)
    (ho : o.op = .call { callee := .builtin .append, args := #[s, x], argTypes := #[22, 22] })
    (v : Value) (n : Nat) (hst : ASt w w5 M wr v n) (hs : a.eval s = v) (g : Nat) (hg : g = wr.heap.size) (hx : a.eval x = .slice (some ⟨g, 0, none⟩) 1 1) (c : TK)
    (hlen : (n + 1) * 40 ≤ 140737488355328)
    (h : ∀ v' w', ASt w w5 M w' v' (n + 1) → wpList Tryz.prog ops Q rest (a.put o.dst v') w') :
    wpList Tryz.prog ops Q (o :: rest) a (wr.alloc (.cells #[.int .i64 c.kind, .string c.text, .int .i64 c.num, .int .i64 c.at_] 30)) := by
  subst hg
  obtain ⟨i0, hi, hz0, hz1, hz2⟩ := info_parts infoTok
  obtain ⟨xs, hown⟩ := hst.row
  have hbs := hst.bel.size
  refine wpList_append_own_at _ hgd s x 22 ho w.heap.size 30 i0 (.agg tkZ) 4 40 Tryz.underlying22 hi hz0 hz1 hz2 rfl (by decide) v n xs hs (World.ownsRow.alloc hown _)
    ⟨wr.heap.size, 0, none⟩ 1 1 (cellT c) hx rfl ?_ ?_ (by unfold maxLen; omega) (by omega) (by rw [sizeAl]; omega) ?_
  · intro j u hj
    match j, hj with
    | 0, hj => simp [cellT] at hj; subst hj; simp [Addr.add]
    | 1, hj => simp [cellT] at hj; subst hj; simp [Addr.add]
    | 2, hj => simp [cellT] at hj; subst hj; simp [Addr.add]
    | 3, hj => simp [cellT] at hj; subst hj; simp [Addr.add]
  · intro u hu; simp [cellT] at hu; rcases hu with rfl | rfl | rfl | rfl <;> rfl
  · intro v' w' hown' hgrow _ hblk
    have hsz := hst.size
    have hgs := hgrow.size
    rw [sizeAl] at hgs
    refine h v' w' ⟨(hst.bel.alloc hbs _).grown hgrow (by rw [sizeAl]; omega) (fun k hk => (World.ownsRow.lt hown k hk).1), fun k h1 h2 => ?_, by omega, ⟨_, hown'⟩, fun k hk => ?_⟩
    · rw [hgrow.block k (by rw [sizeAl]; omega) (fun e => by rcases hst.apart k e.symm with h3 | h3 <;> omega), Below.heap_alloc _ _ _ (by omega)]
      exact hst.kept k h1 h2
    · rcases hblk with hb | hb
      · exact hst.apart k (by rw [← hb]; exact hk)
      · rw [hb] at hk
        injection hk with hk
        rw [sizeAl] at hk
        right
        omega
set_option maxHeartbeats 6400000 in
theorem lexes_walk (s : ByteArray) (w : World) (hz : s.size ≤ 140737488355328) (hg : GX w) :
    Calls Tryz.prog 3 #[.string s] w fun e w' => e = .returned (.bool true) ∧ Below w.heap.size w w' := by
  have HG : Hid (GX w) := hg
  have hlen := lexO_len s
  obtain ⟨O, hO⟩ : ∃ O, lexO s = O := ⟨_, rfl⟩
  have HLX : Hid (∀ W : World, GX W → Calls Tryz.prog 4 #[.string s] W fun e w' => (∃ v, e = .returned (.tuple #[v, .int .i64 O.1, .int .i64 (O.2.1 : Int)]) ∧ ownT w' W.heap.size v O.2.2) ∧ Below W.heap.size W w') := fun W hW => (lexT s W hz hW).mono fun e w' ⟨h1, h2⟩ => ⟨by rw [← hO]; exact h1.out, h2⟩
  have HLR : Hid (∀ W : World, Calls Tryz.prog 5 #[.string s] W fun e w' => (∃ v, e = .returned (.tuple #[v, .int .i64 O.1, .int .i64 (O.2.1 : Int)]) ∧ ownT w' W.heap.size v O.2.2) ∧ Below W.heap.size W w') := fun W => (refLex s W hz).mono fun e w' ⟨h1, h2⟩ => ⟨by rw [← hO]; exact h1.out, h2⟩
  rw [hO] at hlen
  clear hg hO
  obtain ⟨er, p, ts⟩ := O
  dsimp only at hlen HLX HLR
  go_enter Tryz.func3, Tryz.ntmps3
  go_wp2_with fail
  refine (HLX.out w HG.out).mono ?_
  rintro e w1 ⟨⟨va, rfl, ha1⟩, hb1⟩
  obtain ⟨aa, ac, rfl⟩ := ha1.form
  have HA1 : Hid (ownT w1 w.heap.size (.slice aa ts.length ac) ts) := ha1
  have HB1 : Hid (Below w.heap.size w w1) := hb1
  have hs1 := hb1.size
  have HG1 : Hid (GX w1) := HG.out.next hb1
  clear ha1 hb1
  go_wp2_with fail
  refine (HLX.out w1 HG1.out).mono ?_
  rintro e w2 ⟨⟨vc, rfl, hc2⟩, hb2⟩
  obtain ⟨ca, cc, rfl⟩ := hc2.form
  have HC2 : Hid (ownT w2 w1.heap.size (.slice ca ts.length cc) ts) := hc2
  have HA2 : Hid (ownT w2 w.heap.size (.slice aa ts.length ac) ts) := HA1.out.later hb2
  have HAp : Hid (∀ k, (Value.slice aa ts.length ac).ownBlock = some k → k < w1.heap.size) := fun k hk => (World.ownsRow.lt HA1.out k hk).2
  have HB2 : Hid (Below w.heap.size w w2) := HB1.out.trans (hb2.mono hs1)
  have hs2 := hb2.size
  clear hc2 hb2 HA1 HB1 HG1
  go_wp2_with fail
  refine (HLR.out w2).mono ?_
  rintro e w3 ⟨⟨vb, rfl, hb3'⟩, hb3⟩
  obtain ⟨ba, bc, rfl⟩ := hb3'.form
  have HB3' : Hid (ownT w3 w1.heap.size (.slice ba ts.length bc) ts) := hb3'.down hs2
  have HC3 : Hid (ownT w3 w1.heap.size (.slice ca ts.length cc) ts) := HC2.out.later hb3
  have HA3 : Hid (ownT w3 w.heap.size (.slice aa ts.length ac) ts) := HA2.out.later hb3
  have HB3 : Hid (Below w.heap.size w w3) := HB2.out.trans (hb3.mono (by omega))
  have hs3 := hb3.size
  clear hb3' hb3 HC2 HA2 HB2 HLX HLR
  have HS1 : Hid (∀ _ : Unit, _) := fun _ => sameTkT (.slice aa ts.length ac) (.slice ba ts.length bc) ts _ _ w3 HA3.out HB3'.out hlen
  go_wp2_with fail
  refine (HS1.out ()).mono ?_
  rintro e w4 ⟨rfl, hb4⟩
  have HA4 : Hid (ownT w4 w.heap.size (.slice aa ts.length ac) ts) := HA3.out.later hb4
  have HB4' : Hid (ownT w4 w1.heap.size (.slice ba ts.length bc) ts) := HB3'.out.later hb4
  have HC4 : Hid (ownT w4 w1.heap.size (.slice ca ts.length cc) ts) := HC3.out.later hb4
  have HB4 : Hid (Below w.heap.size w w4) := HB3.out.trans (hb4.mono (by omega))
  have hs4 := hb4.size
  clear hb4 HS1 HA3 HB3' HC3 HB3
  have HS2 : Hid (∀ _ : Unit, _) := fun _ => sameTkT (.slice ca ts.length cc) (.slice ba ts.length bc) ts _ _ w4 HC4.out HB4'.out hlen
  go_wp2_with fail
  refine (HS2.out ()).mono ?_
  rintro e w5 ⟨rfl, hb5⟩
  have HB5' : Hid (ownT w5 w1.heap.size (.slice ba ts.length bc) ts) := HB4'.out.later hb5
  have HC5 : Hid (ownT w5 w1.heap.size (.slice ca ts.length cc) ts) := HC4.out.later hb5
  have hs5 := hb5.size
  have HS5 : Hid (ASt w w5 w1.heap.size w5 (.slice aa ts.length ac) ts.length) := ⟨HB4.out.trans (hb5.mono (by omega)), fun _ _ _ => rfl, Nat.le_refl _, ⟨_, HA4.out.later hb5⟩, fun k hk => .inl (HAp.out k hk)⟩
  clear hb5 HS2 HA4 HB4' HC4 HB4
  go_wp2_with fail
  go_loopw [12] (fun x wr => ∃ k : Nat, k ≤ ts.length ∧ x = .int .i64 (k : Int) ∧ ASt w w5 w1.heap.size wr (.slice aa ts.length ac) ts.length) (fun x _ => ts.length - (intOf x).toNat)
  case atStart => exact ⟨0, by omega, rfl, HS5.out⟩
  case round =>
    obtain ⟨k, hk, rfl, hst⟩ := hrel
    have HSt : Hid (ASt w w5 w1.heap.size wr (.slice aa ts.length ac) ts.length) := hst
    clear hst HS5
    by_cases hkl : k < ts.length
    · have hki : (k : Int) < (ts.length : Int) := by omega
      obtain ⟨g, y0, y1, y2, y3, rfl, z0, z1, z2, z3, hf⟩ := HSt.out.cell k hkl
      have f0 := hf (k * 4)
      have f1 := hf (k * 4 + 1)
      have f2 := hf (k * 4 + 2)
      have f3 := hf (k * 4 + 3)
      clear hf
      have HS2 : Hid (ASt w w5 w1.heap.size ((((wr.setCell ⟨g, k * 4, none⟩ (.int .i64 (-1))).setCell ⟨g, k * 4 + 1, none⟩ (.string ⟨#[116, 117, 114, 110, 101, 100]⟩)).setCell ⟨g, k * 4 + 2, none⟩ (.int .i64 0)).setCell ⟨g, k * 4 + 3, none⟩ (.int .i64 (k : Int))) (.slice (some ⟨g, 0, none⟩) ts.length ac) ts.length) := (((HSt.out.set _ _).set _ _).set _ _).set _ _
      clear HSt
      go_wp2
      go_roundw
      case rel => exact ⟨k + 1, by omega, by go_num, HS2.out⟩
      case measure => simp [intOf]; omega
    · have hki : ¬ (k : Int) < (ts.length : Int) := by omega
      clear hk hkl
      go_wp2_with fail
      go_loopw [3, 13] (fun v x wr => ∃ j : Nat, j ≤ 40 ∧ x = .int .i64 (j : Int) ∧ ASt w w5 w1.heap.size wr v (ts.length + j)) (fun _ x _ => 40 - (intOf x).toNat)
      case atStart => exact ⟨0, by omega, rfl, HSt.out⟩
      case round =>
        obtain ⟨j, hj, rfl, hst⟩ := hrel
        obtain ⟨va, vcap, rfl⟩ := hst.form
        have HSj : Hid (ASt w w5 w1.heap.size wr (.slice va (ts.length + j) vcap) (ts.length + j)) := hst
        clear hst HSt
        by_cases hjl : j < 40
        · have hji : (j : Int) < 40 := by omega
          go_wp2_with (at_builtin; refine app_more (by rfl) _ _ (by rfl) _ (ts.length + j) HSj.out (by rfl) _ rfl (by rfl) ⟨-2, ⟨#[]⟩, 0, 0⟩ (by omega) ?_; intro v' w7 hs7; obtain ⟨a7, c7, rfl⟩ := hs7.form; have HS7 : Hid (ASt w w5 w1.heap.size w7 (.slice a7 (ts.length + j + 1) c7) (ts.length + j + 1)) := hs7; clear hs7)
          go_roundw
          case rel => exact ⟨j + 1, by omega, by go_num, HS7.out⟩
          case measure => simp [intOf]; omega
        · have hji : ¬ (j : Int) < 40 := by omega
          have HS8 : Hid (∀ _ : Unit, _) := fun _ => sameTkT (.slice ca ts.length cc) (.slice ba ts.length bc) ts w1.heap.size w1.heap.size wr (HC5.out.keep (fun k h1 h2 => HSj.out.kept k h1 h2)) (HB5'.out.keep (fun k h1 h2 => HSj.out.kept k h1 h2)) hlen
          go_wp2_with fail
          refine (HS8.out ()).mono ?_
          rintro e w8 ⟨rfl, hb8⟩
          have HBe : Hid (Below w.heap.size w w8) := HSj.out.bel.trans (hb8.mono HSj.out.bel.size)
          clear hb8 HS8
          go_wp2
          go_ret
          exact ⟨rfl, HBe.out⟩
end Go.Proofs.YtlidkdnfibfnfaaGreatDoor
