import Derived.Test.YteekompojgbkhaaGreatKRowE
import Derived.Test.YteekompojgbkhaaGreatKChA
import Derived.Deep.AppendLies
import Derived.Deep.DeepAppendRoom
namespace Go.Proofs.YteekompojgbkhaaGreat
set_option linter.unusedSimpArgs false
open Go.ChangeShapes Go.WideShapes Go.ChangeAt Go.RowKit Go.MuLone Go.RwLone
set_option linter.unusedVariables false
set_option maxRecDepth 100000
set_option maxHeartbeats 3200000
def evC (x : Int × Int × Int × Int) : List Value := [.int .i64 x.1, .int .i64 x.2.1, .int .i64 x.2.2.1, .int .i64 x.2.2.2]
def thC (t : Nat) : List Value := [.pointer (some ⟨t, 0, none⟩)]
theorem infoEv : (Tryz.prog.info? 70).map (fun i => (i.zero, i.size, i.bytes)) = some (some (.agg #[.int .i64 0, .int .i64 0, .int .i64 0, .int .i64 0]), 4, 32) := by kernel_rfl
theorem infoTh : (Tryz.prog.info? 42).map (fun i => (i.zero, i.size, i.bytes)) = some (some (.pointer none), 1, 8) := by kernel_rfl
abbrev OwE (w : World) (B : Nat) (v : Value) (xs : List (Int × Int × Int × Int)) : Prop := OwG evC 70 4 w B v xs
abbrev OwT (w : World) (B : Nat) (v : Value) (xs : List Nat) : Prop := OwG thC 42 1 w B v xs
theorem infoPl : (Tryz.prog.info? 101).map (fun i => (i.zero, i.size, i.bytes)) = some (some (.agg #[.pointer none, .int .i64 0, .bool false]), 3, 24) := by kernel_rfl
theorem clear_pl (w : World) (P cap : Nat) (u0 u1 u2 : Value) (h0 : w.cell? ⟨P, 0, none⟩ = some u0) (h1 : w.cell? ⟨P, 1, none⟩ = some u1) (h2 : w.cell? ⟨P, 2, none⟩ = some u2) (hz : ∀ j, w.frozen? ⟨P, j, none⟩ = false) :
    Sem.run Tryz.prog (Builtin.clear_ #[99] 0 #[.slice (some ⟨P, 0, none⟩) 1 cap]) w = .ok (.tuple #[]) (w.setCells P 0 [.pointer none, .int .i64 0, .bool false]) := by
  obtain ⟨i0, hi, hz0, hz1, hz2⟩ := info_parts infoPl
  have hst := run_storeCells_cells (P := Tryz.prog) P 0 [.pointer none, .int .i64 0, .bool false] 0 w (by intro j hj; simp at hj; match j, hj with | 0, _ => simp [h0] | 1, _ => simp [h1] | 2, _ => simp [h2]) (by intro j hj; exact hz _) (by intro v hv; simp at hv; rcases hv with rfl | rfl | rfl <;> rfl)
  simp only [Nat.add_zero] at hst
  have hzc : (Builtin.zeroCells #[.pointer none, .int .i64 0, .bool false] 1).toList = [.pointer none, .int .i64 0, .bool false] := by simp [Builtin.zeroCells, Array.range, Array.ofFn]; rfl
  simp [Builtin.clear_, run_underlying Tryz.underlying99, zeroValue, typeInfo, hi, hz0, hzc, hst, Value.cells]
theorem Keeps.setCells {B : Nat → Prop} {a w : World} (h : Keeps B a w) {b : Nat} (hp : B b) (o : Nat) (us : List Value) : Keeps B a (w.setCells b o us) := by
  induction us generalizing w o with
  | nil => exact h
  | cons u us ih => exact ih (h.setCell (p := ⟨b, o, none⟩) hp u) (o + 1)
theorem hhas_any (w : World) (hb n : Nat) (qa : Option Addr) (c : Nat) (x : Int) (h : w.cell? ⟨hb, 0, none⟩ = some (.slice qa n c)) : Calls Tryz.prog 47 #[.pointer (some ⟨hb, 0, none⟩), .int .i64 x] w fun e w' => e = .returned (.bool (decide (0 ≤ x ∧ x < (n : Int)))) ∧ w' = w := by
  by_cases h1 : 0 ≤ x
  · by_cases h2 : x < (n : Int)
    · have hd : decide (0 ≤ x ∧ x < (n : Int)) = true := by simp [h1, h2]
      rw [hd]
      go_enter Tryz.func47, Tryz.ntmps47
      go_wp2
      go_ret
      exact ⟨rfl, rfl⟩
    · have hd : decide (0 ≤ x ∧ x < (n : Int)) = false := by simp [h2]
      rw [hd]
      go_enter Tryz.func47, Tryz.ntmps47
      go_wp2
      go_ret
      exact ⟨rfl, rfl⟩
  · have hd : decide (0 ≤ x ∧ x < (n : Int)) = false := by simp [h1]
    rw [hd]
    go_enter Tryz.func47, Tryz.ntmps47
    go_wp2
    go_ret
    exact ⟨rfl, rfl⟩
/-- A place in a queue: the machine's number, its tag, whether it was called. -/
abbrev Pq := Nat × Int × Bool
def plM (pt : Nat → Nat) (x : Pq) : List Value := [.pointer (some ⟨pt x.1, 0, none⟩), .int .i64 x.2.1, .bool x.2.2]
theorem plM_one (pt : Nat → Nat) (x : Pq) : ∀ u ∈ plM pt x, u.oneCell' = true := by
  intro u hu
  simp [plM] at hu
  rcases hu with rfl | rfl | rfl <;> rfl
/-- One thing more behind a row of one's own, and where it lies then. -/
theorem app_lies_wp {α : Type} {cs : α → List Value} {wr : World} {o : Oper} {a : Act} {K : Act → World → Prop} {Q : Exit → Act → World → Prop} (s x : Operand) (t e : TypeId)
    (ho : o.op = .call { callee := .builtin .append, args := #[s, x], argTypes := #[t, t] })
    {z : Value} {n bytes : Nat} (hu : Tryz.prog.underlying t = some (.slice e)) (hinfo : (Tryz.prog.info? e).map (fun i => (i.zero, i.size, i.bytes)) = some (some z, n, bytes)) (hzs : z.cells.size = n) (hn0 : 0 < n) (hn : ∀ y, (cs y).length = n)
    (v : Value) (xs : List α) (c : α) (hown : OwG cs e n wr 0 v xs) (hs : a.eval s = v) (g : Nat) (hg : g = wr.heap.size) (hx : a.eval x = .slice (some ⟨g, 0, none⟩) 1 1) (h1 : ∀ u ∈ cs c, u.oneCell' = true)
    (ar : Array Value) (har : ar = (cs c).toArray)
    (hm : xs.length < maxLen) (hbytes : (xs.length + 1) * bytes ≤ 140737488355328)
    (h : ∀ b cap w', OwG cs e n w' 0 (.slice (some ⟨b, 0, none⟩) (xs.length + 1) cap) (xs ++ [c]) → Keeps (fun k => v.ownBlock = some k) wr w' → (v.ownBlock = some b ∨ wr.heap.size ≤ b) → b < w'.heap.size → K (a.put o.dst (.slice (some ⟨b, 0, none⟩) (xs.length + 1) cap)) w') :
    o.wp Tryz.prog a (wr.alloc (.cells ar e)) K Q := by
  subst hg har
  obtain ⟨i0, hi, hz0, hz1, hz2⟩ := info_parts hinfo
  refine wp_append_lies _ s x t ho 0 e i0 z n bytes hu hi hz0 hz1 hz2 hzs hn0 v xs.length _ hs (World.ownsRow.alloc hown _)
    ⟨wr.heap.size, 0, none⟩ 1 1 (cs c) hx (by rw [hn]; omega) ?_ h1 (by omega) (by omega) hbytes (Nat.zero_le _) _ rfl ?_
  · intro j u hj
    rw [addr_add, Nat.zero_add]
    unfold World.cell?
    rw [heap_alloc_last _ _ _ rfl]
    simpa using hj
  · intro b cap w' hown' hgrow hat hlt
    refine h b cap w' ?_ ?_ ?_ hlt
    · have : (xs ++ [c]).length = xs.length + 1 := by simp
      unfold OwG; rw [this, List.flatMap_append, show [c].flatMap cs = cs c from by simp]; exact hown'
    · refine ⟨hgrow.os, hgrow.tape, hgrow.output, by have := hgrow.size; rw [szAl] at this; omega, fun k hk hne => (hgrow.block k (by rw [szAl]; omega) (fun e => hne e.symm)).trans (Below.heap_alloc _ _ k hk)⟩
    · rcases hat with e | e
      · exact .inl e
      · right; rw [e, szAl]; omega
/-- Stores behind the row's end leave it. -/
theorem own_behind {w : World} {base : Nat} {e : TypeId} {size g n cap : Nat} {xs : List Value} (h : w.ownsRow base e size (.slice (some ⟨g, 0, none⟩) n cap) n xs) : ∀ (us : List Value) (o : Nat), n * size ≤ o → (w.setCells g o us).ownsRow base e size (.slice (some ⟨g, 0, none⟩) n cap) n xs := by
  intro us
  induction us generalizing w with
  | nil => intro o _; exact h
  | cons u us ih =>
    intro o ho
    have h2 := (h.stored o u).1
    rw [List.set_eq_of_length_le (by have := h.1; omega)] at h2
    exact ih h2 (o + 1) (by omega)
theorem clear_at (w : World) (P off cap : Nat) (u0 u1 u2 : Value) (h0 : w.cell? ⟨P, off, none⟩ = some u0) (h1 : w.cell? ⟨P, off + 1, none⟩ = some u1) (h2 : w.cell? ⟨P, off + 2, none⟩ = some u2) (hz : ∀ j, w.frozen? ⟨P, j, none⟩ = false) :
    Sem.run Tryz.prog (Builtin.clear_ #[99] 0 #[.slice (some ⟨P, off, none⟩) 1 cap]) w = .ok (.tuple #[]) (w.setCells P off [.pointer none, .int .i64 0, .bool false]) := by
  obtain ⟨i0, hi, hz0, hz1, hz2⟩ := info_parts infoPl
  have hst := run_storeCells_cells (P := Tryz.prog) P off [.pointer none, .int .i64 0, .bool false] 0 w (by intro j hj; simp at hj; match j, hj with | 0, _ => simp [h0] | 1, _ => simp [h1] | 2, _ => simp [h2]) (by intro j hj; exact hz _) (by intro v hv; simp at hv; rcases hv with rfl | rfl | rfl <;> rfl)
  simp only [Nat.add_zero] at hst
  have hzc : (Builtin.zeroCells #[.pointer none, .int .i64 0, .bool false] 1).toList = [.pointer none, .int .i64 0, .bool false] := by simp [Builtin.zeroCells, Array.range, Array.ofFn]; rfl
  simp [Builtin.clear_, run_underlying Tryz.underlying99, zeroValue, typeInfo, hi, hz0, hzc, hst, Value.cells]
theorem own_cells {w : World} {base : Nat} {e : TypeId} {size g n cap : Nat} {xs : List Value} (h : w.ownsRow base e size (.slice (some ⟨g, 0, none⟩) n cap) n xs) (j : Nat) (hj : j < cap * size) : ∃ u, w.cell? ⟨g, j, none⟩ = some u := by
  rcases h.2 with ⟨h', _⟩ | ⟨g', cap', cur, h', _, hg, _, _, hs, _⟩
  · cases h'
  · injection h' with e1 e2 e3
    injection e1 with e1
    injection e1 with e1
    subst e1 e3
    exact ⟨cur[j]'(by omega), by simp [World.cell?, hg, hs, hj]⟩
theorem own_none {w : World} {base : Nat} {e : TypeId} {size g n cap : Nat} {xs : List Value} (h : w.ownsRow base e size (.slice (some ⟨g, 0, none⟩) n cap) n xs) : w.ownsRow base e size (.slice (some ⟨g, 0, none⟩) 0 cap) 0 [] := by
  rcases h.2 with ⟨h', _⟩ | ⟨g', cap', cur, h', h1, h2, h3, h4, h5, h6⟩
  · cases h'
  · injection h' with e1 e2 e3
    injection e1 with e1
    injection e1 with e1
    subst e1 e3
    exact ⟨by simp, .inr ⟨g, cap, cur, rfl, h1, h2, by omega, h4, h5, by simp⟩⟩
theorem del_more (pt : Nat → Nat) (w : World) (P cap : Nat) (x y : Pq) (xs : List Pq) (h : OwG (plM pt) 101 3 w 0 (.slice (some ⟨P, 0, none⟩) (x :: y :: xs).length cap) (x :: y :: xs)) (hl : xs.length ≤ 100) :
    Calls Tryz.prog 183 #[.slice (some ⟨P, 0, none⟩) (x :: y :: xs).length cap, .int .i64 0, .int .i64 1] w fun e w' => e = .returned (.slice (some ⟨P, 0, none⟩) (y :: xs).length cap) ∧ OwG (plM pt) 101 3 w' 0 (.slice (some ⟨P, 0, none⟩) (y :: xs).length cap) (y :: xs) ∧ Keeps (fun k => k = P) w w' := by
  obtain ⟨-, hcap, hmax, -, cur, hcur⟩ := owG_cap h
  obtain ⟨n, hn⟩ : ∃ n, (y :: xs).length = n := ⟨_, rfl⟩
  have hn1 : (x :: y :: xs).length = n + 1 := by rw [List.length_cons, hn]
  have hnp : 1 ≤ n := by rw [← hn]; simp
  have hnl : n ≤ 101 := by rw [← hn]; simp; omega
  have h' := h
  rw [hn1] at h' hcap
  rw [hn1, hn]
  have HE : Hid (OwG (plM pt) 101 3 w 0 (.slice (some ⟨P, 0, none⟩) (n + 1) cap) (x :: y :: xs)) := h'
  have i1 : (1 : Int) ≤ ((n + 1 : Nat) : Int) := by omega
  have i2 : ((n + 1 : Nat) : Int) ≤ (cap : Int) := by omega
  clear h h'
  go_enter Tryz.func183, Tryz.ntmps183
  go_wp2_with fail
  (refine wp_region_held_drew (S := (fun _ => True)) (by kernel_rfl) trivial (fun hHeld => ?_); simp only [List.size_toArray, List.length_cons, List.length_nil, Nat.reduceAdd, Array.replicate_succ, Array.replicate_zero, List.push_toArray, List.append_toArray, List.nil_append, List.cons_append])
  refine rgT 0 (h := ?_)
  refine rgT 1 (h := ?_)
  refine rgT 2 (h := ?_)
  refine rgT 3 (h := ?_)
  refine rgT 4 (h := ?_)
  refine rgT 5 (h := ?_)
  rw [if_neg (show ¬ cap = 1 by omega)]
  (refine rgS 6 (h := fun K hK => ?_); rw [if_pos (by rfl)])
  obtain ⟨i0, hi, hz0, hz1, hz2⟩ := info_parts infoPl
  have HE' : OwG (plM pt) 101 3 w 0 (.slice (some ⟨P, 0, none⟩) (x :: y :: xs).length cap) (x :: y :: xs) := by rw [hn1]; exact HE.out
  refine wp_append_own_spare w.drew _ _ 99 (by rfl) 0 101 i0 3 Tryz.underlying99 hi hz1 P 0 cap [] (by rfl) (own_none HE').drew ⟨P, 3, none⟩ n (cap - 1) ((y :: xs).flatMap (plM pt)) (by rfl) (by rw [flat_len (plM pt) 3 (fun _ => rfl), hn]) ?_ (by
    intro u hu
    obtain ⟨z, _, hz⟩ := List.mem_flatMap.1 hu
    exact plM_one pt z u hz) (by omega) ?_
  · intro j u hj
    have hlt := (List.getElem?_eq_some_iff.1 hj).1
    rw [flat_len (plM pt) 3 (fun _ => rfl), hn] at hlt
    rw [addr_add]
    show w.cell? ⟨P, 3 + j, none⟩ = some u
    rw [World.ownsRow.cellAt HE' (3 + j) (by rw [hn1]; omega), List.flatMap_cons, List.getElem?_append_right (by show 3 ≤ 3 + j; omega), show 3 + j - (plM pt x).length = j from by show 3 + j - 3 = j; omega]
    exact hj
  · intro w1 ho hg
    rw [Nat.zero_add] at ho ⊢
    rw [List.nil_append] at ho
    have HO : Hid (w1.ownsRow 0 101 3 (.slice (some ⟨P, 0, none⟩) n cap) n ((y :: xs).flatMap (plM pt)) ∧ Keeps (fun k => k = P) w w1) := ⟨ho, hg.os, hg.tape, hg.output, hg.size, fun k hk hne => hg.block k hk (fun e => hne (Option.some.inj e))⟩
    obtain ⟨u0, q0⟩ := own_cells ho (n * 3) (by omega)
    obtain ⟨u1, q1⟩ := own_cells ho (n * 3 + 1) (by omega)
    obtain ⟨u2, q2⟩ := own_cells ho (n * 3 + 2) (by omega)
    have HC := clear_at w1 P (n * 3) (cap - n) u0 u1 u2 q0 q1 q2 (fun j => World.ownsRow.frozenAt ho j)
    clear ho hg q0 q1 q2 HE HE' hi hz0 hz1 hz2
    (refine hK.out _ _ trivial (fun hHeld => ?_); clear hK K; try simp only [Act.put, List.setIfInBounds_toArray, List.set_cons_zero, List.set_cons_succ])
    refine rgT 7 (h := ?_)
    refine wpAnyH_done (by kernel_rfl) ?_ _
    have j1 : (n : Int) ≤ (cap : Int) := by omega
    have j2 : (n : Int) ≤ (n : Int) + 1 := by omega
    have j3 : (n : Int) + 1 ≤ (cap : Int) := by omega
    go_wp2
    go_ret
    refine ⟨rfl, ?_, HO.out.2.trans (Keeps.setCells (B := fun k => k = P) (Keeps.refl _ _) rfl _ _)⟩
    have := own_behind HO.out.1 [.pointer none, .int .i64 0, .bool false] (n * 3) (Nat.le_refl _)
    unfold OwG
    rw [hn]
    exact this
theorem del_last (pt : Nat → Nat) (w : World) (P cap : Nat) (x : Pq) (h : OwG (plM pt) 101 3 w 0 (.slice (some ⟨P, 0, none⟩) 1 cap) [x]) :
    Calls Tryz.prog 183 #[.slice (some ⟨P, 0, none⟩) 1 cap, .int .i64 0, .int .i64 1] w fun e w' => e = .returned (.slice (some ⟨P, 0, none⟩) 0 cap) ∧ OwG (plM pt) 101 3 w' 0 (.slice (some ⟨P, 0, none⟩) 0 cap) [] ∧ Keeps (fun k => k = P) w w' := by
  obtain ⟨-, hcap, -⟩ := owG_cap h
  have hcap1 : 1 ≤ cap := hcap
  have HC := clear_pl w.drew P cap _ _ _ ((World.ownsRow.cellAt h 0 (by decide)).trans rfl) ((World.ownsRow.cellAt h 1 (by decide)).trans rfl) ((World.ownsRow.cellAt h 2 (by decide)).trans rfl) (fun j => World.ownsRow.frozenAt h j)
  have HO : Hid (w.drew.ownsRow 0 101 3 (.slice (some ⟨P, 0, none⟩) 0 cap) 0 []) := (own_none h).drew
  have hc1 : (1 : Int) ≤ (cap : Int) := by omega
  clear h hcap
  go_enter Tryz.func183, Tryz.ntmps183
  go_wp2_with fail
  (refine wp_region_held_drew (S := (fun _ => True)) (by kernel_rfl) trivial (fun hHeld => ?_); simp only [List.size_toArray, List.length_cons, List.length_nil, Nat.reduceAdd, Array.replicate_succ, Array.replicate_zero, List.push_toArray, List.append_toArray, List.nil_append, List.cons_append])
  refine rgT 0 (h := ?_)
  refine rgT 1 (h := ?_)
  refine rgT 2 (h := ?_)
  refine rgT 3 (h := ?_)
  refine rgT 4 (h := ?_)
  refine rgT 5 (h := ?_)
  obtain ⟨y, hy⟩ : ∃ y, (if cap = 1 then some (⟨P, 0, none⟩ : Addr) else some ⟨P, 3, none⟩) = some y := by split <;> exact ⟨_, rfl⟩
  rw [hy]
  (refine rgS 6 (h := fun K hK => ?_); go_simp)
  (refine hK.out _ _ trivial (fun hHeld => ?_); clear hK K; try simp only [Act.put, List.setIfInBounds_toArray, List.set_cons_zero, List.set_cons_succ])
  refine rgT 7 (h := ?_)
  refine wpAnyH_done (by kernel_rfl) ?_ _
  clear hy
  go_wp2
  go_ret
  exact ⟨rfl, own_behind HO.out _ 0 (by omega), Keeps.setCells (B := fun k => k = P) (Keeps.refl _ _).drew rfl 0 _⟩
theorem del_any (pt : Nat → Nat) (w : World) (P cap : Nat) (x : Pq) (xs : List Pq) (h : OwG (plM pt) 101 3 w 0 (.slice (some ⟨P, 0, none⟩) (x :: xs).length cap) (x :: xs)) (hl : xs.length ≤ 100) :
    Calls Tryz.prog 183 #[.slice (some ⟨P, 0, none⟩) (x :: xs).length cap, .int .i64 0, .int .i64 1] w fun e w' => e = .returned (.slice (some ⟨P, 0, none⟩) xs.length cap) ∧ OwG (plM pt) 101 3 w' 0 (.slice (some ⟨P, 0, none⟩) xs.length cap) xs ∧ Keeps (fun k => k = P) w w' := by
  match xs, h, hl with
  | [], h, _ => exact del_last pt w P cap x h
  | y :: xs, h, hl => exact del_more pt w P cap x y xs h (by simp at hl; omega)
end Go.Proofs.YteekompojgbkhaaGreat
