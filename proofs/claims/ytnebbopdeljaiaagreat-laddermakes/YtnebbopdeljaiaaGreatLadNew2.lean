import Derived.Test.YtnebbopdeljaiaaGreatLadNew
import Derived.Deep.RegionLaw
namespace Go.Proofs.YtnebbopdeljaiaaGreat
open Go.ChangeShapes Go.WideShapes Go.ChangeAt Go.RowKit
set_option linter.unusedVariables false
set_option maxRecDepth 100000
set_option maxHeartbeats 1600000
theorem lad_refused (ab n c wd : Nat) (lk lv : Int) (sp : Option Addr) (w : World) (hw : 1 ≤ wd) (hn : 1 ≤ n) (hwd : wd ≤ 16) (a0 : w.cell? ⟨ab, 0, none⟩ = some (.int .i64 (wd : Int))) (a1 : w.cell? ⟨ab, 1, none⟩ = some (.slice sp n c)) (h : ¬ (1 ≤ lv ∧ lv ≤ 4 ∧ 0 ≤ lk ∧ lk + lv ≤ wd)) :
    Calls Tryz.prog 5 #[.pointer (some ⟨ab, 0, none⟩), .int .i64 lk, .int .i64 lv] w fun e w' => e = .returned (.tuple #[.pointer none, .int .i64 2]) ∧ w' = w.drew := by
  have hne : ((n : Int) == 0) = false := by simp; omega
  have i0 : ¬ (n : Int) = 0 := by omega
  by_cases h1 : 1 ≤ lv
  · by_cases h2 : lv ≤ 4
    · by_cases h3 : 0 ≤ lk
      · have h4 : ¬ lk + lv ≤ wd := fun h4 => h ⟨h1, h2, h3, h4⟩
        have i5 : IntKind.i64.wrap ((wd : Int) - lv) = (wd : Int) - lv := by rw [IntKind.wrap_i64]; omega
        have i4 : (wd : Int) - lv < lk := by omega
        clear h h4
        go_enter Tryz.func5, Tryz.ntmps5
        go_wp2_with fail
        refine (shape_any ab n wd c sp w hw a0 a1).mono ?_
        rintro e w' ⟨rfl, rfl⟩
        clear a0 a1
        go_wp2
        go_ret2
        exact ⟨rfl, rfl⟩
      · clear h
        go_enter Tryz.func5, Tryz.ntmps5
        go_wp2_with fail
        refine (shape_any ab n wd c sp w hw a0 a1).mono ?_
        rintro e w' ⟨rfl, rfl⟩
        clear a0 a1
        go_wp2
        go_ret2
        exact ⟨rfl, rfl⟩
    · clear h
      go_enter Tryz.func5, Tryz.ntmps5
      go_wp2_with fail
      refine (shape_any ab n wd c sp w hw a0 a1).mono ?_
      rintro e w' ⟨rfl, rfl⟩
      clear a0 a1
      go_wp2
      go_ret2
      exact ⟨rfl, rfl⟩
  · clear h
    go_enter Tryz.func5, Tryz.ntmps5
    go_wp2_with fail
    refine (shape_any ab n wd c sp w hw a0 a1).mono ?_
    rintro e w' ⟨rfl, rfl⟩
    clear a0 a1
    go_wp2
    go_ret2
    exact ⟨rfl, rfl⟩
theorem refL_nil (lk lv : Int) (w : World) : Calls Tryz.prog 35 #[.pointer none, .int .i64 lk, .int .i64 lv] w fun e w' => e = .returned (.tuple #[.pointer none, .int .i64 1]) ∧ w' = w := by
  go_enter Tryz.func35, Tryz.ntmps35
  go_wp2
  go_ret2
  exact ⟨rfl, rfl⟩
theorem refL_refused (ab n c wd : Nat) (lk lv : Int) (sp : Option Addr) (w : World) (hz : n ≤ 1099511627776) (hwd : wd ≤ 16) (a0 : w.cell? ⟨ab, 0, none⟩ = some (.int .i64 (wd : Int))) (a1 : w.cell? ⟨ab, 1, none⟩ = some (.slice sp (n + 1) c)) (h : ¬ (1 ≤ lv ∧ lv ≤ 4 ∧ 0 ≤ lk ∧ lk + lv ≤ wd)) :
    Calls Tryz.prog 35 #[.pointer (some ⟨ab, 0, none⟩), .int .i64 lk, .int .i64 lv] w fun e w' => e = .returned (.tuple #[.pointer none, .int .i64 2]) ∧ w' = w.drew := by
  by_cases h1 : 1 ≤ lv
  · by_cases h2 : lv ≤ 4
    · by_cases h3 : 0 ≤ lk
      · have h4 : ¬ lk + lv ≤ wd := fun h4 => h ⟨h1, h2, h3, h4⟩
        clear h
        by_cases h5 : lk ≤ wd
        · have i5 : IntKind.i64.wrap (lk + lv) = lk + lv := by rw [IntKind.wrap_i64]; omega
          have i4 : (wd : Int) < lk + lv := by omega
          clear h4
          go_enter Tryz.func35, Tryz.ntmps35
          go_wp2_with fail
          refine (ref_shape ab n wd c sp w hz a0 a1).mono ?_
          rintro e w' ⟨rfl, rfl⟩
          clear a0 a1
          go_wp2
          go_ret2
          exact ⟨rfl, rfl⟩
        · go_enter Tryz.func35, Tryz.ntmps35
          go_wp2_with fail
          refine (ref_shape ab n wd c sp w hz a0 a1).mono ?_
          rintro e w' ⟨rfl, rfl⟩
          clear a0 a1
          go_wp2
          go_ret2
          exact ⟨rfl, rfl⟩
      · clear h
        go_enter Tryz.func35, Tryz.ntmps35
        go_wp2_with fail
        refine (ref_shape ab n wd c sp w hz a0 a1).mono ?_
        rintro e w' ⟨rfl, rfl⟩
        clear a0 a1
        go_wp2
        go_ret2
        exact ⟨rfl, rfl⟩
    · clear h
      go_enter Tryz.func35, Tryz.ntmps35
      go_wp2_with fail
      refine (ref_shape ab n wd c sp w hz a0 a1).mono ?_
      rintro e w' ⟨rfl, rfl⟩
      clear a0 a1
      go_wp2
      go_ret2
      exact ⟨rfl, rfl⟩
  · clear h
    go_enter Tryz.func35, Tryz.ntmps35
    go_wp2_with fail
    refine (ref_shape ab n wd c sp w hz a0 a1).mono ?_
    rintro e w' ⟨rfl, rfl⟩
    clear a0 a1
    go_wp2
    go_ret2
    exact ⟨rfl, rfl⟩
/-- The document's ladder: its arena, link, levels, heads, count. -/
structure RefL (w : World) (rb ab : Nat) (lk lv : Int) (vH : Value) (hs : List Int) (acc : Int) (W : World) : Prop where
  c0 : W.cell? ⟨rb, 0, none⟩ = some (.pointer (some ⟨ab, 0, none⟩))
  c1 : W.cell? ⟨rb, 1, none⟩ = some (.int .i64 lk)
  c2 : W.cell? ⟨rb, 2, none⟩ = some (.int .i64 lv)
  c3 : W.cell? ⟨rb, 3, none⟩ = some vH
  c4 : W.cell? ⟨rb, 4, none⟩ = some (.int .i64 acc)
  fz : ∀ j, W.frozen? ⟨rb, j, none⟩ = false
  oH : ownU W (rb + 1) vH hs
  low : Below w.heap.size w W
  hb : w.heap.size ≤ rb
  lt : rb + 1 ≤ W.heap.size
theorem RefL.drew {w W : World} {rb ab : Nat} {lk lv acc : Int} {vH : Value} {hs : List Int} (h : RefL w rb ab lk lv vH hs acc W) : RefL w rb ab lk lv vH hs acc W.drew := ⟨h.c0, h.c1, h.c2, h.c3, h.c4, h.fz, h.oH.drew, h.low.drew, h.hb, h.lt⟩
theorem RefL.at {w W w2 : World} {rb ab : Nat} {lk lv acc : Int} {vH : Value} {hs : List Int} (h : RefL w rb ab lk lv vH hs acc W) (hb : Below (rb + 1) W w2) : (∀ j, w2.cell? ⟨rb, j, none⟩ = W.cell? ⟨rb, j, none⟩) ∧ (∀ j, w2.frozen? ⟨rb, j, none⟩ = false) :=
  ⟨fun j => hb.cell (p := ⟨rb, j, none⟩) (by show rb < rb + 1; omega), fun j => (hb.frozen (p := ⟨rb, j, none⟩) (by show rb < rb + 1; omega)).trans (h.fz j)⟩
theorem RefL.push {w W w2 : World} {rb ab : Nat} {lk lv acc : Int} {vH v' : Value} {hs hs' : List Int} (h : RefL w rb ab lk lv vH hs acc W) (ho : ownU w2 (rb + 1) v' hs') (hb : Below (rb + 1) W w2) : RefL w rb ab lk lv v' hs' acc (w2.setCell ⟨rb, 3, none⟩ v') := by
  obtain ⟨cc, cf⟩ := h.at hb
  have hne : ∀ j, j ≠ 3 → (w2.setCell ⟨rb, 3, none⟩ v').cell? ⟨rb, j, none⟩ = w2.cell? ⟨rb, j, none⟩ := fun j hj => World.cell?_setCell_other _ _ _ _ (fun e => hj (congrArg Addr.off e).symm)
  refine ⟨(hne 0 (by decide)).trans ((cc 0).trans h.c0), (hne 1 (by decide)).trans ((cc 1).trans h.c1), (hne 2 (by decide)).trans ((cc 2).trans h.c2), World.cell?_setCell_same _ _ _ ((cc 3).trans h.c3), (hne 4 (by decide)).trans ((cc 4).trans h.c4), fun j => by simpa using cf j, ownsRow_setCell_below ho (a := ⟨rb, 3, none⟩) (by show rb < rb + 1; omega) _, (h.low.trans (hb.mono (by have := h.hb; omega))).setCell (p := ⟨rb, 3, none⟩) h.hb _, h.hb, ?_⟩
  have := hb.size
  have := h.lt
  simp
  omega
theorem RefL.start (w W : World) (ab : Nat) (lk lv : Int) (hw : Below w.heap.size w W) : RefL w W.heap.size ab lk lv (.slice none 0 0) [] 0 (W.alloc (.cells #[.pointer (some ⟨ab, 0, none⟩), .int .i64 lk, .int .i64 lv, .slice none 0 0, .int .i64 0] 140)) := by
  have hg := heap_alloc_new W (.cells #[.pointer (some ⟨ab, 0, none⟩), .int .i64 lk, .int .i64 lv, .slice none 0 0, .int .i64 0] 140)
  exact ⟨(cell?_heap hg 0).trans rfl, (cell?_heap hg 1).trans rfl, (cell?_heap hg 2).trans rfl, (cell?_heap hg 3).trans rfl, (cell?_heap hg 4).trans rfl, fun j => frozen?_heap hg j, ownU_nil _ _, hw.alloc hw.size _, hw.size, by simp⟩
/-- A region ends as it should, with an act that hangs on two numbers. -/
def PostE (A : Nat → Nat → Act) (S : Nat → Nat → World → Prop) : Exit → Act → World → Prop
  | .normal, b, w' => ∃ g k, b = A g k ∧ S g k w'
  | _, _, _ => False
theorem PostE.here (A : Nat → Nat → Act) {S : Nat → Nat → World → Prop} (g k : Nat) {w' : World} (h : S g k w') : PostE A S .normal (A g k) w' := ⟨g, k, rfl, h⟩
theorem wp_onceE {P : Program} {c : Code} {Q : Exit → Act → World → Prop} {a : Act} {w : World} (S : Nat → Nat → World → Prop) (h : ∃ A, c.wp P (PostE A S) a w ∧ ∀ g k w', S g k w' → Q .normal (A g k) w') : c.wp P Q a w := by
  obtain ⟨A, h1, h2⟩ := h
  refine Code.wp_mono ?_ h1
  intro e b w' h
  cases e <;> first | exact h.elim | (obtain ⟨g, k, rfl, h3⟩ := h; exact h2 _ _ _ h3)
theorem ownU.sl {w : World} {B : Nat} {v : Value} {xs : List Int} (h : ownU w B v xs) : ∃ sp len cap, v = .slice sp len cap := by
  rcases h.2 with ⟨rfl, _⟩ | ⟨g, cap, cur, rfl, _⟩
  · exact ⟨none, 0, 0, rfl⟩
  · exact ⟨_, _, _, rfl⟩
theorem ownU.formS {w : World} {B : Nat} {v : Value} {xs : List Int} {c : Int} (h : ownU w B v (xs ++ [c])) : ∃ g cap, v = .slice (some ⟨g, 0, none⟩) (xs.length + 1) cap := by
  rcases h.2 with ⟨_, h0⟩ | ⟨g, cap, cur, rfl, _⟩
  · simp at h0
  · exact ⟨g, cap, by simp⟩
theorem step_head {w W : World} {rb ab t : Nat} {lk lv : Int} {vH : Value} (hR : RefL w rb ab lk lv vH (List.replicate t 4294967294) 0 W) (ht : t ≤ 4) {ops : Array Oper} {o : Oper} {a : Act} {K : Act → World → Prop} {Q : Exit → Act → World → Prop} {E : Prop} (hgd : o.guard = none) (s x : Operand)
    (ho : o.op = .call { callee := .builtin .append, args := #[s, x], argTypes := #[125, 125] })
    (hs : a.eval s = vH) (hx : a.eval x = .slice (some ⟨W.heap.size, 0, none⟩) 1 1)
    (h : ∀ g k w', w'.cell? ⟨rb, 3, none⟩ = some vH → w'.frozen? ⟨rb, 3, none⟩ = false → Hid (RefL w rb ab lk lv (.slice (some ⟨g, 0, none⟩) (t + 1) k) (List.replicate (t + 1) 4294967294) 0 (w'.setCell ⟨rb, 3, none⟩ (.slice (some ⟨g, 0, none⟩) (t + 1) k))) → K (a.put o.dst (.slice (some ⟨g, 0, none⟩) (t + 1) k)) w') :
    if Region.wanted o (yielded ops a.tmps) = true then Oper.wp Tryz.prog o a (W.alloc (.cells #[.int .u64 4294967294] 52)) K Q else E := by
  have hw : Region.wanted o (yielded ops a.tmps) = true := by simp [Region.wanted, hgd]
  rw [if_pos hw]
  obtain ⟨i0, hi, hz0, hz1, hz2⟩ := info_parts infoW
  obtain ⟨v', w', hrun, hown', hgrow, _⟩ := run_append_own (P := Tryz.prog) (W.alloc (.cells #[.int .u64 4294967294] 52)) (rb + 1) 125 o.type 52 i0 (.int .u64 0) 1 8 Tryz.underlying125 hi hz0 hz1 hz2 rfl (by decide) vH t _ (by have := World.ownsRow.alloc hR.oH (.cells #[.int .u64 4294967294] 52); rw [List.length_replicate] at this; exact this) ⟨W.heap.size, 0, none⟩ 1 1 [.int .u64 4294967294] rfl
    (by
      intro j u hj
      match j, hj with
      | 0, hj => simp at hj; subst hj; simp [Addr.add]) (by intro u hu; simp at hu; subst hu; rfl) (by unfold maxLen; omega) (by omega) (by have := hR.lt; simp; omega)
  have hb' : Below (rb + 1) W w' := ((Below.refl _ _).alloc hR.lt _).grown hgrow (by have := hR.lt; simp; omega) (fun k hk => (World.ownsRow.lt hR.oH k hk).1)
  have ho' : ownU w' (rb + 1) v' (List.replicate t 4294967294 ++ [4294967294]) := by
    unfold ownU
    rw [List.map_append, List.length_append, List.length_replicate]
    exact hown'
  have d1 := ((hR.at hb').1 3).trans hR.c3
  have d2 := (hR.at hb').2 3
  obtain ⟨g, k, rfl⟩ := ho'.formS
  rw [List.length_replicate] at *
  unfold Oper.wp
  simp [execOp, ho, resolve, invoke, builtin, hs, hx, hrun, Result.andThen]
  exact h g k w' d1 d2 (hR.push (by rw [List.replicate_succ']; exact ho') hb')
theorem refL_new (ab n c wd lk lv : Nat) (sp : Option Addr) (w : World) (hz : n ≤ 1099511627776) (hwd : wd ≤ 16) (a0 : w.cell? ⟨ab, 0, none⟩ = some (.int .i64 (wd : Int))) (a1 : w.cell? ⟨ab, 1, none⟩ = some (.slice sp (n + 1) c)) (h1 : 1 ≤ lv) (h2 : lv ≤ 4) (h3 : lk + lv ≤ wd) :
    Calls Tryz.prog 35 #[.pointer (some ⟨ab, 0, none⟩), .int .i64 (lk : Int), .int .i64 (lv : Int)] w fun e w' => ∃ vH, e = .returned (.tuple #[.pointer (some ⟨w.heap.size, 0, none⟩), .int .i64 0]) ∧ RefL w w.heap.size ab lk lv vH (List.replicate lv 4294967294) 0 w' := by
  have i1 : ¬ (lv : Int) < 1 := by omega
  have i2 : ¬ (lv : Int) > 4 := by omega
  have i3 : ¬ (lk : Int) < 0 := by omega
  have i4 : ¬ (lk : Int) > (wd : Int) := by omega
  have i5 : IntKind.i64.wrap ((lk : Int) + (lv : Int)) = (lk : Int) + (lv : Int) := by rw [IntKind.wrap_i64]; omega
  have i6 : ¬ (lk : Int) + (lv : Int) > (wd : Int) := by omega
  have HL : Hid (RefL w w.drew.heap.size ab lk lv (.slice none 0 0) [] 0 (w.drew.alloc _)) := RefL.start w w.drew ab lk lv ((Below.refl _ _).drew)
  go_enter Tryz.func35, Tryz.ntmps35
  go_wp2_with fail
  refine (ref_shape ab n wd c sp w hz a0 a1).mono ?_
  rintro e w' ⟨rfl, rfl⟩
  clear a0 a1
  go_wp2_with fail
  clear i1 i2 i3 i4 i5 i6
  rw [show w.drew.heap.size = w.heap.size from rfl] at HL
  have hrb : w.heap.size = w.heap.size := rfl
  generalize hrb2 : w.heap.size = rb at *
  clear hrb
  have hdec : decide (wd < lk) = false := by simp; omega
  simp only [hdec, Bool.or_false]
  clear hdec
  go_loopw [11] (fun i wr => ∃ (t : Nat) (vH : Value), t ≤ lv ∧ i = .int .i64 t ∧ RefL w rb ab lk lv vH (List.replicate t 4294967294) 0 wr) (fun i _ => lv - (intOf i).toNat)
  case atStart => exact ⟨0, _, by omega, rfl, HL.out⟩
  case round =>
    obtain ⟨t, vH, ht, rfl, hR⟩ := hrel
    have HR : Hid (RefL w rb ab lk lv vH (List.replicate t 4294967294) 0 wr) := hR
    clear hR HL
    by_cases h4 : t < lv
    · obtain ⟨sp1, ln, cp, rfl⟩ := HR.out.oH.sl
      have c3 := HR.out.c3
      have c3b : (wr.alloc (.cells #[.int .u64 4294967294] 52)).cell? ⟨rb, 3, none⟩ = some (.slice sp1 ln cp) := (World.cell?_alloc_past _ _ _ (by have := HR.out.lt; show rb < _; omega)).trans c3
      go_wp2_with fail
      refine wp_onceE (fun g k w' => Hid (RefL w rb ab lk lv (.slice (some ⟨g, 0, none⟩) (t + 1) k) (List.replicate (t + 1) 4294967294) 0 w')) ?_
      apply Exists.intro
      constructor
      · go_region_law (first
          | (refine step_head HR.out.drew (by omega) rfl _ _ rfl (by rfl) (by rfl) ?_; intro g k w3 d1 d2 H4)
          | (go_simp; refine (word_end _).mono ?_; rintro e w' ⟨rfl, rfl⟩; simp only []))
        all_goals (rename_i g k w3 d1 d2 H4; exact PostE.here _ g k H4)
      intro g k w' HR2
      clear HR c3 c3b
      go_wp2
      go_roundw
      case rel => exact ⟨t + 1, _, by omega, by go_num, HR2.out⟩
      case measure => simp [intOf]; omega
    · have e4 : t = lv := by omega
      subst e4
      go_wp2
      go_ret2
      exact ⟨vH, by rw [hrb2]; rfl, by rw [hrb2]; exact HR.out⟩
end Go.Proofs.YtnebbopdeljaiaaGreat
