import Derived.Test.YtegnmflbbpfdhaaGreatSdQ
import Derived.Test.YtegnmflbbpfdhaaGreatRowH
namespace Go.Proofs.YtegnmflbbpfdhaaGreat
open Go.ChangeShapes Go.WideShapes Go.ChangeAt Go.RowKit Go.MuLone Go.RwLone
set_option linter.unusedVariables false
set_option maxRecDepth 100000
set_option maxHeartbeats 3200000
theorem within_yes (n a b : Int) (w : World) (h1 : a ≤ n) (h2 : n ≤ b) : Calls Tryz.prog 45 #[.int .i64 n, .int .i64 a, .int .i64 b] w fun e w' => e = .returned (.bool true) ∧ w' = w := by
  go_enter Tryz.func45, Tryz.ntmps45
  go_wp2
  go_ret
  exact ⟨rfl, rfl⟩
theorem isVal_imm (x : Int) (w : World) : Calls Tryz.prog 71 #[.agg #[.int .i64 (-1), .int .u64 x]] w fun e w' => e = .returned (.bool true) ∧ Keeps (fun _ => False) w w' := by
  go_enter Tryz.func71, Tryz.ntmps71
  go_wp2_with fail
  refine (within_yes (-1) (-1) 3 _ (by decide) (by decide)).mono ?_
  rintro e w' ⟨rfl, rfl⟩
  go_wp2
  go_ret
  exact ⟨rfl, (Keeps.refl _ _).alloc _⟩
abbrev inV (ni oi : Int) : Value := .agg #[.int .i64 3, .int .i64 1, .int .i64 2, .int .i64 (-1), .int .u64 ni, .int .i64 (-1), .int .u64 oi, .int .i64 0]
theorem isInstr_swap (ni oi : Int) (w : World) : Calls Tryz.prog 46 #[inV ni oi, .int .i64 2] w fun e w' => e = .returned (.bool true) ∧ Keeps (fun _ => False) w w' := by
  go_enter Tryz.func46, Tryz.ntmps46
  go_wp2_with fail
  refine (within_yes 1 0 1 _ (by decide) (by decide)).mono ?_
  rintro e w' ⟨rfl, rfl⟩
  go_wp2_with fail
  refine (within_yes 2 0 3 _ (by decide) (by decide)).mono ?_
  rintro e w' ⟨rfl, rfl⟩
  go_wp2_with fail
  refine (isVal_imm oi _).mono ?_
  rintro e w1 ⟨rfl, k1⟩
  have hb1 : w1.heap[w.heap.size]? = some (.cells #[.int .i64 3, .int .i64 1, .int .i64 2, .int .i64 (-1), .int .u64 ni, .int .i64 (-1), .int .u64 oi, .int .i64 0] 31) := (k1.block _ (by simp) (fun e => e)).trans (heap_alloc_last _ _ _ rfl)
  have c3 := (cell?_heap hb1 3).trans rfl
  have c4 := (cell?_heap hb1 4).trans rfl
  have K1 : Hid (Keeps (fun _ => False) w w1) := ((Keeps.refl _ _).alloc _).trans k1
  clear k1 hb1
  go_wp2_with fail
  refine (isVal_imm ni _).mono ?_
  rintro e w2 ⟨rfl, k2⟩
  go_wp2
  go_ret
  exact ⟨rfl, K1.out.trans k2⟩
/-- A litmus program of swaps, in its blocks. -/
structure Lit2 (w : World) (x0 : Int) (n cb tb : Nat) (ib ic : Nat → Nat) : Prop where
  c0 : w.cell? ⟨cb, 0, none⟩ = some (.int .u64 7)
  c1 : w.cell? ⟨cb, 1, none⟩ = some (.int .u64 x0)
  t : ∀ i, i < n → w.cell? ⟨tb, i, none⟩ = some (.slice (some ⟨ib i, 0, none⟩) 1 (ic i))
  i : ∀ i, i < n → In8 w (ib i) 0 3 ((1 : Nat) : Int) ((2 : Nat) : Int) (-1) (nw x0 i) (-1) x0 0
  lc : cb < w.heap.size
  lt : tb < w.heap.size
  k : ∀ i, i < n → 1 ≤ ic i
theorem Lit2.below {w w' : World} {x0 : Int} {n cb tb : Nat} {ib ic : Nat → Nat} {B : Nat} (h : Lit2 w x0 n cb tb ib ic) (k : Below B w w') (h1 : cb < B) (h2 : tb < B) (h3 : ∀ i, i < n → ib i < B) : Lit2 w' x0 n cb tb ib ic :=
  ⟨(k.cell (p := ⟨cb, 0, none⟩) h1).trans h.c0, (k.cell (p := ⟨cb, 1, none⟩) h1).trans h.c1, fun i hi => (k.cell (p := ⟨tb, i, none⟩) h2).trans (h.t i hi), fun i hi => 
    have e : ∀ j, w'.cell? ⟨ib i, j, none⟩ = w.cell? ⟨ib i, j, none⟩ := fun j => k.cell (p := ⟨ib i, j, none⟩) (h3 i hi)
    have hi' := h.i i hi
    ⟨(e _).trans hi'.c0, (e _).trans hi'.c1, (e _).trans hi'.c2, (e _).trans hi'.c3, (e _).trans hi'.c4, (e _).trans hi'.c5, (e _).trans hi'.c6, (e _).trans hi'.c7, Nat.lt_of_lt_of_le hi'.lt k.size⟩, Nat.lt_of_lt_of_le h.lc k.size, Nat.lt_of_lt_of_le h.lt k.size, h.k⟩
theorem Lit2.still {w w' : World} {x0 : Int} {n cb tb : Nat} {ib ic : Nat → Nat} (h : Lit2 w x0 n cb tb ib ic) (k : Keeps (fun _ => False) w w') : Lit2 w' x0 n cb tb ib ic :=
  ⟨(k.cell (p := ⟨cb, 0, none⟩) h.lc (fun e => e)).trans h.c0, (k.cell (p := ⟨cb, 1, none⟩) h.lc (fun e => e)).trans h.c1, fun i hi => (k.cell (p := ⟨tb, i, none⟩) h.lt (fun e => e)).trans (h.t i hi), fun i hi => (h.i i hi).keeps k (fun e => e), Nat.lt_of_lt_of_le h.lc k.size, Nat.lt_of_lt_of_le h.lt k.size, h.k⟩
abbrev litV (n cb tb tc : Nat) : Value := .agg #[.slice (some ⟨cb, 0, none⟩) 2 2, .slice (some ⟨tb, 0, none⟩) n tc]
abbrev litW (w : World) (n cb tb tc : Nat) : World := w.alloc (.cells #[.slice (some ⟨cb, 0, none⟩) 2 2, .slice (some ⟨tb, 0, none⟩) n tc] 27)
theorem lit_keep {w w' : World} {n cb tb tc : Nat} (k : Keeps (fun _ => False) (litW w n cb tb tc) w') : w'.cell? ⟨w.heap.size, 0, none⟩ = some (.slice (some ⟨cb, 0, none⟩) 2 2) ∧ w'.cell? ⟨w.heap.size, 1, none⟩ = some (.slice (some ⟨tb, 0, none⟩) n tc) := by
  have hb1 := (k.block w.heap.size (by simp) (fun e => e)).trans (heap_alloc_last _ _ _ rfl)
  exact ⟨(cell?_heap hb1 0).trans rfl, (cell?_heap hb1 1).trans rfl⟩
theorem isLit_swaps (w : World) (x0 : Int) (n cb tb tc : Nat) (ib ic : Nat → Nat) (h : Lit2 w x0 n cb tb ib ic) (h1 : 1 ≤ n) (h4 : n ≤ 4) :
    Calls Tryz.prog 24 #[litV n cb tb tc] w fun e w' => e = .returned (.bool true) ∧ Keeps (fun _ => False) w w' := by
  have H : Hid (Lit2 w x0 n cb tb ib ic) := h
  have HK0 : Hid (Keeps (fun _ => False) w (litW w n cb tb tc)) := (Keeps.refl _ _).alloc _
  clear h
  go_enter Tryz.func24, Tryz.ntmps24
  go_wp2_with fail
  refine (within_yes n 1 4 _ (by omega) (by omega)).mono ?_
  rintro e w' ⟨rfl, rfl⟩
  go_wp2_with fail
  refine (within_yes 2 1 4 _ (by decide) (by decide)).mono ?_
  rintro e w' ⟨rfl, rfl⟩
  go_wp2_with fail
  go_loopw [3, 23] (fun c d wr => ∃ (t : Nat), c = .int .i64 (10 - (t : Int)) ∧ d = .int .i64 t ∧ t ≤ n ∧ Keeps (fun _ => False) (litW w n cb tb tc) wr) (fun _ d _ => n - (intOf d).toNat)
  case atStart => exact ⟨0, by go_num, rfl, by omega, Keeps.refl _ _⟩
  case round =>
    obtain ⟨t, rfl, rfl, ht, hk⟩ := hrel
    have HK : Hid (Keeps (fun _ => False) (litW w n cb tb tc) wr) := hk
    clear hk
    by_cases h5 : t < n
    · have HL : Hid (Lit2 wr x0 n cb tb ib ic) := H.out.still (HK0.out.trans HK.out)
      have ct := HL.out.t t h5
      have t0 : (0 : Int) ≤ (t : Int) := Int.natCast_nonneg _
      have t1 : (t : Int) < (n : Int) := by omega
      have t2 : ¬ 10 - (t : Int) - 1 < 0 := by omega
      have t3 : IntKind.i64.wrap (10 - (t : Int) - 1) = 10 - (t : Int) - 1 := by rw [IntKind.wrap_i64]; omega
      go_wp2_with fail
      go_loopw [35] (fun c wr2 => ∃ (u : Nat), c = .int .i64 u ∧ u ≤ 1 ∧ Keeps (fun _ => False) (litW w n cb tb tc) wr2) (fun c _ => 1 - (intOf c).toNat)
      case atStart => exact ⟨0, rfl, by omega, HK.out⟩
      case round =>
        obtain ⟨u, rfl, hu, hk2⟩ := hrel
        have HK2 : Hid (Keeps (fun _ => False) (litW w n cb tb tc) wr) := hk2
        clear hk2
        by_cases h6 : u < 1
        · have : u = 0 := by omega
          subst this
          have i8 := (H.out.still (HK0.out.trans HK2.out)).i t h5
          have q0 := i8.c0
          have q1 := i8.c1
          have q2 := i8.c2
          have q3 := i8.c3
          have q4 := i8.c4
          have q5 := i8.c5
          have q6 := i8.c6
          have q7 := i8.c7
          have q8 : (wr.alloc (.cells #[.int .i64 3, .int .i64 1, .int .i64 2, .int .i64 (-1), .int .u64 (nw x0 t), .int .i64 (-1), .int .u64 x0, .int .i64 0] 31)).cell? ⟨w.heap.size, 0, none⟩ = some (.slice (some ⟨cb, 0, none⟩) 2 2) := (lit_keep (HK2.out.alloc _)).1
          have HK3 : Hid (Keeps (fun _ => False) (litW w n cb tb tc) (wr.alloc (.cells #[.int .i64 3, .int .i64 1, .int .i64 2, .int .i64 (-1), .int .u64 (nw x0 t), .int .i64 (-1), .int .u64 x0, .int .i64 0] 31))) := HK2.out.alloc _
          simp only [Nat.zero_mul, Nat.zero_add] at q0 q1 q2 q3 q4 q5 q6 q7
          clear i8 ct
          go_wp2_with fail
          refine (isInstr_swap (nw x0 t) x0 _).mono ?_
          rintro e w5 ⟨rfl, k5⟩
          have HK5 : Hid (Keeps (fun _ => False) (litW w n cb tb tc) w5) := HK3.out.trans k5
          clear k5 q8
          go_wp2
          go_roundw
          case rel => exact ⟨1, by go_num, by omega, HK5.out⟩
          case measure => simp [intOf]
        · go_wp2
          go_roundw
          case rel => exact ⟨t + 1, by go_num, by go_num, by omega, HK2.out⟩
          case measure => simp [intOf]; omega
    · go_wp2
      go_ret
      exact ⟨rfl, HK0.out.trans HK.out⟩
end Go.Proofs.YtegnmflbbpfdhaaGreat
