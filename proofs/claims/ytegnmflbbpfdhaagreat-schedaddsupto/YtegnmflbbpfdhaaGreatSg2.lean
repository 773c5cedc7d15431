import Derived.Test.YtegnmflbbpfdhaaGreatSg1
namespace Go.Proofs.YtegnmflbbpfdhaaGreat
open Go.ChangeShapes Go.WideShapes Go.ChangeAt Go.RowKit Go.MuLone Go.RwLone
set_option linter.unusedVariables false
set_option maxRecDepth 100000
set_option maxHeartbeats 3200000
def wiB (n a b : Int) : Bool := decide (a ≤ n ∧ n ≤ b)
theorem wiB_t {n a b : Int} (h : wiB n a b = true) : a ≤ n ∧ n ≤ b := by simpa [wiB] using h
theorem wiB_f {n a b : Int} (h : wiB n a b = false) : ¬ (a ≤ n ∧ n ≤ b) := by simpa [wiB] using h
theorem within_any (n a b : Int) (w : World) : Calls Tryz.prog 45 #[.int .i64 n, .int .i64 a, .int .i64 b] w fun e w' => e = .returned (.bool (wiB n a b)) ∧ w' = w := by
  by_cases h1 : a ≤ n
  · by_cases h2 : n ≤ b
    · have hd : wiB n a b = true := by simp [wiB, h1, h2]
      rw [hd]
      go_enter Tryz.func45, Tryz.ntmps45
      go_wp2
      go_ret
      exact ⟨rfl, rfl⟩
    · have hd : wiB n a b = false := by simp [wiB, h2]
      rw [hd]
      go_enter Tryz.func45, Tryz.ntmps45
      go_wp2
      go_ret
      exact ⟨rfl, rfl⟩
  · have hd : wiB n a b = false := by simp [wiB, h1]
    rw [hd]
    go_enter Tryz.func45, Tryz.ntmps45
    go_wp2
    go_ret
    exact ⟨rfl, rfl⟩
theorem isVal_any (r x : Int) (w : World) : Calls Tryz.prog 71 #[.agg #[.int .i64 r, .int .u64 x]] w fun e w' => e = .returned (.bool (wiB r (-1) 3)) ∧ Keeps (fun _ => False) w w' := by
  go_enter Tryz.func71, Tryz.ntmps71
  go_wp2_with fail
  refine (within_any r (-1) 3 _).mono ?_
  rintro e w' ⟨rfl, rfl⟩
  go_wp2
  go_ret
  exact ⟨rfl, (Keeps.refl _ _).alloc _⟩
/-- Is it an instruction over wd cells? -/
def sndB (wd : Nat) (x : I8) : Bool :=
  if x.op = 1 then wiB x.c 0 ((wd : Int) - 1) && wiB x.r 0 3
  else if x.op = 2 then wiB x.c 0 ((wd : Int) - 1) && wiB x.nr (-1) 3
  else if x.op = 3 then wiB x.c 0 ((wd : Int) - 1) && wiB x.r 0 3 && wiB x.orr (-1) 3 && wiB x.nr (-1) 3
  else if x.op = 4 then wiB x.c 0 ((wd : Int) - 1) && wiB x.r 0 3 && wiB x.nr (-1) 3
  else if x.op = 5 then wiB x.r 0 3 && wiB x.nr (-1) 3 && wiB x.n 1 10 else false
theorem snd_of {wd : Nat} {x : I8} (h : sndB wd x = true) : snd wd x := by
  have t1 : ∀ {n a b : Int}, wiB n a b = true → a ≤ n ∧ n ≤ b := wiB_t
  unfold sndB at h
  split at h
  · rename_i e
    simp only [Bool.and_eq_true] at h
    have := t1 h.1; have := t1 h.2
    exact .inl ⟨e, by omega, by omega⟩
  · split at h
    · rename_i e
      simp only [Bool.and_eq_true] at h
      have := t1 h.1; have := t1 h.2
      exact .inr (.inl ⟨e, by omega, by unfold vOk; omega⟩)
    · split at h
      · rename_i e
        simp only [Bool.and_eq_true] at h
        have := t1 h.1.1.1; have := t1 h.1.1.2; have := t1 h.1.2; have := t1 h.2
        exact .inr (.inr (.inl ⟨e, by omega, by omega, by unfold vOk; omega, by unfold vOk; omega⟩))
      · split at h
        · rename_i e
          simp only [Bool.and_eq_true] at h
          have := t1 h.1.1; have := t1 h.1.2; have := t1 h.2
          exact .inr (.inr (.inr (.inl ⟨e, by omega, by omega, by unfold vOk; omega⟩)))
        · split at h
          · rename_i e
            simp only [Bool.and_eq_true] at h
            have := t1 h.1.1; have := t1 h.1.2; have := t1 h.2
            exact .inr (.inr (.inr (.inr ⟨e, by omega, by unfold vOk; omega, by omega⟩)))
          · cases h
abbrev itW (w : World) (op c r nr ni orr oi n : Int) : World := w.alloc (.cells #[.int .i64 op, .int .i64 c, .int .i64 r, .int .i64 nr, .int .u64 ni, .int .i64 orr, .int .u64 oi, .int .i64 n] 31)
theorem it_cells {w w1 : World} {op c r nr ni orr oi n : Int} (k : Keeps (fun _ => False) (itW w op c r nr ni orr oi n) w1) : w1.cell? ⟨w.heap.size, 3, none⟩ = some (.int .i64 nr) ∧ w1.cell? ⟨w.heap.size, 4, none⟩ = some (.int .u64 ni) ∧ w1.cell? ⟨w.heap.size, 7, none⟩ = some (.int .i64 n) := by
  have hb1 : w1.heap[w.heap.size]? = some (.cells #[.int .i64 op, .int .i64 c, .int .i64 r, .int .i64 nr, .int .u64 ni, .int .i64 orr, .int .u64 oi, .int .i64 n] 31) := (k.block _ (by simp) (fun e => e)).trans (heap_alloc_last _ _ _ rfl)
  exact ⟨(cell?_heap hb1 3).trans rfl, (cell?_heap hb1 4).trans rfl, (cell?_heap hb1 7).trans rfl⟩
theorem isIn_1_0 (c r nr ni orr oi n : Int) (wd : Nat) (w : World) (hwd : wd ≤ 140737488355328) (hc : wiB c 0 ((wd : Int) - 1) = false) : Calls Tryz.prog 46 #[.agg #[.int .i64 1, .int .i64 c, .int .i64 r, .int .i64 nr, .int .u64 ni, .int .i64 orr, .int .u64 oi, .int .i64 n], .int .i64 (wd : Int)] w fun e w' => e = .returned (.bool false) ∧ Keeps (fun _ => False) w w' := by
  have hw : IntKind.i64.wrap ((wd : Int) - 1) = (wd : Int) - 1 := by rw [IntKind.wrap_i64]; omega
  have K0 : Hid (Keeps (fun _ => False) w (itW w 1 c r nr ni orr oi n)) := (Keeps.refl _ _).alloc _
  have Hc : Hid (wiB c 0 ((wd : Int) - 1) = false) := hc
  clear hc
  go_enter Tryz.func46, Tryz.ntmps46
  go_wp2_with fail
  refine (within_any c 0 ((wd : Int) - 1) _).mono ?_
  rintro e w' ⟨rfl, rfl⟩
  rw [Hc.out]
  go_wp2_with fail
  refine (within_any r 0 3 _).mono ?_
  rintro e w' ⟨rfl, rfl⟩
  generalize wiB r 0 3 = br at *
  go_wp2
  go_ret
  exact ⟨rfl, K0.out⟩
theorem isIn_1_1 (c r nr ni orr oi n : Int) (wd : Nat) (w : World) (hwd : wd ≤ 140737488355328) (hc : wiB c 0 ((wd : Int) - 1) = true) (hr : wiB r 0 3 = false) : Calls Tryz.prog 46 #[.agg #[.int .i64 1, .int .i64 c, .int .i64 r, .int .i64 nr, .int .u64 ni, .int .i64 orr, .int .u64 oi, .int .i64 n], .int .i64 (wd : Int)] w fun e w' => e = .returned (.bool false) ∧ Keeps (fun _ => False) w w' := by
  have hw : IntKind.i64.wrap ((wd : Int) - 1) = (wd : Int) - 1 := by rw [IntKind.wrap_i64]; omega
  have K0 : Hid (Keeps (fun _ => False) w (itW w 1 c r nr ni orr oi n)) := (Keeps.refl _ _).alloc _
  have Hc : Hid (wiB c 0 ((wd : Int) - 1) = true) := hc
  have Hr : Hid (wiB r 0 3 = false) := hr
  clear hc hr
  go_enter Tryz.func46, Tryz.ntmps46
  go_wp2_with fail
  refine (within_any c 0 ((wd : Int) - 1) _).mono ?_
  rintro e w' ⟨rfl, rfl⟩
  rw [Hc.out]
  go_wp2_with fail
  refine (within_any r 0 3 _).mono ?_
  rintro e w' ⟨rfl, rfl⟩
  rw [Hr.out]
  go_wp2
  go_ret
  exact ⟨rfl, K0.out⟩
theorem isIn_1_2 (c r nr ni orr oi n : Int) (wd : Nat) (w : World) (hwd : wd ≤ 140737488355328) (hc : wiB c 0 ((wd : Int) - 1) = true) (hr : wiB r 0 3 = true) : Calls Tryz.prog 46 #[.agg #[.int .i64 1, .int .i64 c, .int .i64 r, .int .i64 nr, .int .u64 ni, .int .i64 orr, .int .u64 oi, .int .i64 n], .int .i64 (wd : Int)] w fun e w' => e = .returned (.bool true) ∧ Keeps (fun _ => False) w w' := by
  have hw : IntKind.i64.wrap ((wd : Int) - 1) = (wd : Int) - 1 := by rw [IntKind.wrap_i64]; omega
  have K0 : Hid (Keeps (fun _ => False) w (itW w 1 c r nr ni orr oi n)) := (Keeps.refl _ _).alloc _
  have Hc : Hid (wiB c 0 ((wd : Int) - 1) = true) := hc
  have Hr : Hid (wiB r 0 3 = true) := hr
  clear hc hr
  go_enter Tryz.func46, Tryz.ntmps46
  go_wp2_with fail
  refine (within_any c 0 ((wd : Int) - 1) _).mono ?_
  rintro e w' ⟨rfl, rfl⟩
  rw [Hc.out]
  go_wp2_with fail
  refine (within_any r 0 3 _).mono ?_
  rintro e w' ⟨rfl, rfl⟩
  rw [Hr.out]
  go_wp2
  go_ret
  exact ⟨rfl, K0.out⟩
theorem isIn_2_0 (c r nr ni orr oi n : Int) (wd : Nat) (w : World) (hwd : wd ≤ 140737488355328) (hc : wiB c 0 ((wd : Int) - 1) = false) : Calls Tryz.prog 46 #[.agg #[.int .i64 2, .int .i64 c, .int .i64 r, .int .i64 nr, .int .u64 ni, .int .i64 orr, .int .u64 oi, .int .i64 n], .int .i64 (wd : Int)] w fun e w' => e = .returned (.bool false) ∧ Keeps (fun _ => False) w w' := by
  have hw : IntKind.i64.wrap ((wd : Int) - 1) = (wd : Int) - 1 := by rw [IntKind.wrap_i64]; omega
  have K0 : Hid (Keeps (fun _ => False) w (itW w 2 c r nr ni orr oi n)) := (Keeps.refl _ _).alloc _
  have Hc : Hid (wiB c 0 ((wd : Int) - 1) = false) := hc
  clear hc
  go_enter Tryz.func46, Tryz.ntmps46
  go_wp2_with fail
  refine (within_any c 0 ((wd : Int) - 1) _).mono ?_
  rintro e w' ⟨rfl, rfl⟩
  rw [Hc.out]
  go_wp2_with fail
  refine (within_any r 0 3 _).mono ?_
  rintro e w' ⟨rfl, rfl⟩
  generalize wiB r 0 3 = br at *
  go_wp2
  go_ret
  exact ⟨rfl, K0.out⟩
theorem isIn_2_1 (c r nr ni orr oi n : Int) (wd : Nat) (w : World) (hwd : wd ≤ 140737488355328) (hc : wiB c 0 ((wd : Int) - 1) = true) (hv : wiB nr (-1) 3 = false) : Calls Tryz.prog 46 #[.agg #[.int .i64 2, .int .i64 c, .int .i64 r, .int .i64 nr, .int .u64 ni, .int .i64 orr, .int .u64 oi, .int .i64 n], .int .i64 (wd : Int)] w fun e w' => e = .returned (.bool false) ∧ Keeps (fun _ => False) w w' := by
  have hw : IntKind.i64.wrap ((wd : Int) - 1) = (wd : Int) - 1 := by rw [IntKind.wrap_i64]; omega
  have K0 : Hid (Keeps (fun _ => False) w (itW w 2 c r nr ni orr oi n)) := (Keeps.refl _ _).alloc _
  have Hc : Hid (wiB c 0 ((wd : Int) - 1) = true) := hc
  have Hv : Hid (wiB nr (-1) 3 = false) := hv
  clear hc hv
  go_enter Tryz.func46, Tryz.ntmps46
  go_wp2_with fail
  refine (within_any c 0 ((wd : Int) - 1) _).mono ?_
  rintro e w' ⟨rfl, rfl⟩
  rw [Hc.out]
  go_wp2_with fail
  refine (within_any r 0 3 _).mono ?_
  rintro e w' ⟨rfl, rfl⟩
  generalize wiB r 0 3 = br at *
  go_wp2_with fail
  refine (isVal_any nr ni _).mono ?_
  rintro e w1 ⟨rfl, k1⟩
  rw [Hv.out]
  have K1 : Hid (Keeps (fun _ => False) (itW w 2 c r nr ni orr oi n) w1) := k1
  obtain ⟨d31, d41, d71⟩ := it_cells K1.out
  clear k1
  go_wp2
  go_ret
  exact ⟨rfl, K0.out.trans K1.out⟩
theorem isIn_2_2 (c r nr ni orr oi n : Int) (wd : Nat) (w : World) (hwd : wd ≤ 140737488355328) (hc : wiB c 0 ((wd : Int) - 1) = true) (hv : wiB nr (-1) 3 = true) : Calls Tryz.prog 46 #[.agg #[.int .i64 2, .int .i64 c, .int .i64 r, .int .i64 nr, .int .u64 ni, .int .i64 orr, .int .u64 oi, .int .i64 n], .int .i64 (wd : Int)] w fun e w' => e = .returned (.bool true) ∧ Keeps (fun _ => False) w w' := by
  have hw : IntKind.i64.wrap ((wd : Int) - 1) = (wd : Int) - 1 := by rw [IntKind.wrap_i64]; omega
  have K0 : Hid (Keeps (fun _ => False) w (itW w 2 c r nr ni orr oi n)) := (Keeps.refl _ _).alloc _
  have Hc : Hid (wiB c 0 ((wd : Int) - 1) = true) := hc
  have Hv : Hid (wiB nr (-1) 3 = true) := hv
  clear hc hv
  go_enter Tryz.func46, Tryz.ntmps46
  go_wp2_with fail
  refine (within_any c 0 ((wd : Int) - 1) _).mono ?_
  rintro e w' ⟨rfl, rfl⟩
  rw [Hc.out]
  go_wp2_with fail
  refine (within_any r 0 3 _).mono ?_
  rintro e w' ⟨rfl, rfl⟩
  generalize wiB r 0 3 = br at *
  go_wp2_with fail
  refine (isVal_any nr ni _).mono ?_
  rintro e w1 ⟨rfl, k1⟩
  rw [Hv.out]
  have K1 : Hid (Keeps (fun _ => False) (itW w 2 c r nr ni orr oi n) w1) := k1
  obtain ⟨d31, d41, d71⟩ := it_cells K1.out
  clear k1
  go_wp2
  go_ret
  exact ⟨rfl, K0.out.trans K1.out⟩
theorem isIn_3_0 (c r nr ni orr oi n : Int) (wd : Nat) (w : World) (hwd : wd ≤ 140737488355328) (hc : wiB c 0 ((wd : Int) - 1) = false) : Calls Tryz.prog 46 #[.agg #[.int .i64 3, .int .i64 c, .int .i64 r, .int .i64 nr, .int .u64 ni, .int .i64 orr, .int .u64 oi, .int .i64 n], .int .i64 (wd : Int)] w fun e w' => e = .returned (.bool false) ∧ Keeps (fun _ => False) w w' := by
  have hw : IntKind.i64.wrap ((wd : Int) - 1) = (wd : Int) - 1 := by rw [IntKind.wrap_i64]; omega
  have K0 : Hid (Keeps (fun _ => False) w (itW w 3 c r nr ni orr oi n)) := (Keeps.refl _ _).alloc _
  have Hc : Hid (wiB c 0 ((wd : Int) - 1) = false) := hc
  clear hc
  go_enter Tryz.func46, Tryz.ntmps46
  go_wp2_with fail
  refine (within_any c 0 ((wd : Int) - 1) _).mono ?_
  rintro e w' ⟨rfl, rfl⟩
  rw [Hc.out]
  go_wp2_with fail
  refine (within_any r 0 3 _).mono ?_
  rintro e w' ⟨rfl, rfl⟩
  generalize wiB r 0 3 = br at *
  go_wp2
  go_ret
  exact ⟨rfl, K0.out⟩
theorem isIn_3_1 (c r nr ni orr oi n : Int) (wd : Nat) (w : World) (hwd : wd ≤ 140737488355328) (hc : wiB c 0 ((wd : Int) - 1) = true) (hr : wiB r 0 3 = false) : Calls Tryz.prog 46 #[.agg #[.int .i64 3, .int .i64 c, .int .i64 r, .int .i64 nr, .int .u64 ni, .int .i64 orr, .int .u64 oi, .int .i64 n], .int .i64 (wd : Int)] w fun e w' => e = .returned (.bool false) ∧ Keeps (fun _ => False) w w' := by
  have hw : IntKind.i64.wrap ((wd : Int) - 1) = (wd : Int) - 1 := by rw [IntKind.wrap_i64]; omega
  have K0 : Hid (Keeps (fun _ => False) w (itW w 3 c r nr ni orr oi n)) := (Keeps.refl _ _).alloc _
  have Hc : Hid (wiB c 0 ((wd : Int) - 1) = true) := hc
  have Hr : Hid (wiB r 0 3 = false) := hr
  clear hc hr
  go_enter Tryz.func46, Tryz.ntmps46
  go_wp2_with fail
  refine (within_any c 0 ((wd : Int) - 1) _).mono ?_
  rintro e w' ⟨rfl, rfl⟩
  rw [Hc.out]
  go_wp2_with fail
  refine (within_any r 0 3 _).mono ?_
  rintro e w' ⟨rfl, rfl⟩
  rw [Hr.out]
  go_wp2
  go_ret
  exact ⟨rfl, K0.out⟩
theorem isIn_3_2 (c r nr ni orr oi n : Int) (wd : Nat) (w : World) (hwd : wd ≤ 140737488355328) (hc : wiB c 0 ((wd : Int) - 1) = true) (hr : wiB r 0 3 = true) (ho : wiB orr (-1) 3 = false) : Calls Tryz.prog 46 #[.agg #[.int .i64 3, .int .i64 c, .int .i64 r, .int .i64 nr, .int .u64 ni, .int .i64 orr, .int .u64 oi, .int .i64 n], .int .i64 (wd : Int)] w fun e w' => e = .returned (.bool false) ∧ Keeps (fun _ => False) w w' := by
  have hw : IntKind.i64.wrap ((wd : Int) - 1) = (wd : Int) - 1 := by rw [IntKind.wrap_i64]; omega
  have K0 : Hid (Keeps (fun _ => False) w (itW w 3 c r nr ni orr oi n)) := (Keeps.refl _ _).alloc _
  have Hc : Hid (wiB c 0 ((wd : Int) - 1) = true) := hc
  have Hr : Hid (wiB r 0 3 = true) := hr
  have Ho : Hid (wiB orr (-1) 3 = false) := ho
  clear hc hr ho
  go_enter Tryz.func46, Tryz.ntmps46
  go_wp2_with fail
  refine (within_any c 0 ((wd : Int) - 1) _).mono ?_
  rintro e w' ⟨rfl, rfl⟩
  rw [Hc.out]
  go_wp2_with fail
  refine (within_any r 0 3 _).mono ?_
  rintro e w' ⟨rfl, rfl⟩
  rw [Hr.out]
  go_wp2_with fail
  refine (isVal_any orr oi _).mono ?_
  rintro e w1 ⟨rfl, k1⟩
  rw [Ho.out]
  have K1 : Hid (Keeps (fun _ => False) (itW w 3 c r nr ni orr oi n) w1) := k1
  obtain ⟨d31, d41, d71⟩ := it_cells K1.out
  clear k1
  go_wp2
  go_ret
  exact ⟨rfl, K0.out.trans K1.out⟩
theorem isIn_3_3 (c r nr ni orr oi n : Int) (wd : Nat) (w : World) (hwd : wd ≤ 140737488355328) (hc : wiB c 0 ((wd : Int) - 1) = true) (hr : wiB r 0 3 = true) (ho : wiB orr (-1) 3 = true) (hv : wiB nr (-1) 3 = false) : Calls Tryz.prog 46 #[.agg #[.int .i64 3, .int .i64 c, .int .i64 r, .int .i64 nr, .int .u64 ni, .int .i64 orr, .int .u64 oi, .int .i64 n], .int .i64 (wd : Int)] w fun e w' => e = .returned (.bool false) ∧ Keeps (fun _ => False) w w' := by
  have hw : IntKind.i64.wrap ((wd : Int) - 1) = (wd : Int) - 1 := by rw [IntKind.wrap_i64]; omega
  have K0 : Hid (Keeps (fun _ => False) w (itW w 3 c r nr ni orr oi n)) := (Keeps.refl _ _).alloc _
  have Hc : Hid (wiB c 0 ((wd : Int) - 1) = true) := hc
  have Hr : Hid (wiB r 0 3 = true) := hr
  have Ho : Hid (wiB orr (-1) 3 = true) := ho
  have Hv : Hid (wiB nr (-1) 3 = false) := hv
  clear hc hr ho hv
  go_enter Tryz.func46, Tryz.ntmps46
  go_wp2_with fail
  refine (within_any c 0 ((wd : Int) - 1) _).mono ?_
  rintro e w' ⟨rfl, rfl⟩
  rw [Hc.out]
  go_wp2_with fail
  refine (within_any r 0 3 _).mono ?_
  rintro e w' ⟨rfl, rfl⟩
  rw [Hr.out]
  go_wp2_with fail
  refine (isVal_any orr oi _).mono ?_
  rintro e w1 ⟨rfl, k1⟩
  rw [Ho.out]
  have K1 : Hid (Keeps (fun _ => False) (itW w 3 c r nr ni orr oi n) w1) := k1
  obtain ⟨d31, d41, d71⟩ := it_cells K1.out
  clear k1
  go_wp2_with fail
  refine (isVal_any nr ni _).mono ?_
  rintro e w2 ⟨rfl, k2⟩
  rw [Hv.out]
  have K2 : Hid (Keeps (fun _ => False) (itW w 3 c r nr ni orr oi n) w2) := K1.out.trans k2
  obtain ⟨d32, d42, d72⟩ := it_cells K2.out
  clear k2
  go_wp2
  go_ret
  exact ⟨rfl, K0.out.trans K2.out⟩
theorem isIn_3_4 (c r nr ni orr oi n : Int) (wd : Nat) (w : World) (hwd : wd ≤ 140737488355328) (hc : wiB c 0 ((wd : Int) - 1) = true) (hr : wiB r 0 3 = true) (ho : wiB orr (-1) 3 = true) (hv : wiB nr (-1) 3 = true) : Calls Tryz.prog 46 #[.agg #[.int .i64 3, .int .i64 c, .int .i64 r, .int .i64 nr, .int .u64 ni, .int .i64 orr, .int .u64 oi, .int .i64 n], .int .i64 (wd : Int)] w fun e w' => e = .returned (.bool true) ∧ Keeps (fun _ => False) w w' := by
  have hw : IntKind.i64.wrap ((wd : Int) - 1) = (wd : Int) - 1 := by rw [IntKind.wrap_i64]; omega
  have K0 : Hid (Keeps (fun _ => False) w (itW w 3 c r nr ni orr oi n)) := (Keeps.refl _ _).alloc _
  have Hc : Hid (wiB c 0 ((wd : Int) - 1) = true) := hc
  have Hr : Hid (wiB r 0 3 = true) := hr
  have Ho : Hid (wiB orr (-1) 3 = true) := ho
  have Hv : Hid (wiB nr (-1) 3 = true) := hv
  clear hc hr ho hv
  go_enter Tryz.func46, Tryz.ntmps46
  go_wp2_with fail
  refine (within_any c 0 ((wd : Int) - 1) _).mono ?_
  rintro e w' ⟨rfl, rfl⟩
  rw [Hc.out]
  go_wp2_with fail
  refine (within_any r 0 3 _).mono ?_
  rintro e w' ⟨rfl, rfl⟩
  rw [Hr.out]
  go_wp2_with fail
  refine (isVal_any orr oi _).mono ?_
  rintro e w1 ⟨rfl, k1⟩
  rw [Ho.out]
  have K1 : Hid (Keeps (fun _ => False) (itW w 3 c r nr ni orr oi n) w1) := k1
  obtain ⟨d31, d41, d71⟩ := it_cells K1.out
  clear k1
  go_wp2_with fail
  refine (isVal_any nr ni _).mono ?_
  rintro e w2 ⟨rfl, k2⟩
  rw [Hv.out]
  have K2 : Hid (Keeps (fun _ => False) (itW w 3 c r nr ni orr oi n) w2) := K1.out.trans k2
  obtain ⟨d32, d42, d72⟩ := it_cells K2.out
  clear k2
  go_wp2
  go_ret
  exact ⟨rfl, K0.out.trans K2.out⟩
theorem isIn_4_0 (c r nr ni orr oi n : Int) (wd : Nat) (w : World) (hwd : wd ≤ 140737488355328) (hc : wiB c 0 ((wd : Int) - 1) = false) : Calls Tryz.prog 46 #[.agg #[.int .i64 4, .int .i64 c, .int .i64 r, .int .i64 nr, .int .u64 ni, .int .i64 orr, .int .u64 oi, .int .i64 n], .int .i64 (wd : Int)] w fun e w' => e = .returned (.bool false) ∧ Keeps (fun _ => False) w w' := by
  have hw : IntKind.i64.wrap ((wd : Int) - 1) = (wd : Int) - 1 := by rw [IntKind.wrap_i64]; omega
  have K0 : Hid (Keeps (fun _ => False) w (itW w 4 c r nr ni orr oi n)) := (Keeps.refl _ _).alloc _
  have Hc : Hid (wiB c 0 ((wd : Int) - 1) = false) := hc
  clear hc
  go_enter Tryz.func46, Tryz.ntmps46
  go_wp2_with fail
  refine (within_any c 0 ((wd : Int) - 1) _).mono ?_
  rintro e w' ⟨rfl, rfl⟩
  rw [Hc.out]
  go_wp2_with fail
  refine (within_any r 0 3 _).mono ?_
  rintro e w' ⟨rfl, rfl⟩
  generalize wiB r 0 3 = br at *
  go_wp2
  go_ret
  exact ⟨rfl, K0.out⟩
theorem isIn_4_1 (c r nr ni orr oi n : Int) (wd : Nat) (w : World) (hwd : wd ≤ 140737488355328) (hc : wiB c 0 ((wd : Int) - 1) = true) (hr : wiB r 0 3 = false) : Calls Tryz.prog 46 #[.agg #[.int .i64 4, .int .i64 c, .int .i64 r, .int .i64 nr, .int .u64 ni, .int .i64 orr, .int .u64 oi, .int .i64 n], .int .i64 (wd : Int)] w fun e w' => e = .returned (.bool false) ∧ Keeps (fun _ => False) w w' := by
  have hw : IntKind.i64.wrap ((wd : Int) - 1) = (wd : Int) - 1 := by rw [IntKind.wrap_i64]; omega
  have K0 : Hid (Keeps (fun _ => False) w (itW w 4 c r nr ni orr oi n)) := (Keeps.refl _ _).alloc _
  have Hc : Hid (wiB c 0 ((wd : Int) - 1) = true) := hc
  have Hr : Hid (wiB r 0 3 = false) := hr
  clear hc hr
  go_enter Tryz.func46, Tryz.ntmps46
  go_wp2_with fail
  refine (within_any c 0 ((wd : Int) - 1) _).mono ?_
  rintro e w' ⟨rfl, rfl⟩
  rw [Hc.out]
  go_wp2_with fail
  refine (within_any r 0 3 _).mono ?_
  rintro e w' ⟨rfl, rfl⟩
  rw [Hr.out]
  go_wp2
  go_ret
  exact ⟨rfl, K0.out⟩
theorem isIn_4_2 (c r nr ni orr oi n : Int) (wd : Nat) (w : World) (hwd : wd ≤ 140737488355328) (hc : wiB c 0 ((wd : Int) - 1) = true) (hr : wiB r 0 3 = true) (hv : wiB nr (-1) 3 = false) : Calls Tryz.prog 46 #[.agg #[.int .i64 4, .int .i64 c, .int .i64 r, .int .i64 nr, .int .u64 ni, .int .i64 orr, .int .u64 oi, .int .i64 n], .int .i64 (wd : Int)] w fun e w' => e = .returned (.bool false) ∧ Keeps (fun _ => False) w w' := by
  have hw : IntKind.i64.wrap ((wd : Int) - 1) = (wd : Int) - 1 := by rw [IntKind.wrap_i64]; omega
  have K0 : Hid (Keeps (fun _ => False) w (itW w 4 c r nr ni orr oi n)) := (Keeps.refl _ _).alloc _
  have Hc : Hid (wiB c 0 ((wd : Int) - 1) = true) := hc
  have Hr : Hid (wiB r 0 3 = true) := hr
  have Hv : Hid (wiB nr (-1) 3 = false) := hv
  clear hc hr hv
  go_enter Tryz.func46, Tryz.ntmps46
  go_wp2_with fail
  refine (within_any c 0 ((wd : Int) - 1) _).mono ?_
  rintro e w' ⟨rfl, rfl⟩
  rw [Hc.out]
  go_wp2_with fail
  refine (within_any r 0 3 _).mono ?_
  rintro e w' ⟨rfl, rfl⟩
  rw [Hr.out]
  go_wp2_with fail
  refine (isVal_any nr ni _).mono ?_
  rintro e w1 ⟨rfl, k1⟩
  rw [Hv.out]
  have K1 : Hid (Keeps (fun _ => False) (itW w 4 c r nr ni orr oi n) w1) := k1
  obtain ⟨d31, d41, d71⟩ := it_cells K1.out
  clear k1
  go_wp2
  go_ret
  exact ⟨rfl, K0.out.trans K1.out⟩
theorem isIn_4_3 (c r nr ni orr oi n : Int) (wd : Nat) (w : World) (hwd : wd ≤ 140737488355328) (hc : wiB c 0 ((wd : Int) - 1) = true) (hr : wiB r 0 3 = true) (hv : wiB nr (-1) 3 = true) : Calls Tryz.prog 46 #[.agg #[.int .i64 4, .int .i64 c, .int .i64 r, .int .i64 nr, .int .u64 ni, .int .i64 orr, .int .u64 oi, .int .i64 n], .int .i64 (wd : Int)] w fun e w' => e = .returned (.bool true) ∧ Keeps (fun _ => False) w w' := by
  have hw : IntKind.i64.wrap ((wd : Int) - 1) = (wd : Int) - 1 := by rw [IntKind.wrap_i64]; omega
  have K0 : Hid (Keeps (fun _ => False) w (itW w 4 c r nr ni orr oi n)) := (Keeps.refl _ _).alloc _
  have Hc : Hid (wiB c 0 ((wd : Int) - 1) = true) := hc
  have Hr : Hid (wiB r 0 3 = true) := hr
  have Hv : Hid (wiB nr (-1) 3 = true) := hv
  clear hc hr hv
  go_enter Tryz.func46, Tryz.ntmps46
  go_wp2_with fail
  refine (within_any c 0 ((wd : Int) - 1) _).mono ?_
  rintro e w' ⟨rfl, rfl⟩
  rw [Hc.out]
  go_wp2_with fail
  refine (within_any r 0 3 _).mono ?_
  rintro e w' ⟨rfl, rfl⟩
  rw [Hr.out]
  go_wp2_with fail
  refine (isVal_any nr ni _).mono ?_
  rintro e w1 ⟨rfl, k1⟩
  rw [Hv.out]
  have K1 : Hid (Keeps (fun _ => False) (itW w 4 c r nr ni orr oi n) w1) := k1
  obtain ⟨d31, d41, d71⟩ := it_cells K1.out
  clear k1
  go_wp2
  go_ret
  exact ⟨rfl, K0.out.trans K1.out⟩
theorem isIn_5_0 (c r nr ni orr oi n : Int) (wd : Nat) (w : World) (hwd : wd ≤ 140737488355328) (hr : wiB r 0 3 = false) : Calls Tryz.prog 46 #[.agg #[.int .i64 5, .int .i64 c, .int .i64 r, .int .i64 nr, .int .u64 ni, .int .i64 orr, .int .u64 oi, .int .i64 n], .int .i64 (wd : Int)] w fun e w' => e = .returned (.bool false) ∧ Keeps (fun _ => False) w w' := by
  have hw : IntKind.i64.wrap ((wd : Int) - 1) = (wd : Int) - 1 := by rw [IntKind.wrap_i64]; omega
  have K0 : Hid (Keeps (fun _ => False) w (itW w 5 c r nr ni orr oi n)) := (Keeps.refl _ _).alloc _
  have Hr : Hid (wiB r 0 3 = false) := hr
  clear hr
  go_enter Tryz.func46, Tryz.ntmps46
  go_wp2_with fail
  refine (within_any c 0 ((wd : Int) - 1) _).mono ?_
  rintro e w' ⟨rfl, rfl⟩
  generalize wiB c 0 ((wd : Int) - 1) = bc at *
  go_wp2_with fail
  refine (within_any r 0 3 _).mono ?_
  rintro e w' ⟨rfl, rfl⟩
  rw [Hr.out]
  go_wp2
  go_ret
  exact ⟨rfl, K0.out⟩
theorem isIn_5_1 (c r nr ni orr oi n : Int) (wd : Nat) (w : World) (hwd : wd ≤ 140737488355328) (hr : wiB r 0 3 = true) (hv : wiB nr (-1) 3 = false) : Calls Tryz.prog 46 #[.agg #[.int .i64 5, .int .i64 c, .int .i64 r, .int .i64 nr, .int .u64 ni, .int .i64 orr, .int .u64 oi, .int .i64 n], .int .i64 (wd : Int)] w fun e w' => e = .returned (.bool false) ∧ Keeps (fun _ => False) w w' := by
  have hw : IntKind.i64.wrap ((wd : Int) - 1) = (wd : Int) - 1 := by rw [IntKind.wrap_i64]; omega
  have K0 : Hid (Keeps (fun _ => False) w (itW w 5 c r nr ni orr oi n)) := (Keeps.refl _ _).alloc _
  have Hr : Hid (wiB r 0 3 = true) := hr
  have Hv : Hid (wiB nr (-1) 3 = false) := hv
  clear hr hv
  go_enter Tryz.func46, Tryz.ntmps46
  go_wp2_with fail
  refine (within_any c 0 ((wd : Int) - 1) _).mono ?_
  rintro e w' ⟨rfl, rfl⟩
  generalize wiB c 0 ((wd : Int) - 1) = bc at *
  go_wp2_with fail
  refine (within_any r 0 3 _).mono ?_
  rintro e w' ⟨rfl, rfl⟩
  rw [Hr.out]
  go_wp2_with fail
  refine (isVal_any nr ni _).mono ?_
  rintro e w1 ⟨rfl, k1⟩
  rw [Hv.out]
  have K1 : Hid (Keeps (fun _ => False) (itW w 5 c r nr ni orr oi n) w1) := k1
  obtain ⟨d31, d41, d71⟩ := it_cells K1.out
  clear k1
  go_wp2
  go_ret
  exact ⟨rfl, K0.out.trans K1.out⟩
theorem isIn_5_2 (c r nr ni orr oi n : Int) (wd : Nat) (w : World) (hwd : wd ≤ 140737488355328) (hr : wiB r 0 3 = true) (hv : wiB nr (-1) 3 = true) (hn : wiB n 1 10 = false) : Calls Tryz.prog 46 #[.agg #[.int .i64 5, .int .i64 c, .int .i64 r, .int .i64 nr, .int .u64 ni, .int .i64 orr, .int .u64 oi, .int .i64 n], .int .i64 (wd : Int)] w fun e w' => e = .returned (.bool false) ∧ Keeps (fun _ => False) w w' := by
  have hw : IntKind.i64.wrap ((wd : Int) - 1) = (wd : Int) - 1 := by rw [IntKind.wrap_i64]; omega
  have K0 : Hid (Keeps (fun _ => False) w (itW w 5 c r nr ni orr oi n)) := (Keeps.refl _ _).alloc _
  have Hr : Hid (wiB r 0 3 = true) := hr
  have Hv : Hid (wiB nr (-1) 3 = true) := hv
  have Hn : Hid (wiB n 1 10 = false) := hn
  clear hr hv hn
  go_enter Tryz.func46, Tryz.ntmps46
  go_wp2_with fail
  refine (within_any c 0 ((wd : Int) - 1) _).mono ?_
  rintro e w' ⟨rfl, rfl⟩
  generalize wiB c 0 ((wd : Int) - 1) = bc at *
  go_wp2_with fail
  refine (within_any r 0 3 _).mono ?_
  rintro e w' ⟨rfl, rfl⟩
  rw [Hr.out]
  go_wp2_with fail
  refine (isVal_any nr ni _).mono ?_
  rintro e w1 ⟨rfl, k1⟩
  rw [Hv.out]
  have K1 : Hid (Keeps (fun _ => False) (itW w 5 c r nr ni orr oi n) w1) := k1
  obtain ⟨d31, d41, d71⟩ := it_cells K1.out
  clear k1
  go_wp2_with fail
  refine (within_any n 1 10 _).mono ?_
  rintro e w' ⟨rfl, rfl⟩
  rw [Hn.out]
  go_wp2
  go_ret
  exact ⟨rfl, K0.out.trans K1.out⟩
theorem isIn_5_3 (c r nr ni orr oi n : Int) (wd : Nat) (w : World) (hwd : wd ≤ 140737488355328) (hr : wiB r 0 3 = true) (hv : wiB nr (-1) 3 = true) (hn : wiB n 1 10 = true) : Calls Tryz.prog 46 #[.agg #[.int .i64 5, .int .i64 c, .int .i64 r, .int .i64 nr, .int .u64 ni, .int .i64 orr, .int .u64 oi, .int .i64 n], .int .i64 (wd : Int)] w fun e w' => e = .returned (.bool true) ∧ Keeps (fun _ => False) w w' := by
  have hw : IntKind.i64.wrap ((wd : Int) - 1) = (wd : Int) - 1 := by rw [IntKind.wrap_i64]; omega
  have K0 : Hid (Keeps (fun _ => False) w (itW w 5 c r nr ni orr oi n)) := (Keeps.refl _ _).alloc _
  have Hr : Hid (wiB r 0 3 = true) := hr
  have Hv : Hid (wiB nr (-1) 3 = true) := hv
  have Hn : Hid (wiB n 1 10 = true) := hn
  clear hr hv hn
  go_enter Tryz.func46, Tryz.ntmps46
  go_wp2_with fail
  refine (within_any c 0 ((wd : Int) - 1) _).mono ?_
  rintro e w' ⟨rfl, rfl⟩
  generalize wiB c 0 ((wd : Int) - 1) = bc at *
  go_wp2_with fail
  refine (within_any r 0 3 _).mono ?_
  rintro e w' ⟨rfl, rfl⟩
  rw [Hr.out]
  go_wp2_with fail
  refine (isVal_any nr ni _).mono ?_
  rintro e w1 ⟨rfl, k1⟩
  rw [Hv.out]
  have K1 : Hid (Keeps (fun _ => False) (itW w 5 c r nr ni orr oi n) w1) := k1
  obtain ⟨d31, d41, d71⟩ := it_cells K1.out
  clear k1
  go_wp2_with fail
  refine (within_any n 1 10 _).mono ?_
  rintro e w' ⟨rfl, rfl⟩
  rw [Hn.out]
  go_wp2
  go_ret
  exact ⟨rfl, K0.out.trans K1.out⟩
theorem isIn_no (op c r nr ni orr oi n : Int) (wd : Nat) (w : World) (hwd : wd ≤ 140737488355328) (h1 : ¬ op = 1) (h2 : ¬ op = 2) (h3 : ¬ op = 3) (h4 : ¬ op = 4) (h5 : ¬ op = 5) : Calls Tryz.prog 46 #[.agg #[.int .i64 op, .int .i64 c, .int .i64 r, .int .i64 nr, .int .u64 ni, .int .i64 orr, .int .u64 oi, .int .i64 n], .int .i64 (wd : Int)] w fun e w' => e = .returned (.bool false) ∧ Keeps (fun _ => False) w w' := by
  have hw : IntKind.i64.wrap ((wd : Int) - 1) = (wd : Int) - 1 := by rw [IntKind.wrap_i64]; omega
  go_enter Tryz.func46, Tryz.ntmps46
  go_wp2_with fail
  refine (within_any c 0 ((wd : Int) - 1) _).mono ?_
  rintro e w' ⟨rfl, rfl⟩
  generalize wiB c 0 ((wd : Int) - 1) = bc at *
  go_wp2_with fail
  refine (within_any r 0 3 _).mono ?_
  rintro e w' ⟨rfl, rfl⟩
  generalize wiB r 0 3 = br at *
  go_wp2
  go_ret
  exact ⟨rfl, (Keeps.refl _ _).alloc _⟩
theorem isInstr_any (x : I8) (wd : Nat) (w : World) (hwd : wd ≤ 140737488355328) : Calls Tryz.prog 46 #[.agg (iV x), .int .i64 (wd : Int)] w fun e w' => e = .returned (.bool (sndB wd x)) ∧ Keeps (fun _ => False) w w' := by
  obtain ⟨op, c, r, nr, ni, orr, oi, n⟩ := x
  unfold iV inC
  dsimp only
  by_cases e1 : op = 1
  · subst e1
    have e : sndB wd ⟨1, c, r, nr, ni, orr, oi, n⟩ = (wiB c 0 ((wd : Int) - 1) && wiB r 0 3) := by simp [sndB]
    rw [e]
    cases hc : wiB c 0 ((wd : Int) - 1) with
    | false =>
      exact isIn_1_0 c r nr ni orr oi n wd w hwd hc
    | true =>
      cases hr : wiB r 0 3 with
      | false =>
        exact isIn_1_1 c r nr ni orr oi n wd w hwd hc hr
      | true =>
        exact isIn_1_2 c r nr ni orr oi n wd w hwd hc hr
  by_cases e2 : op = 2
  · subst e2
    have e : sndB wd ⟨2, c, r, nr, ni, orr, oi, n⟩ = (wiB c 0 ((wd : Int) - 1) && wiB nr (-1) 3) := by simp [sndB]
    rw [e]
    cases hc : wiB c 0 ((wd : Int) - 1) with
    | false =>
      exact isIn_2_0 c r nr ni orr oi n wd w hwd hc
    | true =>
      cases hv : wiB nr (-1) 3 with
      | false =>
        exact isIn_2_1 c r nr ni orr oi n wd w hwd hc hv
      | true =>
        exact isIn_2_2 c r nr ni orr oi n wd w hwd hc hv
  by_cases e3 : op = 3
  · subst e3
    have e : sndB wd ⟨3, c, r, nr, ni, orr, oi, n⟩ = (wiB c 0 ((wd : Int) - 1) && wiB r 0 3 && wiB orr (-1) 3 && wiB nr (-1) 3) := by simp [sndB]
    rw [e]
    cases hc : wiB c 0 ((wd : Int) - 1) with
    | false =>
      exact isIn_3_0 c r nr ni orr oi n wd w hwd hc
    | true =>
      cases hr : wiB r 0 3 with
      | false =>
        exact isIn_3_1 c r nr ni orr oi n wd w hwd hc hr
      | true =>
        cases ho : wiB orr (-1) 3 with
        | false =>
          exact isIn_3_2 c r nr ni orr oi n wd w hwd hc hr ho
        | true =>
          cases hv : wiB nr (-1) 3 with
          | false =>
            exact isIn_3_3 c r nr ni orr oi n wd w hwd hc hr ho hv
          | true =>
            exact isIn_3_4 c r nr ni orr oi n wd w hwd hc hr ho hv
  by_cases e4 : op = 4
  · subst e4
    have e : sndB wd ⟨4, c, r, nr, ni, orr, oi, n⟩ = (wiB c 0 ((wd : Int) - 1) && wiB r 0 3 && wiB nr (-1) 3) := by simp [sndB]
    rw [e]
    cases hc : wiB c 0 ((wd : Int) - 1) with
    | false =>
      exact isIn_4_0 c r nr ni orr oi n wd w hwd hc
    | true =>
      cases hr : wiB r 0 3 with
      | false =>
        exact isIn_4_1 c r nr ni orr oi n wd w hwd hc hr
      | true =>
        cases hv : wiB nr (-1) 3 with
        | false =>
          exact isIn_4_2 c r nr ni orr oi n wd w hwd hc hr hv
        | true =>
          exact isIn_4_3 c r nr ni orr oi n wd w hwd hc hr hv
  by_cases e5 : op = 5
  · subst e5
    have e : sndB wd ⟨5, c, r, nr, ni, orr, oi, n⟩ = (wiB r 0 3 && wiB nr (-1) 3 && wiB n 1 10) := by simp [sndB]
    rw [e]
    cases hr : wiB r 0 3 with
    | false =>
      exact isIn_5_0 c r nr ni orr oi n wd w hwd hr
    | true =>
      cases hv : wiB nr (-1) 3 with
      | false =>
        exact isIn_5_1 c r nr ni orr oi n wd w hwd hr hv
      | true =>
        cases hn : wiB n 1 10 with
        | false =>
          exact isIn_5_2 c r nr ni orr oi n wd w hwd hr hv hn
        | true =>
          exact isIn_5_3 c r nr ni orr oi n wd w hwd hr hv hn
  have e : sndB wd ⟨op, c, r, nr, ni, orr, oi, n⟩ = false := by simp [sndB, e1, e2, e3, e4, e5]
  rw [e]
  exact isIn_no op c r nr ni orr oi n wd w hwd e1 e2 e3 e4 e5
end Go.Proofs.YtegnmflbbpfdhaaGreat
