import Derived.Test.YtjcffcpmegpjeaaGreatDoorPnT4
import Derived.Test.YtjcffcpmegpjeaaGreatDoorRegG
namespace Go.Proofs.YtjcffcpmegpjeaaGreatDoor
set_option linter.unusedSimpArgs false
open Go.ChangeShapes Go.WideShapes Go.ChangeAt Go.RowKit
set_option linter.unusedVariables false
set_option maxRecDepth 100000
theorem str_beqP (a b : ByteArray) : (a.toList == b.toList) = decide (a = b) := by
  by_cases h : a = b
  · rw [h, decide_eq_true rfl, beq_self_eq_true]
  · rw [decide_eq_false h, beq_eq_false_iff_ne]
    intro h2
    apply h
    rw [Lib.toList_data, Lib.toList_data] at h2
    rcases a with ⟨⟨a⟩⟩
    rcases b with ⟨⟨b⟩⟩
    simp only at h2
    rw [h2]
/-- The first ones of a row. -/
theorem slice_take {α : Type} {f : α → Value} {w : World} {B : Nat} {a : Option Addr} {n cap : Nat} {xs : List α} (t : TypeId) (hu : Tryz.prog.underlying t = some (.slice (Tryz.prog.elem t))) (hs : ∀ w, (sizeOf (Tryz.prog.elem t)).run Tryz.prog w = .ok 1 w)
    (h : SeesG f w B (.slice a n cap) xs) (k : Nat) (hk : k ≤ xs.length) :
    ∃ a' cap', (∀ W, (Instr.slice t (.slice a n cap) none (some (.int .i64 (k : Int))) none).run Tryz.prog W = .ok (.slice a' (xs.take k).length cap') W) ∧ SeesG f w B (.slice a' (xs.take k).length cap') (xs.take k) := by
  obtain ⟨a0, cap0, e, hc, hx⟩ := h
  injection e with e1 e2 e3
  subst e1 e2 e3
  have e4 : (xs.take k).length = k := by rw [List.length_take]; omega
  refine ⟨_, _, fun W => by rw [run_slice_h W t a xs.length cap hu .i64 k (by omega) (by omega), hs]; simp only [Result.andThen, sliced, Int.toNat_natCast, Nat.zero_mul, Nat.sub_zero]; rw [e4], ?_⟩
  refine ⟨_, _, rfl, by omega, fun i hi => ?_⟩
  have hi' : i < xs.length := by omega
  obtain ⟨b, off, e1, e2, e3⟩ := hx i hi'
  subst e1
  refine ⟨b, off, ?_, e2, ?_⟩
  · by_cases h0 : cap = 0
    · rw [if_pos h0]
    · rw [if_neg h0]; simp [addr_add]
  · rw [List.getElem_take]; exact e3
/-- Is x among these? -/
def memB {α : Type} [DecidableEq α] (x : α) (l : List α) : Bool := l.any fun y => decide (x = y)
theorem memB_iff {α : Type} [DecidableEq α] (x : α) (l : List α) : memB x l = true ↔ x ∈ l := by
  unfold memB
  rw [List.any_eq_true]
  constructor
  · rintro ⟨y, h1, h2⟩
    rw [of_decide_eq_true h2]
    exact h1
  · intro h
    exact ⟨x, h, decide_eq_true rfl⟩
theorem memB_no {α : Type} [DecidableEq α] {x : α} {l : List α} (h : x ∉ l) : memB x l = false := by
  rcases hb : memB x l with _ | _
  · rfl
  · exact absurd ((memB_iff x l).1 hb) h
theorem mem_step {α : Type} [DecidableEq α] (x : α) (l : List α) (k : Nat) (h : k < l.length) : memB x (l.drop k) = (decide (x = l[k]) || memB x (l.drop (k + 1))) := by
  unfold memB
  rw [List.drop_eq_getElem_cons h, List.any_cons]
set_option maxHeartbeats 2000000 in
theorem ixSt (u : Value) (x : ByteArray) (ts : List ByteArray) (B : Nat) (w : World) (hu : SeesG Value.string w B u ts) (hl : ts.length ≤ 140737488355328) :
    Calls Tryz.prog 114 #[u, .string x] w fun e w' => (∃ r : Int, e = .returned (.int .i64 r) ∧ decide (0 ≤ r) = memB x ts) ∧ w' = w := by
  obtain ⟨a, cap, rfl⟩ := hu.form
  have HU : Hid (SeesG Value.string w B (.slice a ts.length cap) ts) := hu
  clear hu
  go_enter Tryz.func114, Tryz.ntmps114
  go_wp2
  go_loopw [5, 8] (fun _ i wr => ∃ k : Nat, k ≤ ts.length ∧ i = .int .i64 (k : Int) ∧ memB x ts = memB x (ts.drop k) ∧ wr = w) (fun _ i _ => ts.length - (intOf i).toNat)
  case atStart => exact ⟨0, by omega, rfl, rfl, rfl⟩
  case round =>
    obtain ⟨k, hk, rfl, he, rfl⟩ := hrel
    have HE : Hid (memB x ts = memB x (ts.drop k)) := he
    clear he
    by_cases hkl : k < ts.length
    · have hki : (k : Int) < (ts.length : Int) := by omega
      obtain ⟨b, off, rfl, c0⟩ := HU.out.cell k hkl
      have HS : Hid _ := mem_step x ts k hkl
      generalize ts[k] = y at *
      by_cases hxy : x = y
      · have hq : (x.toList == y.toList) = true := by rw [str_beqP]; exact decide_eq_true hxy
        have HF : Hid (memB x ts = true) := by
          show _ = _
          rw [HE.out, HS.out, decide_eq_true hxy]; rfl
        clear hxy
        go_wp2
        go_ret
        exact ⟨⟨_, rfl, by rw [HF.out]; simp⟩, rfl⟩
      · have hq : (x.toList == y.toList) = false := by rw [str_beqP]; exact decide_eq_false hxy
        have HF : Hid (memB x ts = memB x (ts.drop (k + 1))) := by
          show _ = _
          rw [HE.out, HS.out, decide_eq_false hxy, Bool.false_or]
        clear hxy
        go_wp2
        go_roundw
        case rel => exact ⟨k + 1, by omega, by go_num, HF.out, trivial⟩
        case measure => simp [intOf]; omega
    · have hki : ¬ (k : Int) < (ts.length : Int) := by omega
      have HF : Hid (memB x ts = false) := by
        show _ = _
        rw [HE.out, List.drop_eq_nil_of_le (by omega)]; rfl
      go_wp2
      go_ret
      exact ⟨⟨_, rfl, by rw [HF.out]; rfl⟩, rfl⟩
theorem hasSt (u : Value) (x : ByteArray) (ts : List ByteArray) (B : Nat) (w : World) (hu : SeesG Value.string w B u ts) (hl : ts.length ≤ 140737488355328) :
    Calls Tryz.prog 100 #[u, .string x] w fun e w' => e = .returned (.bool (memB x ts)) ∧ w' = w := by
  have HC : Hid (∀ _ : Unit, _) := fun _ => ixSt u x ts B w hu hl
  obtain ⟨a, cap, rfl⟩ := hu.form
  clear hu
  generalize memB x ts = z at *
  go_enter Tryz.func100, Tryz.ntmps100
  go_wp2_with fail
  refine (HC.out ()).mono ?_
  rintro e w1 ⟨⟨r, rfl, hr⟩, rfl⟩
  have HR : Hid (decide (0 ≤ r) = z) := hr
  clear hr
  go_wp2
  all_goals go_ret
  all_goals (have hr := HR.out; refine ⟨?_, rfl⟩; simp_all)
theorem sizeSt (w : World) : (sizeOf (Tryz.prog.elem 85)).run Tryz.prog w = .ok 1 w := by kernel_rfl
set_option maxHeartbeats 2000000 in
theorem repSt (u : Value) (ts : List ByteArray) (i B : Nat) (w : World) (hu : SeesG Value.string w B u ts) (hl : ts.length ≤ 140737488355328) (hi : i < ts.length) :
    Calls Tryz.prog 75 #[u, .int .i64 (i : Int)] w fun e w' => e = .returned (.bool (memB ts[i] (ts.take i))) ∧ w' = w.drew := by
  obtain ⟨a, cap, rfl⟩ := hu.form
  obtain ⟨a', cap', hrun, hsee⟩ := slice_take 85 (by kernel_rfl) sizeSt hu i (by omega)
  obtain ⟨b, off, rfl, c0⟩ := hu.cell i hi
  have hii : (i : Int) < (ts.length : Int) := by omega
  have hll : (ts.take i).length ≤ 140737488355328 := by rw [List.length_take]; omega
  have HC : Hid (∀ _ : Unit, _) := fun _ => hasSt (.slice a' (ts.take i).length cap') ts[i] (ts.take i) B w.drew hsee hll
  generalize ts.take i = us at *
  generalize ts[i] = x at *
  generalize memB x us = z at *
  clear hsee hu
  go_enter Tryz.func75, Tryz.ntmps75
  go_wp2_with fail
  (refine wp_region_held_drew (S := (fun W => W.cell? ⟨b, off + i, none⟩ = some (.string x))) (by kernel_rfl) c0 (fun hHeld => ?_); simp only [List.size_toArray, List.length_cons, List.length_nil, Nat.reduceAdd, Array.replicate_succ, Array.replicate_zero, List.push_toArray, List.append_toArray, List.nil_append, List.cons_append])
  (refine tk0 (v := ?_) (by kernel_rfl) (by kernel_rfl) (by kernel_rfl) (fun _ _ _ h => h) (Or.inl ⟨by rfl, ?_⟩) (by assumption) ?_; rotate_left; (focus (intro w hSw; (try dsimp only at hSw); go_simp; (try first | (rw [dif_pos (by omega)]; simp only [Result.andThen_ok]) | rw [if_pos (by omega)]); (try with_reducible rfl); done)); try simp only [Act.put, List.setIfInBounds_toArray, List.set_cons_zero, List.set_cons_succ])
  (refine tk1 (v := ?_) (by kernel_rfl) (by kernel_rfl) (by kernel_rfl) (fun _ _ _ h => h) (Or.inl ⟨by rfl, ?_⟩) (by assumption) ?_; rotate_left; (focus (intro w hSw; (try dsimp only at hSw); go_simp; (try first | (rw [dif_pos (by omega)]; simp only [Result.andThen_ok]) | rw [if_pos (by omega)]); (try with_reducible rfl); done)); try simp only [Act.put, List.setIfInBounds_toArray, List.set_cons_zero, List.set_cons_succ])
  (refine tk2 (v := ?_) (by kernel_rfl) (by kernel_rfl) (by kernel_rfl) (fun _ _ _ h => h) (Or.inl ⟨by rfl, ?_⟩) (by assumption) ?_; rotate_left; (focus (intro w hSw; (try dsimp only at hSw); go_simp; (try first | (rw [dif_pos (by omega)]; simp only [Result.andThen_ok]) | rw [if_pos (by omega)]); (try with_reducible rfl); done)); try simp only [Act.put, List.setIfInBounds_toArray, List.set_cons_zero, List.set_cons_succ])
  (refine tk3 (v := ?_) (by kernel_rfl) (by kernel_rfl) (by kernel_rfl) (fun _ _ _ h => h) (Or.inl ⟨by rfl, ?_⟩) (by assumption) ?_; rotate_left; (focus (intro w hSw; (try dsimp only at hSw); go_simp; (try first | (rw [dif_pos (by omega)]; simp only [Result.andThen_ok]) | rw [if_pos (by omega)]); (try with_reducible rfl); done)); try simp only [Act.put, List.setIfInBounds_toArray, List.set_cons_zero, List.set_cons_succ])
  (refine tk4 (v := ?_) (by kernel_rfl) (by kernel_rfl) (by kernel_rfl) (fun _ _ _ h => h) (Or.inl ⟨by rfl, ?_⟩) (by assumption) ?_; rotate_left; (focus (intro w hSw; (try dsimp only at hSw); go_simp; (try first | (rw [dif_pos (by omega)]; simp only [Result.andThen_ok]) | rw [if_pos (by omega)]); (try with_reducible rfl); done)); try simp only [Act.put, List.setIfInBounds_toArray, List.set_cons_zero, List.set_cons_succ])
  (refine tk5 (v := ?_) (by kernel_rfl) (by kernel_rfl) (by kernel_rfl) (fun _ _ _ h => h) (Or.inl ⟨by rfl, ?_⟩) (by assumption) ?_; rotate_left; (focus (intro w hSw; (try dsimp only at hSw); go_simp; (try first | (rw [dif_pos (by omega)]; simp only [Result.andThen_ok]) | rw [if_pos (by omega)]); (try with_reducible rfl); done)); try simp only [Act.put, List.setIfInBounds_toArray, List.set_cons_zero, List.set_cons_succ])
  (refine tk6 (v := ?_) (by kernel_rfl) (by kernel_rfl) (by kernel_rfl) (fun _ _ _ h => h) (Or.inl ⟨by rfl, ?_⟩) (by assumption) ?_; rotate_left; (focus (intro w hSw; (try dsimp only at hSw); go_simp; (try first | (rw [dif_pos (by omega)]; simp only [Result.andThen_ok]) | rw [if_pos (by omega)]); (try with_reducible rfl); done)); try simp only [Act.put, List.setIfInBounds_toArray, List.set_cons_zero, List.set_cons_succ])
  (refine wpAnyH_ready (rs := [7]) (by kernel_rfl) (by simp) ?_; refine ar7 (fun K hK => ?_) AllReadyH.nil; go_simp)
  go_at_call 100
  refine (HC.out ()).mono ?_
  rintro e w1 ⟨rfl, rfl⟩
  go_wp2_with fail
  (refine hK.out _ _ c0 (fun hHeld => ?_); clear hK K; try simp only [Act.put, List.setIfInBounds_toArray, List.set_cons_zero, List.set_cons_succ])
  (refine tk8 (v := ?_) (by kernel_rfl) (by kernel_rfl) (by kernel_rfl) (fun _ _ _ h => h) (Or.inl ⟨by rfl, ?_⟩) (by assumption) ?_; rotate_left; (focus (intro w hSw; (try dsimp only at hSw); go_simp; (try first | (rw [dif_pos (by omega)]; simp only [Result.andThen_ok]) | rw [if_pos (by omega)]); (try with_reducible rfl); done)); try simp only [Act.put, List.setIfInBounds_toArray, List.set_cons_zero, List.set_cons_succ])
  refine wpAnyH_done (by kernel_rfl) ?_ _
  go_wp2
  go_ret
  exact ⟨rfl, rfl⟩
set_option maxHeartbeats 2000000 in
theorem unlSt (u : Value) (ts : List ByteArray) (B : Nat) (w : World) (hB : B ≤ w.heap.size) (hu : SeesG Value.string w B u ts) (hl : ts.length ≤ 140737488355328) :
    Calls Tryz.prog 41 #[u] w fun e w' => e = .returned (.bool (decide ts.Nodup)) ∧ Below w.heap.size w w' := by
  obtain ⟨a, cap, rfl⟩ := hu.form
  have HU : Hid (SeesG Value.string w B (.slice a ts.length cap) ts) := hu
  clear hu
  go_enter Tryz.func41, Tryz.ntmps41
  go_wp2
  go_loopw [3, 6] (fun _ i wr => ∃ k : Nat, k ≤ ts.length ∧ i = .int .i64 (k : Int) ∧ (∀ j (h : j < ts.length), j < k → ts[j] ∉ ts.take j) ∧ Below w.heap.size w wr) (fun _ i _ => ts.length - (intOf i).toNat)
  case atStart => exact ⟨0, by omega, rfl, fun j _ h => by omega, Below.refl _ _⟩
  case round =>
    obtain ⟨k, hk, rfl, he, hb⟩ := hrel
    have HE : Hid (∀ j (h : j < ts.length), j < k → ts[j] ∉ ts.take j) := he
    have HB : Hid (Below w.heap.size w wr) := hb
    clear he hb
    by_cases hkl : k < ts.length
    · have hki : (k : Int) < (ts.length : Int) := by omega
      have HC : Hid (∀ _ : Unit, _) := fun _ => repSt (.slice a ts.length cap) ts k B wr (HU.out.later (HB.out.mono hB)) hl hkl
      by_cases hm : ts[k] ∈ ts.take k
      · have HF : Hid (decide ts.Nodup = false) := by
          refine decide_eq_false (fun hn => ?_)
          exact (nodup_iff ts).1 hn k hkl hm
        have hmd : memB ts[k] (ts.take k) = true := (memB_iff _ _).2 hm
        rw [hmd] at HC
        clear hm hmd
        go_wp2_with fail
        refine (HC.out ()).mono ?_
        rintro e w1 ⟨rfl, rfl⟩
        go_wp2
        go_ret
        exact ⟨by rw [HF.out]; rfl, HB.out.drew⟩
      · have HF : Hid (∀ j (h : j < ts.length), j < k + 1 → ts[j] ∉ ts.take j) := by
          intro j h1 h2
          rcases Nat.lt_or_ge j k with h3 | h3
          · exact HE.out j h1 h3
          · obtain rfl : j = k := by omega
            exact hm
        have hmd : memB ts[k] (ts.take k) = false := memB_no hm
        rw [hmd] at HC
        clear hm hmd
        go_wp2_with fail
        refine (HC.out ()).mono ?_
        rintro e w1 ⟨rfl, rfl⟩
        go_wp2
        go_roundw
        case rel => exact ⟨k + 1, by omega, by go_num, HF.out, HB.out.drew⟩
        case measure => simp [intOf]; omega
    · have hki : ¬ (k : Int) < (ts.length : Int) := by omega
      have HF : Hid (decide ts.Nodup = true) := decide_eq_true ((nodup_iff ts).2 (fun j h => HE.out j h (by omega)))
      go_wp2
      go_ret
      exact ⟨by rw [HF.out]; rfl, HB.out⟩
set_option maxHeartbeats 2000000 in
theorem ixIn (u : Value) (x : Int) (ts : List Int) (B : Nat) (w : World) (hu : SeesG (Value.int .i64) w B u ts) (hl : ts.length ≤ 140737488355328) :
    Calls Tryz.prog 115 #[u, .int .i64 x] w fun e w' => (∃ r : Int, e = .returned (.int .i64 r) ∧ decide (0 ≤ r) = memB x ts) ∧ w' = w := by
  obtain ⟨a, cap, rfl⟩ := hu.form
  have HU : Hid (SeesG (Value.int .i64) w B (.slice a ts.length cap) ts) := hu
  clear hu
  go_enter Tryz.func115, Tryz.ntmps115
  go_wp2
  go_loopw [5, 8] (fun _ i wr => ∃ k : Nat, k ≤ ts.length ∧ i = .int .i64 (k : Int) ∧ memB x ts = memB x (ts.drop k) ∧ wr = w) (fun _ i _ => ts.length - (intOf i).toNat)
  case atStart => exact ⟨0, by omega, rfl, rfl, rfl⟩
  case round =>
    obtain ⟨k, hk, rfl, he, rfl⟩ := hrel
    have HE : Hid (memB x ts = memB x (ts.drop k)) := he
    clear he
    by_cases hkl : k < ts.length
    · have hki : (k : Int) < (ts.length : Int) := by omega
      obtain ⟨b, off, rfl, c0⟩ := HU.out.cell k hkl
      have HS : Hid _ := mem_step x ts k hkl
      generalize ts[k] = y at *
      by_cases hxy : x = y
      · have hq : (x == y) = true := beq_iff_eq.2 hxy
        have HF : Hid (memB x ts = true) := by
          show _ = _
          rw [HE.out, HS.out, decide_eq_true hxy]; rfl
        clear hxy
        go_wp2
        go_ret
        exact ⟨⟨_, rfl, by rw [HF.out]; simp⟩, rfl⟩
      · have hq : (x == y) = false := beq_eq_false_iff_ne.2 hxy
        have HF : Hid (memB x ts = memB x (ts.drop (k + 1))) := by
          show _ = _
          rw [HE.out, HS.out, decide_eq_false hxy, Bool.false_or]
        clear hxy
        go_wp2
        go_roundw
        case rel => exact ⟨k + 1, by omega, by go_num, HF.out, trivial⟩
        case measure => simp [intOf]; omega
    · have hki : ¬ (k : Int) < (ts.length : Int) := by omega
      have HF : Hid (memB x ts = false) := by
        show _ = _
        rw [HE.out, List.drop_eq_nil_of_le (by omega)]; rfl
      go_wp2
      go_ret
      exact ⟨⟨_, rfl, by rw [HF.out]; rfl⟩, rfl⟩
theorem hasIn (u : Value) (x : Int) (ts : List Int) (B : Nat) (w : World) (hu : SeesG (Value.int .i64) w B u ts) (hl : ts.length ≤ 140737488355328) :
    Calls Tryz.prog 101 #[u, .int .i64 x] w fun e w' => e = .returned (.bool (memB x ts)) ∧ w' = w := by
  have HC : Hid (∀ _ : Unit, _) := fun _ => ixIn u x ts B w hu hl
  obtain ⟨a, cap, rfl⟩ := hu.form
  clear hu
  generalize memB x ts = z at *
  go_enter Tryz.func101, Tryz.ntmps101
  go_wp2_with fail
  refine (HC.out ()).mono ?_
  rintro e w1 ⟨⟨r, rfl, hr⟩, rfl⟩
  have HR : Hid (decide (0 ≤ r) = z) := hr
  clear hr
  go_wp2
  all_goals go_ret
  all_goals (have hr := HR.out; refine ⟨?_, rfl⟩; simp_all)
theorem sizeIn (w : World) : (sizeOf (Tryz.prog.elem 23)).run Tryz.prog w = .ok 1 w := by kernel_rfl
set_option maxHeartbeats 2000000 in
theorem repIn (u : Value) (ts : List Int) (i B : Nat) (w : World) (hu : SeesG (Value.int .i64) w B u ts) (hl : ts.length ≤ 140737488355328) (hi : i < ts.length) :
    Calls Tryz.prog 76 #[u, .int .i64 (i : Int)] w fun e w' => e = .returned (.bool (memB ts[i] (ts.take i))) ∧ w' = w.drew := by
  obtain ⟨a, cap, rfl⟩ := hu.form
  obtain ⟨a', cap', hrun, hsee⟩ := slice_take 23 (by kernel_rfl) sizeIn hu i (by omega)
  obtain ⟨b, off, rfl, c0⟩ := hu.cell i hi
  have hii : (i : Int) < (ts.length : Int) := by omega
  have hll : (ts.take i).length ≤ 140737488355328 := by rw [List.length_take]; omega
  have HC : Hid (∀ _ : Unit, _) := fun _ => hasIn (.slice a' (ts.take i).length cap') ts[i] (ts.take i) B w.drew hsee hll
  generalize ts.take i = us at *
  generalize ts[i] = x at *
  generalize memB x us = z at *
  clear hsee hu
  go_enter Tryz.func76, Tryz.ntmps76
  go_wp2_with fail
  (refine wp_region_held_drew (S := (fun W => W.cell? ⟨b, off + i, none⟩ = some (.int .i64 x))) (by kernel_rfl) c0 (fun hHeld => ?_); simp only [List.size_toArray, List.length_cons, List.length_nil, Nat.reduceAdd, Array.replicate_succ, Array.replicate_zero, List.push_toArray, List.append_toArray, List.nil_append, List.cons_append])
  (refine tk0 (v := ?_) (by kernel_rfl) (by kernel_rfl) (by kernel_rfl) (fun _ _ _ h => h) (Or.inl ⟨by rfl, ?_⟩) (by assumption) ?_; rotate_left; (focus (intro w hSw; (try dsimp only at hSw); go_simp; (try first | (rw [dif_pos (by omega)]; simp only [Result.andThen_ok]) | rw [if_pos (by omega)]); (try with_reducible rfl); done)); try simp only [Act.put, List.setIfInBounds_toArray, List.set_cons_zero, List.set_cons_succ])
  (refine tk1 (v := ?_) (by kernel_rfl) (by kernel_rfl) (by kernel_rfl) (fun _ _ _ h => h) (Or.inl ⟨by rfl, ?_⟩) (by assumption) ?_; rotate_left; (focus (intro w hSw; (try dsimp only at hSw); go_simp; (try first | (rw [dif_pos (by omega)]; simp only [Result.andThen_ok]) | rw [if_pos (by omega)]); (try with_reducible rfl); done)); try simp only [Act.put, List.setIfInBounds_toArray, List.set_cons_zero, List.set_cons_succ])
  (refine tk2 (v := ?_) (by kernel_rfl) (by kernel_rfl) (by kernel_rfl) (fun _ _ _ h => h) (Or.inl ⟨by rfl, ?_⟩) (by assumption) ?_; rotate_left; (focus (intro w hSw; (try dsimp only at hSw); go_simp; (try first | (rw [dif_pos (by omega)]; simp only [Result.andThen_ok]) | rw [if_pos (by omega)]); (try with_reducible rfl); done)); try simp only [Act.put, List.setIfInBounds_toArray, List.set_cons_zero, List.set_cons_succ])
  (refine tk3 (v := ?_) (by kernel_rfl) (by kernel_rfl) (by kernel_rfl) (fun _ _ _ h => h) (Or.inl ⟨by rfl, ?_⟩) (by assumption) ?_; rotate_left; (focus (intro w hSw; (try dsimp only at hSw); go_simp; (try first | (rw [dif_pos (by omega)]; simp only [Result.andThen_ok]) | rw [if_pos (by omega)]); (try with_reducible rfl); done)); try simp only [Act.put, List.setIfInBounds_toArray, List.set_cons_zero, List.set_cons_succ])
  (refine tk4 (v := ?_) (by kernel_rfl) (by kernel_rfl) (by kernel_rfl) (fun _ _ _ h => h) (Or.inl ⟨by rfl, ?_⟩) (by assumption) ?_; rotate_left; (focus (intro w hSw; (try dsimp only at hSw); go_simp; (try first | (rw [dif_pos (by omega)]; simp only [Result.andThen_ok]) | rw [if_pos (by omega)]); (try with_reducible rfl); done)); try simp only [Act.put, List.setIfInBounds_toArray, List.set_cons_zero, List.set_cons_succ])
  (refine tk5 (v := ?_) (by kernel_rfl) (by kernel_rfl) (by kernel_rfl) (fun _ _ _ h => h) (Or.inl ⟨by rfl, ?_⟩) (by assumption) ?_; rotate_left; (focus (intro w hSw; (try dsimp only at hSw); go_simp; (try first | (rw [dif_pos (by omega)]; simp only [Result.andThen_ok]) | rw [if_pos (by omega)]); (try with_reducible rfl); done)); try simp only [Act.put, List.setIfInBounds_toArray, List.set_cons_zero, List.set_cons_succ])
  (refine tk6 (v := ?_) (by kernel_rfl) (by kernel_rfl) (by kernel_rfl) (fun _ _ _ h => h) (Or.inl ⟨by rfl, ?_⟩) (by assumption) ?_; rotate_left; (focus (intro w hSw; (try dsimp only at hSw); go_simp; (try first | (rw [dif_pos (by omega)]; simp only [Result.andThen_ok]) | rw [if_pos (by omega)]); (try with_reducible rfl); done)); try simp only [Act.put, List.setIfInBounds_toArray, List.set_cons_zero, List.set_cons_succ])
  (refine wpAnyH_ready (rs := [7]) (by kernel_rfl) (by simp) ?_; refine ar7 (fun K hK => ?_) AllReadyH.nil; go_simp)
  go_at_call 101
  refine (HC.out ()).mono ?_
  rintro e w1 ⟨rfl, rfl⟩
  go_wp2_with fail
  (refine hK.out _ _ c0 (fun hHeld => ?_); clear hK K; try simp only [Act.put, List.setIfInBounds_toArray, List.set_cons_zero, List.set_cons_succ])
  (refine tk8 (v := ?_) (by kernel_rfl) (by kernel_rfl) (by kernel_rfl) (fun _ _ _ h => h) (Or.inl ⟨by rfl, ?_⟩) (by assumption) ?_; rotate_left; (focus (intro w hSw; (try dsimp only at hSw); go_simp; (try first | (rw [dif_pos (by omega)]; simp only [Result.andThen_ok]) | rw [if_pos (by omega)]); (try with_reducible rfl); done)); try simp only [Act.put, List.setIfInBounds_toArray, List.set_cons_zero, List.set_cons_succ])
  refine wpAnyH_done (by kernel_rfl) ?_ _
  go_wp2
  go_ret
  exact ⟨rfl, rfl⟩
set_option maxHeartbeats 2000000 in
theorem unlIn (u : Value) (ts : List Int) (B : Nat) (w : World) (hB : B ≤ w.heap.size) (hu : SeesG (Value.int .i64) w B u ts) (hl : ts.length ≤ 140737488355328) :
    Calls Tryz.prog 43 #[u] w fun e w' => e = .returned (.bool (decide ts.Nodup)) ∧ Below w.heap.size w w' := by
  obtain ⟨a, cap, rfl⟩ := hu.form
  have HU : Hid (SeesG (Value.int .i64) w B (.slice a ts.length cap) ts) := hu
  clear hu
  go_enter Tryz.func43, Tryz.ntmps43
  go_wp2
  go_loopw [3, 6] (fun _ i wr => ∃ k : Nat, k ≤ ts.length ∧ i = .int .i64 (k : Int) ∧ (∀ j (h : j < ts.length), j < k → ts[j] ∉ ts.take j) ∧ Below w.heap.size w wr) (fun _ i _ => ts.length - (intOf i).toNat)
  case atStart => exact ⟨0, by omega, rfl, fun j _ h => by omega, Below.refl _ _⟩
  case round =>
    obtain ⟨k, hk, rfl, he, hb⟩ := hrel
    have HE : Hid (∀ j (h : j < ts.length), j < k → ts[j] ∉ ts.take j) := he
    have HB : Hid (Below w.heap.size w wr) := hb
    clear he hb
    by_cases hkl : k < ts.length
    · have hki : (k : Int) < (ts.length : Int) := by omega
      have HC : Hid (∀ _ : Unit, _) := fun _ => repIn (.slice a ts.length cap) ts k B wr (HU.out.later (HB.out.mono hB)) hl hkl
      by_cases hm : ts[k] ∈ ts.take k
      · have HF : Hid (decide ts.Nodup = false) := by
          refine decide_eq_false (fun hn => ?_)
          exact (nodup_iff ts).1 hn k hkl hm
        have hmd : memB ts[k] (ts.take k) = true := (memB_iff _ _).2 hm
        rw [hmd] at HC
        clear hm hmd
        go_wp2_with fail
        refine (HC.out ()).mono ?_
        rintro e w1 ⟨rfl, rfl⟩
        go_wp2
        go_ret
        exact ⟨by rw [HF.out]; rfl, HB.out.drew⟩
      · have HF : Hid (∀ j (h : j < ts.length), j < k + 1 → ts[j] ∉ ts.take j) := by
          intro j h1 h2
          rcases Nat.lt_or_ge j k with h3 | h3
          · exact HE.out j h1 h3
          · obtain rfl : j = k := by omega
            exact hm
        have hmd : memB ts[k] (ts.take k) = false := memB_no hm
        rw [hmd] at HC
        clear hm hmd
        go_wp2_with fail
        refine (HC.out ()).mono ?_
        rintro e w1 ⟨rfl, rfl⟩
        go_wp2
        go_roundw
        case rel => exact ⟨k + 1, by omega, by go_num, HF.out, HB.out.drew⟩
        case measure => simp [intOf]; omega
    · have hki : ¬ (k : Int) < (ts.length : Int) := by omega
      have HF : Hid (decide ts.Nodup = true) := decide_eq_true ((nodup_iff ts).2 (fun j h => HE.out j h (by omega)))
      go_wp2
      go_ret
      exact ⟨by rw [HF.out]; rfl, HB.out⟩
end Go.Proofs.YtjcffcpmegpjeaaGreatDoor

namespace Go.Proofs.YtjcffcpmegpjeaaGreatDoor
set_option linter.unusedSimpArgs false
open Go.ChangeShapes Go.WideShapes Go.ChangeAt Go.RowKit
set_option linter.unusedVariables false
set_option maxRecDepth 100000
def tabV (nm : ByteArray) (num : Int) (cv kv : Value) : Value := .agg #[.string nm, .int .i64 num, cv, kv]
def tabW (w : World) (nm : ByteArray) (num : Int) (cv kv : Value) : World := w.alloc (.cells #[.string nm, .int .i64 num, cv, kv] 25)
theorem tabW_below (w : World) (nm : ByteArray) (num : Int) (cv kv : Value) : Below w.heap.size w (tabW w nm num cv kv) := (Below.refl _ _).alloc (Nat.le_refl _) _
set_option maxHeartbeats 8000000 in
theorem isTableT (nm : ByteArray) (num : Int) (cv kv : Value) (cs : List CD) (ks : List Int) (B : Nat) (w : World) (hB : B ≤ w.heap.size) (hv : SeesC w B cv cs) (hu : SeesG (Value.int .i64) w B kv ks) (hl : cs.length ≤ 140737488355328) (hkl : ks.length ≤ 140737488355328) :
    Calls Tryz.prog 18 #[tabV nm num cv kv] w fun e w' => e = .returned (.bool (isTb nm num cs ks)) ∧ Below w.heap.size w w' := by
  obtain ⟨ca, cc, rfl⟩ := hv.form
  obtain ⟨ka, kc, rfl⟩ := hu.form
  unfold tabV
  have HB0 : Hid (Below w.heap.size w (w.alloc (.cells #[.string nm, .int .i64 num, .slice ca cs.length cc, .slice ka ks.length kc] 25))) := tabW_below w nm num (.slice ca cs.length cc) (.slice ka ks.length kc)
  have HV : Hid (SeesC (w.alloc (.cells #[.string nm, .int .i64 num, .slice ca cs.length cc, .slice ka ks.length kc] 25)) B (.slice ca cs.length cc) cs) := hv.later (HB0.out.mono hB)
  have HU : Hid (SeesG (Value.int .i64) (w.alloc (.cells #[.string nm, .int .i64 num, .slice ca cs.length cc, .slice ka ks.length kc] 25)) B (.slice ka ks.length kc) ks) := hu.later (HB0.out.mono hB)
  have t0 : (w.alloc (.cells #[.string nm, .int .i64 num, .slice ca cs.length cc, .slice ka ks.length kc] 25)).cell? ⟨w.heap.size, 0, none⟩ = some (.string nm) := by simp
  have t1 : (w.alloc (.cells #[.string nm, .int .i64 num, .slice ca cs.length cc, .slice ka ks.length kc] 25)).cell? ⟨w.heap.size, 1, none⟩ = some (.int .i64 num) := by simp
  have t2 : (w.alloc (.cells #[.string nm, .int .i64 num, .slice ca cs.length cc, .slice ka ks.length kc] 25)).cell? ⟨w.heap.size, 2, none⟩ = some (.slice ca cs.length cc) := by simp
  have t3 : (w.alloc (.cells #[.string nm, .int .i64 num, .slice ca cs.length cc, .slice ka ks.length kc] 25)).cell? ⟨w.heap.size, 3, none⟩ = some (.slice ka ks.length kc) := by simp
  have htb : w.heap.size < (w.alloc (.cells #[.string nm, .int .i64 num, .slice ca cs.length cc, .slice ka ks.length kc] 25)).heap.size := by show _ < (w.heap.push _).size; simp
  clear hv hu
  have HN : Hid (∀ w, _) := fun w => nameT nm w
  by_cases hn : okNm nm = true
  · rw [hn] at HN
    by_cases hnum : 1 ≤ num
    · have hnumi : ¬ num < 1 := by omega
      by_cases hcs : okCs cs = true
      · have HL : Hid (Calls Tryz.prog 37 #[.slice ca cs.length cc, .int .i64 16, .func (.func 38) #[] #[]] (w.alloc (.cells #[.string nm, .int .i64 num, .slice ca cs.length cc, .slice ka ks.length kc] 25)) fun e w' => e = .returned (.bool (okCs cs)) ∧ Below (w.alloc (.cells #[.string nm, .int .i64 num, .slice ca cs.length cc, .slice ka ks.length kc] 25)).heap.size (w.alloc (.cells #[.string nm, .int .i64 num, .slice ca cs.length cc, .slice ka ks.length kc] 25)) w') := listColT _ cs B _ (by omega) HV.out (by omega)
        have HE0 : Hid (isTb nm num cs ks = (okKs cs ks && decide (nmsC cs).Nodup && decide ks.Nodup)) := by unfold isTb; rw [hn, decide_eq_true hnum, hcs]; rfl
        rw [hcs] at HL
        have hl16 : cs.length ≤ 16 := by unfold okCs at hcs; simp only [Bool.and_eq_true, decide_eq_true_eq] at hcs; exact hcs.1.2
        clear hn hnum hcs
        go_enter Tryz.func18, Tryz.ntmps18
        go_wp2_with fail
        refine (HN.out _).mono ?_
        rintro e w1 ⟨rfl, rfl⟩
        go_wp2_with fail
        refine Calls.mono HL.out ?_
        rintro e w2 ⟨rfl, hb2⟩
        have HB2 : Hid (Below w.heap.size w w2) := HB0.out.trans (hb2.mono (by omega))
        have HV2 : Hid (SeesC w2 B (.slice ca cs.length cc) cs) := HV.out.later (hb2.mono (by omega))
        have HU2 : Hid (SeesG (Value.int .i64) w2 B (.slice ka ks.length kc) ks) := HU.out.later (hb2.mono (by omega))
        have s2 : w2.cell? ⟨w.heap.size, 2, none⟩ = some (.slice ca cs.length cc) := by rw [hb2.cell htb]; exact t2
        have s3 : w2.cell? ⟨w.heap.size, 3, none⟩ = some (.slice ka ks.length kc) := by rw [hb2.cell htb]; exact t3
        have hsz2 : w.heap.size < w2.heap.size := by have := hb2.size; omega
        clear hb2 HL HV HU t0 t1 t2 t3 HN
        have HL2 : Hid (∀ _ : Unit, _) := fun _ => listIntT (.slice ka ks.length kc) (.slice ca cs.length cc) ks cs w.heap.size B w2 (by omega) HU2.out hkl s2 HV2.out (by omega)
        by_cases hks : okKs cs ks = true
        · rw [hks] at HL2
          have HE1 : Hid (isTb nm num cs ks = (decide (nmsC cs).Nodup && decide ks.Nodup)) := by
            show _ = _
            rw [HE0.out, hks]; rfl
          clear hks
          go_wp2_with fail
          refine (HL2.out ()).mono ?_
          rintro e w3 ⟨rfl, hb3⟩
          have HB3 : Hid (Below w.heap.size w w3) := HB2.out.trans (hb3.mono (by omega))
          have HV3 : Hid (SeesC w3 B (.slice ca cs.length cc) cs) := HV2.out.later (hb3.mono (by omega))
          have HU3 : Hid (SeesG (Value.int .i64) w3 B (.slice ka ks.length kc) ks) := HU2.out.later (hb3.mono (by omega))
          have r2 : w3.cell? ⟨w.heap.size, 2, none⟩ = some (.slice ca cs.length cc) := by rw [hb3.cell hsz2]; exact s2
          have r3 : w3.cell? ⟨w.heap.size, 3, none⟩ = some (.slice ka ks.length kc) := by rw [hb3.cell hsz2]; exact s3
          have hsz3 : w.heap.size < w3.heap.size := by have := hb3.size; omega
          clear hb3 HL2 s2 s3
          go_wp2_with fail
          refine (namesT (.slice ca cs.length cc) cs B w3 (by omega) HV3.out (by omega)).mono ?_
          rintro e w4 ⟨⟨u, rfl, hsee⟩, hb4⟩
          obtain ⟨na, nc, rfl⟩ := hsee.form
          have hnl : (nmsC cs).length ≤ 140737488355328 := by unfold nmsC; rw [List.length_map]; omega
          have HB4 : Hid (Below w.heap.size w w4) := HB3.out.trans (hb4.mono (by omega))
          have HU4 : Hid (SeesG (Value.int .i64) w4 B (.slice ka ks.length kc) ks) := HU3.out.later (hb4.mono (by omega))
          have q3 : w4.cell? ⟨w.heap.size, 3, none⟩ = some (.slice ka ks.length kc) := by rw [hb4.cell hsz3]; exact r3
          have hsz4 : w.heap.size < w4.heap.size := by have := hb4.size; omega
          have HC5 : Hid (∀ _ : Unit, _) := fun _ => unlSt _ (nmsC cs) w4.heap.size w4 (Nat.le_refl _) hsee hnl
          clear hb4 hsee r2 r3
          generalize nmsC cs = ns at *
          go_wp2_with fail
          refine (HC5.out ()).mono ?_
          rintro e w5 ⟨rfl, hb5⟩
          have HB5 : Hid (Below w.heap.size w w5) := HB4.out.trans (hb5.mono (by omega))
          have HU5 : Hid (SeesG (Value.int .i64) w5 B (.slice ka ks.length kc) ks) := HU4.out.later (hb5.mono (by omega))
          have p3 : w5.cell? ⟨w.heap.size, 3, none⟩ = some (.slice ka ks.length kc) := by rw [hb5.cell hsz4]; exact q3
          have hsz5 : w.heap.size < w5.heap.size := by have := hb5.size; omega
          clear hb5 q3 HC5
          generalize decide ns.Nodup = x at *
          rcases x with _ | _
          · have HE : Hid (isTb nm num cs ks = false) := HE1.out
            go_wp2
            go_ret
            exact ⟨by rw [HE.out]; rfl, HB5.out⟩
          · have HE : Hid (isTb nm num cs ks = decide ks.Nodup) := by
              show _ = _
              rw [HE1.out]; rfl
            go_wp2_with fail
            refine (unlIn (.slice ka ks.length kc) ks B w5 (by omega) HU5.out hkl).mono ?_
            rintro e w6 ⟨rfl, hb6⟩
            have HB6 : Hid (Below w.heap.size w w6) := HB5.out.trans (hb6.mono (by omega))
            clear hb6
            generalize decide ks.Nodup = y at *
            go_wp2
            go_ret
            exact ⟨by rw [HE.out]; cases y <;> rfl, HB6.out⟩
        · have hks' : okKs cs ks = false := by simpa using hks
          have HE : Hid (isTb nm num cs ks = false) := by
            show _ = _
            rw [HE0.out, hks']; rfl
          rw [hks'] at HL2
          clear hks hks'
          go_wp2_with fail
          refine (HL2.out ()).mono ?_
          rintro e w3 ⟨rfl, hb3⟩
          go_wp2
          go_ret
          exact ⟨by rw [HE.out]; rfl, HB2.out.trans (hb3.mono (by omega))⟩
      · have hcs' : okCs cs = false := by simpa using hcs
        have HL : Hid (Calls Tryz.prog 37 #[.slice ca cs.length cc, .int .i64 16, .func (.func 38) #[] #[]] (w.alloc (.cells #[.string nm, .int .i64 num, .slice ca cs.length cc, .slice ka ks.length kc] 25)) fun e w' => e = .returned (.bool (okCs cs)) ∧ Below (w.alloc (.cells #[.string nm, .int .i64 num, .slice ca cs.length cc, .slice ka ks.length kc] 25)).heap.size (w.alloc (.cells #[.string nm, .int .i64 num, .slice ca cs.length cc, .slice ka ks.length kc] 25)) w') := listColT _ cs B _ (by omega) HV.out (by omega)
        have HE : Hid (isTb nm num cs ks = false) := by unfold isTb; rw [hn, decide_eq_true hnum, hcs']; rfl
        rw [hcs'] at HL
        clear hn hnum hcs hcs'
        go_enter Tryz.func18, Tryz.ntmps18
        go_wp2_with fail
        refine (HN.out _).mono ?_
        rintro e w1 ⟨rfl, rfl⟩
        go_wp2_with fail
        refine Calls.mono HL.out ?_
        rintro e w2 ⟨rfl, hb2⟩
        have HB2 : Hid (Below w.heap.size w w2) := HB0.out.trans (hb2.mono (by omega))
        clear hb2
        go_wp2
        go_ret
        exact ⟨by rw [HE.out]; rfl, HB2.out⟩
    · have hnumi : num < 1 := by omega
      have HE : Hid (isTb nm num cs ks = false) := by unfold isTb; rw [hn, decide_eq_false hnum]; rfl
      clear hn hnum
      go_enter Tryz.func18, Tryz.ntmps18
      go_wp2_with fail
      refine (HN.out _).mono ?_
      rintro e w1 ⟨rfl, rfl⟩
      go_wp2
      go_ret
      exact ⟨by rw [HE.out]; rfl, HB0.out⟩
  · have hn' : okNm nm = false := by simpa using hn
    have HE : Hid (isTb nm num cs ks = false) := by unfold isTb; rw [hn']; rfl
    rw [hn'] at HN
    clear hn hn'
    go_enter Tryz.func18, Tryz.ntmps18
    go_wp2_with fail
    refine (HN.out _).mono ?_
    rintro e w1 ⟨rfl, rfl⟩
    go_wp2
    go_ret
    exact ⟨by rw [HE.out]; rfl, HB0.out⟩
end Go.Proofs.YtjcffcpmegpjeaaGreatDoor
