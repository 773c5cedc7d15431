import Derived.Test.YtegnmflbbpfdhaaGreatSdR
import Derived.Lib.SliceRun
namespace Go.Proofs.YtegnmflbbpfdhaaGreat
set_option linter.unusedSimpArgs false
open Go.ChangeShapes Go.WideShapes Go.ChangeAt Go.RowKit Go.MuLone Go.RwLone
set_option linter.unusedVariables false
set_option maxRecDepth 100000
set_option maxHeartbeats 3200000
/-- An instruction's cells; a place's. -/
structure I8 where
  op : Int
  c : Int
  r : Int
  nr : Int
  ni : Int
  orr : Int
  oi : Int
  n : Int
def iC (x : I8) : List Value := [.int .i64 x.op, .int .i64 x.c, .int .i64 x.r, .int .i64 x.nr, .int .u64 x.ni, .int .i64 x.orr, .int .u64 x.oi, .int .i64 x.n]
def plC (x : Nat × Int) : List Value := [.pointer (some ⟨x.1, 0, none⟩), .int .i64 x.2, .bool false]
theorem infoIn : (Tryz.prog.info? 31).map (fun i => (i.zero, i.size, i.bytes)) = some (some (.agg #[.int .i64 0, .int .i64 0, .int .i64 0, .int .i64 0, .int .u64 0, .int .i64 0, .int .u64 0, .int .i64 0]), 8, 64) := by kernel_rfl
theorem infoQ : (Tryz.prog.info? 146).map (fun i => (i.zero, i.size, i.bytes)) = some (some (.slice none 0 0), 1, 24) := by kernel_rfl
theorem iC_one (x : I8) : ∀ u ∈ iC x, u.oneCell' = true := by
  intro u hu
  simp [iC] at hu
  rcases hu with rfl | rfl | rfl | rfl | rfl | rfl | rfl | rfl <;> rfl
theorem In8.of {w : World} {ib k : Nat} {x : I8} (h : ∀ j, j < 8 → w.cell? ⟨ib, k * 8 + j, none⟩ = (iC x)[j]?) (lt : ib < w.heap.size) : In8 w ib k x.op x.c x.r x.nr x.ni x.orr x.oi x.n :=
  ⟨h 0 (by decide), h 1 (by decide), h 2 (by decide), h 3 (by decide), h 4 (by decide), h 5 (by decide), h 6 (by decide), h 7 (by decide), lt⟩
theorem hideG {P : Prop} (h : Hid P) : P := h.out
theorem eqNilI (w : World) (a : Option Addr) (n c n' c' : Nat) : (binOp .eql 32 (.slice a n c) (.slice none n' c')).run Tryz.prog w = .ok (.bool a.isNone) w := Lib.run_eql_slice_nil w _ _ a n c n' c' Tryz.underlying32
theorem clone_in (w : World) (C : Nat) (ad : Addr) (cap : Nat) (xs : List I8) (h : InG iC w C (.slice (some ad) xs.length cap) xs) (hC : C ≤ w.heap.size) (hl : xs.length ≤ 1000) :
    Calls Tryz.prog 28 #[.slice (some ad) xs.length cap] w fun e w' => ∃ v, e = .returned v ∧ OwG iC 31 8 w' w.heap.size v xs ∧ Below w.heap.size w w' := by
  have HI : Hid (InG iC (w.alloc (.cells #[] 31)) C (.slice (some ad) xs.length cap) xs) := h.later ((Below.refl _ _).alloc hC _)
  have HO : Hid (OwG iC 31 8 (w.alloc (.cells #[] 31)) w.heap.size (.slice (some ⟨w.heap.size, 0, none⟩) 0 0) []) := OwG.made _ _ _ _ _ (Nat.le_refl _)
  have q := eqNilI
  clear h
  go_enter Tryz.func28, Tryz.ntmps28
  go_wp2_with (at_builtin; refine app_more (by rfl) _ _ 32 31 (by rfl) Tryz.underlying32 infoIn rfl (by decide) (fun _ => rfl) w.heap.size _ [] HO.out (by rfl) _ _ xs (by rfl) HI.out (fun y _ => iC_one y) (by unfold maxLen; simp; omega) (by simp; omega) (by simp) ?_; intro v' w1 ho hb hk; rw [List.nil_append] at ho; obtain ⟨va, vc, rfl⟩ := ho.form; have HX : Hid (OwG iC 31 8 w1 w.heap.size (.slice va xs.length vc) xs ∧ Below w.heap.size w w1) := ⟨ho, ((Below.refl _ _).alloc (Nat.le_refl _) _).trans hb⟩; clear ho hb hk)
  go_ret
  exact ⟨_, rfl, HX.out⟩
theorem hnew_any (w : World) (n : Nat) (h1 : 1 ≤ n) (h2 : n ≤ 16) :
    Calls Tryz.prog 27 #[.int .i64 (n : Int)] w fun e w' => e = .returned (.tuple #[.pointer (some ⟨w.heap.size + 1, 0, none⟩), .int .i64 0]) ∧ w' = (w.alloc (.cells (madeCells #[.slice none 0 0] n) 146)).alloc (.cells #[.slice (some ⟨w.heap.size, 0, none⟩) n n, .int .i64 0, .slice none 0 0, .slice none 0 0] 144) := by
  have i1 : ¬ (n : Int) < 1 := by omega
  have i2 : ¬ (n : Int) > 16 := by omega
  have hm := run_make_any (P := Tryz.prog) 142 146 _ 1 24 Tryz.underlying142 infoQ n (by omega) (by omega)
  go_enter Tryz.func27, Tryz.ntmps27
  go_wp2
  go_ret2
  exact ⟨by simp, rfl⟩
/-- All blocks but qb and those of places stay. -/
def KpQ (qb : Nat) (w w' : World) : Prop := ∀ (k : Nat) (c : Array Value) (t : TypeId) (f : Nat × Nat), k ≠ qb → w.heap[k]? = some (Obj.cells c t f) → t ≠ 148 → w'.heap[k]? = w.heap[k]?
/-- The block qb keeps its type. -/
def KpY (qb : Nat) (w w' : World) : Prop := ∀ (c : Array Value) (t : TypeId), w.heap[qb]? = some (Obj.cells c t) → ∃ c', w'.heap[qb]? = some (Obj.cells c' t)
theorem submit_one (w : World) (hb qb n B i T g : Nat) (tg : Int) (v : Value) (xs : List (Nat × Int)) (h0 : w.cell? ⟨hb, 0, none⟩ = some (.slice (some ⟨qb, 0, none⟩) n n)) (hq : w.cell? ⟨qb, i, none⟩ = some v) (fz : w.frozen? ⟨qb, i, none⟩ = false) (ho : OwG plC 148 3 w B v xs) (hg : w.cell? ⟨g, 0, none⟩ = some (.pointer (some ⟨T, 0, none⟩)))
    (hi : i < n) (hx : xs.length < 64) (b1 : hb < B) (b2 : qb < B) (b3 : hb ≠ qb) (b4 : B ≤ w.heap.size) (t1 : -9223372036854775808 ≤ tg) (t2 : tg < 9223372036854775808) :
    Calls Tryz.prog 29 #[.pointer (some ⟨hb, 0, none⟩), .int .i64 (i : Int), .int .i64 tg, .slice (some ⟨g, 0, none⟩) 1 1] w fun e w' => e = .returned (.int .i64 0) ∧ ∃ v', w'.cell? ⟨qb, i, none⟩ = some v' ∧ OwG plC 148 3 w' B v' (xs ++ [(T, tg)]) ∧ (∀ j, j ≠ i → w'.cell? ⟨qb, j, none⟩ = w.cell? ⟨qb, j, none⟩) ∧ (∀ j, w'.frozen? ⟨qb, j, none⟩ = w.frozen? ⟨qb, j, none⟩) ∧ Keeps (fun x => x = qb ∨ B ≤ x) w w' ∧ KpQ qb w w' ∧ KpY qb w w' := by
  obtain ⟨va, vc, rfl⟩ := ho.form
  have HO : Hid (OwG plC 148 3 w B (.slice va xs.length vc) xs) := ho
  have i0 : (0 : Int) ≤ (i : Int) := Int.natCast_nonneg _
  have i1 : (i : Int) < (n : Int) := by omega
  have hd : decide (0 ≤ (i : Int) ∧ (i : Int) < (n : Int)) = true := by simp [i0, i1]
  have hw : IntKind.i64.wrap (64 - (xs.length : Int)) = 64 - (xs.length : Int) := by rw [IntKind.wrap_i64]; omega
  have hn : ¬ (1 : Int) > 64 - (xs.length : Int) := by omega
  clear ho
  go_enter Tryz.func29, Tryz.ntmps29
  go_wp2_with fail
  refine (hhas_any w hb n _ _ i h0).mono ?_
  rintro e w' ⟨rfl, rfl⟩
  rw [hd]
  clear hd
  go_wp2_with fail
  go_loopw [31] (fun c wr => (c = .int .i64 ((0 : Nat) : Int) ∧ wr = w') ∨ (c = .int .i64 ((1 : Nat) : Int) ∧ ∃ v', wr.cell? ⟨qb, i, none⟩ = some v' ∧ OwG plC 148 3 wr B v' (xs ++ [(T, tg)]) ∧ (∀ j, j ≠ i → wr.cell? ⟨qb, j, none⟩ = w'.cell? ⟨qb, j, none⟩) ∧ (∀ j, wr.frozen? ⟨qb, j, none⟩ = w'.frozen? ⟨qb, j, none⟩) ∧ Keeps (fun x => x = qb ∨ B ≤ x) w' wr ∧ KpQ qb w' wr ∧ KpY qb w' wr)) (fun c _ => 1 - (intOf c).toNat)
  case atStart => exact .inl ⟨rfl, rfl⟩
  case round =>
    rcases hrel with ⟨rfl, rfl⟩ | ⟨rfl, hR⟩
    · have tw : IntKind.i64.wrap tg = tg := by rw [IntKind.wrap_i64]; omega
      have HS : Hid (wr.drew.cell? ⟨hb, 0, none⟩ = some (.slice (some ⟨qb, 0, none⟩) n n)) := h0
      have HA : Hid (∀ o : Obj, (wr.drew.alloc o).cell? ⟨hb, 0, none⟩ = some (.slice (some ⟨qb, 0, none⟩) n n)) := fun o => (World.cell?_of_block (w := wr) (Below.heap_alloc wr.drew o hb (Nat.lt_of_lt_of_le b1 b4))).trans h0
      have cE : wr.drew.cell? ⟨qb, i, none⟩ = some (.slice va xs.length vc) := hq
      have cE2 : (wr.alloc (.cells #[.pointer (some ⟨T, 0, none⟩), .int .i64 tg, .bool false] 148)).cell? ⟨qb, i, none⟩ = some (.slice va xs.length vc) := (World.cell?_of_block (w := wr) (Below.heap_alloc wr _ qb (Nat.lt_of_lt_of_le b2 b4))).trans hq
      have HQ : Hid (wr.cell? ⟨qb, i, none⟩ = some (.slice va xs.length vc)) := hq
      have HF : Hid (wr.frozen? ⟨qb, i, none⟩ = false) := fz
      have HO2 : Hid (OwG plC 148 3 wr.drew B (.slice va xs.length vc) xs) := HO.out.later (Below.refl _ _).drew
      go_wp2_with fail
      clear hq fz h0
      (refine wp_region_held_drew (S := (fun W => W.cell? ⟨hb, 0, none⟩ = some (.slice (some ⟨qb, 0, none⟩) n n))) (by kernel_rfl) HS.out (fun hHeld => ?_); simp only [List.size_toArray, List.length_cons, List.length_nil, Nat.reduceAdd, Array.replicate_succ, Array.replicate_zero, List.push_toArray, List.append_toArray, List.nil_append, List.cons_append])
      (refine tk0 (v := ?_) (by kernel_rfl) (by kernel_rfl) (by kernel_rfl) (fun _ _ _ h => h) (Or.inl ⟨by rfl, ?_⟩) (by assumption) ?_; rotate_left; (focus (intro w hSw; (try dsimp only at hSw); go_simp; (try first | (rw [dif_pos (by omega)]; simp only [Result.andThen_ok]) | rw [if_pos (by omega)]); (try with_reducible rfl); done)); try simp only [Act.put, List.setIfInBounds_toArray, List.set_cons_zero, List.set_cons_succ])
      (refine tk1 (v := ?_) (by kernel_rfl) (by kernel_rfl) (by kernel_rfl) (fun _ _ _ h => h) (Or.inl ⟨by rfl, ?_⟩) (by assumption) ?_; rotate_left; (focus (intro w hSw; (try dsimp only at hSw); go_simp; (try first | (rw [dif_pos (by omega)]; simp only [Result.andThen_ok]) | rw [if_pos (by omega)]); (try with_reducible rfl); done)); try simp only [Act.put, List.setIfInBounds_toArray, List.set_cons_zero, List.set_cons_succ])
      (refine tk2 (v := ?_) (by kernel_rfl) (by kernel_rfl) (by kernel_rfl) (fun _ _ _ h => h) (Or.inl ⟨by rfl, ?_⟩) (by assumption) ?_; rotate_left; (focus (intro w hSw; (try dsimp only at hSw); go_simp; (try first | (rw [dif_pos (by omega)]; simp only [Result.andThen_ok]) | rw [if_pos (by omega)]); (try with_reducible rfl); done)); try simp only [Act.put, List.setIfInBounds_toArray, List.set_cons_zero, List.set_cons_succ])
      (refine tk3 (v := ?_) (by kernel_rfl) (by kernel_rfl) (by kernel_rfl) (fun _ _ _ h => h) (Or.inl ⟨by rfl, ?_⟩) (by assumption) ?_; rotate_left; (focus (intro w hSw; (try dsimp only at hSw); go_simp; (try first | (rw [dif_pos (by omega)]; simp only [Result.andThen_ok]) | rw [if_pos (by omega)]); (try with_reducible rfl); done)); try simp only [Act.put, List.setIfInBounds_toArray, List.set_cons_zero, List.set_cons_succ])
      (refine tk4 (v := ?_) (by kernel_rfl) (by kernel_rfl) (by kernel_rfl) (fun _ _ _ h => h) (Or.inl ⟨by rfl, ?_⟩) (by assumption) ?_; rotate_left; (focus (intro w hSw; (try dsimp only at hSw); go_simp; (try first | (rw [dif_pos (by omega)]; simp only [Result.andThen_ok]) | rw [if_pos (by omega)]); (try with_reducible rfl); done)); try simp only [Act.put, List.setIfInBounds_toArray, List.set_cons_zero, List.set_cons_succ])
      (refine tk5 (v := ?_) (by kernel_rfl) (by kernel_rfl) (by kernel_rfl) (fun _ _ _ h => h) (Or.inl ⟨by rfl, ?_⟩) (by assumption) ?_; rotate_left; (focus (intro w hSw; (try dsimp only at hSw); go_simp; (try first | (rw [dif_pos (by omega)]; simp only [Result.andThen_ok]) | rw [if_pos (by omega)]); (try with_reducible rfl); done)); try simp only [Act.put, List.setIfInBounds_toArray, List.set_cons_zero, List.set_cons_succ])
      (refine tk6 (v := ?_) (by kernel_rfl) (by kernel_rfl) (by kernel_rfl) (fun _ _ _ h => h) (Or.inl ⟨by rfl, ?_⟩) (by assumption) ?_; rotate_left; (focus (intro w hSw; (try dsimp only at hSw); go_simp; (try first | (rw [dif_pos (by omega)]; simp only [Result.andThen_ok]) | rw [if_pos (by omega)]); (try with_reducible rfl); done)); try simp only [Act.put, List.setIfInBounds_toArray, List.set_cons_zero, List.set_cons_succ])
      (refine tk7 (v := ?_) (by kernel_rfl) (by kernel_rfl) (by kernel_rfl) (fun _ _ _ h => h) (Or.inl ⟨by rfl, ?_⟩) (by assumption) ?_; rotate_left; (focus (intro w hSw; (try dsimp only at hSw); go_simp; (try first | (rw [dif_pos (by omega)]; simp only [Result.andThen_ok]) | rw [if_pos (by omega)]); (try with_reducible rfl); done)); try simp only [Act.put, List.setIfInBounds_toArray, List.set_cons_zero, List.set_cons_succ])
      (refine tk8 (v := ?_) (by kernel_rfl) (by kernel_rfl) (by kernel_rfl) (fun _ _ _ h => h) (Or.inl ⟨by rfl, ?_⟩) (by assumption) ?_; rotate_left; (focus (intro w hSw; (try dsimp only at hSw); go_simp; (try first | (rw [dif_pos (by omega)]; simp only [Result.andThen_ok]) | rw [if_pos (by omega)]); (try with_reducible rfl); done)); try simp only [Act.put, List.setIfInBounds_toArray, List.set_cons_zero, List.set_cons_succ])
      (refine tk9 (v := ?_) (by kernel_rfl) (by kernel_rfl) (by kernel_rfl) (fun _ _ _ h => h) (Or.inl ⟨by rfl, ?_⟩) (by assumption) ?_; rotate_left; (focus (intro w hSw; (try dsimp only at hSw); go_simp; (try first | (rw [dif_pos (by omega)]; simp only [Result.andThen_ok]) | rw [if_pos (by omega)]); (try with_reducible rfl); done)); try simp only [Act.put, List.setIfInBounds_toArray, List.set_cons_zero, List.set_cons_succ])
      (refine tk10 (v := ?_) (by kernel_rfl) (by kernel_rfl) (by kernel_rfl) (fun _ _ _ h => h) (Or.inl ⟨by rfl, ?_⟩) (by assumption) ?_; rotate_left; (focus (intro w hSw; (try dsimp only at hSw); go_simp; (try first | (rw [dif_pos (by omega)]; simp only [Result.andThen_ok]) | rw [if_pos (by omega)]); (try with_reducible rfl); done)); try simp only [Act.put, List.setIfInBounds_toArray, List.set_cons_zero, List.set_cons_succ])
      (refine tk12 (v := ?_) (by kernel_rfl) (by kernel_rfl) (by kernel_rfl) (fun _ _ _ h => h) (Or.inl ⟨by rfl, ?_⟩) (by assumption) ?_; rotate_left; (focus (intro w hSw; (try dsimp only at hSw); go_simp; (try first | (rw [dif_pos (by omega)]; simp only [Result.andThen_ok]) | rw [if_pos (by omega)]); (try with_reducible rfl); done)); try simp only [Act.put, List.setIfInBounds_toArray, List.set_cons_zero, List.set_cons_succ])
      (refine tk13 (v := ?_) (by kernel_rfl) (by kernel_rfl) (by kernel_rfl) (fun _ _ _ h => h) (Or.inl ⟨by rfl, ?_⟩) (by assumption) ?_; rotate_left; (focus (intro w hSw; (try dsimp only at hSw); go_simp; (try first | (rw [dif_pos (by omega)]; simp only [Result.andThen_ok]) | rw [if_pos (by omega)]); (try with_reducible rfl); done)); try simp only [Act.put, List.setIfInBounds_toArray, List.set_cons_zero, List.set_cons_succ])
      (refine tk14 (v := ?_) (by kernel_rfl) (by kernel_rfl) (by kernel_rfl) (fun _ _ _ h => h) (Or.inl ⟨by rfl, ?_⟩) (by assumption) ?_; rotate_left; (focus (intro w hSw; (try dsimp only at hSw); go_simp; (try first | (rw [dif_pos (by omega)]; simp only [Result.andThen_ok]) | rw [if_pos (by omega)]); (try with_reducible rfl); done)); try simp only [Act.put, List.setIfInBounds_toArray, List.set_cons_zero, List.set_cons_succ])
      (refine tk15 (v := ?_) (by kernel_rfl) (by kernel_rfl) (by kernel_rfl) (fun _ _ _ h => h) (Or.inl ⟨by rfl, ?_⟩) (by assumption) ?_; rotate_left; (focus (intro w hSw; (try dsimp only at hSw); go_simp; (try first | (rw [dif_pos (by omega)]; simp only [Result.andThen_ok]) | rw [if_pos (by omega)]); (try with_reducible rfl); done)); try simp only [Act.put, List.setIfInBounds_toArray, List.set_cons_zero, List.set_cons_succ])
      (refine tk16 (v := ?_) (by kernel_rfl) (by kernel_rfl) (by kernel_rfl) (fun _ _ _ h => h) (Or.inl ⟨by rfl, ?_⟩) (by assumption) ?_; rotate_left; (focus (intro w hSw; (try dsimp only at hSw); go_simp; (try first | (rw [dif_pos (by omega)]; simp only [Result.andThen_ok]) | rw [if_pos (by omega)]); (try with_reducible rfl); done)); try simp only [Act.put, List.setIfInBounds_toArray, List.set_cons_zero, List.set_cons_succ])
      (refine wpAnyH_ready (rs := [11, 17]) (by kernel_rfl) (by simp) ?_; refine ar11 (fun K hK => ?_) (ar17 (fun K hK => ?_) AllReadyH.nil) <;> go_simp)
      (refine hK.out _ _ HS.out (fun hHeld => ?_); clear hK K; try simp only [Act.put, List.setIfInBounds_toArray, List.set_cons_zero, List.set_cons_succ])
      (refine wpAnyH_ready (rs := [17]) (by kernel_rfl) (by simp) ?_; refine ar17 (fun K hK => ?_) AllReadyH.nil; go_simp)
      (refine hK.out _ _ (HA.out _) (fun hHeld => ?_); clear hK K; try simp only [Act.put, List.setIfInBounds_toArray, List.set_cons_zero, List.set_cons_succ])
      rotate_left 1
      (refine hK.out _ _ (HA.out _) (fun hHeld => ?_); clear hK K; try simp only [Act.put, List.setIfInBounds_toArray, List.set_cons_zero, List.set_cons_succ])
      (refine wpAnyH_ready (rs := [11]) (by kernel_rfl) (by simp) ?_; refine ar11 (fun K hK => ?_) AllReadyH.nil; go_simp)
      (refine hK.out _ _ (HA.out _) (fun hHeld => ?_); clear hK K; try simp only [Act.put, List.setIfInBounds_toArray, List.set_cons_zero, List.set_cons_succ])
      all_goals
        clear cE cE2
        (refine wpAnyH_ready (rs := [18]) (by kernel_rfl) (by simp) ?_; refine ar18 (fun K hK => ?_) AllReadyH.nil; rw [if_pos (by rfl)])
        refine app_one_wp (cs := plC) (wr := wr.drew) (.tmp 47) (.tmp 53) 146 148 (by rfl) Tryz.underlying146 infoPl rfl (by decide) (fun _ => rfl) B _ xs (T, tg) (HO2.out) (by rfl) wr.heap.size rfl (by rfl) (by intro u hu; simp [plC] at hu; rcases hu with rfl | rfl | rfl <;> rfl) _ rfl (by unfold maxLen; omega) (by omega) b4 ?_
        intro v' w5 ho hbl hkp
        obtain ⟨va', vc', rfl⟩ := ho.form
        generalize (xs ++ [(T, tg)]).length = mm at *
        have K5 : Keeps (fun x => B ≤ x) wr w5 := ⟨hbl.os, hbl.tape, hbl.output, hbl.size, fun k hk hn => hbl.block k (by omega)⟩
        have lq : qb < wr.heap.size := Nat.lt_of_lt_of_le b2 b4
        have nq : ¬ B ≤ qb := by omega
        have cQ : w5.cell? ⟨qb, i, none⟩ = some (.slice va xs.length vc) := (K5.cell (p := ⟨qb, i, none⟩) lq nq).trans HQ.out
        have fQ : w5.frozen? ⟨qb, i, none⟩ = false := (K5.frozen (p := ⟨qb, i, none⟩) lq nq).trans HF.out
        have H5 : Hid (w5.cell? ⟨hb, 0, none⟩ = some (.slice (some ⟨qb, 0, none⟩) n n)) := (K5.cell (p := ⟨hb, 0, none⟩) (Nat.lt_of_lt_of_le b1 b4) (show ¬ B ≤ hb by omega)).trans HS.out
        have H6 : Hid ((w5.setCell ⟨qb, i, none⟩ (.slice va' mm vc')).cell? ⟨hb, 0, none⟩ = some (.slice (some ⟨qb, 0, none⟩) n n)) := (World.cell?_setCell_other _ _ _ _ (fun e => b3 (congrArg Addr.block e).symm)).trans H5.out
        have HX : Hid (∃ v', (w5.setCell ⟨qb, i, none⟩ (.slice va' mm vc')).cell? ⟨qb, i, none⟩ = some v' ∧ OwG plC 148 3 (w5.setCell ⟨qb, i, none⟩ (.slice va' mm vc')) B v' (xs ++ [(T, tg)]) ∧ (∀ j, j ≠ i → (w5.setCell ⟨qb, i, none⟩ (.slice va' mm vc')).cell? ⟨qb, j, none⟩ = wr.cell? ⟨qb, j, none⟩) ∧ (∀ j, (w5.setCell ⟨qb, i, none⟩ (.slice va' mm vc')).frozen? ⟨qb, j, none⟩ = wr.frozen? ⟨qb, j, none⟩) ∧ Keeps (fun x => x = qb ∨ B ≤ x) wr (w5.setCell ⟨qb, i, none⟩ (.slice va' mm vc')) ∧ KpQ qb wr (w5.setCell ⟨qb, i, none⟩ (.slice va' mm vc')) ∧ KpY qb wr (w5.setCell ⟨qb, i, none⟩ (.slice va' mm vc'))) := ⟨_, World.cell?_setCell_same _ _ _ cQ, ho.set (p := ⟨qb, i, none⟩) b2 _, fun j hj => (World.cell?_setCell_other _ _ _ _ (fun e => hj (congrArg Addr.off e).symm)).trans (K5.cell (p := ⟨qb, j, none⟩) lq nq), fun j => by simpa using (K5.frozen (p := ⟨qb, j, none⟩) lq nq), (K5.mono (fun _ e => .inr e)).setCell (.inl rfl) _, fun k c t f hk hc ht => (Below.heap_setCell _ _ _ _ hk).trans (hkp k c t f hc ht), fun c t hc => ⟨_, by have e5 := (K5.block qb lq nq).trans hc; simp [World.setCell, Array.getElem?_modify, e5]; rfl⟩⟩
        clear ho hbl hkp K5 HO2 HA
        (refine hK.out _ _ H5.out (fun hHeld => ?_); clear hK K; try simp only [Act.put, List.setIfInBounds_toArray, List.set_cons_zero, List.set_cons_succ])
        (refine tk19 (v := ?_) (by kernel_rfl) (by kernel_rfl) (by kernel_rfl) (fun _ _ _ h => h) (Or.inl ⟨by rfl, ?_⟩) (by assumption) ?_; rotate_left; (focus (intro w hSw; (try dsimp only at hSw); go_simp; (try first | (rw [dif_pos (by omega)]; simp only [Result.andThen_ok]) | rw [if_pos (by omega)]); (try with_reducible rfl); done)); try simp only [Act.put, List.setIfInBounds_toArray, List.set_cons_zero, List.set_cons_succ])
        (refine wpAnyH_ready (rs := [20]) (by kernel_rfl) (by simp) ?_; refine ar20 (fun K hK => ?_) AllReadyH.nil; go_simp)
        (refine hK.out _ _ H6.out (fun hHeld => ?_); clear hK K; try simp only [Act.put, List.setIfInBounds_toArray, List.set_cons_zero, List.set_cons_succ])
        refine wpAnyH_done (by kernel_rfl) ?_ _
        go_wp2
        go_roundw
        case rel => exact .inr ⟨by go_num, HX.out⟩
        case measure => simp [intOf]
    · have HR : Hid (∃ v', wr.cell? ⟨qb, i, none⟩ = some v' ∧ OwG plC 148 3 wr B v' (xs ++ [(T, tg)]) ∧ (∀ j, j ≠ i → wr.cell? ⟨qb, j, none⟩ = w'.cell? ⟨qb, j, none⟩) ∧ (∀ j, wr.frozen? ⟨qb, j, none⟩ = w'.frozen? ⟨qb, j, none⟩) ∧ Keeps (fun x => x = qb ∨ B ≤ x) w' wr ∧ KpQ qb w' wr ∧ KpY qb w' wr) := hR
      clear hR
      go_wp2
      go_ret
      exact ⟨rfl, HR.out⟩
end Go.Proofs.YtegnmflbbpfdhaaGreat
