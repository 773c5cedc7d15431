import Derived.Test.YtegnmflbbpfdhaaGreatRowG
namespace Go.Proofs.YtegnmflbbpfdhaaGreat
open Go.ChangeShapes Go.WideShapes Go.ChangeAt Go.RowKit Go.MuLone Go.RwLone
set_option linter.unusedVariables false
set_option maxRecDepth 100000
set_option maxHeartbeats 3200000
/-- A harness in the block hb: its n queues in the block qb, each in its block pb i, with ln i places. -/
structure Hr (w : World) (hb qb n : Nat) (pb ln cp : Nat → Nat) (st : Int) (ev en : Value) : Prop where
  q : w.cell? ⟨hb, 0, none⟩ = some (.slice (some ⟨qb, 0, none⟩) n n)
  s : w.cell? ⟨hb, 1, none⟩ = some (.int .i64 st)
  e : w.cell? ⟨hb, 2, none⟩ = some ev
  d : w.cell? ⟨hb, 3, none⟩ = some en
  r : ∀ i, i < n → w.cell? ⟨qb, i, none⟩ = some (.slice (some ⟨pb i, 0, none⟩) (ln i) (cp i))
  fh : ∀ j, w.frozen? ⟨hb, j, none⟩ = false
  fq : ∀ j, w.frozen? ⟨qb, j, none⟩ = false
  lh : hb < w.heap.size
  lq : qb < w.heap.size
  ne : hb ≠ qb
theorem Hr.keeps {w w' : World} {hb qb n : Nat} {pb ln cp : Nat → Nat} {st : Int} {ev en : Value} {B : Nat → Prop} (h : Hr w hb qb n pb ln cp st ev en) (k : Keeps B w w') (h1 : ¬ B hb) (h2 : ¬ B qb) : Hr w' hb qb n pb ln cp st ev en := by
  have e1 : ∀ j, w'.cell? ⟨hb, j, none⟩ = w.cell? ⟨hb, j, none⟩ := fun j => k.cell (p := ⟨hb, j, none⟩) h.lh h1
  have e2 : ∀ j, w'.cell? ⟨qb, j, none⟩ = w.cell? ⟨qb, j, none⟩ := fun j => k.cell (p := ⟨qb, j, none⟩) h.lq h2
  exact ⟨(e1 _).trans h.q, (e1 _).trans h.s, (e1 _).trans h.e, (e1 _).trans h.d, fun i hi => (e2 _).trans (h.r i hi), fun j => (k.frozen (p := ⟨hb, j, none⟩) h.lh h1).trans (h.fh j), fun j => (k.frozen (p := ⟨qb, j, none⟩) h.lq h2).trans (h.fq j), Nat.lt_of_lt_of_le h.lh k.size, Nat.lt_of_lt_of_le h.lq k.size, h.ne⟩
theorem Hr.drew {w : World} {hb qb n : Nat} {pb ln cp : Nat → Nat} {st : Int} {ev en : Value} (h : Hr w hb qb n pb ln cp st ev en) : Hr w.drew hb qb n pb ln cp st ev en := h.keeps (Keeps.refl (fun _ => False) _).drew (fun e => e) (fun e => e)
theorem Hr.setE {w : World} {hb qb n : Nat} {pb ln cp : Nat → Nat} {st : Int} {ev en : Value} (h : Hr w hb qb n pb ln cp st ev en) (v : Value) : Hr (w.setCell ⟨hb, 2, none⟩ v) hb qb n pb ln cp st v en := by
  have e1 : ∀ j, j ≠ 2 → (w.setCell ⟨hb, 2, none⟩ v).cell? ⟨hb, j, none⟩ = w.cell? ⟨hb, j, none⟩ := fun j hj => World.cell?_setCell_other _ _ _ _ (fun e => hj (congrArg Addr.off e).symm)
  have e2 : ∀ j, (w.setCell ⟨hb, 2, none⟩ v).cell? ⟨qb, j, none⟩ = w.cell? ⟨qb, j, none⟩ := fun j => World.cell?_setCell_other _ _ _ _ (fun e => h.ne (congrArg Addr.block e))
  exact ⟨(e1 0 (by decide)).trans h.q, (e1 1 (by decide)).trans h.s, World.cell?_setCell_same _ _ _ h.e, (e1 3 (by decide)).trans h.d, fun i hi => (e2 i).trans (h.r i hi), fun j => by simpa using h.fh j, fun j => by simpa using h.fq j, by simpa using h.lh, by simpa using h.lq, h.ne⟩
theorem Hr.setD {w : World} {hb qb n : Nat} {pb ln cp : Nat → Nat} {st : Int} {ev en : Value} (h : Hr w hb qb n pb ln cp st ev en) (v : Value) : Hr (w.setCell ⟨hb, 3, none⟩ v) hb qb n pb ln cp st ev v := by
  have e1 : ∀ j, j ≠ 3 → (w.setCell ⟨hb, 3, none⟩ v).cell? ⟨hb, j, none⟩ = w.cell? ⟨hb, j, none⟩ := fun j hj => World.cell?_setCell_other _ _ _ _ (fun e => hj (congrArg Addr.off e).symm)
  have e2 : ∀ j, (w.setCell ⟨hb, 3, none⟩ v).cell? ⟨qb, j, none⟩ = w.cell? ⟨qb, j, none⟩ := fun j => World.cell?_setCell_other _ _ _ _ (fun e => h.ne (congrArg Addr.block e))
  exact ⟨(e1 0 (by decide)).trans h.q, (e1 1 (by decide)).trans h.s, (e1 2 (by decide)).trans h.e, World.cell?_setCell_same _ _ _ h.d, fun i hi => (e2 i).trans (h.r i hi), fun j => by simpa using h.fh j, fun j => by simpa using h.fq j, by simpa using h.lh, by simpa using h.lq, h.ne⟩
theorem Hr.setS {w : World} {hb qb n : Nat} {pb ln cp : Nat → Nat} {st : Int} {ev en : Value} (h : Hr w hb qb n pb ln cp st ev en) (x : Int) : Hr (w.setCell ⟨hb, 1, none⟩ (.int .i64 x)) hb qb n pb ln cp x ev en := by
  have e1 : ∀ j, j ≠ 1 → (w.setCell ⟨hb, 1, none⟩ (.int .i64 x)).cell? ⟨hb, j, none⟩ = w.cell? ⟨hb, j, none⟩ := fun j hj => World.cell?_setCell_other _ _ _ _ (fun e => hj (congrArg Addr.off e).symm)
  have e2 : ∀ j, (w.setCell ⟨hb, 1, none⟩ (.int .i64 x)).cell? ⟨qb, j, none⟩ = w.cell? ⟨qb, j, none⟩ := fun j => World.cell?_setCell_other _ _ _ _ (fun e => h.ne (congrArg Addr.block e))
  exact ⟨(e1 0 (by decide)).trans h.q, World.cell?_setCell_same _ _ _ h.s, (e1 2 (by decide)).trans h.e, (e1 3 (by decide)).trans h.d, fun i hi => (e2 i).trans (h.r i hi), fun j => by simpa using h.fh j, fun j => by simpa using h.fq j, by simpa using h.lh, by simpa using h.lq, h.ne⟩
theorem Hr.setQ {w : World} {hb qb n : Nat} {pb ln cp : Nat → Nat} {st : Int} {ev en : Value} (h : Hr w hb qb n pb ln cp st ev en) (i x : Nat) : Hr (w.setCell ⟨qb, i, none⟩ (.slice (some ⟨pb i, 0, none⟩) x (cp i))) hb qb n pb (upd ln i x) cp st ev en := by
  have e1 : ∀ j, (w.setCell ⟨qb, i, none⟩ (.slice (some ⟨pb i, 0, none⟩) x (cp i))).cell? ⟨hb, j, none⟩ = w.cell? ⟨hb, j, none⟩ := fun j => World.cell?_setCell_other _ _ _ _ (fun e => h.ne (congrArg Addr.block e).symm)
  have e2 : ∀ j, j ≠ i → (w.setCell ⟨qb, i, none⟩ (.slice (some ⟨pb i, 0, none⟩) x (cp i))).cell? ⟨qb, j, none⟩ = w.cell? ⟨qb, j, none⟩ := fun j hj => World.cell?_setCell_other _ _ _ _ (fun e => hj (congrArg Addr.off e).symm)
  refine ⟨(e1 0).trans h.q, (e1 1).trans h.s, (e1 2).trans h.e, (e1 3).trans h.d, fun k hk => ?_, fun j => by simpa using h.fh j, fun j => by simpa using h.fq j, by simpa using h.lh, by simpa using h.lq, h.ne⟩
  by_cases e : k = i
  · subst e
    rw [upd_same]
    exact World.cell?_setCell_same _ _ _ (h.r k hk)
  · rw [upd_other _ _ e]
    exact (e2 k e).trans (h.r k hk)
theorem hhas_any (w : World) (hb n : Nat) (qa : Option Addr) (c : Nat) (x : Int) (h : w.cell? ⟨hb, 0, none⟩ = some (.slice qa n c)) : Calls Tryz.prog 56 #[.pointer (some ⟨hb, 0, none⟩), .int .i64 x] w fun e w' => e = .returned (.bool (decide (0 ≤ x ∧ x < (n : Int)))) ∧ w' = w := by
  by_cases h1 : 0 ≤ x
  · by_cases h2 : x < (n : Int)
    · have hd : decide (0 ≤ x ∧ x < (n : Int)) = true := by simp [h1, h2]
      rw [hd]
      go_enter Tryz.func56, Tryz.ntmps56
      go_wp2
      go_ret
      exact ⟨rfl, rfl⟩
    · have hd : decide (0 ≤ x ∧ x < (n : Int)) = false := by simp [h2]
      rw [hd]
      go_enter Tryz.func56, Tryz.ntmps56
      go_wp2
      go_ret
      exact ⟨rfl, rfl⟩
  · have hd : decide (0 ≤ x ∧ x < (n : Int)) = false := by simp [h1]
    rw [hd]
    go_enter Tryz.func56, Tryz.ntmps56
    go_wp2
    go_ret
    exact ⟨rfl, rfl⟩
theorem pend_in (w : World) (hb qb n : Nat) (pb ln cp : Nat → Nat) (st : Int) (ev en : Value) (i : Nat) (hi : i < n) (h : Hr w hb qb n pb ln cp st ev en) : Calls Tryz.prog 108 #[.pointer (some ⟨hb, 0, none⟩), .int .i64 (i : Int)] w fun e w' => e = .returned (.int .i64 (ln i : Int)) ∧ w' = w := by
  have hq := h.q
  have hr := h.r i hi
  have h0 : (0 : Int) ≤ (i : Int) := Int.natCast_nonneg _
  have h1 : (i : Int) < (n : Int) := by omega
  have hd : decide (0 ≤ (i : Int) ∧ (i : Int) < (n : Int)) = true := by simp [h0, h1]
  clear h
  go_enter Tryz.func108, Tryz.ntmps108
  go_wp2_with fail
  refine (hhas_any w hb n _ _ i hq).mono ?_
  rintro e w' ⟨rfl, rfl⟩
  rw [hd]
  clear hd
  go_wp2
  go_ret
  exact ⟨rfl, rfl⟩
theorem pend_out (w : World) (hb qb n : Nat) (pb ln cp : Nat → Nat) (st : Int) (ev en : Value) (x : Int) (hx : ¬ (0 ≤ x ∧ x < (n : Int))) (h : Hr w hb qb n pb ln cp st ev en) : Calls Tryz.prog 108 #[.pointer (some ⟨hb, 0, none⟩), .int .i64 x] w fun e w' => e = .returned (.int .i64 0) ∧ w' = w := by
  have hq := h.q
  have hd : decide (0 ≤ x ∧ x < (n : Int)) = false := decide_eq_false hx
  clear h hx
  go_enter Tryz.func108, Tryz.ntmps108
  go_wp2_with fail
  refine (hhas_any w hb n _ _ x hq).mono ?_
  rintro e w' ⟨rfl, rfl⟩
  rw [hd]
  clear hd
  go_wp2
  go_ret
  exact ⟨rfl, rfl⟩
end Go.Proofs.YtegnmflbbpfdhaaGreat
