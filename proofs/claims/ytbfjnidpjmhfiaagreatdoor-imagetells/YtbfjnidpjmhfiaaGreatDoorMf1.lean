import Derived.Test.YtbfjnidpjmhfiaaGreatDoorMfP
import Derived.WalkKit
import Derived.ProofKit
import Derived.Below
import Derived.Deep.QuietTactic
import Derived.BigQuiet
namespace Go.Proofs.YtbfjnidpjmhfiaaGreatDoor
open Go.ChangeShapes Go.WideShapes Go.ChangeAt Go.RowKit
set_option linter.unusedVariables false
set_option maxRecDepth 100000
theorem cell_ltM {w : World} {g j : Nat} {v : Value} (h : w.cell? ⟨g, j, none⟩ = some v) : g < w.heap.size := by
  rcases Nat.lt_or_ge g w.heap.size with h1 | h1
  · exact h1
  · unfold World.cell? at h
    rw [Array.getElem?_eq_none h1] at h
    simp at h
def valP (p : PN) : Value := .agg #[.int .i64 p.id, .int .u64 p.lo, .int .u64 p.hi, .int .i64 p.rows, .int .i64 p.gen, .int .i64 p.gone, .int .u32 p.ds, .int .u32 p.es]
theorem isFileNo_any (w : World) (n : Int) : Calls Tryz.prog 47 #[.int .i64 n] w fun e w' => e = .returned (.bool (decide (1 ≤ n ∧ n ≤ 99999999))) ∧ w' = w := by
  by_cases h1 : 1 ≤ n
  · by_cases h2 : n ≤ 99999999
    · have hd : decide (1 ≤ n ∧ n ≤ 99999999) = true := decide_eq_true ⟨h1, h2⟩
      rw [hd]
      go_enter Tryz.func47, Tryz.ntmps47
      go_wp2
      go_ret
      exact ⟨rfl, rfl⟩
    · have hd : decide (1 ≤ n ∧ n ≤ 99999999) = false := decide_eq_false (fun h => h2 h.2)
      rw [hd]
      go_enter Tryz.func47, Tryz.ntmps47
      go_wp2
      go_ret
      exact ⟨rfl, rfl⟩
  · have hd : decide (1 ≤ n ∧ n ≤ 99999999) = false := decide_eq_false (fun h => h1 h.1)
    rw [hd]
    go_enter Tryz.func47, Tryz.ntmps47
    go_wp2
    go_ret
    exact ⟨rfl, rfl⟩
theorem below2 (w : World) (o1 o2 : Obj) : Below w.heap.size w ((w.alloc o1).alloc o2) := ((Below.refl _ _).alloc (Nat.le_refl _) _).alloc (by simp) _
theorem mayL_iff (gen next upto id lo hi rows pg gone ds es : Int) : mayL gen next upto ⟨id, lo, hi, rows, pg, gone, ds, es⟩ ↔ (1 ≤ id ∧ id < next ∧ lo < hi ∧ hi ≤ upto ∧ 0 ≤ rows ∧ rows ≤ 65536 ∧ 0 ≤ pg ∧ pg ≤ gen ∧ 0 ≤ gone ∧ gone ≤ rows ∧ (gone = 0 ↔ pg = 0) ∧ (pg = 0 → es = 0)) := Iff.rfl
/-- A truth is handed back: whether P; nothing old is touched. -/
def RetB (P : Prop) (w : World) (e : Ending) (w' : World) : Prop := ∃ c, e = .returned (.bool c) ∧ (c = true ↔ P) ∧ Below w.heap.size w w'
theorem RetB.yes {P : Prop} {w w' : World} {e : Ending} (he : e = .returned (.bool true)) (h : P) (hb : Below w.heap.size w w') : RetB P w e w' := ⟨true, he, ⟨fun _ => h, fun _ => rfl⟩, hb⟩
theorem RetB.no {P : Prop} {w w' : World} {e : Ending} (he : e = .returned (.bool false)) (h : ¬ P) (hb : Below w.heap.size w w') : RetB P w e w' := ⟨false, he, ⟨fun h => absurd h (by decide), fun x => absurd x h⟩, hb⟩
theorem two_zero (a b : Int) : (!(a == 0) == (b == 0)) = !decide (a = 0 ↔ b = 0) := by
  have e1 : (a == 0) = decide (a = 0) := by by_cases h : a = 0 <;> simp [h]
  have e2 : (b == 0) = decide (b = 0) := by by_cases h : b = 0 <;> simp [h]
  rw [e1, e2]
  by_cases h1 : a = 0 <;> by_cases h2 : b = 0 <;> simp [h1, h2]
theorem ne_zero (a : Int) : (a != 0) = !decide (a = 0) := by
  by_cases h1 : a = 0 <;> simp [h1]
set_option maxHeartbeats 3200000 in
theorem mayList_any (w : World) (gen next upto : Int) (ao : Option Addr) (n cap : Nat) (id lo hi rows pg gone ds es : Int) :
    Calls Tryz.prog 67 #[.agg #[.int .i64 gen, .int .i64 next, .int .u64 upto, .slice ao n cap], .agg #[.int .i64 id, .int .u64 lo, .int .u64 hi, .int .i64 rows, .int .i64 pg, .int .i64 gone, .int .u32 ds, .int .u32 es]] w (RetB (mayL gen next upto ⟨id, lo, hi, rows, pg, gone, ds, es⟩) w) := by
  go_enter Tryz.func67, Tryz.ntmps67
  go_wp2
  all_goals go_ret
  all_goals first | refine RetB.no rfl (fun h => ?_) (below2 _ _ _) | refine RetB.yes rfl ?_ (below2 _ _ _)
  all_goals rw [mayL_iff] at *
  all_goals try simp only [two_zero, ne_zero, Bool.not_eq_true', decide_eq_false_iff_not, Bool.not_eq_false', decide_eq_true_eq] at *
  all_goals omega
def nmMay (last gen next upto : Int) (p : PN) : Prop := last ≤ p.lo ∧ mayL gen next upto p
theorem nmMay_iff (last gen next upto id lo hi rows pg gone ds es : Int) : nmMay last gen next upto ⟨id, lo, hi, rows, pg, gone, ds, es⟩ ↔ (last ≤ lo ∧ 1 ≤ id ∧ id < next ∧ lo < hi ∧ hi ≤ upto ∧ 0 ≤ rows ∧ rows ≤ 65536 ∧ 0 ≤ pg ∧ pg ≤ gen ∧ 0 ≤ gone ∧ gone ≤ rows ∧ (gone = 0 ↔ pg = 0) ∧ (pg = 0 → es = 0)) := Iff.rfl
theorem eq_zero_b (a : Int) : (a == 0) = decide (a = 0) := by by_cases h : a = 0 <;> simp [h]
end Go.Proofs.YtbfjnidpjmhfiaaGreatDoor
