import Derived.Test.YtjkipbjphdfemabRows
import Derived.WalkKit
import Derived.ProofKit
import Derived.OpenShut
import Derived.ShutString
import Derived.WalkLawsBesides
import Derived.Outline
import Derived.WalkSpells
import Derived.BigRegion
import Derived.Deep.QuietTactic
import Derived.BigQuiet
import Derived.Deep.RegionWith
import Derived.Deep.RegionHeld3
import Derived.Laws.BitsAllLaws
import Derived.Lib.Bytealg
import Derived.Lib.Strings
import Derived.Laws.Externs
namespace Go.Proofs.Ytjkipbjphdfemab
open Go.ChangeShapes Go.WideShapes Go.ChangeAt Go.RowKit
set_option linter.unusedVariables false

/-- Which of two numbers is less. -/
def cmpI (a b : Int) : Int := if a < b then -1 else if b < a then 1 else 0
set_option maxRecDepth 100000 in
theorem cmpKind (a b : Int) (w : World) : Calls Try.prog 28 #[.int .i64 a, .int .i64 b] w fun e w' => e = .returned (.int .i64 (cmpI a b)) ∧ w' = w := by
  unfold cmpI
  rcases Int.lt_trichotomy a b with h | rfl | h
  · rw [if_pos h]
    go_enter Try.func28, Try.ntmps28
    go_wp2
    go_ret
    exact ⟨rfl, rfl⟩
  · rw [if_neg (by omega), if_neg (by omega)]
    go_enter Try.func28, Try.ntmps28
    go_wp2
    go_ret
    exact ⟨rfl, rfl⟩
  · rw [if_neg (by omega), if_pos h]
    have h2 : ¬ a < b := by omega
    go_enter Try.func28, Try.ntmps28
    go_wp2
    go_ret
    exact ⟨rfl, rfl⟩
set_option maxRecDepth 100000 in
theorem cmpInt (a b : Int) (w : World) : Calls Try.prog 29 #[.int .i64 a, .int .i64 b] w fun e w' => e = .returned (.int .i64 (cmpI a b)) ∧ w' = w := by
  unfold cmpI
  rcases Int.lt_trichotomy a b with h | rfl | h
  · rw [if_pos h]
    go_enter Try.func29, Try.ntmps29
    go_wp2
    go_ret
    exact ⟨rfl, rfl⟩
  · rw [if_neg (by omega), if_neg (by omega)]
    go_enter Try.func29, Try.ntmps29
    go_wp2
    go_ret
    exact ⟨rfl, rfl⟩
  · rw [if_neg (by omega), if_pos h]
    have h2 : ¬ a < b := by omega
    go_enter Try.func29, Try.ntmps29
    go_wp2
    go_ret
    exact ⟨rfl, rfl⟩
/-- Which of two texts is less. -/
def cmpT (a b : ByteArray) : Int := Lib.compareBytes a.data.toList b.data.toList
set_option maxRecDepth 100000 in
theorem cmpBytes (a b : ByteArray) (w : World) : Calls Try.prog 62 #[.string a, .string b] w fun e w' => e = .returned (.int .i64 (cmpT a b)) ∧ w' = w := by
  go_enter Try.func62, Try.ntmps62
  go_wp2
  rw [run_callFunc_extern Try.func79 (by kernel_rfl) (by kernel_rfl) (by kernel_rfl) (e := Extern.BytealgCompare.compare) (by kernel_rfl), Lib.run_compareString]
  simp only [Result.andThen]
  rw [Oper.upon_value]
  go_wp2
  go_ret
  exact ⟨rfl, rfl⟩
set_option maxRecDepth 100000 in
theorem cmpStr (a b : ByteArray) (w : World) : Calls Try.prog 30 #[.string a, .string b] w fun e w' => e = .returned (.int .i64 (cmpT a b)) ∧ w' = w := by
  go_enter Try.func30, Try.ntmps30
  go_wp2_with fail
  refine (cmpBytes a b w).mono ?_
  rintro e w1 ⟨rfl, rfl⟩
  go_wp2
  go_ret
  exact ⟨rfl, rfl⟩
/-- The first that is not 0. -/
def or3 (x y z : Int) : Int := if x ≠ 0 then x else if y ≠ 0 then y else z
set_option maxRecDepth 100000 in
set_option maxHeartbeats 800000 in
theorem cmpOr (x y z : Int) (g : Nat) (w : World) (c0 : w.cell? ⟨g, 0, none⟩ = some (.int .i64 x)) (c1 : w.cell? ⟨g, 1, none⟩ = some (.int .i64 y)) (c2 : w.cell? ⟨g, 2, none⟩ = some (.int .i64 z)) :
    Calls Try.prog 27 #[.slice (some ⟨g, 0, none⟩) 3 3] w fun e w' => e = .returned (.int .i64 (or3 x y z)) ∧ w' = w := by
  go_enter Try.func27, Try.ntmps27
  go_wp2
  go_loop [8] (fun i => ∃ k : Nat, k ≤ 3 ∧ i = .int .i64 k ∧ (0 < k → x = 0) ∧ (1 < k → y = 0) ∧ (2 < k → z = 0)) (fun i => 3 - (intOf i).toNat)
  case atStart => exact ⟨0, by omega, rfl, by omega, by omega, by omega⟩
  case round =>
    obtain ⟨k, hk, rfl, hx, hy, hz⟩ := hrel
    have HX : Hid (0 < k → x = 0) := hx
    have HY : Hid (1 < k → y = 0) := hy
    have HZ : Hid (2 < k → z = 0) := hz
    clear hx hy hz
    have hkk : k = 0 ∨ k = 1 ∨ k = 2 ∨ k = 3 := by omega
    rcases hkk with rfl | rfl | rfl | rfl
    · cases hx : (x != 0)
      · have hx0 : x = 0 := by simpa using hx
        have H0 : Hid (x = 0) := hx0
        clear hx0
        go_wp2
        go_round
        case rel => exact ⟨1, by omega, rfl, fun _ => H0.out, by omega, by omega⟩
        case measure => simp [intOf]
      · have H0 : Hid (x ≠ 0) := by show _ ≠ _; simpa using hx
        go_wp2
        go_ret
        exact ⟨by unfold or3; rw [if_pos H0.out]; rfl, rfl⟩
    · cases hx : (y != 0)
      · have hx0 : y = 0 := by simpa using hx
        have H0 : Hid (y = 0) := hx0
        clear hx0
        go_wp2
        go_round
        case rel => exact ⟨2, by omega, rfl, fun _ => HX.out (by omega), fun _ => H0.out, by omega⟩
        case measure => simp [intOf]
      · have H0 : Hid (y ≠ 0) := by show _ ≠ _; simpa using hx
        go_wp2
        go_ret
        exact ⟨by unfold or3; rw [if_neg (by simp [HX.out (by omega)]), if_pos H0.out]; rfl, rfl⟩
    · cases hx : (z != 0)
      · have hx0 : z = 0 := by simpa using hx
        have H0 : Hid (z = 0) := hx0
        clear hx0
        go_wp2
        go_round
        case rel => exact ⟨3, by omega, rfl, fun _ => HX.out (by omega), fun _ => HY.out (by omega), fun _ => H0.out⟩
        case measure => simp [intOf]
      · go_wp2
        go_ret
        exact ⟨by unfold or3; rw [if_neg (by simp [HX.out (by omega)]), if_neg (by simp [HY.out (by omega)])]; rfl, rfl⟩
    · go_wp2
      go_ret
      exact ⟨by unfold or3; rw [if_neg (by simp [HX.out (by omega)]), if_neg (by simp [HY.out (by omega)]), HZ.out (by omega)]; rfl, rfl⟩
theorem cmpOr_new (x y z : Int) (W : World) (g : Nat) (hg : g = W.heap.size) :
    Calls Try.prog 27 #[.slice (some ⟨g, 0, none⟩) 3 3] (W.alloc (.cells #[.int .i64 x, .int .i64 y, .int .i64 z] 3)).drew fun e w' => e = .returned (.int .i64 (or3 x y z)) ∧ w' = (W.alloc (.cells #[.int .i64 x, .int .i64 y, .int .i64 z] 3)).drew := by
  subst hg
  exact cmpOr x y z _ _ (by simp [go_sem]) (by simp [go_sem]) (by simp [go_sem])
/-- Which of two values is less. -/
def cmpV (a b : Int × Int × ByteArray) : Int := or3 (cmpI a.1 b.1) (cmpI a.2.1 b.2.1) (cmpT a.2.2 b.2.2)
def valV (a : Int × Int × ByteArray) : Value := .agg #[.int .i64 a.1, .int .i64 a.2.1, .string a.2.2]
set_option maxRecDepth 100000 in
set_option maxHeartbeats 1600000 in
theorem cmpVal (a b : Int × Int × ByteArray) (w : World) :
    Calls Try.prog 20 #[.agg #[.int .i64 a.1, .int .i64 a.2.1, .string a.2.2], .agg #[.int .i64 b.1, .int .i64 b.2.1, .string b.2.2]] w fun e w' => e = .returned (.int .i64 (cmpV a b)) ∧ Below w.heap.size w w' := by
  obtain ⟨a1, a2, a3⟩ := a
  obtain ⟨b1, b2, b3⟩ := b
  simp only
  go_enter Try.func20, Try.ntmps20
  go_wp2
  have HB : Hid (Below w.heap.size w ((w.alloc (.cells #[.int .i64 a1, .int .i64 a2, .string a3] 40)).alloc (.cells #[.int .i64 b1, .int .i64 b2, .string b3] 40))) := ((Below.refl _ _).alloc (Nat.le_refl _) _).alloc (by simp) _
  have d0 : ((w.alloc (.cells #[.int .i64 a1, .int .i64 a2, .string a3] 40)).alloc (.cells #[.int .i64 b1, .int .i64 b2, .string b3] 40)).cell? ⟨w.heap.size, 0, none⟩ = some (.int .i64 a1) := by simp [go_sem]
  have d1 : ((w.alloc (.cells #[.int .i64 a1, .int .i64 a2, .string a3] 40)).alloc (.cells #[.int .i64 b1, .int .i64 b2, .string b3] 40)).cell? ⟨w.heap.size, 1, none⟩ = some (.int .i64 a2) := by simp [go_sem]
  have d2 : ((w.alloc (.cells #[.int .i64 a1, .int .i64 a2, .string a3] 40)).alloc (.cells #[.int .i64 b1, .int .i64 b2, .string b3] 40)).cell? ⟨w.heap.size, 2, none⟩ = some (.string a3) := by simp [go_sem]
  have d3 : ((w.alloc (.cells #[.int .i64 a1, .int .i64 a2, .string a3] 40)).alloc (.cells #[.int .i64 b1, .int .i64 b2, .string b3] 40)).cell? ⟨w.heap.size + 1, 0, none⟩ = some (.int .i64 b1) := by simp [go_sem]
  have d4 : ((w.alloc (.cells #[.int .i64 a1, .int .i64 a2, .string a3] 40)).alloc (.cells #[.int .i64 b1, .int .i64 b2, .string b3] 40)).cell? ⟨w.heap.size + 1, 1, none⟩ = some (.int .i64 b2) := by simp [go_sem]
  have d5 : ((w.alloc (.cells #[.int .i64 a1, .int .i64 a2, .string a3] 40)).alloc (.cells #[.int .i64 b1, .int .i64 b2, .string b3] 40)).cell? ⟨w.heap.size + 1, 2, none⟩ = some (.string b3) := by simp [go_sem]
  have hsz : ((w.alloc (.cells #[.int .i64 a1, .int .i64 a2, .string a3] 40)).alloc (.cells #[.int .i64 b1, .int .i64 b2, .string b3] 40)).heap.size = w.heap.size + 1 + 1 := by simp
  have HZ : Hid _ := hsz
  have hlt : w.heap.size + 1 < ((w.alloc (.cells #[.int .i64 a1, .int .i64 a2, .string a3] 40)).alloc (.cells #[.int .i64 b1, .int .i64 b2, .string b3] 40)).heap.size := by rw [hsz]; omega
  clear hsz
  generalize (w.alloc (.cells #[.int .i64 a1, .int .i64 a2, .string a3] 40)).alloc (.cells #[.int .i64 b1, .int .i64 b2, .string b3] 40) = W at *
  generalize hn : w.heap.size = n at *
  have HN : Hid (w.heap.size = n) := hn
  clear hn
  have q0 := World.new_ne W _ d0
  have q1 := World.new_ne W _ d3
  go_region_held3 (fun w' => w'.cell? ⟨n, 0, none⟩ = some (.int .i64 a1) ∧ w'.cell? ⟨n, 1, none⟩ = some (.int .i64 a2) ∧ w'.cell? ⟨n, 2, none⟩ = some (.string a3) ∧ w'.cell? ⟨n + 1, 0, none⟩ = some (.int .i64 b1) ∧ w'.cell? ⟨n + 1, 1, none⟩ = some (.int .i64 b2) ∧ w'.cell? ⟨n + 1, 2, none⟩ = some (.string b3)) (go_keep) (first | (go_at_call 28; refine (cmpKind _ _ _).mono ?_; rintro e w' ⟨rfl, rfl⟩) | (go_at_call 29; refine (cmpInt _ _ _).mono ?_; rintro e w' ⟨rfl, rfl⟩) | (go_at_call 30; refine (cmpStr _ _ _).mono ?_; rintro e w' ⟨rfl, rfl⟩) | (go_at_call 27; refine (cmpOr_new _ _ _ _ _ (by simp)).mono ?_; rintro e w' ⟨rfl, rfl⟩))
  go_wp2
  go_ret
  refine ⟨rfl, ?_⟩
  rw [HN.out]
  exact (HB.out.alloc (by rw [HZ.out]; omega) _).drew
end Go.Proofs.Ytjkipbjphdfemab
