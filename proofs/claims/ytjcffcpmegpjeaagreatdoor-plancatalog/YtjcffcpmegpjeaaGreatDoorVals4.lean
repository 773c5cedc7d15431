import Derived.Test.YtjcffcpmegpjeaaGreatDoorRows
import Derived.WalkKit
import Derived.ProofKit
import Derived.OpenShut
import Derived.ShutString
import Derived.WalkLawsBesides
import Derived.Outline
import Derived.WalkSpells
import Derived.BigRegion
import Derived.Deep.QuietTactic
import Derived.BigQuiet
import Derived.Deep.RegionWith
import Derived.Deep.RegionHeld3
import Derived.Laws.BitsAllLaws
import Derived.Lib.Bytealg
import Derived.Lib.Strings
import Derived.Laws.Externs
import Derived.Laws.OwnMore
import Derived.Laws.StructEq
import Derived.Laws.Small
namespace Go.Proofs.YtjcffcpmegpjeaaGreatDoor
open Go.ChangeShapes Go.WideShapes Go.ChangeAt Go.RowKit
set_option linter.unusedVariables false
set_option maxRecDepth 100000

/-- Which of two numbers is less. -/
def cmpI (a b : Int) : Int := if a < b then -1 else if b < a then 1 else 0
/-- Which of two texts is less. -/
def cmpT (a b : ByteArray) : Int := Lib.compareBytes a.data.toList b.data.toList
/-- The first that is not 0. -/
def or3 (x y z : Int) : Int := if x ≠ 0 then x else if y ≠ 0 then y else z
/-- Which of two values is less. -/
def cmpV (a b : Int × Int × ByteArray) : Int := or3 (cmpI a.1 b.1) (cmpI a.2.1 b.2.1) (cmpT a.2.2 b.2.2)
def valV (a : Int × Int × ByteArray) : Value := .agg #[.int .i64 a.1, .int .i64 a.2.1, .string a.2.2]
end Go.Proofs.YtjcffcpmegpjeaaGreatDoor

namespace Go.Proofs.YtjcffcpmegpjeaaGreatDoor
open Go.ChangeShapes Go.WideShapes Go.ChangeAt Go.RowKit
set_option linter.unusedVariables false
set_option maxRecDepth 100000

/-- The slice value v holds the values vs, in blocks below B. -/
def SeesV (w : World) (B : Nat) (v : Value) (vs : List (Int × Int × ByteArray)) : Prop :=
  ∃ ao cap, v = .slice ao vs.length cap ∧ vs.length ≤ cap ∧ vs.length ≤ 140737488355328 ∧ (∀ i (hi : i < vs.length), ∃ b off, ao = some ⟨b, off, none⟩ ∧ b < B ∧ w.cell? ⟨b, off + i * 3, none⟩ = some (.int .i64 vs[i].1) ∧ w.cell? ⟨b, off + i * 3 + 1, none⟩ = some (.int .i64 vs[i].2.1) ∧ w.cell? ⟨b, off + i * 3 + 2, none⟩ = some (.string vs[i].2.2))
theorem SeesV.later {w w' : World} {B : Nat} {v : Value} {vs : List (Int × Int × ByteArray)} (h : SeesV w B v vs) (hb : Below B w w') : SeesV w' B v vs := by
  obtain ⟨ao, cap, rfl, h1, h2, h3⟩ := h
  refine ⟨ao, cap, rfl, h1, h2, fun i hi => ?_⟩
  obtain ⟨b, off, e, hbB, c0, c1, c2⟩ := h3 i hi
  exact ⟨b, off, e, hbB, by rw [hb.cell hbB]; exact c0, by rw [hb.cell hbB]; exact c1, by rw [hb.cell hbB]; exact c2⟩
theorem SeesV.mono {w : World} {B B' : Nat} {v : Value} {vs : List (Int × Int × ByteArray)} (h : SeesV w B v vs) (hb : B ≤ B') : SeesV w B' v vs := by
  obtain ⟨ao, cap, rfl, h1, h2, h3⟩ := h
  refine ⟨ao, cap, rfl, h1, h2, fun i hi => ?_⟩
  obtain ⟨b, off, e, hbB, c0, c1, c2⟩ := h3 i hi
  exact ⟨b, off, e, by omega, c0, c1, c2⟩
def cmpL : List (Int × Int × ByteArray) → List (Int × Int × ByteArray) → Int
  | [], [] => 0
  | [], _ :: _ => -1
  | _ :: _, [] => 1
  | a :: x, b :: y => if cmpV a b ≠ 0 then cmpV a b else cmpL x y
theorem cmpL_step (vs us : List (Int × Int × ByteArray)) (k : Nat) (h1 : k < vs.length) (h2 : k < us.length) : cmpL (vs.drop k) (us.drop k) = if cmpV vs[k] us[k] ≠ 0 then cmpV vs[k] us[k] else cmpL (vs.drop (k + 1)) (us.drop (k + 1)) := by
  rw [List.drop_eq_getElem_cons h1, List.drop_eq_getElem_cons h2, cmpL]
theorem cmpL_more (vs us : List (Int × Int × ByteArray)) (k : Nat) (h1 : k < vs.length) (h2 : us.length ≤ k) : cmpL (vs.drop k) (us.drop k) = 1 := by
  rw [List.drop_eq_getElem_cons h1, List.drop_eq_nil_of_le h2, cmpL]
theorem cmpL_less (vs us : List (Int × Int × ByteArray)) (k : Nat) (h1 : vs.length ≤ k) (h2 : k < us.length) : cmpL (vs.drop k) (us.drop k) = -1 := by
  rw [List.drop_eq_getElem_cons h2, List.drop_eq_nil_of_le h1, cmpL]
theorem cmpL_same (vs us : List (Int × Int × ByteArray)) (k : Nat) (h1 : vs.length ≤ k) (h2 : us.length ≤ k) : cmpL (vs.drop k) (us.drop k) = 0 := by
  rw [List.drop_eq_nil_of_le h1, List.drop_eq_nil_of_le h2, cmpL]
theorem ret_eq {a b : Int} (h : a = b) : Ending.returned (.int .i64 a) = .returned (.int .i64 b) := by rw [h]
end Go.Proofs.YtjcffcpmegpjeaaGreatDoor

namespace Go.Proofs.YtjcffcpmegpjeaaGreatDoor
open Go.ChangeShapes Go.WideShapes Go.ChangeAt Go.RowKit
set_option linter.unusedVariables false
set_option maxRecDepth 100000

/-- order(less, more) -/
def ordB (x y : Bool) : Int := if x then -1 else if y then 1 else 0
theorem compareBytes_less : ∀ x y : List UInt8, Lib.compareBytes x y = ordB (Op.bytesLess x y) (!(Op.bytesLess x y || x == y))
  | [], [] => by simp [Lib.compareBytes, Op.bytesLess, ordB]
  | [], _ :: _ => by simp [Lib.compareBytes, Op.bytesLess, ordB]
  | _ :: _, [] => by simp [Lib.compareBytes, Op.bytesLess, ordB]
  | a :: x, b :: y => by
    have ih := compareBytes_less x y
    by_cases h : a < b
    · simp [Lib.compareBytes, Op.bytesLess, ordB, h]
    · by_cases h2 : b < a
      · have hne : ¬ a = b := by intro e; subst e; exact absurd h2 h
        simp [Lib.compareBytes, Op.bytesLess, ordB, h, h2, hne]
      · have e : a = b := by
          apply UInt8.toNat_inj.1
          rw [UInt8.lt_iff_toNat_lt] at h h2
          omega
        subst e
        simp only [Lib.compareBytes, h, if_false, ih]
        simp [Op.bytesLess, h]
theorem cmpT_less (a b : ByteArray) : cmpT a b = ordB (Op.bytesLess a.toList b.toList) (!(Op.bytesLess a.toList b.toList || a.toList == b.toList)) := by
  unfold cmpT; rw [Lib.toList_data, Lib.toList_data]; exact compareBytes_less _ _
theorem cmpI_ne (a b : Int) (h : a ≠ b) : cmpI a b = ordB (decide (a < b)) true ∧ cmpI a b ≠ 0 := by
  unfold cmpI ordB
  by_cases h1 : a < b
  · simp [h1]
  · have h2 : b < a := by omega
    simp [h1, h2]
theorem cmpI_self (a : Int) : cmpI a a = 0 := by unfold cmpI; simp
end Go.Proofs.YtjcffcpmegpjeaaGreatDoor

namespace Go.Proofs.YtjcffcpmegpjeaaGreatDoor
open Go.ChangeShapes Go.WideShapes Go.ChangeAt Go.RowKit
set_option linter.unusedVariables false
set_option maxRecDepth 100000

theorem below_drewN {B : Nat} {w : World} (n : Nat) : Below B w (w.drewN n) := by
  induction n generalizing w with
  | zero => exact Below.refl _ _
  | succ n ih => exact (ih (w := w)).drew
theorem infoV : (Tryz.prog.info? 59).map (fun i => (i.zero, i.size, i.bytes)) = some (some (.agg #[.int .i64 0, .int .i64 0, .string ⟨#[]⟩]), 3, 32) := by kernel_rfl
def cell3 (a : Int × Int × ByteArray) : List Value := [.int .i64 a.1, .int .i64 a.2.1, .string a.2.2]
def cells3 (vs : List (Int × Int × ByteArray)) : List Value := vs.flatMap cell3
theorem cells3_len : ∀ vs, (cells3 vs).length = vs.length * 3
  | [] => rfl
  | v :: vs => by
    have e : cells3 (v :: vs) = .int .i64 v.1 :: .int .i64 v.2.1 :: .string v.2.2 :: cells3 vs := rfl
    rw [e]
    simp only [List.length_cons, cells3_len vs]; omega
theorem cells3_get : ∀ (vs : List (Int × Int × ByteArray)) (i : Nat) (hi : i < vs.length), (cells3 vs)[i * 3]? = some (.int .i64 vs[i].1) ∧ (cells3 vs)[i * 3 + 1]? = some (.int .i64 vs[i].2.1) ∧ (cells3 vs)[i * 3 + 2]? = some (.string vs[i].2.2)
  | v :: vs, 0, _ => by simp [cells3, cell3]
  | v :: vs, i + 1, hi => by
    have := cells3_get vs i (by simp at hi; omega)
    have e : cells3 (v :: vs) = .int .i64 v.1 :: .int .i64 v.2.1 :: .string v.2.2 :: cells3 vs := rfl
    rw [e, show (i + 1) * 3 = i * 3 + 1 + 1 + 1 from by omega]
    simpa using this
/-- The slice value v holds just the values vs, in a row of the call's own. -/
def ownV (w : World) (B : Nat) (v : Value) (vs : List (Int × Int × ByteArray)) : Prop := w.ownsRow B 59 3 v vs.length (cells3 vs)
theorem ownV_nil (w : World) (B : Nat) : ownV w B (.slice none 0 0) [] := World.ownsRow_nil _ _ _ _
theorem ownV.sees {w : World} {B g n cap : Nat} {vs us : List (Int × Int × ByteArray)} (h : ownV w B (.slice (some ⟨g, 0, none⟩) n cap) vs) (hn : vs.length = n) (hu : us = vs.take us.length) (hl : us.length ≤ n) (h47 : us.length ≤ 140737488355328) : SeesV w w.heap.size (.slice (some ⟨g, 0, none⟩) us.length cap) us := by
  have hh := h
  rcases h.2 with ⟨h', _⟩ | ⟨g', cap', cur, h', hb, hg, hnc, hm, hs, ht⟩
  · simp at h'
  · simp only [Value.slice.injEq, Option.some.injEq, Addr.mk.injEq, and_true] at h'
    obtain ⟨rfl, hn', rfl⟩ := h'
    refine ⟨_, _, rfl, by omega, h47, fun i hi => ?_⟩
    have hlt : g < w.heap.size := by
      rcases Nat.lt_or_ge g w.heap.size with h | h
      · exact h
      · rw [Array.getElem?_eq_none h] at hg; cases hg
    refine ⟨g, 0, rfl, hlt, ?_⟩
    unfold ownV at hh
    rw [hn] at hh
    have c := cells3_get vs i (by omega)
    have e : us[i] = vs[i]'(by omega) := by
      have := congrArg (fun l : List (Int × Int × ByteArray) => l[i]?) hu
      simp only [List.getElem?_take, if_pos hi, List.getElem?_eq_getElem hi, List.getElem?_eq_getElem (show i < vs.length by omega)] at this
      exact Option.some.inj this
    rw [e]
    refine ⟨?_, ?_, ?_⟩
    · rw [show 0 + i * 3 = i * 3 from by omega, World.ownsRow.cellAt hh _ (by omega)]; exact c.1
    · rw [show 0 + i * 3 + 1 = i * 3 + 1 from by omega, World.ownsRow.cellAt hh _ (by omega)]; exact c.2.1
    · rw [show 0 + i * 3 + 2 = i * 3 + 2 from by omega, World.ownsRow.cellAt hh _ (by omega)]; exact c.2.2
theorem app_val {wr : World} {ops : Array Oper} {rest : List Oper} {o : Oper} {a : Act} {Q : Exit → Act → World → Prop} (hgd : o.guard = none) (s x : Operand)
    (ho : o.op = .call { callee := .builtin .append, args := #[s, x], argTypes := #[26, 26] })
    (B : Nat) (v : Value) (vs : List (Int × Int × ByteArray)) (c : Int × Int × ByteArray) (hown : ownV wr B v vs) (hs : a.eval s = v) (hx : a.eval x = .slice (some ⟨wr.heap.size, 0, none⟩) 1 1)
    (hlen : (vs.length + 1) * 32 ≤ 140737488355328) (hB : B ≤ wr.heap.size)
    (h : ∀ v' w', ownV w' B v' (vs ++ [c]) → Below B wr w' → wpList Tryz.prog ops Q rest (a.put o.dst v') w') :
    wpList Tryz.prog ops Q (o :: rest) a (wr.alloc (.cells #[.int .i64 c.1, .int .i64 c.2.1, .string c.2.2] 59)) := by
  obtain ⟨i0, hi, hz0, hz1, hz2⟩ := info_parts infoV
  refine wpList_append_own _ hgd s x 26 ho B 59 i0 (.agg #[.int .i64 0, .int .i64 0, .string ⟨#[]⟩]) 3 32 Tryz.underlying26 hi hz0 hz1 hz2 rfl (by decide) v vs.length _ hs (World.ownsRow.alloc hown _)
    ⟨wr.heap.size, 0, none⟩ 1 1 (cell3 c) hx rfl ?_ ?_ (by unfold maxLen; omega) (by omega) (by simp; omega) ?_
  · intro j u hj
    match j, hj with
    | 0, hj => simp [cell3] at hj; subst hj; simp [Addr.add]
    | 1, hj => simp [cell3] at hj; subst hj; simp [Addr.add]
    | 2, hj => simp [cell3] at hj; subst hj; simp [Addr.add]
  · intro u hu; simp [cell3] at hu; rcases hu with rfl | rfl | rfl <;> rfl
  · intro v' w' hown' hgrow _
    refine h v' w' ?_ ?_
    · have : (vs ++ [c]).length = vs.length + 1 := by simp
      unfold ownV; rw [this, show cells3 (vs ++ [c]) = cells3 vs ++ cell3 c from by simp [cells3]]; exact hown'
    · exact ((Below.refl _ _).alloc hB _).grown hgrow (by simp; omega) (fun k hk => (World.ownsRow.lt hown k hk).1)

theorem eqV (a b : Int × Int × ByteArray) (w : World) : (Op.equalIn 10000 59 (.agg #[.int .i64 a.1, .int .i64 a.2.1, .string a.2.2]) (.agg #[.int .i64 b.1, .int .i64 b.2.1, .string b.2.2])).run Tryz.prog w = .ok (a.1 == b.1 && a.2.1 == b.2.1 && a.2.2.toList == b.2.2.toList) w := by
  obtain ⟨a1, a2, a3⟩ := a
  obtain ⟨b1, b2, b3⟩ := b
  have u3 := Tryz.underlying57
  have u2 := Tryz.underlying2
  have u9 := Tryz.underlying9
  have hS : Tryz.prog.underlying 59 = some (.struct (Tryz.prog.fieldsOf 59)) := by kernel_rfl
  have hp : Tryz.prog.stoodInHeld 59 = false := by kernel_rfl
  rw [show (10000 : Nat) = 9999 + 1 from rfl, run_equalIn_agg w 9999 59 _ _ hS hp]
  simp only [Program.fieldsOf, Tryz.underlying59]
  go_simp
  by_cases h1 : a1 = b1 <;> by_cases h2 : a2 = b2 <;> by_cases h3 : a3.toList = b3.toList <;> simp [h1, h2, h3]
theorem eqV_self (a : Int × Int × ByteArray) (w : World) : (Op.equalIn 10000 59 (.agg #[.int .i64 a.1, .int .i64 a.2.1, .string a.2.2]) (.agg #[.int .i64 a.1, .int .i64 a.2.1, .string a.2.2])).run Tryz.prog w = .ok true w := by
  rw [eqV]; simp
theorem guardV : Tryz.prog.eqGuardType Tryz.prog.depth 59 = false := by kernel_rfl
def markV : Int × Int × ByteArray := (77, 77, ⟨#[109, 97, 114, 107]⟩)
end Go.Proofs.YtjcffcpmegpjeaaGreatDoor
