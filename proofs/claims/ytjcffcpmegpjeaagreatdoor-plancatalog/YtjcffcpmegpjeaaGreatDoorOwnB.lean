import Derived.Test.YtjcffcpmegpjeaaGreatDoorRows
import Derived.WalkKit
import Derived.ProofKit
import Derived.OpenShut
import Derived.ShutString
import Derived.WalkLawsBesides
import Derived.Outline
import Derived.WalkSpells
import Derived.BigRegion
import Derived.Laws.BytesArg
import Derived.Laws.BitsAllLaws
import Derived.Laws.OwnMore
namespace Go.Proofs.YtjcffcpmegpjeaaGreatDoor
open Go.ChangeShapes Go.WideShapes Go.ChangeAt Go.RowKit

theorem infoB : (Tryz.prog.info? 5).map (fun i => (i.zero, i.size, i.bytes)) = some (some (.int .u8 0), 1, 1) := by kernel_rfl

/-- The slice value v holds just the bytes xs, in a row of the call's own (blocks from B on). -/
def ownB (w : World) (B : Nat) (v : Value) (xs : List Int) : Prop := w.ownsRow B 5 1 v xs.length (xs.map (Value.int .u8))

theorem ownB_nil (w : World) (B : Nat) : ownB w B (.slice none 0 0) [] := World.ownsRow_nil _ _ _ _

theorem ownB.drew {w : World} {B : Nat} {v : Value} {xs : List Int} (h : ownB w B v xs) : ownB w.drew B v xs := World.ownsRow.drew h

theorem app_one {wr : World} {ops : Array Oper} {rest : List Oper} {o : Oper} {a : Act} {Q : Exit → Act → World → Prop} (hgd : o.guard = none) (s x : Operand)
    (ho : o.op = .call { callee := .builtin .append, args := #[s, x], argTypes := #[72, 72] })
    (B : Nat) (v : Value) (xs : List Int) (c : Int) (hown : ownB wr B v xs) (hs : a.eval s = v) (hx : a.eval x = .slice (some ⟨wr.heap.size, 0, none⟩) 1 1)
    (hlen : xs.length + 1 ≤ 140737488355328) (hB : B ≤ wr.heap.size)
    (h : ∀ v' w', ownB w' B v' (xs ++ [c]) → Below B wr w' → wpList Tryz.prog ops Q rest (a.put o.dst v') w') :
    wpList Tryz.prog ops Q (o :: rest) a (wr.alloc (.cells #[.int .u8 c] 5)) := by
  obtain ⟨i0, hi, hz0, hz1, hz2⟩ := info_parts infoB
  refine wpList_append_own _ hgd s x 72 ho B 5 i0 (.int .u8 0) 1 1 Tryz.underlying72 hi hz0 hz1 hz2 rfl (by decide) v xs.length _ hs (World.ownsRow.alloc hown _)
    ⟨wr.heap.size, 0, none⟩ 1 1 [.int .u8 c] hx rfl ?_ ?_ (by unfold maxLen; omega) (by omega) (by simp; omega) ?_
  · intro j u hj
    match j, hj with
    | 0, hj => simp at hj; subst hj; simp [Addr.add]
  · intro u hu; simp at hu; subst hu; rfl
  · intro v' w' hown' hgrow _
    refine h v' w' ?_ ?_
    · have : (xs ++ [c]).length = xs.length + 1 := by simp
      unfold ownB; rw [this, List.map_append]; exact hown'
    · exact ((Below.refl _ _).alloc hB _).grown hgrow (by simp; omega) (fun k hk => (World.ownsRow.lt hown k hk).1)

/-- string(b) -/
theorem ownB.conv {w : World} {B : Nat} {v : Value} {xs : List Int} (h : ownB w B v xs) :
    (convert 72 9 v).run Tryz.prog w = .ok (.string (strOfNums xs)) w := by
  rcases h.2 with ⟨rfl, hn⟩ | ⟨g, cap, cur, rfl, hb, hg, hnc, hm, hs, ht⟩
  · have : xs = [] := List.eq_nil_of_length_eq_zero hn
    subst this
    rw [run_convert_bytes_nil w 72 5 Tryz.underlying72 Tryz.underlying5 0 0 9 Tryz.underlying9]
    rfl
  · refine run_convert_bytes_arg w 72 5 Tryz.underlying72 Tryz.underlying5 g 0 xs.length cap xs rfl (fun i hi => ?_) 9 Tryz.underlying9
    have := World.ownsRow.cellAt (g := g) (cap := cap) h i (by omega)
    rw [Nat.zero_add, this]
    simp [List.getElem?_eq_getElem hi]

/-- The bytes of a number, seven bits each, by fuel. -/
def uvF : Nat → Int → List Int
  | 0, v => [v]
  | f + 1, v => if v < 128 then [v] else (v % 128 + 128) :: uvF f (v / 128)
def uvB (v : Int) : List Int := uvF 9 v
theorem uvF_small (f : Nat) (v : Int) (h : v < 128) : uvF f v = [v] := by cases f <;> simp [uvF, h]
theorem uvF_great (f : Nat) (v : Int) (h : 128 ≤ v) : uvF (f + 1) v = (v % 128 + 128) :: uvF f (v / 128) := by
  have : ¬ v < 128 := by omega
  simp [uvF, this]
theorem uvF_len : ∀ (f : Nat) (v : Int), (uvF f v).length ≤ f + 1 ∧ 1 ≤ (uvF f v).length
  | 0, v => by simp [uvF]
  | f + 1, v => by
    have := uvF_len f (v / 128)
    unfold uvF; split <;> simp <;> omega
theorem or128 (u : Int) : bits .or .u8 (u % 256) 128 = u % 128 + 128 := by
  rw [u8_or _ _ (by omega) (by omega) (by omega) (by omega)]
  have key : ∀ x : Fin 256, (x.val ||| 128) = x.val % 128 + 128 := by decide +kernel
  have := key ⟨(u % 256).toNat, by omega⟩
  simp only [show (128 : Int).toNat = 128 from rfl]
  rw [this]
  simp only []
  omega

set_option maxRecDepth 100000 in
set_option maxHeartbeats 800000 in
theorem layU (b : Value) (xs : List Int) (v : Int) (B : Nat) (w : World) (h0 : 0 ≤ v) (h1 : v ≤ 18446744073709551615) (hB : B ≤ w.heap.size) (hown : ownB w B b xs) (hx : xs.length ≤ 140737488351232) :
    Calls Tryz.prog 89 #[b, .int .u64 v] w fun e w' => ∃ b', e = .returned b' ∧ ownB w' B b' (xs ++ uvB v) ∧ Below B w w' := by
  go_enter Tryz.func89, Tryz.ntmps89
  go_wp2
  go_loopw [0, 1] (fun c u wr => ∃ (f : Nat) (y : Int) (done : List Int), f ≤ 9 ∧ 0 ≤ y ∧ y < 128 ^ (f + 1) ∧ u = .int .u64 y ∧ ownB wr B c (xs ++ done) ∧ done.length + f = 9 ∧ done ++ uvF f y = uvB v ∧ Below B w wr) (fun _ u _ => (intOf u).toNat)
  case atStart => exact ⟨9, v, [], by omega, h0, by omega, rfl, by simpa using hown, rfl, rfl, Below.refl _ _⟩
  case round =>
    obtain ⟨f, y, done, hf, hy0, hy1, rfl, hown1, hdl, hd, hbel⟩ := hrel
    have HD : Hid (done ++ uvF f y = uvB v) := hd
    have HB : Hid (Below B w wr) := hbel
    have hBr : B ≤ wr.heap.size := by have := hbel.size; omega
    have HO : Hid (ownB wr B _ (xs ++ done)) := hown1
    clear hd hbel hown1
    by_cases hlt : 128 ≤ y
    · obtain ⟨f', rfl⟩ : ∃ f', f = f' + 1 := by
        cases f with
        | zero => simp at hy1; omega
        | succ f' => exact ⟨f', rfl⟩
      have hor := or128 y
      have hy2 : y / 128 < 128 ^ (f' + 1) := by
        rw [Int.pow_succ] at hy1
        omega
      clear hy1
      have HY : Hid (y / 128 < 128 ^ (f' + 1)) := hy2
      clear hy2
      go_wp2_with (at_builtin; refine app_one (by rfl) _ _ (by rfl) B _ (xs ++ done) _ HO.out (by rfl) (by rfl) (by simp; omega) hBr ?_; intro v' w1 hown1 hbel1; have HO1 : Hid _ := hown1; have HB1 : Hid _ := hbel1; clear hown1 hbel1)
      go_roundw
      case rel => exact ⟨f', y / 128, done ++ [y % 128 + 128], by omega, by omega, HY.out, rfl, by rw [← List.append_assoc]; exact HO1.out, by simp; omega, by rw [List.append_assoc, List.singleton_append, ← uvF_great f' y hlt]; exact HD.out, HB.out.trans HB1.out⟩
      case measure => simp [intOf]; omega
    · have hm : y % 256 = y := by omega
      go_wp2_with (at_builtin; refine app_one (by rfl) _ _ (by rfl) B _ (xs ++ done) _ HO.out (by rfl) (by rfl) (by simp; omega) hBr ?_; intro v' w1 hown1 hbel1; have HO1 : Hid _ := hown1; have HB1 : Hid _ := hbel1; clear hown1 hbel1)
      go_ret
      refine ⟨_, rfl, ?_, HB.out.trans HB1.out⟩
      rw [← HD.out, uvF_small f y (by omega), ← List.append_assoc]
      exact HO1.out
end Go.Proofs.YtjcffcpmegpjeaaGreatDoor
